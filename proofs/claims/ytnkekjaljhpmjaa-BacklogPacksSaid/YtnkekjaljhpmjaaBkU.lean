/- A backlog: Try and News. No condition but that it lies in memory. -/
import Derived.Test.YtnkekjaljhpmjaaBkT
namespace Go.Proofs.Ytnkekjaljhpmjaa
open Go.RowKit
set_option linter.unusedVariables false
set_option linter.unusedSimpArgs false

/-- What Try answers. -/
def TryPost (F : Nat → Prop) (w : World) (p : Nat) (r : Int × Bool × List Wt × Int) (e : Ending) (w' : World) : Prop :=
  e = .returned (.tuple #[.int .i64 r.1, .bool r.2.1]) ∧ BK F w' p r.2.2.1 r.2.2.2 ∧ Keep F w w'
set_option maxRecDepth 100000 in
set_option maxHeartbeats 1600000 in
theorem btry_any {F : Nat → Prop} {w : World} {p : Nat} {l : List Wt} {o : Int} (h : BK F w p l o) (hl : l.length ≤ 1048576) : Calls Try.prog 18 #[.pointer (some ⟨p, 0, none⟩)] w (TryPost F w p (tryP l o)) := by
  have ho := bout_any h
  by_cases hk : 0 < o
  · rw [try_out hk]
    go_enter Try.func18, Try.ntmps18
    go_wp2_with fail
    refine ho.mono ?_
    rintro e w' ⟨rfl, hww⟩
    subst w'
    go_wp2
    refine bodyPost_ret (v := .tuple #[.int .i64 0, .bool false]) (by simp [results, Try.results18, go_sem]) rfl ⟨rfl, h, Keep.refl _ _⟩
  · obtain ⟨v, h⟩ := h
    have ha := ball_any h
    obtain ⟨A, c, rfl, hfm⟩ := h.own.form
    have hi := indexT_any A l.length c l w h.own.wr (by omega)
    have hkd : decide (0 < o) = false := decide_eq_false hk
    rcases idx_cases isR l with ⟨hn, _⟩ | ⟨i, x, hix, hx, hr, hil, hfi⟩
    · rw [hn] at hi
      rw [try_none (show readyW l = -1 from hn)]
      clear hn hk
      go_enter Try.func18, Try.ntmps18
      go_wp2_with fail
      refine ho.mono ?_
      rintro e w' ⟨rfl, hww⟩
      subst w'
      go_wp2_with fail
      refine ha.mono ?_
      rintro e w' ⟨rfl, hww⟩
      subst w'
      go_wp2_with fail
      refine hi.mono ?_
      rintro e w' ⟨rfl, hb⟩
      have h2 := h.below hb
      go_wp2
      refine bodyPost_ret (v := .tuple #[.int .i64 0, .bool false]) (by simp [results, Try.results18, go_sem]) rfl ⟨rfl, ⟨_, h2⟩, (Keep.of_below hb).mono fun k h1 h2 => by omega⟩
    · rw [hix] at hi
      rw [try_at hk (show l.findIdx (fun x => x.r) = i from hfi) hx]
      obtain ⟨k, r⟩ := x
      clear hix hfi hr hk
      have hiz : (0 : Int) ≤ (i : Int) := by omega
      have hin : ¬ (i : Int) < 0 := by omega
      have hil2 : (i : Int) < (l.length : Int) := by omega
      obtain ⟨N, hN⟩ : ∃ N, l.length = N := ⟨_, rfl⟩
      rw [hN] at hi hil hil2 h ha
      go_enter Try.func18, Try.ntmps18
      go_wp2_with fail
      refine ho.mono ?_
      rintro e w' ⟨rfl, hww⟩
      subst w'
      go_wp2_with fail
      refine ha.mono ?_
      rintro e w' ⟨rfl, hww⟩
      subst w'
      go_wp2_with fail
      refine hi.mono ?_
      rintro e w' ⟨rfl, hb⟩
      have h2 := h.below hb
      have kb : Keep F w w' := (Keep.of_below hb).mono fun k h1 h2 => by omega
      obtain ⟨g, y, rfl, hy, c0, c1⟩ := h2.own.place hil
      rw [hx] at hy
      cases hy
      dsimp only at c0 c1
      have hgl : g < w'.heap.size := (h2.own.lt g rfl).2
      have f1 := h2.own.fz (g := g) rfl (i * 2 + 1)
      obtain ⟨q0, q1⟩ := h2.fields
      have hpl := h2.pc.lt
      have fp := h2.pc.frozen 1
      have hne := h2.ne
      have hgp : ¬ g = p := fun e => hne (by rw [← e]; rfl)
      have hpg : ¬ p = g := fun e => hgp e.symm
      have kg : Keep (fun k => k = g) w' (w'.setCell ⟨g, i * 2 + 1, none⟩ (.bool false)) := (Keep.refl (fun k => k = g) w').setCell (p := ⟨g, i * 2 + 1, none⟩) (fun _ => rfl) _
      have hO3 := h2.own.put hN i 1 ⟨k, r⟩ ⟨k, false⟩ (.bool false) hx rfl (by omega)
      have pc3 := h2.pc.kept kg (fun e => hpg e)
      have pc4 := pc3.set_ 1 (.int .i64 k)
      simp at pc4
      have kp : Keep (fun k => k = p) (w'.setCell ⟨g, i * 2 + 1, none⟩ (.bool false)) ((w'.setCell ⟨g, i * 2 + 1, none⟩ (.bool false)).setCell ⟨p, 1, none⟩ (.int .i64 k)) := (Keep.refl (fun k => k = p) _).setCell (p := ⟨p, 1, none⟩) (fun _ => rfl) _
      have h4 : BV F ((w'.setCell ⟨g, i * 2 + 1, none⟩ (.bool false)).setCell ⟨p, 1, none⟩ (.int .i64 k)) p (.slice (some ⟨g, 0, none⟩) N c) (l.set i ⟨k, false⟩) k := ⟨pc4, hO3.kept kp (fun b hb e => hne (by rw [hb, e])), hne, h2.fp, h2.fv⟩
      have kF : Keep F w ((w'.setCell ⟨g, i * 2 + 1, none⟩ (.bool false)).setCell ⟨p, 1, none⟩ (.int .i64 k)) := (kb.trans kg (fun b hb e => by rw [e]; exact h2.fv g rfl)).trans kp (fun b hb e => by rw [e]; exact h2.fp)
      have hpost : TryPost F w p (k, true, l.set i ⟨k, false⟩, k) (.returned (.tuple #[.int .i64 k, .bool true])) ((w'.setCell ⟨g, i * 2 + 1, none⟩ (.bool false)).setCell ⟨p, 1, none⟩ (.int .i64 k)) := ⟨rfl, ⟨_, h4⟩, kF⟩
      clear hi ho ha h hb kg hO3 pc3 pc4 kp h4 kF hx
      go_wp2
      exact bodyPost_ret (v := .tuple #[.int .i64 k, .bool true]) (by simp [results, Try.results18, go_sem]) rfl hpost
end Go.Proofs.Ytnkekjaljhpmjaa
