/- A backlog: News. No condition but that it lies in memory. -/
import Derived.Test.YtnkekjaljhpmjaaBkU
namespace Go.Proofs.Ytnkekjaljhpmjaa
open Go.RowKit
set_option linter.unusedVariables false
set_option linter.unusedSimpArgs false

/-- The first k are gone over. -/
def mixL (l : List Wt) (o : Int) (k : Nat) : List Wt := newsL (l.take k) o ++ l.drop k
theorem mix_len (l : List Wt) (o : Int) (k : Nat) : (mixL l o k).length = l.length := by simp [mixL, newsL]; omega
theorem mix_zero (l : List Wt) (o : Int) : mixL l o 0 = l := by simp [mixL, newsL]
theorem mix_all (l : List Wt) (o : Int) (k : Nat) (h : l.length ≤ k) : mixL l o k = newsL l o := by simp [mixL, List.take_of_length_le h, List.drop_eq_nil_of_le h]
theorem mix_at {l : List Wt} {o : Int} {k : Nat} {x : Wt} (h : (mixL l o k)[k]? = some x) : l[k]? = some x := by
  unfold mixL newsL at h
  by_cases hk : k ≤ l.length
  · rw [List.getElem?_append_right (by simp; omega)] at h
    simpa [Nat.min_eq_left hk] using h
  · rw [List.getElem?_eq_none (by simp; omega)] at h
    cases h
theorem mix_set {l : List Wt} {o : Int} {k : Nat} {x : Wt} (h : l[k]? = some x) : (mixL l o k).set k ⟨x.k, x.k != o⟩ = mixL l o (k + 1) := by
  obtain ⟨hk, he⟩ := List.getElem?_eq_some_iff.1 h
  unfold mixL newsL
  rw [List.set_append_right _ _ (by simp; omega), List.take_add_one, h, List.drop_eq_getElem_cons hk]
  simp [Nat.min_eq_left (Nat.le_of_lt hk), he]
set_option maxRecDepth 100000 in
set_option maxHeartbeats 1600000 in
theorem bnews_any {F : Nat → Prop} {w : World} {p : Nat} {l : List Wt} {o : Int} (h : BK F w p l o) (hl : l.length ≤ 1048576) : Calls Try.prog 16 #[.pointer (some ⟨p, 0, none⟩)] w fun e w' => (∃ v, e = .returned v) ∧ BK F w' p (newsL l o) o ∧ Keep F w w' := by
  obtain ⟨v, h⟩ := h
  have ha := ball_any h
  obtain ⟨A, c, rfl, hfm⟩ := h.own.form
  clear hfm
  go_enter Try.func16, Try.ntmps16
  go_wp2_with fail
  refine ha.mono ?_
  rintro e w' ⟨rfl, hww⟩
  subst w'
  go_wp2
  have hpA := h.ne
  obtain ⟨N, hN⟩ : ∃ N, l.length = N := ⟨_, rfl⟩
  rw [hN] at h hpA ⊢
  clear ha
  go_loopw [7] (fun i wr => ∃ k : Nat, i = .int .i64 (k : Int) ∧ k ≤ N ∧ BV F wr p (.slice A N c) (mixL l o k) o ∧ Keep F w wr) (fun i _ => N - (intOf i).toNat)
  case atStart => exact ⟨0, by go_num, by omega, by rw [mix_zero]; exact h, Keep.refl _ _⟩
  case round =>
    obtain ⟨k, rfl, hk, hB, hKp⟩ := hrel
    clear h
    by_cases hlt : k < N
    · have hlz : (k : Int) < (N : Int) := by omega
      have hk0 : (0 : Int) ≤ (k : Int) := by omega
      obtain ⟨g, x, rfl, hx, c0, c1⟩ := hB.own.place hlt
      have hxl := mix_at hx
      have hml : (mixL l o k).length = N := by rw [mix_len, hN]
      have hgp : ¬ g = p := fun e => hpA (by rw [← e]; rfl)
      have hpg : ¬ p = g := fun e => hgp e.symm
      have hB2 := hB.alloc (.cells #[.int .i64 x.k, .bool x.r] 60)
      have hn2 := Blk.new wr 60 #[.int .i64 x.k, .bool x.r]
      have hn3 := Blk.new wr 60 #[.int .i64 0, .bool false]
      have hgl := (hB.own.lt g rfl).2
      have hpl := hB.pc.lt
      have kF1 := hKp.alloc (.cells #[.int .i64 x.k, .bool x.r] 60)
      have hsz3 := (hKp.alloc (.cells #[.int .i64 x.k, .bool x.r] 60)).size
      go_wp2
      generalize hW3 : wr.alloc (.cells #[.int .i64 x.k, .bool x.r] 60) = W3 at *
      obtain ⟨B, hBq⟩ : ∃ B, wr.heap.size = B := ⟨_, rfl⟩
      rw [hBq] at hn2 hgl hpl ⊢
      have n0 := hn2.cell 0
      have hbl := hn2.lt
      simp at n0
      obtain ⟨q0, q1⟩ := hB2.fields
      have hgl3 := (hB2.own.lt g rfl).2
      have hpl3 := hB2.pc.lt
      have f3 := hB2.own.fz (g := g) rfl (k * 2 + 1)
      obtain ⟨g2, y, e2, hy, d0, d1⟩ := hB2.own.place hlt
      cases e2
      rw [hx] at hy
      cases hy
      have hx2 := hB2.own.put hml k 1 x ⟨x.k, x.k != o⟩ (.bool (x.k != o)) hx rfl (by omega)
      rw [mix_set hxl] at hx2
      have kg : Keep (fun k => k = g) W3 (W3.setCell ⟨g, k * 2 + 1, none⟩ (.bool (x.k != o))) := (Keep.refl (fun k => k = g) W3).setCell (p := ⟨g, k * 2 + 1, none⟩) (fun _ => rfl) _
      have hB4 : BV F (W3.setCell ⟨g, k * 2 + 1, none⟩ (.bool (x.k != o))).drew p (.slice (some ⟨g, 0, none⟩) N c) (mixL l o (k + 1)) o := BV.drew ⟨hB2.pc.kept kg (fun e => hpg e), hx2, hB2.ne, hB2.fp, hB2.fv⟩
      have kF4 : Keep F w (W3.setCell ⟨g, k * 2 + 1, none⟩ (.bool (x.k != o))).drew := (kF1.trans kg (fun b hb e => by rw [e]; exact hB2.fv g rfl)).drew
      clear hW3 hBq hn3 hB c0 c1 hx hx2 kg hB2 kF1 hn2 hKp d0 hxl
      go_region
      go_wp2
      go_roundw
      case measure => simp [intOf]; omega
      case rel => exact ⟨k + 1, by go_num, by omega, hB4, kF4⟩
    · have hlz : ¬ (k : Int) < (N : Int) := by omega
      have hkn : k = N := by omega
      rw [hkn, mix_all l o N (by omega)] at hB
      clear hkn
      go_wp2
      go_end0
      exact ⟨⟨_, rfl⟩, ⟨_, hB⟩, hKp⟩
end Go.Proofs.Ytnkekjaljhpmjaa
