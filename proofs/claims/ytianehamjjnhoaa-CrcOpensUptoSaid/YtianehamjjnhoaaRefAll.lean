/- The document's All. No condition. -/
import Derived.Test.YtianehamjjnhoaaRefOpen
namespace Go.Proofs.Ytianehamjjnhoaa
open Go.RowKit
set_option linter.unusedVariables false
set_option linter.unusedSimpArgs false

def RefAllPost (sl : Nat) (l : List UInt8) (w : World) (e : Ending) (w' : World) : Prop :=
  ∃ v : Value, e = .returned (.tuple #[v, .int .u64 ((allOf sl l).2.1 : Int), .int .i64 ((allOf sl l).2.2 : Int)]) ∧ LB w.heap.size w' v (allOf sl l).1 ∧ Keep (fun _ => False) w w'

set_option maxRecDepth 100000 in
set_option maxHeartbeats 3200000 in
theorem refAll_any (sl : Nat) (A : Option Addr) (n c : Nat) (l : List UInt8) (w : World) (hs : W64 sl) (hr : RB w A n l) (hnc : n ≤ c) (hn : n ≤ 1099511627776) (hc : c ≤ 9223372036854775807) :
    Calls Try.prog 23 #[.int .u64 (sl : Int), .slice A n c] w (RefAllPost sl l w) := by
  have HL := Lib.hid hr.1
  go_enter Try.func23, Try.ntmps23
  go_wp2_with fail
  --LOOP
  go_loopw [0, 7, 8] (fun sv lv uv wr => ∃ k s2 u : Nat, ∃ ls : List (List UInt8), Hid (Far sl l k ls s2 u) ∧ k ≤ 1099511627776 ∧ u ≤ n ∧ W64 s2 ∧ sv = .int .u64 (s2 : Int) ∧ uv = .int .i64 (u : Int) ∧ LB w.heap.size wr lv ls ∧ Keep (fun _ => False) w wr)
    (fun _ _ uv _ => n + 1 - (intOf uv).toNat)
  case atStart => exact ⟨0, sl, 0, [], Lib.hid (Far.start l hs), by omega, by omega, hs, rfl, rfl, LB.nil _ _, Keep.refl _ _⟩
  case round =>
    obtain ⟨k, s2, u, ls, HF, hk, hu, hs2, rfl, rfl, hL, hK⟩ := hrel
    have hx := fun W : World => run_from W A n c (u : Int) (by omega) (by omega)
    simp only [Int.toNat_natCast] at hx
    have hru := (hr.kept hK fun _ _ => id).sub u hu hnc
    have hop := refOpen_any s2 (subA A c u) (n - u) (c - u) (l.drop u) wr hs2 hru (by omega) (by omega)
    go_wp2_with fail
    --OPEN
    refine hop.mono ?_
    rintro e w3 ⟨v3, m3, k3, rfl, hk3, hp3⟩
    clear hop hx
    have hK3 := hK.trans hk3 (fun _ _ h => h)
    have hL3 := hL.kept hk3 (fun i hi hl h => h)
    cases ho : opn s2 (l.drop u) with
    | none =>
      rw [ho] at hp3
      obtain ⟨rfl, rfl, rfl⟩ := hp3
      have HD : Hid (allOf sl l = (ls, s2, u)) := Lib.hid (HF.out.done ho)
      clear ho
      go_wp2_with fail
      --NONE
      go_ret3
      exact ⟨u7, by rw [HD.out]; rfl, by rw [HD.out]; exact hL3, hK3⟩
    | some b =>
      rw [ho] at hp3
      obtain ⟨ho3, rfl, rfl⟩ := hp3
      have HM : Hid (Far sl l (k + 1) (ls ++ [b]) (mixOf s2 b) (u + (16 + b.length))) := Lib.hid (HF.out.more ho)
      have hbl : u + (16 + b.length) ≤ n := by have := HM.out.2.2.1; have := HL.out; omega
      have hkk : k + 1 ≤ n := by have := HM.out.2.1; omega
      have hlk : ls.length = k := HF.out.1
      clear ho
      have hlt : ls.length < 1099511627776 := by omega
      obtain ⟨A3, c3, rfl, hl3, hm3, hr3, had3⟩ := ho3.formN (N := b.length) rfl
      have HB := Lib.hid hlk
      clear hlk
      have ho3' := ho3.mono (base' := w.heap.size) hK.size
      have hoc := ho3'.one_cell
      go_wp2_with (at_builtin; refine wpAppOne rfl (.tmp 26) (.tmp 28) rfl w.heap.size u7 (.slice A3 b.length c3) b ls rfl (hL3.alloc_ _) ⟨w3.heap.size, 0, none⟩ rfl (by go_simp) (ho3'.alloc _) hoc hlt (by simp; have := hK3.size; omega) ?_; intro v4 w4 hL4 hk4)
      --MORE
      have hK4 := (hK3.alloc (.cells #[.slice A3 b.length c3] 23)).trans hk4 (fun i hi h => by have := (hL3.lt i h).1; omega)
      have hs4 := HM.out.2.2.2.1
      go_roundw
      case rel => exact ⟨k + 1, mixOf s2 b, u + (16 + b.length), ls ++ [b], HM, by omega, hbl, hs4, rfl, by go_num, hL4, hK4⟩
      case measure => simp [intOf]; omega
end Go.Proofs.Ytianehamjjnhoaa
