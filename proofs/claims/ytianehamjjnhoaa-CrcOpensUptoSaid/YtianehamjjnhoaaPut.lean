/- putHigh and the document's high: a number as bytes, the highest first. No condition. -/
import Derived.Test.YtianehamjjnhoaaHigh
namespace Go.Proofs.Ytianehamjjnhoaa
open Go.RowKit
set_option linter.unusedVariables false

/-- The first k of the s bytes of u, the highest first. -/
def hb (u s k : Nat) : List UInt8 := (List.range k).map fun j => UInt8.ofNat (u / 256 ^ (s - 1 - j))
theorem hb_len (u s k : Nat) : (hb u s k).length = k := by simp [hb]
theorem hb_zero (u s : Nat) : hb u s 0 = [] := rfl
theorem hb_succ (u s k : Nat) : hb u s (k + 1) = hb u s k ++ [UInt8.ofNat (u / 256 ^ (s - 1 - k))] := by simp [hb, List.range_succ]
theorem hbyte_of (u j : Nat) : (u : Int) / 2 ^ (8 * j) % 256 = ((UInt8.ofNat (u / 256 ^ j)).toNat : Int) := by
  have e : (256 : Nat) ^ j = 2 ^ (8 * j) := by rw [Nat.pow_mul]
  rw [e]
  simp
theorem Grew.past_alloc {base : Nat} {w w1 : World} {v v1 : Value} {l l1 : List UInt8} {o : Obj} (hown : OB base w v l) (h : Grew base (w.alloc o) v w1 v1 l1) : Grew base w v w1 v1 l1 :=
  ((Grew.start hown).alloc o).trans h

set_option maxRecDepth 100000 in
set_option maxHeartbeats 800000 in
theorem putHigh_any (base : Nat) (v : Value) (l : List UInt8) (u s : Nat) (w : World) (hown : OB base w v l) (hbs : base ≤ w.heap.size) (hl : l.length ≤ 70368744177664) (hu : u < 18446744073709551616) (hs : s ≤ 8) :
    Calls Try.prog 27 #[v, .int .u64 (u : Int), .int .i64 (s : Int)] w fun e w' => ∃ v', e = .returned v' ∧ Grew base w v w' v' (l ++ hb u s s) := by
  go_enter Try.func27, Try.ntmps27
  go_wp2_with fail
  go_loopw [0, 7] (fun vr i wr => ∃ k : Nat, k ≤ s ∧ i = .int .i64 ((s : Int) - 1 - k) ∧ Grew base w v wr vr (l ++ hb u s k))
    (fun _ i _ => (intOf i + 1).toNat)
  case atStart => exact ⟨0, Nat.zero_le _, by simp, by simpa [hb_zero] using Grew.start hown⟩
  case round =>
    obtain ⟨k, hk, rfl, hgr⟩ := hrel
    by_cases hlt : k < s
    · have ho := hgr.own
      have hsz := hgr.keep.size
      have hpl : (l ++ hb u s k).length ≤ 70368744177664 + 8 := by rw [List.length_append, hb_len]; omega
      go_wp2_with (at_builtin; refine wpApp rfl (.tmp 14) (.tmp 20) rfl base u0 _ rfl (ho.alloc _) _ 1 1 [UInt8.ofNat (u / 256 ^ (s - 1 - k))] rfl (RB.one_ _ _ _ (hbyte_of u _) _) (by omega) (by simp; omega) ?_; intro v2 w2 hg2)
      go_roundw
      case rel => exact ⟨k + 1, by omega, by go_num, by rw [hb_succ, ← List.append_assoc]; exact hgr.trans (hg2.past_alloc ho)⟩
      case measure => simp [intOf]; omega
    · obtain rfl : k = s := by omega
      go_wp2_with fail
      go_ret
      exact ⟨_, rfl, hgr⟩

set_option maxRecDepth 100000 in
set_option maxHeartbeats 800000 in
theorem refHigh_any (u s : Nat) (w : World) (hu : u < 18446744073709551616) (hs : s ≤ 8) :
    Calls Try.prog 28 #[.int .u64 (u : Int), .int .i64 (s : Int)] w fun e w' => ∃ v', e = .returned v' ∧ Grew w.heap.size w (.slice none 0 0) w' v' (hb u s s) := by
  go_enter Try.func28, Try.ntmps28
  go_wp2_with fail
  go_loopw [5, 6] (fun vr i wr => ∃ k : Nat, k ≤ s ∧ i = .int .i64 ((s : Int) - 1 - k) ∧ Grew w.heap.size w (.slice none 0 0) wr vr (hb u s k))
    (fun _ i _ => (intOf i + 1).toNat)
  case atStart => exact ⟨0, Nat.zero_le _, by simp, by simpa [hb_zero] using Grew.start (OB.nil w.heap.size w)⟩
  case round =>
    obtain ⟨k, hk, rfl, hgr⟩ := hrel
    by_cases hlt : k < s
    · have ho := hgr.own
      have hsz := hgr.keep.size
      have hpl : (hb u s k).length ≤ 70368744177664 + 8 := by rw [hb_len]; omega
      go_wp2_with (at_builtin; refine wpApp rfl (.tmp 13) (.tmp 19) rfl w.heap.size u5 _ rfl (ho.alloc _) _ 1 1 [UInt8.ofNat (u / 256 ^ (s - 1 - k))] rfl (RB.one_ _ _ _ (hbyte_of u _) _) (by omega) (by simp; omega) ?_; intro v2 w2 hg2)
      go_roundw
      case rel => exact ⟨k + 1, by omega, by go_num, by rw [hb_succ]; exact hgr.trans (hg2.past_alloc ho)⟩
      case measure => simp [intOf]; omega
    · obtain rfl : k = s := by omega
      go_wp2_with fail
      go_ret
      exact ⟨_, rfl, hgr⟩
end Go.Proofs.Ytianehamjjnhoaa
