/- The contract of the statements' own check (crc): it returns true and only makes memory. No condition. -/
import Derived.Test.YtianehamjjnhoaaOpen
import Derived.Lib.SlBytesConst
namespace Go.Proofs.Ytianehamjjnhoaa
open Go.RowKit
set_option linter.unusedVariables false
set_option linter.unusedSimpArgs false

theorem RB.made (w : World) (cs : Array Value) (t : TypeId) (fr : Nat × Nat) (l : List UInt8) (h : cs = (l.map bv).toArray) : RB (w.alloc (.cells cs t fr)) (some ⟨w.heap.size, 0, none⟩) l.length l := by
  subst h
  refine ⟨rfl, fun _ => ⟨_, _, rfl, fun j y hy => ?_⟩⟩
  rw [cell_of_row _ _ _ _ _ _ (heap_alloc_new w _)]
  simp [hy]
theorem RB.addr_lt {w : World} {A : Option Addr} {n : Nat} {l : List UInt8} (h : RB w A n l) {ad : Addr} (ha : A = some ad) (hn : 0 < n) : ad.block < w.heap.size := by
  obtain ⟨b, off, e, hb, _⟩ := h.addr hn
  rw [e] at ha
  cases ha
  exact hb
theorem TT.new {w : World} {g : Nat} (h : TB w g 0 0 (fun _ => 0)) : TT w g := .inl ⟨_, h⟩
theorem TT.of_tb {w : World} {g : Nat} {f : Nat → Nat} (h : TB w g 1 0 (upTo 256 f)) : TT w g := .inr ⟨_, h⟩
theorem TT.alloc {w : World} {g : Nat} (h : TT w g) (o : Obj) : TT (w.alloc o) g := h.kept ((Keep.refl (fun _ => False) w).alloc o) id

def abc : List UInt8 := [97, 98, 99]
def digits9 : List UInt8 := [49, 50, 51, 52, 53, 54, 55, 56, 57]
theorem lives_yes : opn 5 (frameOf 5 abc) = some abc := by decide +kernel
theorem lives_no : opn 6 (frameOf 5 abc) = none := by decide +kernel
theorem lives_sum : sumOn 0 digits9 = 3808858755 := by decide +kernel
theorem w64_5 : W64 5 := w64_lit (by decide)
theorem w64_6 : W64 6 := w64_lit (by decide)

set_option maxRecDepth 100000 in
set_option maxHeartbeats 1600000 in
theorem lives_any (w : World) : Calls Try.prog 12 #[] w fun e w' => e = .returned (.bool true) ∧ Below w.heap.size w w' := by
  have hcv := fun (w : World) (C : Array Value) (n c : Nat) => Lib.run_convert_bytes_const (P := Try.prog) w 23 5 C n c Try.underlying23 Try.underlying5
  go_enter Try.func12, Try.ntmps12
  go_wp2_with fail
  refine (new_any w).mono ?_
  rintro e w1 ⟨rfl, hk1, htb⟩
  have ht1 := TT.new htb
  have hg1 := ht1.lt
  clear htb
  have hf := RB.made w1 _ 5 (3, 4) abc rfl
  have ht2 := ht1.alloc (.cells (abc.map bv).toArray 5 (3, 4))
  have hk2 := hk1.alloc (.cells (abc.map bv).toArray 5 (3, 4))
  go_wp2_with fail
  --FRAME
  refine (frame_any w.heap.size 5 _ 3 3 abc _ w64_5 ht2 hf (by omega) (by omega) (by omega) (fun _ ad h => by cases h; exact fun h => by simp at h; omega)).mono ?_
  rintro e w3 ⟨v3, rfl, ho3, hk3, ht3⟩
  have hk13 : Keep (fun i => i = w.heap.size) w w3 := (hk2.mono fun _ _ h => h.elim).trans hk3 (fun _ _ h => h)
  obtain ⟨A3, c3, rfl, hl3, hm3, hr3, had3⟩ := ho3.form
  have hne3 : ∀ ad, A3 = some ad → ¬ ad.block = w.heap.size := fun ad h => by have := (had3 ad h).1; simp at this; omega
  have hc3 : c3 ≤ 9223372036854775807 := by unfold maxLen at hm3; exact hm3
  clear ho3 hf had3 hk3 hk2
  go_wp2_with fail
  --OPEN5
  refine (open_any w.heap.size 5 A3 _ c3 _ _ w64_5 ht3 hr3 hl3 hc3 fun _ => hne3).mono ?_
  rintro e w4 ⟨v4, m4, k4, rfl, hk4, ht4, hp4⟩
  rw [lives_yes] at hp4
  obtain ⟨ho4, rfl, rfl⟩ := hp4
  have hk14 := hk13.trans hk4 (fun _ _ h => h)
  have hr4 := hr3.kept hk4 hne3
  obtain ⟨A4, c4, rfl, hl4, hm4, hrb4, had4⟩ := ho4.formN (N := 3) rfl
  have hne4 : ∀ ad, A4 = some ad → ¬ ad.block = w.heap.size := fun ad h => by have := (had4 ad h).1; have := hk13.size; have := ht3.lt; omega
  clear ho4 had4 hr3 hk4
  go_wp2_with fail
  --OPEN6
  refine (open_any w.heap.size 6 A3 _ c3 _ _ w64_6 ht4 hr4 hl3 hc3 fun _ => hne3).mono ?_
  rintro e w5 ⟨v5, m5, k5, rfl, hk5, ht5, hp5⟩
  rw [lives_no] at hp5
  obtain ⟨rfl, rfl, rfl⟩ := hp5
  have hk15 := hk14.trans hk5 (fun _ _ h => h)
  have hrb5 := hrb4.kept hk5 hne4
  have hd9 := RB.made w5 _ 5 (9, 10) digits9 rfl
  have ht5a := ht5.alloc (.cells (digits9.map bv).toArray 5 (9, 10))
  have hk15a := hk15.alloc (.cells (digits9.map bv).toArray 5 (9, 10))
  have hrb5a := hrb5.alloc (.cells (digits9.map bv).toArray 5 (9, 10))
  have hg5 := ht5.lt
  go_wp2_with fail
  --SUM9
  refine (sum_any w.heap.size _ 9 9 digits9 _ ht5a hd9 (by omega) (fun _ ad h => by cases h; exact fun h => by simp at h; omega)).mono ?_
  rintro e w6 ⟨rfl, hk6, f6, ht6⟩
  rw [lives_sum]
  have hk16 := hk15a.trans hk6 (fun _ _ h => h)
  have hst := run_str w6 A4 3 c4 abc (hrb5a.kept hk6 hne4)
  go_wp2_with fail
  --STEPS
  refine (step_any 1 0 _ (by omega) (by omega)).mono ?_
  rintro e w7 ⟨rfl, rfl⟩
  go_wp2_with fail
  refine (refStep_any 1 0 _ (by omega) (by omega)).mono ?_
  rintro e w7 ⟨rfl, rfl⟩
  go_wp2_with fail
  --END
  go_ret
  exact ⟨rfl, hk16.below (Nat.le_refl _) (fun k hk h => by omega)⟩
end Go.Proofs.Ytianehamjjnhoaa
