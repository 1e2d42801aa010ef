/- The contracts of calls on nil makers and takers. No condition. -/
import Derived.Test.YtdelbddgaekkaaaLaw
namespace Go.Proofs.Ytdelbddgaekkaaa
open Go.RowKit
set_option linter.unusedVariables false

theorem mdone_nil (w : World) : Calls Try.prog 25 #[.pointer none] w fun e w' => e = .returned (.tuple #[.slice none 0 0, .int .i64 6]) ∧ w = w' := by
  go_enter Try.func25, Try.ntmps25
  go_wp2
  go_ret2
  exact ⟨rfl, rfl⟩
theorem mnum_nil (n : Int) (w : World) (h0 : -9223372036854775808 ≤ n) (h1 : n ≤ 9223372036854775807) :
    Calls Try.prog 19 #[.pointer none, .int .i64 n] w fun e w' => e = .returned (.pointer none) ∧ Below w.heap.size w w' := by
  go_enter Try.func19, Try.ntmps19
  go_wp2_with fail
  refine (num_any n w h0 h1).mono ?_
  rintro e w1 ⟨v1, rfl, hg1⟩
  have hb1 := hg1.fresh
  obtain ⟨A1, cap1, rfl, _, _, _, _⟩ := hg1.own.form
  clear hg1
  go_wp2_with fail
  refine (mput_nil A1 _ cap1 ⟨#[]⟩ w1).mono ?_
  rintro e w2 ⟨rfl, rfl⟩
  go_wp2_with fail
  go_ret
  exact ⟨rfl, hb1⟩
theorem mtext_nil (s : ByteArray) (w : World) (hs : s.size ≤ 9223372036854775807) :
    Calls Try.prog 21 #[.pointer none, .string s] w fun e w' => e = .returned (.pointer none) ∧ Below w.heap.size w w' := by
  go_enter Try.func21, Try.ntmps21
  go_wp2_with fail
  refine (num_any _ w (by omega) (by omega)).mono ?_
  rintro e w1 ⟨v1, rfl, hg1⟩
  have hb1 := hg1.fresh
  obtain ⟨A1, cap1, rfl, _, _, _, _⟩ := hg1.own.form
  clear hg1
  go_wp2_with fail
  refine (mput_nil A1 _ cap1 s w1).mono ?_
  rintro e w2 ⟨rfl, rfl⟩
  go_wp2_with fail
  go_ret
  exact ⟨rfl, hb1⟩
theorem mflag_nil (w : World) : Calls Try.prog 23 #[.pointer none, .bool true] w fun e w' => e = .returned (.pointer none) ∧ Below w.heap.size w w' := by
  go_enter Try.func23, Try.ntmps23
  go_wp2_with fail
  refine (mnum_nil 1 w (by omega) (by omega)).mono ?_
  rintro e w1 ⟨rfl, hb1⟩
  go_wp2_with fail
  go_ret
  exact ⟨rfl, hb1⟩
theorem tnum_nil (a b : Int) (w : World) : Calls Try.prog 27 #[.pointer none, .int .i64 a, .int .i64 b] w fun e w' => e = .returned (.int .i64 0) ∧ w = w' := by
  go_enter Try.func27, Try.ntmps27
  go_wp2
  go_ret
  exact ⟨rfl, rfl⟩
theorem ttext_nil (a : Int) (w : World) : Calls Try.prog 29 #[.pointer none, .int .i64 a] w fun e w' => e = .returned (.string ⟨#[]⟩) ∧ w = w' := by
  go_enter Try.func29, Try.ntmps29
  go_wp2
  go_ret
  exact ⟨rfl, rfl⟩
theorem tflag_nil (w : World) : Calls Try.prog 31 #[.pointer none] w fun e w' => e = .returned (.bool false) ∧ w = w' := by
  go_enter Try.func31, Try.ntmps31
  go_wp2_with fail
  refine (tnum_nil 0 1 w).mono ?_
  rintro e w1 ⟨rfl, rfl⟩
  go_wp2
  go_ret
  exact ⟨rfl, rfl⟩
theorem tleft_nil (w : World) : Calls Try.prog 33 #[.pointer none] w fun e w' => e = .returned (.int .i64 0) ∧ w = w' := by
  go_enter Try.func33, Try.ntmps33
  go_wp2
  go_ret
  exact ⟨rfl, rfl⟩
theorem tdone_nil (w : World) : Calls Try.prog 35 #[.pointer none] w fun e w' => e = .returned (.int .i64 6) ∧ w = w' := by
  go_enter Try.func35, Try.ntmps35
  go_wp2
  go_ret
  exact ⟨rfl, rfl⟩

set_option maxRecDepth 100000 in
set_option maxHeartbeats 1600000 in
theorem cellsNobody_walk {w : World} (k n : Int) (s : ByteArray) (le mo : Int) (h0 : -9223372036854775808 ≤ n) (h1 : n ≤ 9223372036854775807) (hs : s.size ≤ 9223372036854775807) :
    Calls Try.prog 9 #[.agg #[.int .i64 k, .int .i64 n, .string s, .int .i64 le, .int .i64 mo]] w fun e w' => e = .returned (.bool true) ∧ Below w.heap.size w w' := by
  go_enter Try.func9, Try.ntmps9
  have hB : Blk (w.alloc (.cells #[.int .i64 k, .int .i64 n, .string s, .int .i64 le, .int .i64 mo] 40)) w.heap.size 40 #[.int .i64 k, .int .i64 n, .string s, .int .i64 le, .int .i64 mo] := Blk.new _ _ _
  have hw0 := (Below.refl w.heap.size w).alloc (Nat.le_refl _) (.cells #[.int .i64 k, .int .i64 n, .string s, .int .i64 le, .int .i64 mo] 40)
  have hz0 := hw0.size
  go_wp2_with fail
  refine (mdone_nil _).mono ?_
  rintro e w1 ⟨rfl, rfl⟩
  go_wp2_with fail
  refine (lives_any _).mono ?_
  rintro e w2 ⟨rfl, hb2⟩
  have hB2 := hB.kept (Keep.of_below hb2) (by have := hB.lt; omega)
  have hw2 := hw0.trans (hb2.mono hz0)
  have hz2 := hw2.size
  have c1 := hB2.cell 1
  simp at c1
  clear hb2 hB hw0
  go_wp2_with fail
  refine (mnum_nil n w2 h0 h1).mono ?_
  rintro e w3 ⟨rfl, hb3⟩
  have hB3 := hB2.kept (Keep.of_below hb3) (by have := hB2.lt; omega)
  have hw3 := hw2.trans (hb3.mono hz2)
  have hz3 := hw3.size
  have c2 := hB3.cell 2
  simp at c2
  clear hb3 hB2 hw2 c1
  go_wp2_with fail
  refine (mtext_nil s w3 (by omega)).mono ?_
  rintro e w4 ⟨rfl, hb4⟩
  have hB4 := hB3.kept (Keep.of_below hb4) (by have := hB3.lt; omega)
  have hw4 := hw3.trans (hb4.mono hz3)
  have hz4 := hw4.size
  clear hb4 hB3 hw3 c2
  go_wp2_with fail
  refine (mflag_nil w4).mono ?_
  rintro e w5 ⟨rfl, hb5⟩
  have hB5 := hB4.kept (Keep.of_below hb5) (by have := hB4.lt; omega)
  have hw5 := hw4.trans (hb5.mono hz4)
  have c3 := hB5.cell 3
  have c4 := hB5.cell 4
  simp at c3 c4
  clear hb5 hB4 hw4
  go_wp2_with fail
  refine (tnum_nil le mo w5).mono ?_
  rintro e w6 ⟨rfl, rfl⟩
  go_wp2_with fail
  refine (ttext_nil mo w5).mono ?_
  rintro e w6 ⟨rfl, rfl⟩
  go_wp2_with fail
  refine (tflag_nil w5).mono ?_
  rintro e w6 ⟨rfl, rfl⟩
  go_wp2_with fail
  refine (tleft_nil w5).mono ?_
  rintro e w6 ⟨rfl, rfl⟩
  go_wp2_with fail
  refine (tdone_nil w5).mono ?_
  rintro e w6 ⟨rfl, rfl⟩
  go_wp2
  go_ret
  exact ⟨rfl, hw5⟩
end Go.Proofs.Ytdelbddgaekkaaa
