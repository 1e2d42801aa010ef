/- May a row's numbers be: the document's 'right'. No condition. -/
import Derived.Test.YtfpcnenohidfpaaGreatStlJ
namespace Go.Proofs.YtfpcnenohidfpaaGreat
open Go.RowKit
set_option linter.unusedVariables false
set_option linter.unusedSimpArgs false

theorem refmay5_any (n : Int) (w : World) : Calls Tryz.prog 47 #[.int .i64 n] w fun e w' => e = .returned (.bool (cMay n)) ∧ Below w.heap.size w w' := by
  have hb := Below.refl w.heap.size w
  unfold cMay
  by_cases h0 : 0 ≤ n
  · have d0 : decide ((0 : Int) ≤ n) = true := decide_eq_true h0
    rw [d0, Bool.true_and]
    go_enter Tryz.func47, Tryz.ntmps47
    go_wp2
    go_ret
    exact ⟨rfl, hb⟩
  · have d0 : decide ((0 : Int) ≤ n) = false := decide_eq_false h0
    rw [d0, Bool.false_and]
    go_enter Tryz.func47, Tryz.ntmps47
    go_wp2
    go_ret
    exact ⟨rfl, hb⟩
theorem growS {w : World} {B : Nat} {g : List UInt8} {fr he pi sa re rt cn cm sh sc se : Int} (h : Blk w B 59 #[.string ⟨g.toArray⟩, .int .i64 fr, .int .i64 he, .int .i64 pi, .int .i64 sa, .int .i64 re, .int .i64 rt, .int .i64 cn, .int .i64 cm, .int .i64 sh, .int .i64 sc, .int .i64 se]) : w.cell? ⟨B, 0, none⟩ = some (.string ⟨g.toArray⟩) ∧ w.cell? ⟨B, 1, none⟩ = some (.int .i64 fr) ∧ w.cell? ⟨B, 2, none⟩ = some (.int .i64 he) ∧ w.cell? ⟨B, 3, none⟩ = some (.int .i64 pi) ∧ w.cell? ⟨B, 4, none⟩ = some (.int .i64 sa) ∧ w.cell? ⟨B, 5, none⟩ = some (.int .i64 re) ∧ w.cell? ⟨B, 6, none⟩ = some (.int .i64 rt) ∧ w.cell? ⟨B, 7, none⟩ = some (.int .i64 cn) ∧ w.cell? ⟨B, 8, none⟩ = some (.int .i64 cm) ∧ w.cell? ⟨B, 9, none⟩ = some (.int .i64 sh) ∧ w.cell? ⟨B, 10, none⟩ = some (.int .i64 sc) ∧ w.cell? ⟨B, 11, none⟩ = some (.int .i64 se) :=
  ⟨h.cell 0, h.cell 1, h.cell 2, h.cell 3, h.cell 4, h.cell 5, h.cell 6, h.cell 7, h.cell 8, h.cell 9, h.cell 10, h.cell 11⟩
set_option maxRecDepth 100000 in
set_option maxHeartbeats 3200000 in
theorem right_any (g : List UInt8) (fr he pi sa re rt cn cm sh sc se : Int) (w : World) : Calls Tryz.prog 22 #[.agg #[.string ⟨g.toArray⟩, .int .i64 fr, .int .i64 he, .int .i64 pi, .int .i64 sa, .int .i64 re, .int .i64 rt, .int .i64 cn, .int .i64 cm, .int .i64 sh, .int .i64 sc, .int .i64 se]] w fun e w' => e = .returned (.bool (!overR ⟨fr, he, pi, sa, re, rt, cn, cm, sh, sc, se⟩)) ∧ Below w.heap.size w w' := by
  have hE := each_any fr he pi sa re rt cn cm sh sc se
  have hov : (!overR ⟨fr, he, pi, sa, re, rt, cn, cm, sh, sc, se⟩) = ((levB fr he pi sa && flowB re rt cm sh sc se) && cMay (fr + he + pi + sa)) := by
    unfold overR overB sumB
    dsimp only
    cases levB fr he pi sa <;> cases flowB re rt cm sh sc se <;> cases cMay (fr + he + pi + sa) <;> rfl
  rw [hov]
  have hB := Blk.new w 59 #[.string ⟨g.toArray⟩, .int .i64 fr, .int .i64 he, .int .i64 pi, .int .i64 sa, .int .i64 re, .int .i64 rt, .int .i64 cn, .int .i64 cm, .int .i64 sh, .int .i64 sc, .int .i64 se]
  have hb0 := (Below.refl w.heap.size w).alloc (Nat.le_refl _) (.cells #[.string ⟨g.toArray⟩, .int .i64 fr, .int .i64 he, .int .i64 pi, .int .i64 sa, .int .i64 re, .int .i64 rt, .int .i64 cn, .int .i64 cm, .int .i64 sh, .int .i64 sc, .int .i64 se] 59)
  obtain ⟨c0, c1, c2, c3, c4, c5, c6, c7, c8, c9, c10, c11⟩ := growS hB
  have hlt := hB.lt
  cases hL : levB fr he pi sa && flowB re rt cm sh sc se with
  | false =>
    simp only [hL] at hE
    rw [Bool.false_and]
    clear hov
    go_enter Tryz.func22, Tryz.ntmps22
    go_wp2_with fail
    refine (hE _).mono ?_
    rintro e w1 ⟨rfl, hx1⟩
    go_wp2
    go_ret
    exact ⟨rfl, hb0.trans (hx1.mono hb0.size)⟩
  | true =>
    simp only [hL] at hE
    have hLv : levB fr he pi sa = true := (Bool.and_eq_true _ _ ▸ hL : _ ∧ _).1
    have hLv2 := hLv
    unfold levB at hLv2
    simp only [Bool.and_eq_true] at hLv2
    obtain ⟨m1, m2, m3, m4⟩ := hLv2
    have hsum := sum_lv fr he pi sa (cMay_yes m1) (cMay_yes m2) (cMay_yes m3) (cMay_yes m4)
    clear m1 m2 m3 m4
    rw [Bool.true_and]
    clear hov
    go_enter Tryz.func22, Tryz.ntmps22
    go_wp2_with fail
    refine (hE _).mono ?_
    rintro e w1 ⟨rfl, hx1⟩
    have hB1 := hB.kept (Keep.of_below hx1) (Nat.not_le.2 hlt)
    clear c0 c1 c2 c3 c4 c5 c6 c7 c8 c9 c10 c11
    obtain ⟨c0, c1, c2, c3, c4, c5, c6, c7, c8, c9, c10, c11⟩ := growS hB1
    have hb1 := hb0.trans (hx1.mono hb0.size)
    have hlt1 := hB1.lt
    go_wp2_with fail
    refine (hsum _).mono ?_
    rintro e w2 ⟨rfl, hx2⟩
    have hb2 := hb1.trans (hx2.mono hb1.size)
    go_wp2_with fail
    refine (refmay5_any (fr + he + pi + sa) _).mono ?_
    rintro e w3 ⟨rfl, hx3⟩
    go_wp2
    go_ret
    exact ⟨rfl, hb2.trans (hx3.mono hb2.size)⟩
end Go.Proofs.YtfpcnenohidfpaaGreat
