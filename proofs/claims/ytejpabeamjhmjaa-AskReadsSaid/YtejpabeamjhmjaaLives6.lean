/- lives of the statements on lists; what the sums of a list are, in order. No condition. -/
import Derived.Test.YtejpabeamjhmjaaTwo
namespace Go.Proofs.Ytejpabeamjhmjaa
open Go.RowKit Go.Maps Go.Shelf Go.Sort
set_option linter.unusedVariables false
set_option linter.unusedSimpArgs false

theorem put_form (D : DataW Unit) (g : List UInt8) (d : DataW Unit) (h : ∃ es : List (Lit × DataW Unit), D = .map es ∧ es.Pairwise (fun p q => p.1 ≠ q.1) ∧ ∀ p ∈ es, ∃ x, p.1 = .string x) :
    ∃ es : List (Lit × DataW Unit), D.put (.string g) d = .map es ∧ es.Pairwise (fun p q => p.1 ≠ q.1) ∧ ∀ p ∈ es, ∃ x, p.1 = .string x := by
  obtain ⟨es, rfl, h1, h2⟩ := h
  obtain ⟨es', he, hp⟩ := Tidy.put ⟨es, rfl, h1⟩ (str_lit g) d
  refine ⟨es', he, hp, fun p hp => ?_⟩
  injection he with he
  rw [← he] at hp
  rcases ChangeMaps.mem_insert_iff.1 hp with rfl | hp
  · exact ⟨g, rfl⟩
  · exact h2 p (List.mem_filter.1 hp).1
theorem sumsN_form (l : List It) : ∃ es : List (Lit × DataW Unit), sumsN l = .map es ∧ es.Pairwise (fun p q => p.1 ≠ q.1) ∧ ∀ p ∈ es, ∃ x, p.1 = .string x := by
  induction l using snoc_ind with
  | h0 => exact ⟨[], rfl, List.Pairwise.nil, fun p h => by simp at h⟩
  | h1 l x ih =>
    rw [sumsN_snoc]
    exact put_form _ _ _ ih
/-- The sums are those of the goods, however they are put in order. -/
theorem rowsN_eq (l : List It) (ks : List (List UInt8)) (hp : ks.Pairwise (fun a b => a < b)) (hm : ∀ g, g ∈ ks ↔ g ∈ l.map (·.1)) : rowsN l = listedL ks (tot l) := by
  unfold rowsN
  have h := sumsN_sm l
  have h' : SM (sumsN l) (tot l) ks := ⟨h.isMap, h.val, fun g => by rw [h.has_ g]; simp only [hm]⟩
  rw [keys_sorted h' hp (sumsN_form l)]

def lv1 : List It := [([97], 3), ([98], 2)]
def lv2 : List It := [([97], 1), ([99], 5)]
theorem lv_may1 : mayL lv1 = true := by decide
theorem lv_may2 : mayL lv2 = true := by decide
theorem lv_meet : meetL lv1 lv2 = [([97], 1)] := by decide +kernel
theorem lv_rest : restL lv1 lv2 = [([97], 2), ([98], 2)] := by decide +kernel
theorem lv_rows : rowsN (lv1 ++ lv2) = [([97], 4), ([98], 2), ([99], 5)] := by
  rw [rowsN_eq (lv1 ++ lv2) [[97], [98], [99]] (by decide) (fun g => by simp [lv1, lv2]; grind)]
  decide
theorem lv_plusE : plusE lv1 lv2 = 0 := by
  unfold plusE normE
  rw [lv_may1, lv_may2, lv_rows]
  decide
theorem lv_plusR : plusR lv1 lv2 = [([97], 4), ([98], 2), ([99], 5)] := by
  have h : normE (lv1 ++ lv2) = 0 := by have := lv_plusE; unfold plusE at this; rw [lv_may1, lv_may2] at this; exact this
  unfold plusR normR
  rw [lv_may1, lv_may2, h, lv_rows]
  rfl
theorem lv_minusE : minusE lv1 lv2 = 51 := by decide +kernel
theorem lv_covers : coversL lv1 [([97], 1)] = true := by decide +kernel
theorem lv_of : ofL lv1 [98] = 2 := by decide +kernel
theorem lv_wl1 : WL lv1 := fun x hx => by simp [lv1] at hx; rcases hx with rfl | rfl <;> exact ⟨by simp [maxLen], by decide⟩
theorem lv_wl2 : WL lv2 := fun x hx => by simp [lv2] at hx; rcases hx with rfl | rfl <;> exact ⟨by simp [maxLen], by decide⟩
theorem lv_wl3 : WL [([97], 1)] := fun x hx => by simp at hx; subst hx; exact ⟨by simp [maxLen], by decide⟩
theorem IL.two (w : World) (s1 s2 : List UInt8) (q1 q2 : Int) (t : TypeId) : IL (w.alloc (.cells #[.string ⟨s1.toArray⟩, .int .i64 q1, .string ⟨s2.toArray⟩, .int .i64 q2] t)) (some ⟨w.heap.size, 0, none⟩) 2 [(s1, q1), (s2, q2)] := by
  have hB := Blk.new w t #[.string ⟨s1.toArray⟩, .int .i64 q1, .string ⟨s2.toArray⟩, .int .i64 q2]
  refine ⟨rfl, fun j x hx => ?_⟩
  match j, hx with
  | 0, hx =>
    simp at hx
    subst hx
    exact ⟨_, 0, rfl, hB.cell 0, hB.cell 1⟩
  | 1, hx =>
    simp at hx
    subst hx
    exact ⟨_, 0, rfl, hB.cell 2, hB.cell 3⟩
theorem IL.N0 {w : World} {A : Option Addr} {n : Nat} {x : It} {l : List It} (h : IL w A n (x :: l)) : ∃ b off, A = some ⟨b, off, none⟩ ∧ w.cell? ⟨b, off + 1, none⟩ = some (.int .i64 x.2) := by
  obtain ⟨b, off, e, _, h2⟩ := h.at_ 0 x rfl
  exact ⟨b, off, e, by simpa using h2⟩
theorem func_eq6 (d : Nat) (fn : Fn) (first cap : Array Value) (W : World) : (Op.equalIn (d + 1) 72 (.func fn first cap) .nilFunc).run Try.prog W = .ok false W := by
  simp [Op.equalIn, run_underlying Try.underlying72]
theorem func_ne_nil6 (fn : Fn) (first cap : Array Value) (W : World) : (binOp .neq 72 (.func fn first cap) .nilFunc).run Try.prog W = .ok (.bool true) W := by
  have h := func_eq6 9999 fn first cap W
  simp only [binOp]
  simp [Op.equal, Op.maxDepth, h]
theorem func_eq_nil6 (fn : Fn) (first cap : Array Value) (W : World) : (binOp .eql 72 (.func fn first cap) .nilFunc).run Try.prog W = .ok (.bool false) W := by
  have h := func_eq6 9999 fn first cap W
  simp only [binOp]
  simp [Op.equal, Op.maxDepth, h]

set_option maxRecDepth 100000 in
set_option maxHeartbeats 3200000 in
theorem lives_any (w : World) : Calls Try.prog 13 #[] w fun e w' => e = .returned (.bool true) ∧ Below w.heap.size w w' := by
  have i1 := (IL.two w [97] [98] 3 2 28).alloc (.cells #[.string ⟨#[97]⟩, .int .i64 1, .string ⟨#[99]⟩, .int .i64 5] 28)
  have i2 := IL.two (w.alloc (.cells #[.string ⟨#[97]⟩, .int .i64 3, .string ⟨#[98]⟩, .int .i64 2] 28)) [97] [99] 1 5 28
  have hb0 := ((Below.refl w.heap.size w).alloc (Nat.le_refl _) (.cells #[.string ⟨#[97]⟩, .int .i64 3, .string ⟨#[98]⟩, .int .i64 2] 28)).alloc (by simp) (.cells #[.string ⟨#[97]⟩, .int .i64 1, .string ⟨#[99]⟩, .int .i64 5] 28)
  rw [World.size_alloc] at i2
  go_enter Try.func13, Try.ntmps13
  go_wp2_with fail
  refine (meet_any _ _ 2 2 2 2 lv1 lv2 _ i1 i2 (by omega) (by omega) lv_wl1).mono ?_
  rintro e w1 ⟨v, rfl, ho1, hb1⟩
  rw [lv_meet] at ho1
  obtain ⟨A1, c1, rfl, _, _, hm1, _⟩ := ho1.form
  have i11 := i1.below hb1
  have i12 := i2.below hb1
  have hb01 := hb0.trans (hb1.mono hb0.size)
  clear ho1 hb1 i1 i2 hb0
  go_wp2_with fail
  refine (rest_any _ _ 2 2 2 2 lv1 lv2 _ i11 i12 (by omega) (by omega) lv_wl1).mono ?_
  rintro e w2 ⟨v, rfl, ho2, hb2⟩
  rw [lv_rest] at ho2
  obtain ⟨A2, c2, rfl, _, _, hm2, _⟩ := ho2.form
  have hm12 := hm1.below hb2
  have i21 := i11.below hb2
  have i22 := i12.below hb2
  have hb02 := hb01.trans (hb2.mono hb01.size)
  clear ho2 hb2 i11 i12 hb01 hm1
  go_wp2_with fail
  refine (plus_any _ _ 2 2 2 2 lv1 lv2 _ i21 i22 (by omega) (by omega) lv_wl1 lv_wl2).mono ?_
  rintro e w3 ⟨v, rfl, ho3, hb3⟩
  rw [lv_plusE]
  rw [lv_plusR] at ho3
  obtain ⟨A3, c3, rfl, _, _, hm3, _⟩ := ho3.form
  have hm13 := hm12.below hb3
  have hm23 := hm2.below hb3
  have i31 := i21.below hb3
  have i32 := i22.below hb3
  have hb03 := hb02.trans (hb3.mono hb02.size)
  clear ho3 hb3 i21 i22 hb02 hm12 hm2
  go_wp2_with fail
  refine (minus_any _ _ 2 2 2 2 lv1 lv2 _ i31 i32 (by omega) (by omega) lv_wl1 lv_wl2).mono ?_
  rintro e w4 ⟨v, rfl, ho4, hb4⟩
  rw [lv_minusE]
  obtain ⟨A4, c4, rfl, _⟩ := ho4.form
  have hm14 := hm13.below hb4
  have hm24 := hm23.below hb4
  have hm34 := hm3.below hb4
  have i41 := i31.below hb4
  have hb04 := hb03.trans (hb4.mono hb03.size)
  clear ho4 hb4 i31 i32 hb03 hm13 hm23 hm3
  obtain ⟨b1, o1, rfl, k1⟩ := hm14.N0
  obtain ⟨b2, o2, rfl, k2⟩ := hm24.N0
  obtain ⟨b3, o3, rfl, k3⟩ := hm34.N0
  dsimp only at k1 k2 k3
  go_wp2_with fail
  refine (covers_any _ _ 2 2 1 _ lv1 [([97], 1)] _ i41 hm14 (by omega) (by omega) lv_wl3).mono ?_
  rintro e w5 ⟨rfl, hb5⟩
  rw [lv_covers]
  have i51 := i41.below hb5
  have hb05 := hb04.trans (hb5.mono hb04.size)
  clear hb5 hb04
  go_wp2_with fail
  refine (of_any _ 2 2 lv1 [98] _ i51 (by omega)).mono ?_
  rintro e w6 ⟨rfl, hb6⟩
  rw [lv_of]
  have i61 := i51.below hb6
  have hb06 := hb05.trans (hb6.mono hb05.size)
  clear hb6 hb05
  go_wp2_with fail
  refine (all_any _ 2 2 lv1 _ i61 (by omega)).mono ?_
  rintro e w7 ⟨B, CA, cc, rfl, _, _, _, hb7⟩
  have i71 := i61.below hb7
  have hb07 := hb06.trans (hb7.mono hb06.size)
  have hne7 := func_ne_nil6 (.func 89) #[] #[.pointer (some ⟨B, 0, none⟩)]
  clear hb7 hb06
  go_wp2_with fail
  refine (mayI_any _ 2 2 lv1 _ i71 (by omega)).mono ?_
  rintro e w8 ⟨rfl, hb8⟩
  rw [lv_may1]
  have hb08 := hb07.trans (hb8.mono hb07.size)
  go_wp2_with fail
  go_ret
  exact ⟨by simp, hb08⟩
end Go.Proofs.Ytejpabeamjhmjaa
