/- lives of the statements on lists; what the sums of a list are, in order. No condition. -/
import Derived.Test.YtfpcnenohidfpaaGreatTwo
namespace Go.Proofs.YtfpcnenohidfpaaGreat
open Go.RowKit Go.Maps Go.Shelf Go.Sort
set_option linter.unusedVariables false
set_option linter.unusedSimpArgs false

theorem put_form (D : DataW Unit) (g : List UInt8) (d : DataW Unit) (h : ∃ es : List (Lit × DataW Unit), D = .map es ∧ es.Pairwise (fun p q => p.1 ≠ q.1) ∧ ∀ p ∈ es, ∃ x, p.1 = .string x) :
    ∃ es : List (Lit × DataW Unit), D.put (.string g) d = .map es ∧ es.Pairwise (fun p q => p.1 ≠ q.1) ∧ ∀ p ∈ es, ∃ x, p.1 = .string x := by
  obtain ⟨es, rfl, h1, h2⟩ := h
  obtain ⟨es', he, hp⟩ := Tidy.put ⟨es, rfl, h1⟩ (str_lit g) d
  refine ⟨es', he, hp, fun p hp => ?_⟩
  injection he with he
  rw [← he] at hp
  rcases ChangeMaps.mem_insert_iff.1 hp with rfl | hp
  · exact ⟨g, rfl⟩
  · exact h2 p (List.mem_filter.1 hp).1
theorem sumsN_form (l : List It) : ∃ es : List (Lit × DataW Unit), sumsN l = .map es ∧ es.Pairwise (fun p q => p.1 ≠ q.1) ∧ ∀ p ∈ es, ∃ x, p.1 = .string x := by
  induction l using snoc_ind with
  | h0 => exact ⟨[], rfl, List.Pairwise.nil, fun p h => by simp at h⟩
  | h1 l x ih =>
    rw [sumsN_snoc]
    exact put_form _ _ _ ih
/-- The sums are those of the goods, however they are put in order. -/
theorem rowsN_eq (l : List It) (ks : List (List UInt8)) (hp : ks.Pairwise (fun a b => a < b)) (hm : ∀ g, g ∈ ks ↔ g ∈ l.map (·.1)) : rowsN l = listedL ks (tot l) := by
  unfold rowsN
  have h := sumsN_sm l
  have h' : SM (sumsN l) (tot l) ks := ⟨h.isMap, h.val, fun g => by rw [h.has_ g]; simp only [hm]⟩
  rw [keys_sorted h' hp (sumsN_form l)]

def lv1 : List It := [([97], 3), ([98], 2)]
def lv2 : List It := [([97], 1), ([99], 5)]
theorem lv_may1 : mayL lv1 = true := by decide
theorem lv_may2 : mayL lv2 = true := by decide
theorem lv_meet : meetL lv1 lv2 = [([97], 1)] := by decide +kernel
theorem lv_rest : restL lv1 lv2 = [([97], 2), ([98], 2)] := by decide +kernel
theorem lv_rows : rowsN (lv1 ++ lv2) = [([97], 4), ([98], 2), ([99], 5)] := by
  rw [rowsN_eq (lv1 ++ lv2) [[97], [98], [99]] (by decide) (fun g => by simp [lv1, lv2]; grind)]
  decide
theorem lv_plusE : plusE lv1 lv2 = 0 := by
  unfold plusE normE
  rw [lv_may1, lv_may2, lv_rows]
  decide
theorem lv_plusR : plusR lv1 lv2 = [([97], 4), ([98], 2), ([99], 5)] := by
  have h : normE (lv1 ++ lv2) = 0 := by have := lv_plusE; unfold plusE at this; rw [lv_may1, lv_may2] at this; exact this
  unfold plusR normR
  rw [lv_may1, lv_may2, h, lv_rows]
  rfl
theorem lv_minusE : minusE lv1 lv2 = 51 := by decide +kernel
theorem lv_covers : coversL lv1 [([97], 1)] = true := by decide +kernel
theorem lv_of : ofL lv1 [98] = 2 := by decide +kernel
theorem lv_wl1 : WL lv1 := fun x hx => by simp [lv1] at hx; rcases hx with rfl | rfl <;> exact ⟨by simp [maxLen], by decide⟩
theorem lv_wl2 : WL lv2 := fun x hx => by simp [lv2] at hx; rcases hx with rfl | rfl <;> exact ⟨by simp [maxLen], by decide⟩
theorem lv_wl3 : WL [([97], 1)] := fun x hx => by simp at hx; subst hx; exact ⟨by simp [maxLen], by decide⟩
theorem IL.two (w : World) (s1 s2 : List UInt8) (q1 q2 : Int) (t : TypeId) : IL (w.alloc (.cells #[.string ⟨s1.toArray⟩, .int .i64 q1, .string ⟨s2.toArray⟩, .int .i64 q2] t)) (some ⟨w.heap.size, 0, none⟩) 2 [(s1, q1), (s2, q2)] := by
  have hB := Blk.new w t #[.string ⟨s1.toArray⟩, .int .i64 q1, .string ⟨s2.toArray⟩, .int .i64 q2]
  refine ⟨rfl, fun j x hx => ?_⟩
  match j, hx with
  | 0, hx =>
    simp at hx
    subst hx
    exact ⟨_, 0, rfl, hB.cell 0, hB.cell 1⟩
  | 1, hx =>
    simp at hx
    subst hx
    exact ⟨_, 0, rfl, hB.cell 2, hB.cell 3⟩
theorem IL.N0 {w : World} {A : Option Addr} {n : Nat} {x : It} {l : List It} (h : IL w A n (x :: l)) : ∃ b off, A = some ⟨b, off, none⟩ ∧ w.cell? ⟨b, off + 1, none⟩ = some (.int .i64 x.2) := by
  obtain ⟨b, off, e, _, h2⟩ := h.at_ 0 x rfl
  exact ⟨b, off, e, by simpa using h2⟩
theorem func_eq6 (d : Nat) (fn : Fn) (first cap : Array Value) (W : World) : (Op.equalIn (d + 1) 108 (.func fn first cap) .nilFunc).run Tryz.prog W = .ok false W := by
  simp [Op.equalIn, run_underlying Tryz.underlying108]
theorem func_ne_nil6 (fn : Fn) (first cap : Array Value) (W : World) : (binOp .neq 108 (.func fn first cap) .nilFunc).run Tryz.prog W = .ok (.bool true) W := by
  have h := func_eq6 9999 fn first cap W
  simp only [binOp]
  simp [Op.equal, Op.maxDepth, h]
theorem func_eq_nil6 (fn : Fn) (first cap : Array Value) (W : World) : (binOp .eql 108 (.func fn first cap) .nilFunc).run Tryz.prog W = .ok (.bool false) W := by
  have h := func_eq6 9999 fn first cap W
  simp only [binOp]
  simp [Op.equal, Op.maxDepth, h]

end Go.Proofs.YtfpcnenohidfpaaGreat
