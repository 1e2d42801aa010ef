/- The fewest offers: both programs' answers are one. No condition. -/
import Derived.Test.YtkofaobdpmbcaaaPlG
namespace Go.Proofs.Ytkofaobdpmbcaaa
open Go.RowKit Go.Maps Go.Shelf
set_option linter.unusedVariables false
set_option linter.unusedSimpArgs false

theorem en_same {l : List It} {ls : List (List It)} (hw : MY l) (ho : MYs ls) {ps : List Nat} (hps : ps.length ≤ 8) : enP l ls ps = enR l ls ps := by
  have h1 : mayP l (chosenO ls ps) = true := my_mayP hw (chosen_my ho ps)
  have h2 : (chosenO ls ps).length ≤ 8 := by
    unfold chosenO
    have := List.length_filterMap_le (fun p => ls[p]?) ps
    omega
  unfold enP enR enoughO mayS missO
  rw [h1, decide_eq_true h2]
  rfl
theorem mayS_facts {l : List It} {ls : List (List It)} (h : mayS l ls = true) : ls.length ≤ 8 ∧ mayP l ls = true := by
  unfold mayS at h
  rw [Bool.and_eq_true] at h
  exact ⟨of_decide_eq_true h.1, h.2⟩
theorem fewest_eq {l : List It} {ls : List (List It)} (hms : mayS l ls = true) (hpos : l.length ≠ 0) : bestR ls.length (enR l ls) (2 ^ ls.length) = fewestO l ls := by
  obtain ⟨h8, hmp⟩ := mayS_facts hms
  obtain ⟨hw, ho⟩ := mayP_my hmp
  have h0 : enR l ls [] = false := decide_eq_false (by simpa [chosenO, leftO] using hpos)
  have hR := bestR_best ls.length (enR l ls) h0 (2 ^ ls.length) (Nat.le_refl _)
  have hen : ∀ c, enP l ls (placesO ls.length c) = enR l ls (placesO ls.length c) := fun c => en_same hw ho (Nat.le_trans (placesO_len _ _) h8)
  cases he : enoughO l ls with
  | false =>
    have hno : ∀ c, enR l ls (placesO ls.length c) = false := fun c => by
      cases hc : enR l ls (placesO ls.length c) with
      | false => rfl
      | true =>
        exfalso
        have h1 := of_decide_eq_true hc
        rw [left_nil hw (chosen_my ho _)] at h1
        have h2 : (leftO l ls).length = 0 := (left_nil hw ho).2 fun g => Int.le_trans (h1 g) (sumO_sub ((chosen_sub ls c ls.length).trans (List.take_sublist _ _)) ho g)
        have h3 : enoughO l ls = true := by
          unfold enoughO missO
          rw [hms, hmp]
          exact decide_eq_true h2
        rw [he] at h3
        cases h3
    have hf : fewestO l ls = [] := by
      unfold fewestO
      rw [decide_eq_false hpos, he]
      rfl
    rw [hf]
    rcases hR with ⟨h, _⟩ | ⟨⟨c, _, hb⟩, h, _⟩
    · exact h
    · rw [hb, hno] at h
      cases h
  | true =>
    have hf : fewestO l ls = bestP ls.length (enP l ls) (2 ^ ls.length) := by
      unfold fewestO
      rw [decide_eq_false hpos, he]
      rfl
    rw [hf]
    have hall : enP l ls (placesO ls.length (2 ^ ls.length - 1)) = true := by
      unfold enP
      rw [chosen_all]
      exact he
    obtain ⟨⟨c, hc, hb⟩, h2, h3⟩ := bestP_best ls.length (enP l ls) hall (2 ^ ls.length) (Nat.le_refl _)
    have hP : Best ls.length (enR l ls) (2 ^ ls.length) (bestP ls.length (enP l ls) (2 ^ ls.length)) := by
      refine ⟨⟨c, hc, hb⟩, ?_, fun d hd hde => h3 d hd (by rw [hen]; exact hde)⟩
      rw [hb] at h2 ⊢
      rw [← hen]
      exact h2
    rcases hR with ⟨_, h⟩ | h
    · exfalso
      have h5 := h (2 ^ ls.length - 1) (by have : 0 < 2 ^ ls.length := Nat.pow_pos (by decide); omega)
      rw [← hen, hall] at h5
      cases h5
    · exact Best.eq _ _ h hP
/-- When it may not be, or none is wanted, none is. -/
theorem fewest_no {l : List It} {ls : List (List It)} (h : mayS l ls = false ∨ l.length = 0) : fewestO l ls = [] := by
  unfold fewestO
  rcases h with h | h
  · have : enoughO l ls = false := by
      unfold enoughO
      rw [h]
      rfl
    rw [this, Bool.not_false, Bool.or_true]
  · rw [decide_eq_true h]
    rfl
theorem fewest_len {l : List It} {ls : List (List It)} (h : ls.length ≤ 8) : (fewestO l ls).length ≤ 8 := by
  unfold fewestO
  split
  · simp
  · exact Nat.le_trans (best_len _ _ _) h
set_option maxRecDepth 100000 in
theorem prfewest0 (A : Option Addr) (c : Nat) (R : Option Addr) (m cm : Nat) (w : World) :
    Calls Try.prog 19 #[.slice A 0 c, .slice R m cm] w fun e w' => e = .returned (.slice none 0 0) ∧ Below w.heap.size w w' := by
  go_enter Try.func19, Try.ntmps19
  go_wp2
  go_ret
  exact ⟨rfl, Below.refl _ _⟩
end Go.Proofs.Ytkofaobdpmbcaaa
