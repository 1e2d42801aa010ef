/- Identities: marks and how many numbers there are, behind each call. No condition. -/
import Derived.Test.YtpendcaefjbomaaIdX
namespace Go.Proofs.Ytpendcaefjbomaa
open Go.RowKit Go.Maps Go.Shelf Go.Sort
set_option linter.unusedVariables false
set_option linter.unusedSimpArgs false

/-- Marks are such as may be, numbers are few. -/
def MInv (cl : Int → Cl) (k : Nat) : Prop := ∀ i, 1 ≤ (cl i).k ∧ (cl i).k ≤ 4294967297 ∧ (cl i).ns.length ≤ k ∧ (cl i).ns.Nodup
theorem MInv.start : MInv (fun _ => cl0) 0 := fun i => ⟨by simp [cl0], by simp [cl0], by simp [cl0], by simp [cl0]⟩
theorem vd_cases (cl : Int → Cl) (c n M : Int) : (vd cl c n M = 0 ∧ ¬ (mayC c ∧ mayN n)) ∨ (mayC c ∧ mayN n ∧ ((vd cl c n M = 5 ∧ n < (cl c).k) ∨ (¬ n < (cl c).k ∧ ((vd cl c n M = 4 ∧ n ∈ (cl c).ns) ∨ (vd cl c n M = 3 ∧ n ∈ (cl c).ns ∧ ((cl c).g n).d = true) ∨ (vd cl c n M = 2 ∧ n ∈ (cl c).ns ∧ ((cl c).g n).d = false) ∨ (vd cl c n M = 6 ∧ n ∉ (cl c).ns ∧ 128 ≤ (cl c).ns.length) ∨ (vd cl c n M = 1 ∧ n ∉ (cl c).ns ∧ (cl c).ns.length < 128))))) := by
  by_cases h : mayC c ∧ mayN n
  · have hv : vd cl c n M = askV (cl c) n M := if_pos h
    refine .inr ⟨h.1, h.2, ?_⟩
    rw [hv]
    unfold askV
    by_cases h1 : n < (cl c).k
    · exact .inl ⟨if_pos h1, h1⟩
    refine .inr ⟨h1, ?_⟩
    rw [if_neg h1]
    by_cases h2 : n ∈ (cl c).ns
    · rw [if_pos h2]
      by_cases h3 : ((cl c).g n).m ≠ M
      · exact .inl ⟨if_pos h3, h2⟩
      rw [if_neg h3]
      by_cases h4 : ((cl c).g n).d = true
      · exact .inr (.inl ⟨if_pos h4, h2, h4⟩)
      · exact .inr (.inr (.inl ⟨if_neg h4, h2, by simpa using h4⟩))
    rw [if_neg h2]
    by_cases h5 : 128 ≤ (cl c).ns.length
    · exact .inr (.inr (.inr (.inl ⟨if_pos h5, h2, h5⟩)))
    · exact .inr (.inr (.inr (.inr ⟨if_neg h5, h2, by omega⟩)))
  · exact .inl ⟨if_neg h, h⟩
theorem vd_new {cl : Int → Cl} {c n M : Int} (h : vd cl c n M = 1) : mayC c ∧ mayN n ∧ ¬ n < (cl c).k ∧ n ∉ (cl c).ns ∧ (cl c).ns.length < 128 := by
  rcases vd_cases cl c n M with ⟨h1, _⟩ | ⟨a, b, ⟨h1, _⟩ | ⟨a2, ⟨h1, _⟩ | ⟨h1, _⟩ | ⟨h1, _⟩ | ⟨h1, _⟩ | ⟨h1, h2, h3⟩⟩⟩
  all_goals first | (exact absurd (h1.symm.trans h) (by decide)) | exact ⟨a, b, a2, h2, h3⟩
theorem MInv.ask {cl cl' : Int → Cl} {k : Nat} {c n M : Int} (h : MInv cl k) (ht : AskTo cl cl' c n M) : MInv cl' (k + 1) ∧ ∀ i, (cl i).k ≤ (cl' i).k := by
  by_cases hv : vd cl c n M = 1
  · obtain ⟨h1, h2, h3, h4⟩ := ht.2 hv
    have hnew := vd_new hv
    constructor
    · intro i
      by_cases e : i = c
      · subst e
        obtain ⟨a1, a2, a3, a4⟩ := h i
        rw [h2, h3]
        refine ⟨a1, a2, by simp; omega, ?_⟩
        rw [List.nodup_append]
        exact ⟨a4, by simp, fun x hx y hy e => by simp at hy; subst hy; subst e; exact hnew.2.2.2.1 hx⟩
      · rw [h1 i e]
        obtain ⟨a1, a2, a3, a4⟩ := h i
        exact ⟨a1, a2, by omega, a4⟩
    · intro i
      by_cases e : i = c
      · subst e; rw [h2]; exact Int.le_refl _
      · rw [h1 i e]; exact Int.le_refl _
  · rw [ht.1 hv]
    exact ⟨fun i => ⟨(h i).1, (h i).2.1, by have := (h i).2.2.1; omega, (h i).2.2.2⟩, fun i => Int.le_refl _⟩
theorem MInv.tell {cl cl' : Int → Cl} {k : Nat} {c n e x : Int} (h : MInv cl k) (ht : TellTo cl cl' c n e x) : MInv cl' (k + 1) ∧ ∀ i, (cl i).k ≤ (cl' i).k := by
  by_cases hv : tE cl c n e = 0
  · obtain ⟨h1, h2, h3, h4⟩ := ht.2 hv
    constructor
    · intro i
      by_cases e : i = c
      · subst e
        obtain ⟨a1, a2, a3, a4⟩ := h i
        rw [h2, h3]
        exact ⟨a1, a2, by omega, a4⟩
      · rw [h1 i e]
        obtain ⟨a1, a2, a3, a4⟩ := h i
        exact ⟨a1, a2, by omega, a4⟩
    · intro i
      by_cases e : i = c
      · subst e; rw [h2]; exact Int.le_refl _
      · rw [h1 i e]; exact Int.le_refl _
  · rw [ht.1 hv]
    exact ⟨fun i => ⟨(h i).1, (h i).2.1, by have := (h i).2.2.1; omega, (h i).2.2.2⟩, fun i => Int.le_refl _⟩
theorem MInv.low {cl cl' : Int → Cl} {k : Nat} {c m E : Int} (h : MInv cl k) (ht : LowTo cl cl' c m E) : (MInv cl' (k + 1) ∧ ∀ i, (cl i).k ≤ (cl' i).k) ∧ (E = 0 → mayC c ∧ m ≤ (cl' c).k) := by
  have same : MInv cl (k + 1) ∧ ∀ i, (cl i).k ≤ (cl i).k := ⟨fun i => ⟨(h i).1, (h i).2.1, by have := (h i).2.2.1; omega, (h i).2.2.2⟩, fun i => Int.le_refl _⟩
  rcases ht with ⟨h1, h2, rfl⟩ | ⟨h1, h2, h3, rfl⟩ | ⟨h1, h2, h3, h4, rfl⟩ | ⟨h1, h2, h3, h4, h5, h6, h7, h8, h9⟩
  · exact ⟨same, fun e => absurd (h1.symm.trans e) (by decide)⟩
  · exact ⟨same, fun e => absurd (h1.symm.trans e) (by decide)⟩
  · exact ⟨same, fun e => ⟨h2.1, h4⟩⟩
  · refine ⟨⟨fun i => ?_, fun i => ?_⟩, fun e => ⟨h2.1, by omega⟩⟩
    · by_cases e : i = c
      · subst e
        have hl := h7.length_le_of_subset (fun y hy => ((h8 y).1 hy).1)
        have := (h i).2.2.1
        exact ⟨by omega, by omega, by omega, h7⟩
      · rw [h5 i e]
        exact ⟨(h i).1, (h i).2.1, by have := (h i).2.2.1; omega, (h i).2.2.2⟩
    · by_cases e : i = c
      · subst e; omega
      · rw [h5 i e]; exact Int.le_refl _
end Go.Proofs.Ytpendcaefjbomaa
