/- Lists that may be: what covers what; the same lists. No condition. -/
import Derived.Test.YtfpcnenohidfpaaGreatIOpen
namespace Go.Proofs.YtfpcnenohidfpaaGreat
open Go.RowKit
set_option linter.unusedVariables false
set_option linter.unusedSimpArgs false

/-- Goods rise; each number is above 0 and not too great. -/
structure MY (l : List It) : Prop where
  rise : (l.map (·.1)).Pairwise (fun a b => a < b)
  num : ∀ x ∈ l, 1 ≤ x.2 ∧ x.2 ≤ 1099511627776
  good : ∀ x ∈ l, gOK x.1 = true
  len : l.length ≤ 16
theorem MY.of_ {l : List It} (h : mayL l = true) : MY l := by
  obtain ⟨h1, h2⟩ := mayL_from h
  have key : ∀ (l : List It) (last : List UInt8), mayFrom last l = true → ∀ x ∈ l, (1 ≤ x.2 ∧ x.2 ≤ 1099511627776) ∧ gOK x.1 = true := by
    intro l
    induction l with
    | nil => intro _ _ x hx; simp at hx
    | cons y l ih =>
      intro last h x hx
      rw [mayFrom, Bool.and_eq_true] at h
      rcases List.mem_cons.1 hx with rfl | hx
      · have := h.1
        simp [okAt, cMay] at this
        exact ⟨⟨by omega, this.2.2⟩, this.1.1.1⟩
      · exact ih _ h.2 x hx
  exact ⟨(rising_pairwise l [] h2).1, fun x hx => (key l [] h2 x hx).1, fun x hx => (key l [] h2 x hx).2, h1⟩
theorem MY.may {l : List It} (h : MY l) : mayL l = true := by
  have key : ∀ (l : List It) (last : List UInt8), (l.map (·.1)).Pairwise (fun a b => a < b) → (∀ x ∈ l, 1 ≤ x.2 ∧ x.2 ≤ 1099511627776) → (∀ x ∈ l, gOK x.1 = true) → (∀ x ∈ l, last < x.1) → mayFrom last l = true := by
    intro l
    induction l with
    | nil => intros; rfl
    | cons y l ih =>
      intro last h1 h2 h3 h4
      rw [List.map_cons, List.pairwise_cons] at h1
      rw [mayFrom, Bool.and_eq_true]
      refine ⟨?_, ih y.1 h1.2 (fun x hx => h2 x (List.mem_cons_of_mem _ hx)) (fun x hx => h3 x (List.mem_cons_of_mem _ hx)) fun x hx => h1.1 _ (List.mem_map_of_mem hx)⟩
      have hn := h2 y List.mem_cons_self
      have hg := h3 y List.mem_cons_self
      have hl := h4 y List.mem_cons_self
      have hl' : ¬ y.1 ≤ last := List.not_le.2 hl
      simp only [okAt, hg, hl', cMay, decide_false, Bool.not_false, Bool.true_and, Bool.and_eq_true, Bool.not_eq_true', decide_eq_false_iff_not, decide_eq_true_eq]
      omega
  have h0 : mayFrom [] l = true := key l [] h.rise h.num h.good fun x hx => by
    have := h.good x hx
    exact List.not_le.1 (gOK_pos this)
  unfold mayL
  rw [h0]
  simp [h.len]
/-- The number of a good. -/
theorem MY.of_mem {l : List It} (h : MY l) {x : It} (hx : x ∈ l) : ofL l x.1 = x.2 := by
  have key : ∀ (l : List It), (l.map (·.1)).Pairwise (fun a b => a < b) → (∀ x ∈ l, 1 ≤ x.2 ∧ x.2 ≤ 1099511627776) → ∀ x ∈ l, ofL l x.1 = x.2 := by
    intro l
    induction l using snoc_ind with
    | h0 => intro _ _ x hx; simp at hx
    | h1 l y ih =>
      intro hp hn x hx
      rw [ofL_snoc]
      rw [List.map_append, List.pairwise_append] at hp
      obtain ⟨hp1, _, hp3⟩ := hp
      rcases List.mem_append.1 hx with hx | hx
      · have hlt : x.1 < y.1 := hp3 _ (List.mem_map_of_mem hx) _ (by simp)
        rw [if_neg (fun e => by rw [e] at hlt; exact List.lt_irrefl _ hlt)]
        exact ih hp1 (fun x hx => hn x (List.mem_append_left _ hx)) x hx
      · rw [List.mem_singleton] at hx
        subst hx
        have h0 : ofL l x.1 = 0 := by
          have : ∀ (l : List It), (∀ z ∈ l, z.1 < x.1) → ofL l x.1 = 0 := by
            intro l
            induction l using snoc_ind with
            | h0 => intro _; rfl
            | h1 l z ih =>
              intro hz
              rw [ofL_snoc, if_neg (fun e => by have := hz z (by simp); rw [e] at this; exact List.lt_irrefl _ this)]
              exact ih fun z hz' => hz z (List.mem_append_left _ hz')
          exact this l fun z hz => hp3 _ (List.mem_map_of_mem hz) _ (by simp)
        have := hn x (by simp)
        rw [if_pos rfl, h0]
        unfold wrap64
        omega
  exact key l h.rise h.num x hx
theorem of_none {g : List UInt8} {l : List It} (h : ∀ x ∈ l, x.1 ≠ g) : ofL l g = 0 := by
  induction l using snoc_ind with
  | h0 => rfl
  | h1 l z ih =>
    rw [ofL_snoc, if_neg (h z (by simp))]
    exact ih fun z hz' => h z (List.mem_append_left _ hz')
/-- .. in every case. -/
theorem MY.of_cases {l : List It} (h : MY l) (g : List UInt8) : ((g, ofL l g) ∈ l ∧ 1 ≤ ofL l g ∧ ofL l g ≤ 1099511627776) ∨ (ofL l g = 0 ∧ ∀ x ∈ l, x.1 ≠ g) := by
  by_cases hx : ∃ x ∈ l, x.1 = g
  · obtain ⟨x, hx, rfl⟩ := hx
    have e := h.of_mem hx
    exact .inl ⟨by rw [e]; exact hx, by rw [e]; exact h.num x hx⟩
  · have hn : ∀ x ∈ l, x.1 ≠ g := fun x h1 h2 => hx ⟨x, h1, h2⟩
    exact .inr ⟨of_none hn, hn⟩
theorem MY.nonneg {l : List It} (h : MY l) (g : List UInt8) : 0 ≤ ofL l g ∧ ofL l g ≤ 1099511627776 := by
  rcases h.of_cases g with ⟨_, h1, h2⟩ | ⟨h1, _⟩ <;> omega
/-- Two of the same numbers are the same. -/
theorem MY.ext {l l' : List It} (h : MY l) (h' : MY l') (e : ∀ x, x ∈ l ↔ x ∈ l') : l = l' := by
  have key : ∀ (l l' : List It), (l.map (·.1)).Pairwise (fun a b => a < b) → (l'.map (·.1)).Pairwise (fun a b => a < b) → (∀ x, x ∈ l ↔ x ∈ l') → l = l' := by
    intro l
    induction l with
    | nil =>
      intro l' _ _ e
      cases l' with
      | nil => rfl
      | cons y l' => exact absurd ((e y).2 List.mem_cons_self) (by simp)
    | cons x l ih =>
      intro l' hp hp' e
      cases l' with
      | nil => exact absurd ((e x).1 List.mem_cons_self) (by simp)
      | cons y l' =>
        rw [List.map_cons, List.pairwise_cons] at hp hp'
        have hxy : x = y := by
          rcases List.mem_cons.1 ((e x).1 List.mem_cons_self) with h1 | h1
          · exact h1
          · rcases List.mem_cons.1 ((e y).2 List.mem_cons_self) with h2 | h2
            · exact h2.symm
            · exact absurd (List.lt_trans (hp.1 _ (List.mem_map_of_mem h2)) (hp'.1 _ (List.mem_map_of_mem h1))) (List.lt_irrefl _)
        subst hxy
        rw [ih l' hp.2 hp'.2 fun z => ?_]
        have hz := e z
        rw [List.mem_cons, List.mem_cons] at hz
        constructor
        · intro hm
          rcases hz.1 (.inr hm) with rfl | h1
          · exact absurd (hp.1 _ (List.mem_map_of_mem hm)) (List.lt_irrefl _)
          · exact h1
        · intro hm
          rcases hz.2 (.inr hm) with rfl | h1
          · exact absurd (hp'.1 _ (List.mem_map_of_mem hm)) (List.lt_irrefl _)
          · exact h1
  exact key l l' h.rise h'.rise e
/-- What is left may be. -/
theorem MY.left {l : List It} (h : MY l) {f : It → Int} (hf : ∀ x ∈ l, 0 ≤ f x ∧ f x ≤ 1099511627776) : MY (leftL f l) := by
  have hmem : ∀ y ∈ leftL f l, ∃ x ∈ l, f x ≠ 0 ∧ y = (x.1, f x) := fun y hy => by
    unfold leftL at hy
    rw [List.mem_filterMap] at hy
    obtain ⟨x, hx, e⟩ := hy
    by_cases h0 : f x = 0
    · simp [h0] at e
    · simp [h0] at e
      exact ⟨x, hx, h0, e.symm⟩
  refine ⟨?_, fun y hy => ?_, fun y hy => ?_, ?_⟩
  · have hs : ((leftL f l).map (·.1)).Sublist (l.map (·.1)) := by
      unfold leftL
      clear hmem h hf
      induction l with
      | nil => exact List.Sublist.slnil
      | cons x l ih =>
        by_cases h0 : f x = 0
        · simpa [List.filterMap_cons, h0] using ih.cons x.1
        · simpa [List.filterMap_cons, h0] using ih
    exact h.rise.sublist hs
  · obtain ⟨x, hx, h0, rfl⟩ := hmem y hy
    have := hf x hx
    exact ⟨by show 1 ≤ f x; omega, this.2⟩
  · obtain ⟨x, hx, h0, rfl⟩ := hmem y hy
    exact h.good x hx
  · exact Nat.le_trans (List.length_filterMap_le _ _) h.len
theorem mem_left {f : It → Int} {l : List It} {y : It} : y ∈ leftL f l ↔ ∃ x ∈ l, f x ≠ 0 ∧ y = (x.1, f x) := by
  unfold leftL
  rw [List.mem_filterMap]
  constructor
  · rintro ⟨x, hx, e⟩
    by_cases h0 : f x = 0
    · simp [h0] at e
    · simp [h0] at e
      exact ⟨x, hx, h0, e.symm⟩
  · rintro ⟨x, hx, h0, rfl⟩
    exact ⟨x, hx, by simp [h0]⟩
section
variable {a b c : List It} (ha : MY a) (hb : MY b) (hc : MY c)
include ha hb
theorem MY.both : (mayL a && mayL b) = true := by rw [ha.may, hb.may]; rfl
theorem MY.meet : MY (meetL a b) := by
  unfold meetL
  rw [MY.both ha hb]
  exact ha.left fun x hx => by
    have := ha.num x hx
    have := hb.nonneg x.1
    omega
theorem MY.rest : MY (restL a b) := by
  unfold restL
  rw [MY.both ha hb]
  exact ha.left fun x hx => by
    have := ha.num x hx
    have := hb.nonneg x.1
    unfold wrap64
    omega
theorem mem_meet {y : It} : y ∈ meetL a b ↔ ∃ x ∈ a, min x.2 (ofL b x.1) ≠ 0 ∧ y = (x.1, min x.2 (ofL b x.1)) := by
  unfold meetL
  rw [MY.both ha hb]
  exact mem_left
theorem mem_rest {y : It} : y ∈ restL a b ↔ ∃ x ∈ a, max 0 (x.2 - ofL b x.1) ≠ 0 ∧ y = (x.1, max 0 (x.2 - ofL b x.1)) := by
  unfold restL
  rw [MY.both ha hb]
  refine mem_left.trans ?_
  have hw : ∀ x ∈ a, wrap64 (x.2 - ofL b x.1) = x.2 - ofL b x.1 := fun x hx => by
    have := ha.num x hx
    have := hb.nonneg x.1
    unfold wrap64
    omega
  constructor
  · rintro ⟨x, hx, h0, rfl⟩
    rw [hw x hx] at h0 ⊢
    exact ⟨x, hx, h0, rfl⟩
  · rintro ⟨x, hx, h0, rfl⟩
    exact ⟨x, hx, by rw [hw x hx]; exact h0, by rw [hw x hx]⟩
/-- a covers b: of each good of b it has as many. -/
theorem covers_iff : coversL a b = true ↔ ∀ x ∈ b, x.2 ≤ ofL a x.1 := by
  unfold coversL
  rw [MY.both ha hb, Bool.true_and, decide_eq_true_eq, List.length_eq_zero_iff]
  constructor
  · intro h x hx
    by_cases hle : x.2 ≤ ofL a x.1
    · exact hle
    · have : (x.1, max 0 (x.2 - ofL a x.1)) ∈ restL b a := (mem_rest hb ha).2 ⟨x, hx, by omega, rfl⟩
      rw [h] at this
      simp at this
  · intro h
    rw [List.eq_nil_iff_forall_not_mem]
    intro y hy
    obtain ⟨x, hx, h0, _⟩ := (mem_rest hb ha).1 hy
    have := h x hx
    omega
theorem covers_le : coversL a b = true ↔ ∀ g, ofL b g ≤ ofL a g := by
  rw [covers_iff ha hb]
  constructor
  · intro h g
    rcases hb.of_cases g with ⟨h1, _⟩ | ⟨h1, _⟩
    · exact h _ h1
    · rw [h1]
      exact (ha.nonneg g).1
  · intro h x hx
    have := h x.1
    rw [hb.of_mem hx] at this
    exact this
theorem same_iff : (coversL a b && coversL b a) = decide (a = b) := by
  by_cases e : a = b
  · subst e
    have := (covers_le ha ha).2 fun g => Int.le_refl _
    simp [this]
  · rw [decide_eq_false e]
    cases h : (coversL a b && coversL b a) with
    | false => rfl
    | true =>
      exfalso
      rw [Bool.and_eq_true, covers_le ha hb, covers_le hb ha] at h
      have hof : ∀ g, ofL a g = ofL b g := fun g => by
        have := h.1 g
        have := h.2 g
        omega
      have hmem : ∀ {a b : List It}, MY a → MY b → (∀ g, ofL a g = ofL b g) → ∀ x ∈ a, x ∈ b := fun {a b} ha hb h x hx => by
        have e := ha.of_mem hx
        have hn := ha.num x hx
        rw [h] at e
        rcases hb.of_cases x.1 with ⟨h1, _⟩ | ⟨h1, _⟩
        · rw [e] at h1
          exact h1
        · omega
      exact e (ha.ext hb fun x => ⟨hmem ha hb hof x, hmem hb ha (fun g => (hof g).symm) x⟩)
theorem of_meet (g : List UInt8) : ofL (meetL a b) g = min (ofL a g) (ofL b g) := by
  have hm := MY.meet ha hb
  have hb0 := hb.nonneg g
  have ha0 := ha.nonneg g
  rcases hm.of_cases g with ⟨h1, h2, _⟩ | ⟨h1, h2⟩
  · obtain ⟨x, hx, h0, e⟩ := (mem_meet ha hb).1 h1
    injection e with e1 e2
    subst e1
    rw [e2, ha.of_mem hx]
  · rw [h1]
    rcases ha.of_cases g with ⟨h3, h4, _⟩ | ⟨h3, _⟩
    · by_cases hz : ofL b g = 0
      · omega
      · exact absurd rfl (h2 _ ((mem_meet ha hb).2 ⟨_, h3, by show min (ofL a g) (ofL b g) ≠ 0; omega, rfl⟩))
    · omega
theorem of_rest (g : List UInt8) : ofL (restL a b) g = max 0 (ofL a g - ofL b g) := by
  have hm := MY.rest ha hb
  have hb0 := hb.nonneg g
  have ha0 := ha.nonneg g
  rcases hm.of_cases g with ⟨h1, h2, _⟩ | ⟨h1, h2⟩
  · obtain ⟨x, hx, h0, e⟩ := (mem_rest ha hb).1 h1
    injection e with e1 e2
    subst e1
    rw [e2, ha.of_mem hx]
  · rw [h1]
    rcases ha.of_cases g with ⟨h3, h4, _⟩ | ⟨h3, _⟩
    · by_cases hz : ofL a g ≤ ofL b g
      · omega
      · exact absurd rfl (h2 _ ((mem_rest ha hb).2 ⟨_, h3, by show max 0 (ofL a g - ofL b g) ≠ 0; omega, rfl⟩))
    · omega
end
end Go.Proofs.YtfpcnenohidfpaaGreat
