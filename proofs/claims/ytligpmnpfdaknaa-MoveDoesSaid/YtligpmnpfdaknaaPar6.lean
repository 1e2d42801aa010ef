/- Lists that may be: sums of two, and what is left of them. No condition. -/
import Derived.Test.YtligpmnpfdaknaaKept6
namespace Go.Proofs.Ytligpmnpfdaknaa
open Go.RowKit Go.Maps Go.Shelf Go.Sort
set_option linter.unusedVariables false
set_option linter.unusedSimpArgs false

theorem tot_append (l : List It) (g : List UInt8) (l' : List It) : tot (l ++ l') g = tot l g + tot l' g := by
  induction l' using snoc_ind with
  | h0 => simp [tot]
  | h1 l' x ih =>
    rw [← List.append_assoc, tot_snoc, tot_snoc, ih]
    split <;> omega
theorem MY.tot_of {l : List It} (h : MY l) (g : List UInt8) : tot l g = ofL l g := by
  have key : ∀ (l : List It), (l.map (·.1)).Pairwise (fun a b => a < b) → (∀ x ∈ l, 1 ≤ x.2 ∧ x.2 ≤ 1099511627776) → tot l g = ofL l g := by
    intro l
    induction l using snoc_ind with
    | h0 => intro _ _; rfl
    | h1 l y ih =>
      intro hp hn
      rw [List.map_append, List.pairwise_append] at hp
      obtain ⟨hp1, _, hp3⟩ := hp
      rw [tot_snoc, ofL_snoc]
      by_cases e : y.1 = g
      · have hne : ∀ z ∈ l, z.1 ≠ g := fun z hz e2 => by
          have := hp3 z.1 (List.mem_map_of_mem hz) y.1 (by simp)
          rw [e2, e] at this
          exact List.lt_irrefl _ this
        rw [if_pos e, if_pos e, tot_none hne, of_none hne]
        have := hn y (by simp)
        unfold wrap64
        omega
      · rw [if_neg e, if_neg e]
        exact ih hp1 fun x hx => hn x (List.mem_append_left _ hx)
  exact key l h.rise h.num
theorem MY.okN {l : List It} (h : MY l) : okN l = true := by
  refine List.all_eq_true.2 fun x hx => ?_
  have := h.num x hx
  have hg := h.good x hx
  simp only [okX, cMay, hg, Bool.true_and, Bool.and_eq_true, decide_eq_true_eq]
  omega
theorem MY.ext_of {l l' : List It} (h : MY l) (h' : MY l') (e : ∀ g, ofL l g = ofL l' g) : l = l' := by
  have hmem : ∀ {a b : List It}, MY a → MY b → (∀ g, ofL a g = ofL b g) → ∀ x ∈ a, x ∈ b := fun {a b} ha hb h x hx => by
    have e := ha.of_mem hx
    have hn := ha.num x hx
    rw [h] at e
    rcases hb.of_cases x.1 with ⟨h1, _⟩ | ⟨h1, _⟩
    · rw [e] at h1
      exact h1
    · omega
  exact h.ext h' fun x => ⟨hmem h h' e x, hmem h' h (fun g => (e g).symm) x⟩
theorem rising_exists (l : List (List UInt8)) : ∃ ks : List (List UInt8), ks.Pairwise (fun a b => a < b) ∧ ∀ g, g ∈ ks ↔ g ∈ l := by
  induction l with
  | nil => exact ⟨[], List.Pairwise.nil, fun g => Iff.rfl⟩
  | cons x l ih =>
    obtain ⟨ks, h1, h2⟩ := ih
    refine ⟨ks.filter (fun g => decide (g < x)) ++ x :: ks.filter (fun g => decide (x < g)), ?_, fun g => ?_⟩
    · rw [List.pairwise_append]
      refine ⟨h1.filter _, List.pairwise_cons.2 ⟨fun g hg => ?_, h1.filter _⟩, fun a ha b hb => ?_⟩
      · simpa using (List.mem_filter.1 hg).2
      · have h3 : a < x := by simpa using (List.mem_filter.1 ha).2
        rcases List.mem_cons.1 hb with rfl | hb
        · exact h3
        · have h4 : x < b := by simpa using (List.mem_filter.1 hb).2
          exact List.lt_trans h3 h4
    · rw [List.mem_append, List.mem_cons, List.mem_filter, List.mem_filter, h2, List.mem_cons, decide_eq_true_eq, decide_eq_true_eq]
      constructor
      · rintro (⟨h, _⟩ | h | ⟨h, _⟩)
        · exact .inr h
        · exact .inl h
        · exact .inr h
      · rintro (h | h)
        · exact .inr (.inl h)
        · by_cases e : g = x
          · exact .inr (.inl e)
          · by_cases hlt : g < x
            · exact .inl ⟨h, hlt⟩
            · refine .inr (.inr ⟨h, ?_⟩)
              by_cases h5 : x < g
              · exact h5
              · exact absurd (List.le_antisymm (List.not_lt.1 h5) (List.not_lt.1 hlt)) e
theorem mem_listed {ks : List (List UInt8)} {f : List UInt8 → Int} {y : It} : y ∈ listedL ks f ↔ ∃ g ∈ ks, f g ≠ 0 ∧ y = (g, f g) := by
  unfold listedL
  rw [List.mem_filterMap]
  constructor
  · rintro ⟨g, hg, e⟩
    by_cases h0 : f g = 0
    · simp [h0] at e
    · simp [h0] at e
      exact ⟨g, hg, h0, e.symm⟩
  · rintro ⟨g, hg, h0, rfl⟩
    exact ⟨g, hg, by simp [h0]⟩
theorem listed_rise {f : List UInt8 → Int} : ∀ {ks : List (List UInt8)}, ks.Pairwise (fun a b => a < b) → ((listedL ks f).map (·.1)).Pairwise (fun a b => a < b) := by
  intro ks h
  have hs : ((listedL ks f).map (·.1)).Sublist ks := by
    unfold listedL
    clear h
    induction ks with
    | nil => exact List.Sublist.slnil
    | cons x l ih =>
      by_cases h0 : f x = 0
      · simpa [List.filterMap_cons, h0] using ih.cons x
      · simpa [List.filterMap_cons, h0] using ih
  exact h.sublist hs
/-- A list's sums: a list that may be. -/
theorem MY.rows {l : List It} (hok : Go.Proofs.Ytligpmnpfdaknaa.okN l = true) (ho : overL l = false) (hlen : (rowsN l).length ≤ 16) : MY (rowsN l) ∧ ∀ g, ofL (rowsN l) g = tot l g := by
  obtain ⟨ks, hp, hm⟩ := rising_exists (l.map (·.1))
  have hr := rowsN_eq l ks hp hm
  have hnum : ∀ x ∈ rowsN l, (1 ≤ x.2 ∧ x.2 ≤ 1099511627776) ∧ gOK x.1 = true ∧ x.2 = tot l x.1 := fun x hx => by
    rw [hr] at hx
    obtain ⟨g, hg, h0, rfl⟩ := mem_listed.1 hx
    have hb := tot_bound hok ho g
    rw [hm, List.mem_map] at hg
    obtain ⟨y, hy, rfl⟩ := hg
    exact ⟨⟨by show 1 ≤ tot l y.1; omega, hb.2⟩, (okN_mem hok hy).1, rfl⟩
  have hmy : MY (rowsN l) := ⟨by rw [hr]; exact listed_rise hp, fun x hx => (hnum x hx).1, fun x hx => (hnum x hx).2.1, hlen⟩
  refine ⟨hmy, fun g => ?_⟩
  rcases hmy.of_cases g with ⟨h1, _⟩ | ⟨h1, h2⟩
  · exact (hnum _ h1).2.2
  · rw [h1]
    by_cases h0 : tot l g = 0
    · exact h0.symm
    · exfalso
      have hg : g ∈ ks := by
        rw [hm, List.mem_map]
        by_cases hx : ∃ x ∈ l, x.1 = g
        · obtain ⟨x, hx, e⟩ := hx
          exact ⟨x, hx, e⟩
        · exact absurd (tot_none fun x h1 h2 => hx ⟨x, h1, h2⟩) h0
      refine h2 (g, tot l g) ?_ rfl
      rw [hr]
      exact mem_listed.2 ⟨g, hg, h0, rfl⟩
theorem normE_zero {l : List It} (h : normE l = 0) : Go.Proofs.Ytligpmnpfdaknaa.okN l = true ∧ overL l = false ∧ (rowsN l).length ≤ 16 := by
  unfold normE at h
  cases h1 : Go.Proofs.Ytligpmnpfdaknaa.okN l with
  | false => rw [h1] at h; simp at h
  | true =>
    cases h2 : overL l with
    | true => rw [h1, h2] at h; simp at h
    | false =>
      cases h3 : decide (16 < (rowsN l).length) with
      | true => rw [h1, h2, h3] at h; simp at h
      | false => exact ⟨rfl, rfl, by have := of_decide_eq_false h3; omega⟩
theorem normE_of {l : List It} (h1 : Go.Proofs.Ytligpmnpfdaknaa.okN l = true) (h2 : overL l = false) (h3 : (rowsN l).length ≤ 16) : normE l = 0 := by
  unfold normE
  rw [h1, h2, decide_eq_false (by omega : ¬ 16 < (rowsN l).length)]
/-- All numbers. -/
def sumI (l : List It) : Int := l.foldl (fun s x => s + x.2) 0
theorem sumI_snoc (l : List It) (x : It) : sumI (l ++ [x]) = sumI l + x.2 := by simp [sumI]
theorem sumI_append (l l' : List It) : sumI (l ++ l') = sumI l + sumI l' := by
  induction l' using snoc_ind with
  | h0 => simp [sumI]
  | h1 l' x ih => rw [← List.append_assoc, sumI_snoc, sumI_snoc, ih]; omega
theorem total_sum (l : List It) : totalL l = wrap64 (sumI l) := by
  induction l using snoc_ind with
  | h0 => decide +kernel
  | h1 l x ih =>
    rw [totalL_snoc, sumI_snoc, ih]
    unfold wrap64
    omega
def sumK (ks : List (List UInt8)) (f : List UInt8 → Int) : Int := ks.foldr (fun g s => f g + s) 0
theorem sumK_add (ks : List (List UInt8)) (f h : List UInt8 → Int) : sumK ks (fun g => f g + h g) = sumK ks f + sumK ks h := by
  induction ks with
  | nil => rfl
  | cons g ks ih =>
    show (f g + h g) + sumK ks _ = (f g + sumK ks f) + (h g + sumK ks h)
    rw [ih]
    omega
theorem sumK_none (ks : List (List UInt8)) (x : List UInt8) (n : Int) (h : x ∉ ks) : sumK ks (fun g => if x = g then n else 0) = 0 := by
  induction ks with
  | nil => rfl
  | cons g ks ih =>
    show (if x = g then n else 0) + sumK ks _ = 0
    rw [ih fun hm => h (List.mem_cons_of_mem _ hm), if_neg fun e => h (by rw [e]; exact List.mem_cons_self)]
    rfl
theorem sumK_one (ks : List (List UInt8)) (x : List UInt8) (n : Int) (hp : ks.Pairwise (fun a b => a < b)) (h : x ∈ ks) : sumK ks (fun g => if x = g then n else 0) = n := by
  induction ks with
  | nil => simp at h
  | cons g ks ih =>
    show (if x = g then n else 0) + sumK ks _ = n
    rw [List.pairwise_cons] at hp
    by_cases e : x = g
    · subst e
      rw [if_pos rfl, sumK_none ks x n fun hm => List.lt_irrefl _ (hp.1 x hm)]
      omega
    · rw [if_neg e, ih hp.2 ((List.mem_cons.1 h).resolve_left e)]
      omega
theorem sumK_tot (ks : List (List UInt8)) (hp : ks.Pairwise (fun a b => a < b)) (l : List It) (hm : ∀ x ∈ l, x.1 ∈ ks) : sumK ks (tot l) = sumI l := by
  induction l using snoc_ind with
  | h0 =>
    show sumK ks (fun _ => 0) = 0
    clear hp hm
    induction ks with
    | nil => rfl
    | cons g ks ih => show 0 + sumK ks _ = 0; rw [ih]; rfl
  | h1 l x ih =>
    have hf : tot (l ++ [x]) = fun g => tot l g + (if x.1 = g then x.2 else 0) := by
      funext g
      rw [tot_snoc]
      split <;> omega
    rw [hf, sumK_add, ih fun y hy => hm y (by simp [hy]), sumK_one ks x.1 x.2 hp (hm x (by simp)), sumI_snoc]
theorem sumI_listed (f : List UInt8 → Int) (ks : List (List UInt8)) : sumI (listedL ks f) = sumK ks f := by
  induction ks with
  | nil => rfl
  | cons g ks ih =>
    have hs : listedL (g :: ks) f = (if f g = 0 then [] else [(g, f g)]) ++ listedL ks f := by
      unfold listedL
      by_cases h0 : f g = 0 <;> simp [h0]
    rw [hs, sumI_append, ih]
    show _ = f g + sumK ks f
    by_cases h0 : f g = 0
    · rw [if_pos h0, h0]
      rfl
    · rw [if_neg h0]
      have : sumI [(g, f g)] = f g := by simp [sumI]
      omega
theorem sumI_rows (l : List It) : sumI (rowsN l) = sumI l := by
  obtain ⟨ks, hp, hm⟩ := rising_exists (l.map (·.1))
  rw [rowsN_eq l ks hp hm, sumI_listed, sumK_tot ks hp l fun x hx => (hm _).2 (List.mem_map_of_mem hx)]
section
variable {a b : List It} (ha : MY a) (hb : MY b)
include ha hb
theorem okN_app : Go.Proofs.Ytligpmnpfdaknaa.okN (a ++ b) = true := by
  have h1 := ha.okN
  have h2 := hb.okN
  unfold Go.Proofs.Ytligpmnpfdaknaa.okN at h1 h2 ⊢
  rw [List.all_append, h1, h2]
  rfl
theorem plusE_norm : plusE a b = normE (a ++ b) := by
  unfold plusE
  rw [MY.both ha hb]
theorem plusR_norm : plusR a b = normR (a ++ b) := by
  unfold plusR
  rw [MY.both ha hb]
  rfl
/-- Both together. -/
theorem plus_ok (h : plusE a b = 0) : MY (plusR a b) ∧ (∀ g, ofL (plusR a b) g = ofL a g + ofL b g) ∧ totalL (plusR a b) = wrap64 (totalL a + totalL b) := by
  rw [plusE_norm ha hb] at h
  have hR : plusR a b = rowsN (a ++ b) := by
    rw [plusR_norm ha hb]
    unfold normR
    rw [h]
    rfl
  obtain ⟨h1, h2, h3⟩ := normE_zero h
  obtain ⟨hmy, hof⟩ := MY.rows h1 h2 h3
  rw [hR]
  refine ⟨hmy, fun g => ?_, ?_⟩
  · rw [hof, tot_append, ha.tot_of, hb.tot_of]
  · rw [total_sum, total_sum, total_sum, sumI_rows, sumI_append]
    unfold wrap64
    omega
/-- What both have and the rest. -/
theorem parts_ok : plusE (meetL a b) (restL a b) = 0 ∧ plusR (meetL a b) (restL a b) = a := by
  have hm := MY.meet ha hb
  have hr := MY.rest ha hb
  have htot : ∀ g, tot (meetL a b ++ restL a b) g = ofL a g := fun g => by
    rw [tot_append, hm.tot_of, hr.tot_of, of_meet ha hb, of_rest ha hb]
    omega
  have hmem : ∀ x ∈ meetL a b ++ restL a b, x.1 ∈ a.map (·.1) := fun x hx => by
    rcases List.mem_append.1 hx with hx | hx
    · obtain ⟨y, hy, _, rfl⟩ := (mem_meet ha hb).1 hx
      exact List.mem_map.2 ⟨y, hy, rfl⟩
    · obtain ⟨y, hy, _, rfl⟩ := (mem_rest ha hb).1 hx
      exact List.mem_map.2 ⟨y, hy, rfl⟩
  have hks : ∀ g, g ∈ a.map (·.1) ↔ g ∈ (meetL a b ++ restL a b).map (·.1) := fun g => by
    constructor
    · intro hg
      by_cases hx : ∃ x ∈ meetL a b ++ restL a b, x.1 = g
      · obtain ⟨x, hx, rfl⟩ := hx
        exact List.mem_map_of_mem hx
      · have h0 : tot (meetL a b ++ restL a b) g = 0 := tot_none fun x h1 h2 => hx ⟨x, h1, h2⟩
        rw [htot] at h0
        obtain ⟨y, hy, rfl⟩ := List.mem_map.1 hg
        have := ha.num y hy
        rw [ha.of_mem hy] at h0
        omega
    · intro hg
      obtain ⟨x, hx, rfl⟩ := List.mem_map.1 hg
      exact hmem x hx
  have hlist : ∀ (l : List It), (∀ x ∈ l, 1 ≤ x.2 ∧ ofL a x.1 = x.2) → listedL (l.map (·.1)) (ofL a) = l := by
    intro l
    induction l with
    | nil => intro _; rfl
    | cons x l ih =>
      intro h
      have hx := h x List.mem_cons_self
      have ih' := ih fun y hy => h y (List.mem_cons_of_mem _ hy)
      unfold listedL at ih' ⊢
      rw [List.map_cons, List.filterMap_cons, if_neg (by omega : ¬ ofL a x.1 = 0), ih', hx.2]
  have hrows : rowsN (meetL a b ++ restL a b) = a := by
    rw [rowsN_eq _ (a.map (·.1)) ha.rise hks]
    have : tot (meetL a b ++ restL a b) = ofL a := funext htot
    rw [this]
    exact hlist a fun x hx => ⟨(ha.num x hx).1, ha.of_mem hx⟩
  have hover : overL (meetL a b ++ restL a b) = false := by
    refine List.any_eq_false.2 fun x hx => ?_
    rw [htot]
    have := (ha.nonneg x.1).2
    simp
    omega
  have hE : normE (meetL a b ++ restL a b) = 0 := normE_of (okN_app hm hr) hover (by rw [hrows]; exact ha.len)
  refine ⟨by rw [plusE_norm hm hr]; exact hE, ?_⟩
  rw [plusR_norm hm hr]
  unfold normR
  rw [hE]
  exact hrows
/-- Put together and taken away again. -/
theorem minus_back (h : plusE a b = 0) : minusE (plusR a b) b = 0 ∧ minusR (plusR a b) b = a ∧ coversL (plusR a b) a = true ∧ coversL (plusR a b) b = true := by
  obtain ⟨hp, hof, _⟩ := plus_ok ha hb h
  have hcb : coversL (plusR a b) b = true := (covers_le hp hb).2 fun g => by
    rw [hof]
    have := ha.nonneg g
    omega
  have hca : coversL (plusR a b) a = true := (covers_le hp ha).2 fun g => by
    rw [hof]
    have := hb.nonneg g
    omega
  have hE : minusE (plusR a b) b = 0 := by
    unfold minusE
    rw [MY.both hp hb, hcb]
  refine ⟨hE, ?_, hca, hcb⟩
  unfold minusR
  rw [hE]
  exact (MY.rest hp hb).ext_of ha fun g => by
    rw [of_rest hp hb, hof]
    have := ha.nonneg g
    omega
end
end Go.Proofs.Ytligpmnpfdaknaa
