/- How a want is split among offers, and the fewest that are enough: pure. No condition. -/
import Derived.Test.YtkofaobdpmbcaaaRBo2
import Derived.Test.YtkofaobdpmbcaaaPar6
namespace Go.Proofs.Ytkofaobdpmbcaaa
open Go.RowKit
set_option linter.unusedVariables false
set_option linter.unusedSimpArgs false

def mayP (want : List It) (offers : List (List It)) : Bool := offers.all mayL && mayL want
def leftO (want : List It) (offers : List (List It)) : List It := offers.foldl restL want
def givenO : List It → List (List It) → List (List It)
  | _, [] => []
  | w, o :: r => meetL w o :: givenO (restL w o) r
theorem leftO_snoc (want : List It) (ls : List (List It)) (o : List It) : leftO want (ls ++ [o]) = restL (leftO want ls) o := by simp [leftO]
theorem givenO_snoc (ls : List (List It)) (o : List It) : ∀ want, givenO want (ls ++ [o]) = givenO want ls ++ [meetL (leftO want ls) o] := by
  induction ls with
  | nil => intro want; rfl
  | cons x r ih =>
    intro want
    show meetL want x :: givenO (restL want x) (r ++ [o]) = _
    rw [ih]
    rfl
theorem givenO_len (ls : List (List It)) : ∀ want, (givenO want ls).length = ls.length := by
  induction ls with
  | nil => intro want; rfl
  | cons x r ih => intro want; simp [givenO, ih]
/-- All of these may be. -/
def MYs (ls : List (List It)) : Prop := ∀ l ∈ ls, MY l
theorem mayP_my {want : List It} {offers : List (List It)} (h : mayP want offers = true) : MY want ∧ MYs offers := by
  unfold mayP at h
  rw [Bool.and_eq_true, List.all_eq_true] at h
  exact ⟨MY.of_ h.2, fun l hl => MY.of_ (h.1 l hl)⟩
theorem my_mayP {want : List It} {offers : List (List It)} (hw : MY want) (ho : MYs offers) : mayP want offers = true := by
  unfold mayP
  rw [Bool.and_eq_true, List.all_eq_true]
  exact ⟨fun l hl => (ho l hl).may, hw.may⟩
theorem MY.leftO {offers : List (List It)} (ho : MYs offers) : ∀ {want : List It}, MY want → MY (leftO want offers) := by
  induction offers with
  | nil => intro want h; exact h
  | cons o r ih =>
    intro want h
    exact ih (fun l hl => ho l (by simp [hl])) (MY.rest h (ho o (by simp)))
theorem MYs.take {ls : List (List It)} (h : MYs ls) (k : Nat) : MYs (ls.take k) := fun l hl => h l (List.mem_of_mem_take hl)
theorem MYs.given {offers : List (List It)} (ho : MYs offers) : ∀ {want : List It}, MY want → MYs (givenO want offers) := by
  induction offers with
  | nil => intro want _ l hl; simp [givenO] at hl
  | cons o r ih =>
    intro want h l hl
    rw [givenO, List.mem_cons] at hl
    rcases hl with rfl | hl
    · exact MY.meet h (ho o (by simp))
    · exact ih (fun l hl => ho l (by simp [hl])) (MY.rest h (ho o (by simp))) l hl
/-- How many of a good the lists have together. -/
def sumO : List (List It) → List UInt8 → Int
  | [], _ => 0
  | l :: r, g => ofL l g + sumO r g
theorem sumO_append (a b : List (List It)) (g : List UInt8) : sumO (a ++ b) g = sumO a g + sumO b g := by
  induction a with
  | nil => simp [sumO]
  | cons x r ih => simp only [List.cons_append, sumO, ih]; omega
theorem sumO_nonneg {ls : List (List It)} (h : MYs ls) (g : List UInt8) : 0 ≤ sumO ls g := by
  induction ls with
  | nil => simp [sumO]
  | cons x r ih =>
    have h1 := ih fun l hl => h l (by simp [hl])
    have h2 := (h x (by simp)).nonneg g
    simp only [sumO]
    omega
theorem sumO_sub {a b : List (List It)} (h : a.Sublist b) (hb : MYs b) (g : List UInt8) : sumO a g ≤ sumO b g := by
  induction h with
  | slnil => exact Int.le_refl _
  | cons x h ih =>
    have h1 := ih fun l hl => hb l (by simp [hl])
    have h2 := (hb x (by simp)).nonneg g
    simp only [sumO]
    omega
  | cons_cons x h ih =>
    have h1 := ih fun l hl => hb l (by simp [hl])
    simp only [sumO]
    omega
theorem leftO_of {offers : List (List It)} (ho : MYs offers) (g : List UInt8) : ∀ {want : List It}, MY want → ofL (leftO want offers) g = max 0 (ofL want g - sumO offers g) := by
  induction offers with
  | nil =>
    intro want h
    have := h.nonneg g
    simp only [leftO, List.foldl_nil, sumO]
    omega
  | cons o r ih =>
    intro want h
    have h1 := ih (fun l hl => ho l (by simp [hl])) (MY.rest h (ho o (by simp)))
    have h2 := sumO_nonneg (ls := r) (fun l hl => ho l (by simp [hl])) g
    have h3 := of_rest h (ho o (by simp)) g
    show ofL (leftO (restL want o) r) g = _
    rw [h1, h3]
    simp only [sumO]
    omega
theorem MY.nil_iff {l : List It} (h : MY l) : l.length = 0 ↔ ∀ g, ofL l g = 0 := by
  constructor
  · intro h0 g
    rw [List.eq_nil_of_length_eq_zero h0]
    rfl
  · intro h0
    cases l with
    | nil => rfl
    | cons x r =>
      have h1 := h.of_mem (x := x) (by simp)
      have h2 := h.num x (by simp)
      rw [h0] at h1
      omega
theorem left_nil {want : List It} {offers : List (List It)} (hw : MY want) (ho : MYs offers) : (leftO want offers).length = 0 ↔ ∀ g, ofL want g ≤ sumO offers g := by
  rw [(MY.leftO ho hw).nil_iff]
  constructor
  · intro h g
    have := h g
    rw [leftO_of ho g hw] at this
    omega
  · intro h g
    rw [leftO_of ho g hw]
    have := h g
    omega
/-- What is left does not hang on the offers' order. -/
theorem left_turned {want : List It} {a b : List (List It)} (hw : MY want) (ha : MYs a) (hb : MYs b) (h : ∀ g, sumO a g = sumO b g) : leftO want a = leftO want b :=
  MY.ext_of (MY.leftO ha hw) (MY.leftO hb hw) fun g => by rw [leftO_of ha g hw, leftO_of hb g hw, h]
/-- What is given and what is left are together what was wanted. -/
theorem given_sum {offers : List (List It)} (ho : MYs offers) (g : List UInt8) : ∀ {want : List It}, MY want → tot (givenO want offers).flatten g + ofL (leftO want offers) g = ofL want g := by
  induction offers with
  | nil => intro want h; simp [givenO, leftO, tot]
  | cons o r ih =>
    intro want h
    have h1 := ih (fun l hl => ho l (by simp [hl])) (MY.rest h (ho o (by simp)))
    have h2 := of_rest h (ho o (by simp)) g
    have h3 := of_meet h (ho o (by simp)) g
    have h4 := (MY.meet h (ho o (by simp))).tot_of g
    show tot (meetL want o :: givenO (restL want o) r).flatten g + ofL (leftO (restL want o) r) g = _
    rw [List.flatten_cons, tot_append, h4, h3]
    have h5 := h.nonneg g
    have h6 := (ho o (by simp)).nonneg g
    omega
theorem okN_flat {ls : List (List It)} (h : MYs ls) : Go.Proofs.Ytkofaobdpmbcaaa.okN ls.flatten = true := by
  unfold Go.Proofs.Ytkofaobdpmbcaaa.okN
  rw [List.all_eq_true]
  intro x hx
  obtain ⟨l, hl, hxl⟩ := List.mem_flatten.1 hx
  have h1 := (h l hl).good x hxl
  have h2 := (h l hl).num x hxl
  unfold okX cMay
  rw [h1]
  simp
  omega
theorem listed_self {want : List It} (h : MY want) (f : List UInt8 → Int) (hf : ∀ x ∈ want, f x.1 = x.2) : listedL (want.map (·.1)) f = want := by
  unfold listedL
  rw [List.filterMap_map]
  conv => rhs; rw [← List.filterMap_some (l := want)]
  refine fm_congr fun x hx => ?_
  have := h.num x hx
  show (if f x.1 = 0 then none else some (x.1, f x.1)) = some x
  rw [hf x hx, if_neg (by omega)]
theorem gather {want : List It} {all : List It} (hw : MY want) (hok : Go.Proofs.Ytkofaobdpmbcaaa.okN all = true) (hpos : ∀ x ∈ all, 1 ≤ x.2) (ht : ∀ g, tot all g = ofL want g) : normE all = 0 ∧ normR all = want := by
  have hr : rowsN all = want := by
    rw [rowsN_eq all (want.map (·.1)) hw.rise fun g => ?_]
    · exact listed_self hw _ fun x hx => by rw [ht, hw.of_mem hx]
    · constructor
      · intro hg
        obtain ⟨x, hx, rfl⟩ := List.mem_map.1 hg
        by_cases hn : ∀ y ∈ all, y.1 ≠ x.1
        · have h1 := tot_none hn
          rw [ht, hw.of_mem hx] at h1
          have := hw.num x hx
          omega
        · have : ∃ y ∈ all, y.1 = x.1 := by
            apply Classical.byContradiction
            intro hc
            exact hn fun y hy e => hc ⟨y, hy, e⟩
          obtain ⟨y, hy, e⟩ := this
          exact List.mem_map.2 ⟨y, hy, e⟩
      · intro hg
        obtain ⟨x, hx, rfl⟩ := List.mem_map.1 hg
        rcases hw.of_cases x.1 with ⟨h1, _⟩ | ⟨h1, _⟩
        · exact List.mem_map.2 ⟨_, h1, rfl⟩
        · rw [← ht] at h1
          obtain ⟨p, q, rfl⟩ := List.append_of_mem hx
          have h2 : tot (p ++ x :: q) x.1 = tot p x.1 + (x.2 + tot q x.1) := by
            rw [tot_append, show x :: q = [x] ++ q from rfl, tot_append]
            simp [tot]
          have h3 := tot_nonneg x.1 (l := p) fun y hy => by have := hpos y (by simp [hy]); omega
          have h4 := tot_nonneg x.1 (l := q) fun y hy => by have := hpos y (by simp [hy]); omega
          have := hpos x hx
          omega
  have ho : overL all = false := by
    unfold overL
    rw [List.any_eq_false]
    intro x hx
    rw [ht]
    have := hw.nonneg x.1
    simp
    omega
  have hE : normE all = 0 := normE_of hok ho (by rw [hr]; exact hw.len)
  refine ⟨hE, ?_⟩
  unfold normR
  rw [hE]
  exact hr
theorem split_gather {want : List It} {offers : List (List It)} (hw : MY want) (ho : MYs offers) : normE (leftO want offers ++ (givenO want offers).flatten) = 0 ∧ normR (leftO want offers ++ (givenO want offers).flatten) = want := by
  have hl := MY.leftO ho hw
  have hg := MYs.given ho hw
  refine gather hw ?_ ?_ fun g => ?_
  · have h1 := hl.okN
    have h2 := okN_flat hg
    unfold Go.Proofs.Ytkofaobdpmbcaaa.okN at h1 h2 ⊢
    rw [List.all_append, h1, h2]
    rfl
  · intro x hx
    rcases List.mem_append.1 hx with hx | hx
    · exact (hl.num x hx).1
    · obtain ⟨l, hl', hxl⟩ := List.mem_flatten.1 hx
      exact ((hg l hl').num x hxl).1
  · rw [tot_append, hl.tot_of]
    have := given_sum ho g hw
    omega

/-- The places of a choice. -/
def placesO (n c : Nat) : List Nat := (List.range n).filter fun i => c / 2 ^ i % 2 == 1
theorem placesO_succ (n c : Nat) : placesO (n + 1) c = if c / 2 ^ n % 2 = 1 then placesO n c ++ [n] else placesO n c := by
  unfold placesO
  rw [List.range_succ, List.filter_append]
  by_cases h : c / 2 ^ n % 2 = 1
  · rw [if_pos h]
    simp [h]
  · rw [if_neg h]
    simp [h]
theorem placesO_lt {n c p : Nat} (h : p ∈ placesO n c) : p < n := by
  unfold placesO at h
  have := (List.mem_filter.1 h).1
  exact List.mem_range.1 this
theorem placesO_len (n c : Nat) : (placesO n c).length ≤ n := by
  unfold placesO
  have := List.length_filter_le (fun i => c / 2 ^ i % 2 == 1) (List.range n)
  simpa using this
theorem placesO_more {n c : Nat} (h : c < 2 ^ n) : ∀ k, placesO (n + k) c = placesO n c
  | 0 => rfl
  | k + 1 => by
    rw [show n + (k + 1) = (n + k) + 1 by omega, placesO_succ, placesO_more h k, if_neg]
    have : 2 ^ n ≤ 2 ^ (n + k) := Nat.pow_le_pow_right (by decide) (by omega)
    rw [Nat.div_eq_of_lt (by omega)]
    decide
def chosenO (offers : List (List It)) (ps : List Nat) : List (List It) := ps.filterMap fun p => offers[p]?
theorem chosenO_snoc {offers : List (List It)} (ps : List Nat) {p : Nat} {l : List It} (h : offers[p]? = some l) : chosenO offers (ps ++ [p]) = chosenO offers ps ++ [l] := by
  unfold chosenO
  rw [List.filterMap_append]
  simp [h]
theorem chosen_sub (offers : List (List It)) (c : Nat) : ∀ k, (chosenO offers (placesO k c)).Sublist (offers.take k)
  | 0 => by simp [placesO, chosenO]
  | k + 1 => by
    have ih := chosen_sub offers c k
    rw [placesO_succ]
    cases hk : offers[k]? with
    | none =>
      have h1 : offers.take (k + 1) = offers.take k := by rw [List.take_add_one, hk]; simp
      rw [h1]
      split
      · unfold chosenO
        rw [List.filterMap_append]
        simp [hk]
        exact ih
      · exact ih
    | some l =>
      rw [List.take_add_one, hk]
      split
      · rw [chosenO_snoc _ hk]
        exact ih.append (List.Sublist.refl _)
      · exact ih.trans (List.sublist_append_left _ _)
theorem chosen_my {offers : List (List It)} (h : MYs offers) (ps : List Nat) : MYs (chosenO offers ps) := fun l hl => by
  unfold chosenO at hl
  obtain ⟨p, _, hp⟩ := List.mem_filterMap.1 hl
  exact h l (List.mem_of_getElem? hp)
theorem chosen_more {offers : List (List It)} {more : List It} {ps : List Nat} (h : ∀ p ∈ ps, p < offers.length) : chosenO (offers ++ [more]) ps = chosenO offers ps := by
  unfold chosenO
  exact fm_congr fun p hp => List.getElem?_append_left (h p hp)
theorem placesO_full (n : Nat) : ∀ k, k ≤ n → placesO k (2 ^ n - 1) = List.range k
  | 0, _ => rfl
  | k + 1, h => by
    rw [placesO_succ, placesO_full n k (by omega), List.range_succ, if_pos]
    have e : 2 ^ n = 2 ^ k * 2 ^ (n - k) := by rw [← Nat.pow_add]; congr 1; omega
    have e2 : 2 ^ (n - k) = 2 * 2 ^ (n - k - 1) := by rw [← Nat.pow_succ']; congr 1; omega
    have hk : 0 < 2 ^ k := Nat.pow_pos (by decide)
    have hq : 0 < 2 ^ (n - k - 1) := Nat.pow_pos (by decide)
    have h1 : (2 ^ n - 1) / 2 ^ k = 2 ^ (n - k) - 1 := by
      rw [e]
      rw [Nat.div_eq_iff hk]
      have : 2 ^ k * 2 ^ (n - k) = (2 ^ (n - k) - 1) * 2 ^ k + 2 ^ k := by
        rw [← Nat.succ_mul, Nat.mul_comm]
        congr 1
        omega
      omega
    rw [h1, e2]
    omega
theorem chosen_range (offers : List (List It)) : ∀ k, k ≤ offers.length → chosenO offers (List.range k) = offers.take k
  | 0, _ => rfl
  | k + 1, h => by
    have hk : offers[k]? = some offers[k] := List.getElem?_eq_getElem (by omega)
    rw [List.range_succ, chosenO_snoc _ hk, chosen_range offers k (by omega), List.take_add_one, hk]
    rfl
theorem chosen_all (offers : List (List It)) : chosenO offers (placesO offers.length (2 ^ offers.length - 1)) = offers := by
  rw [placesO_full _ _ (Nat.le_refl _), chosen_range _ _ (Nat.le_refl _), List.take_length]

/-- Is a to be had rather than b? -/
def fewB (a b : List Nat) : Bool := decide (a.length < b.length) || (decide (a.length = b.length) && decide (a < b))
theorem few_irr (a : List Nat) : fewB a a = false := by
  unfold fewB
  simp [List.lt_irrefl]
theorem few_trans {a b c : List Nat} (h : fewB a b = true) (k : fewB b c = true) : fewB a c = true := by
  unfold fewB at *
  simp at *
  rcases h with h | ⟨h, h'⟩
  · rcases k with k | ⟨k, k'⟩
    · left; omega
    · left; omega
  · rcases k with k | ⟨k, k'⟩
    · left; omega
    · right
      exact ⟨by omega, List.lt_trans h' k'⟩
theorem few_eq {a b : List Nat} (h : fewB a b = false) (k : fewB b a = false) : a = b := by
  unfold fewB at *
  simp at *
  obtain ⟨h1, h2⟩ := h
  obtain ⟨k1, k2⟩ := k
  have e : a.length = b.length := by omega
  exact List.le_antisymm (k2 e.symm) (h2 e)
theorem few_len {a b : List Nat} (h : fewB a b = false) : b.length ≤ a.length := by
  unfold fewB at h
  simp at h
  exact h.1

section
variable (n : Nat) (en : List Nat → Bool)
/-- The best of the first k choices, the one behind the other. -/
def stepP (best : List Nat) (c : Nat) : List Nat := match fewB (placesO n c) best && en (placesO n c) with | true => placesO n c | false => best
def stepR (best : List Nat) (c : Nat) : List Nat := match en (placesO n c) && (decide (best.length = 0) || fewB (placesO n c) best) with | true => placesO n c | false => best
def bestP (k : Nat) : List Nat := (List.range k).foldl (stepP n en) (placesO n (2 ^ n - 1))
def bestR (k : Nat) : List Nat := (List.range k).foldl (stepR n en) []
theorem bestP_succ (k : Nat) : bestP n en (k + 1) = stepP n en (bestP n en k) k := by simp [bestP, List.range_succ]
theorem bestR_succ (k : Nat) : bestR n en (k + 1) = stepR n en (bestR n en k) k := by simp [bestR, List.range_succ]
/-- It is one that is enough, and no other one is to be had rather. -/
def Best (k : Nat) (b : List Nat) : Prop := (∃ c, c < 2 ^ n ∧ b = placesO n c) ∧ en b = true ∧ ∀ c, c < k → en (placesO n c) = true → fewB (placesO n c) b = false
theorem Best.eq {a b : List Nat} (ha : Best n en (2 ^ n) a) (hb : Best n en (2 ^ n) b) : a = b := by
  obtain ⟨⟨c, hc, rfl⟩, h1, h2⟩ := ha
  obtain ⟨⟨d, hd, rfl⟩, k1, k2⟩ := hb
  exact few_eq (k2 c hc h1) (h2 d hd k1)
theorem bestP_best (hf : en (placesO n (2 ^ n - 1)) = true) : ∀ k, k ≤ 2 ^ n → Best n en k (bestP n en k)
  | 0, _ => ⟨⟨2 ^ n - 1, by have : 0 < 2 ^ n := Nat.pow_pos (by decide); omega, rfl⟩, hf, fun c h => by omega⟩
  | k + 1, h => by
    obtain ⟨h1, h2, h3⟩ := bestP_best hf k (by omega)
    rw [bestP_succ]
    unfold stepP
    cases hq : fewB (placesO n k) (bestP n en k) && en (placesO n k) with
    | true =>
      rw [Bool.and_eq_true] at hq
      refine ⟨⟨k, by omega, rfl⟩, hq.2, fun c hc he => ?_⟩
      rcases Nat.lt_succ_iff_lt_or_eq.1 hc with hc | rfl
      · have h4 := h3 c hc he
        cases h5 : fewB (placesO n c) (placesO n k) with
        | false => rfl
        | true => rw [few_trans h5 hq.1] at h4; cases h4
      · exact few_irr _
    | false =>
      refine ⟨h1, h2, fun c hc he => ?_⟩
      rcases Nat.lt_succ_iff_lt_or_eq.1 hc with hc | rfl
      · exact h3 c hc he
      · rw [he, Bool.and_true] at hq
        exact hq
theorem bestR_best (h0 : en [] = false) : ∀ k, k ≤ 2 ^ n → (bestR n en k = [] ∧ ∀ c, c < k → en (placesO n c) = false) ∨ Best n en k (bestR n en k)
  | 0, _ => .inl ⟨rfl, fun c h => by omega⟩
  | k + 1, h => by
    rw [bestR_succ]
    unfold stepR
    rcases bestR_best h0 k (by omega) with ⟨h1, h2⟩ | ⟨h1, h2, h3⟩
    · rw [h1]
      cases hq : en (placesO n k) with
      | false =>
        refine .inl ⟨rfl, fun c hc => ?_⟩
        rcases Nat.lt_succ_iff_lt_or_eq.1 hc with hc | rfl
        · exact h2 c hc
        · exact hq
      | true =>
        refine .inr ⟨⟨k, by omega, rfl⟩, hq, fun c hc he => ?_⟩
        rcases Nat.lt_succ_iff_lt_or_eq.1 hc with hc | rfl
        · rw [h2 c hc] at he
          cases he
        · exact few_irr _
    · have hne : (bestR n en k).length ≠ 0 := fun e => by
        rw [List.eq_nil_of_length_eq_zero e, h0] at h2
        cases h2
      rw [decide_eq_false hne, Bool.false_or]
      cases hq : en (placesO n k) && fewB (placesO n k) (bestR n en k) with
      | true =>
        rw [Bool.and_eq_true] at hq
        refine .inr ⟨⟨k, by omega, rfl⟩, hq.1, fun c hc he => ?_⟩
        rcases Nat.lt_succ_iff_lt_or_eq.1 hc with hc | rfl
        · have h4 := h3 c hc he
          cases h5 : fewB (placesO n c) (placesO n k) with
          | false => rfl
          | true => rw [few_trans h5 hq.2] at h4; cases h4
        · exact few_irr _
      | false =>
        refine .inr ⟨h1, h2, fun c hc he => ?_⟩
        rcases Nat.lt_succ_iff_lt_or_eq.1 hc with hc | rfl
        · exact h3 c hc he
        · rw [he, Bool.true_and] at hq
          exact hq
end
end Go.Proofs.Ytkofaobdpmbcaaa
