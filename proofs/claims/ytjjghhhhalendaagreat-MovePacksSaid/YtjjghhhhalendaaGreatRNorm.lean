/- Norm, as the document has it. No condition but that the list is one of memory, of up to 2^20 items. -/
import Derived.Test.YtjjghhhhalendaaGreatRPut
import Derived.Test.YtjjghhhhalendaaGreatZf
namespace Go.Proofs.YtjjghhhhalendaaGreat
open Go.RowKit Go.Maps Go.Shelf Go.Sort
set_option linter.unusedVariables false
set_option linter.unusedSimpArgs false

theorem rise_ext : ∀ (l l' : List It), (l.map (·.1)).Pairwise (fun a b => a < b) → (l'.map (·.1)).Pairwise (fun a b => a < b) → (∀ x, x ∈ l ↔ x ∈ l') → l = l' := by
  intro l
  induction l with
  | nil =>
    intro l' _ _ e
    cases l' with
    | nil => rfl
    | cons y l' => exact absurd ((e y).2 List.mem_cons_self) (by simp)
  | cons x l ih =>
    intro l' hp hp' e
    cases l' with
    | nil => exact absurd ((e x).1 List.mem_cons_self) (by simp)
    | cons y l' =>
      rw [List.map_cons, List.pairwise_cons] at hp hp'
      have hxy : x = y := by
        rcases List.mem_cons.1 ((e x).1 List.mem_cons_self) with h1 | h1
        · exact h1
        · rcases List.mem_cons.1 ((e y).2 List.mem_cons_self) with h2 | h2
          · exact h2.symm
          · exact absurd (List.lt_trans (hp.1 _ (List.mem_map_of_mem h2)) (hp'.1 _ (List.mem_map_of_mem h1))) (List.lt_irrefl _)
      subst hxy
      rw [ih l' hp.2 hp'.2 fun z => ?_]
      have hz := e z
      rw [List.mem_cons, List.mem_cons] at hz
      constructor
      · intro hm
        rcases hz.1 (.inr hm) with rfl | h1
        · exact absurd (hp.1 _ (List.mem_map_of_mem hm)) (List.lt_irrefl _)
        · exact h1
      · intro hm
        rcases hz.2 (.inr hm) with rfl | h1
        · exact absurd (hp'.1 _ (List.mem_map_of_mem hm)) (List.lt_irrefl _)
        · exact h1
theorem putL_facts (g : List UInt8) (n : Int) : ∀ (l : List It), (l.map (·.1)).Pairwise (fun a b => a < b) → ((putL g n l).map (·.1)).Pairwise (fun a b => a < b) ∧ (∀ y, y ∈ putL g n l ↔ y = (g, n) ∨ (y ∈ l ∧ y.1 ≠ g)) ∧ (putL g n l).length ≤ l.length + 1
  | [], _ => by simp [putL]
  | x :: l, hp => by
    rw [List.map_cons, List.pairwise_cons] at hp
    obtain ⟨h1, h2, h3⟩ := putL_facts g n l hp.2
    unfold putL
    by_cases hx : x.1 < g
    · rw [if_pos hx]
      refine ⟨?_, fun y => ?_, by simp; omega⟩
      · rw [List.map_cons, List.pairwise_cons]
        refine ⟨fun a ha => ?_, h1⟩
        obtain ⟨y, hy, rfl⟩ := List.mem_map.1 ha
        rcases (h2 y).1 hy with rfl | ⟨hy, _⟩
        · exact hx
        · exact hp.1 _ (List.mem_map_of_mem hy)
      · rw [List.mem_cons, h2, List.mem_cons]
        constructor
        · rintro (rfl | h | ⟨h, h'⟩)
          · exact .inr ⟨.inl rfl, fun e => by rw [e] at hx; exact List.lt_irrefl _ hx⟩
          · exact .inl h
          · exact .inr ⟨.inr h, h'⟩
        · rintro (h | ⟨rfl | h, h'⟩)
          · exact .inr (.inl h)
          · exact .inl rfl
          · exact .inr (.inr ⟨h, h'⟩)
    · rw [if_neg hx]
      have hne : ∀ y ∈ l, x.1 < y.1 := fun y hy => hp.1 _ (List.mem_map_of_mem hy)
      by_cases he : x.1 = g
      · rw [if_pos he]
        refine ⟨by rw [List.map_cons, List.pairwise_cons]; exact hp, fun y => ?_, by simp⟩
        rw [List.mem_cons, List.mem_cons, he]
        constructor
        · rintro (h | h)
          · exact .inl h
          · exact .inr ⟨.inr h, fun e => by have := hne y h; rw [he, e] at this; exact List.lt_irrefl _ this⟩
        · rintro (h | ⟨rfl | h, h'⟩)
          · exact .inl h
          · exact absurd he h'
          · exact .inr h
      · rw [if_neg he]
        have hgx : g < x.1 := by
          by_cases h5 : g < x.1
          · exact h5
          · exact absurd (List.le_antisymm (List.not_lt.1 h5) (List.not_lt.1 hx)) he
        refine ⟨?_, fun y => ?_, by simp⟩
        · rw [List.map_cons, List.map_cons, List.pairwise_cons, List.pairwise_cons]
          refine ⟨fun a ha => ?_, hp⟩
          rcases List.mem_cons.1 ha with rfl | ha
          · exact hgx
          · exact List.lt_trans hgx (hp.1 a ha)
        · rw [List.mem_cons, List.mem_cons]
          constructor
          · rintro (h | rfl | h)
            · exact .inl h
            · exact .inr ⟨.inl rfl, he⟩
            · exact .inr ⟨.inr h, fun e => by have := List.lt_trans hgx (hne y h); rw [e] at this; exact List.lt_irrefl _ this⟩
          · rintro (h | ⟨rfl | h, h'⟩)
            · exact .inl h
            · exact .inr (.inl rfl)
            · exact .inr (.inr h)
/-- What has been put together of the first of a list. -/
structure PutTo (l : List It) (i : Nat) (out : List It) : Prop where
  rise : (out.map (·.1)).Pairwise (fun a b => a < b)
  mem : ∀ y, y ∈ out ↔ ∃ x ∈ l.take i, 0 < tot l x.1 ∧ y = (x.1, tot l x.1)
  len : out.length ≤ i
  small : ∀ x ∈ l.take i, tot l x.1 ≤ 1099511627776
theorem PutTo.zero (l : List It) : PutTo l 0 [] := ⟨List.Pairwise.nil, fun y => by simp, Nat.le_refl _, fun x h => by simp at h⟩
theorem PutTo.skip {l : List It} {i : Nat} {out : List It} {x : It} (h : PutTo l i out) (hx : l[i]? = some x) (h0 : ¬ 0 < tot l x.1) : PutTo l (i + 1) out := by
  have ht : l.take (i + 1) = l.take i ++ [x] := by rw [List.take_add_one, hx]; rfl
  refine ⟨h.rise, fun y => ?_, by have := h.len; omega, fun z hz => ?_⟩
  · rw [h.mem, ht]
    constructor
    · rintro ⟨z, hz, h1⟩
      exact ⟨z, by simp [hz], h1⟩
    · rintro ⟨z, hz, h1, h2⟩
      rcases List.mem_append.1 hz with hz | hz
      · exact ⟨z, hz, h1, h2⟩
      · rw [List.mem_singleton] at hz
        subst hz
        exact absurd h1 h0
  · rw [ht] at hz
    rcases List.mem_append.1 hz with hz | hz
    · exact h.small z hz
    · rw [List.mem_singleton] at hz
      subst hz
      omega
theorem PutTo.put {l : List It} {i : Nat} {out : List It} {x : It} (h : PutTo l i out) (hx : l[i]? = some x) (h0 : 0 < tot l x.1) (h1 : tot l x.1 ≤ 1099511627776) : PutTo l (i + 1) (putL x.1 (tot l x.1) out) := by
  have ht : l.take (i + 1) = l.take i ++ [x] := by rw [List.take_add_one, hx]; rfl
  obtain ⟨p1, p2, p3⟩ := putL_facts x.1 (tot l x.1) out h.rise
  refine ⟨p1, fun y => ?_, by have := h.len; omega, fun z hz => ?_⟩
  · rw [p2, h.mem, ht]
    constructor
    · rintro (rfl | ⟨⟨z, hz, h2⟩, _⟩)
      · exact ⟨x, by simp, h0, rfl⟩
      · exact ⟨z, by simp [hz], h2⟩
    · rintro ⟨z, hz, h2, rfl⟩
      by_cases e : z.1 = x.1
      · rw [e]
        exact .inl rfl
      · rcases List.mem_append.1 hz with hz | hz
        · exact .inr ⟨⟨z, hz, h2, rfl⟩, e⟩
        · rw [List.mem_singleton] at hz
          subst hz
          exact absurd rfl e
  · rw [ht] at hz
    rcases List.mem_append.1 hz with hz | hz
    · exact h.small z hz
    · rw [List.mem_singleton] at hz
      subst hz
      exact h1
theorem PutTo.done {l : List It} {out : List It} (h : PutTo l l.length out) (hok : Go.Proofs.YtjjghhhhalendaaGreat.okN l = true) : overL l = false ∧ out = rowsN l := by
  have htk : l.take l.length = l := List.take_length
  have ho : overL l = false := List.any_eq_false.2 fun x hx => by
    have := h.small x (by rw [htk]; exact hx)
    simpa using this
  refine ⟨ho, ?_⟩
  obtain ⟨ks, hp, hm⟩ := rising_exists (l.map (·.1))
  rw [rowsN_eq l ks hp hm]
  refine rise_ext _ _ h.rise (listed_rise hp) fun y => ?_
  rw [h.mem, htk, mem_listed]
  constructor
  · rintro ⟨x, hx, h0, rfl⟩
    exact ⟨x.1, (hm _).2 (List.mem_map_of_mem hx), by omega, rfl⟩
  · rintro ⟨g, hg, h0, rfl⟩
    obtain ⟨x, hx, rfl⟩ := List.mem_map.1 ((hm g).1 hg)
    have := (tot_bound hok ho x.1).1
    exact ⟨x, hx, by omega, rfl⟩
theorem tot_take {l : List It} {k : Nat} {x : It} (g : List UInt8) (hx : l[k]? = some x) : tot (l.take (k + 1)) g = if x.1 = g then tot (l.take k) g + x.2 else tot (l.take k) g := by
  rw [List.take_add_one, hx]
  exact tot_snoc _ _ _
theorem okN_take {l : List It} {k : Nat} {x : It} (hx : l[k]? = some x) (h : Go.Proofs.YtjjghhhhalendaaGreat.okN (l.take k) = true) : Go.Proofs.YtjjghhhhalendaaGreat.okN (l.take (k + 1)) = okX x := by
  rw [List.take_add_one, hx]
  exact (okN_snoc _ _).trans (by rw [h]; rfl)

end Go.Proofs.YtjjghhhhalendaaGreat
