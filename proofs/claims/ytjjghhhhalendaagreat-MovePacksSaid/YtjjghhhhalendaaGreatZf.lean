/- Texts of this proof in one: IOpen, Ord, Kept6, Par6. No condition. -/
import Derived.Test.YtjjghhhhalendaaGreatRMay
import Derived.ProofKit
import Derived.OpenShut
import Derived.ShutString
import Derived.ChangeOld
import Derived.SizedLaws
import Derived.ChangeArms
import Derived.Deep.Slices
import Derived.Deep.SlicePairs
namespace Go.Proofs.YtjjghhhhalendaaGreat
section
open Go.RowKit
set_option linter.unusedVariables false

theorem own : ownKnob Tryz.prog.godebug = none := by kernel_rfl
theorem laidOut : laidOutB Tryz.prog = true := by kernel_rfl
theorem bytes_item : Tryz.prog.bytesOf 54 = 24 := by kernel_rfl

set_option maxRecDepth 100000 in
open Go.ChangeShapes Go.WideShapes in
theorem items_open {H : Type} {enc : TypeId × Value → H} {W : World} {a : Option Addr} {len cap : Nat} {d : DataW H} {p : List MemPlace}
    (h : DataW.Trod enc Tryz.prog W 0 (fun _ => true) true 30 (.slice a len cap) d p) :
    ∃ l, IL W a len l ∧ WL l ∧ len ≤ cap ∧ cap ≤ 9223372036854775807 ∧ ((d = .nil ∧ cap = 0) ∨ ∃ es sp, d = .slice es sp ∧ es.length + sp.length = cap) := by
  obtain ⟨fuel, hf⟩ := h
  rcases Go.Deep.open_slice_pairs Tryz.underlying30 Tryz.underlying54 (by kernel_rfl) rfl rfl (by kernel_rfl) (by kernel_rfl) hf with ⟨hcs, hx⟩ | ⟨x, l, c, m, n, V0, V1, D0, D1, P0, P1, hcs, _, hl, hm, hmm, hx, hi⟩
  · simp [Value.cells] at hcs
    obtain ⟨rfl, rfl, rfl⟩ := hcs
    simp only [Prod.mk.injEq] at hx
    exact ⟨[], IL.nil _ _, fun x h => by simp at h, Nat.le_refl _, by omega, .inl ⟨hx.1, rfl⟩⟩
  · simp [Value.cells] at hcs
    obtain ⟨rfl, rfl, rfl⟩ := hcs
    simp at hmm
    subst hmm
    simp only [Prod.mk.injEq] at hx
    obtain ⟨b, off, spot⟩ := x
    have key : ∀ i, ∃ y : It, i < m → (spot = none ∧ W.cell? ⟨b, off + i * 2, none⟩ = some (.string ⟨y.1.toArray⟩) ∧ W.cell? ⟨b, off + i * 2 + 1, none⟩ = some (.int .i64 y.2)) ∧ y.1.length ≤ maxLen ∧ (Lit.int .i64 y.2).wf = true := by
      intro i
      by_cases hil : i < m
      · obtain ⟨h0, h1, t0, t1⟩ := hi i hil
        obtain ⟨s, e0, x0, w0⟩ := DataW.trod_string Tryz.underlying9 t0
        obtain ⟨q, e1, x1, w1⟩ := DataW.trod_int Tryz.underlying3 t1
        simp only [List.cons.injEq, and_true] at e0 e1
        have hspot : spot = none := by
          have := World.cell?_spot (hi 0 (by omega)).1
          simpa [Addr.add] using this
        subst hspot
        rw [e0] at h0
        rw [e1] at h1
        rw [Addr.add_lit] at h0 h1
        refine ⟨(s.data.toList, q), fun _ => ⟨⟨rfl, ?_, h1⟩, ?_, w1⟩⟩
        · simpa using h0
        · rw [Array.length_toList]; exact w0
      · exact ⟨([], 0), fun h => absurd h hil⟩
    refine ⟨(List.range len).map (fun i => (key i).choose), ⟨by simp, fun j x hx => ?_⟩, fun x hx => ?_, hl, by unfold maxLen at hm; omega, .inr ⟨_, _, hx.1, by simp; omega⟩⟩
    · have hj : j < len := by
        have := (List.getElem?_eq_some_iff.1 hx).1
        simpa using this
      rw [List.getElem?_map, List.getElem?_range hj] at hx
      simp only [Option.map_some, Option.some.injEq] at hx
      subst hx
      obtain ⟨⟨rfl, h0, h1⟩, _⟩ := (key j).choose_spec (by omega)
      exact ⟨b, off, rfl, h0, h1⟩
    · rw [List.mem_map] at hx
      obtain ⟨i, hi, rfl⟩ := hx
      rw [List.mem_range] at hi
      exact ((key i).choose_spec (by omega)).2
theorem WL.long {l : List It} (h : WL l) : ∀ x ∈ l, x.1.length ≤ 9223372036854775807 := fun x hx => by
  have := (h x hx).1
  unfold maxLen at this
  omega
end
section
open Go.RowKit
set_option linter.unusedVariables false
set_option linter.unusedSimpArgs false

/-- Goods rise; each number is above 0 and not too great. -/
structure MY (l : List It) : Prop where
  rise : (l.map (·.1)).Pairwise (fun a b => a < b)
  num : ∀ x ∈ l, 1 ≤ x.2 ∧ x.2 ≤ 1099511627776
  good : ∀ x ∈ l, gOK x.1 = true
  len : l.length ≤ 16
theorem MY.of_ {l : List It} (h : mayL l = true) : MY l := by
  obtain ⟨h1, h2⟩ := mayL_from h
  have key : ∀ (l : List It) (last : List UInt8), mayFrom last l = true → ∀ x ∈ l, (1 ≤ x.2 ∧ x.2 ≤ 1099511627776) ∧ gOK x.1 = true := by
    intro l
    induction l with
    | nil => intro _ _ x hx; simp at hx
    | cons y l ih =>
      intro last h x hx
      rw [mayFrom, Bool.and_eq_true] at h
      rcases List.mem_cons.1 hx with rfl | hx
      · have := h.1
        simp [okAt, cMay] at this
        exact ⟨⟨by omega, this.2.2⟩, this.1.1.1⟩
      · exact ih _ h.2 x hx
  exact ⟨(rising_pairwise l [] h2).1, fun x hx => (key l [] h2 x hx).1, fun x hx => (key l [] h2 x hx).2, h1⟩
theorem MY.may {l : List It} (h : MY l) : mayL l = true := by
  have key : ∀ (l : List It) (last : List UInt8), (l.map (·.1)).Pairwise (fun a b => a < b) → (∀ x ∈ l, 1 ≤ x.2 ∧ x.2 ≤ 1099511627776) → (∀ x ∈ l, gOK x.1 = true) → (∀ x ∈ l, last < x.1) → mayFrom last l = true := by
    intro l
    induction l with
    | nil => intros; rfl
    | cons y l ih =>
      intro last h1 h2 h3 h4
      rw [List.map_cons, List.pairwise_cons] at h1
      rw [mayFrom, Bool.and_eq_true]
      refine ⟨?_, ih y.1 h1.2 (fun x hx => h2 x (List.mem_cons_of_mem _ hx)) (fun x hx => h3 x (List.mem_cons_of_mem _ hx)) fun x hx => h1.1 _ (List.mem_map_of_mem hx)⟩
      have hn := h2 y List.mem_cons_self
      have hg := h3 y List.mem_cons_self
      have hl := h4 y List.mem_cons_self
      have hl' : ¬ y.1 ≤ last := List.not_le.2 hl
      simp only [okAt, hg, hl', cMay, decide_false, Bool.not_false, Bool.true_and, Bool.and_eq_true, Bool.not_eq_true', decide_eq_false_iff_not, decide_eq_true_eq]
      omega
  have h0 : mayFrom [] l = true := key l [] h.rise h.num h.good fun x hx => by
    have := h.good x hx
    exact List.not_le.1 (gOK_pos this)
  unfold mayL
  rw [h0]
  simp [h.len]
/-- The number of a good. -/
theorem MY.of_mem {l : List It} (h : MY l) {x : It} (hx : x ∈ l) : ofL l x.1 = x.2 := by
  have key : ∀ (l : List It), (l.map (·.1)).Pairwise (fun a b => a < b) → (∀ x ∈ l, 1 ≤ x.2 ∧ x.2 ≤ 1099511627776) → ∀ x ∈ l, ofL l x.1 = x.2 := by
    intro l
    induction l using snoc_ind with
    | h0 => intro _ _ x hx; simp at hx
    | h1 l y ih =>
      intro hp hn x hx
      rw [ofL_snoc]
      rw [List.map_append, List.pairwise_append] at hp
      obtain ⟨hp1, _, hp3⟩ := hp
      rcases List.mem_append.1 hx with hx | hx
      · have hlt : x.1 < y.1 := hp3 _ (List.mem_map_of_mem hx) _ (by simp)
        rw [if_neg (fun e => by rw [e] at hlt; exact List.lt_irrefl _ hlt)]
        exact ih hp1 (fun x hx => hn x (List.mem_append_left _ hx)) x hx
      · rw [List.mem_singleton] at hx
        subst hx
        have h0 : ofL l x.1 = 0 := by
          have : ∀ (l : List It), (∀ z ∈ l, z.1 < x.1) → ofL l x.1 = 0 := by
            intro l
            induction l using snoc_ind with
            | h0 => intro _; rfl
            | h1 l z ih =>
              intro hz
              rw [ofL_snoc, if_neg (fun e => by have := hz z (by simp); rw [e] at this; exact List.lt_irrefl _ this)]
              exact ih fun z hz' => hz z (List.mem_append_left _ hz')
          exact this l fun z hz => hp3 _ (List.mem_map_of_mem hz) _ (by simp)
        have := hn x (by simp)
        rw [if_pos rfl, h0]
        unfold wrap64
        omega
  exact key l h.rise h.num x hx
theorem of_none {g : List UInt8} {l : List It} (h : ∀ x ∈ l, x.1 ≠ g) : ofL l g = 0 := by
  induction l using snoc_ind with
  | h0 => rfl
  | h1 l z ih =>
    rw [ofL_snoc, if_neg (h z (by simp))]
    exact ih fun z hz' => h z (List.mem_append_left _ hz')
/-- .. in every case. -/
theorem MY.of_cases {l : List It} (h : MY l) (g : List UInt8) : ((g, ofL l g) ∈ l ∧ 1 ≤ ofL l g ∧ ofL l g ≤ 1099511627776) ∨ (ofL l g = 0 ∧ ∀ x ∈ l, x.1 ≠ g) := by
  by_cases hx : ∃ x ∈ l, x.1 = g
  · obtain ⟨x, hx, rfl⟩ := hx
    have e := h.of_mem hx
    exact .inl ⟨by rw [e]; exact hx, by rw [e]; exact h.num x hx⟩
  · have hn : ∀ x ∈ l, x.1 ≠ g := fun x h1 h2 => hx ⟨x, h1, h2⟩
    exact .inr ⟨of_none hn, hn⟩
theorem MY.nonneg {l : List It} (h : MY l) (g : List UInt8) : 0 ≤ ofL l g ∧ ofL l g ≤ 1099511627776 := by
  rcases h.of_cases g with ⟨_, h1, h2⟩ | ⟨h1, _⟩ <;> omega
/-- Two of the same numbers are the same. -/
theorem MY.ext {l l' : List It} (h : MY l) (h' : MY l') (e : ∀ x, x ∈ l ↔ x ∈ l') : l = l' := by
  have key : ∀ (l l' : List It), (l.map (·.1)).Pairwise (fun a b => a < b) → (l'.map (·.1)).Pairwise (fun a b => a < b) → (∀ x, x ∈ l ↔ x ∈ l') → l = l' := by
    intro l
    induction l with
    | nil =>
      intro l' _ _ e
      cases l' with
      | nil => rfl
      | cons y l' => exact absurd ((e y).2 List.mem_cons_self) (by simp)
    | cons x l ih =>
      intro l' hp hp' e
      cases l' with
      | nil => exact absurd ((e x).1 List.mem_cons_self) (by simp)
      | cons y l' =>
        rw [List.map_cons, List.pairwise_cons] at hp hp'
        have hxy : x = y := by
          rcases List.mem_cons.1 ((e x).1 List.mem_cons_self) with h1 | h1
          · exact h1
          · rcases List.mem_cons.1 ((e y).2 List.mem_cons_self) with h2 | h2
            · exact h2.symm
            · exact absurd (List.lt_trans (hp.1 _ (List.mem_map_of_mem h2)) (hp'.1 _ (List.mem_map_of_mem h1))) (List.lt_irrefl _)
        subst hxy
        rw [ih l' hp.2 hp'.2 fun z => ?_]
        have hz := e z
        rw [List.mem_cons, List.mem_cons] at hz
        constructor
        · intro hm
          rcases hz.1 (.inr hm) with rfl | h1
          · exact absurd (hp.1 _ (List.mem_map_of_mem hm)) (List.lt_irrefl _)
          · exact h1
        · intro hm
          rcases hz.2 (.inr hm) with rfl | h1
          · exact absurd (hp'.1 _ (List.mem_map_of_mem hm)) (List.lt_irrefl _)
          · exact h1
  exact key l l' h.rise h'.rise e
/-- What is left may be. -/
theorem MY.left {l : List It} (h : MY l) {f : It → Int} (hf : ∀ x ∈ l, 0 ≤ f x ∧ f x ≤ 1099511627776) : MY (leftL f l) := by
  have hmem : ∀ y ∈ leftL f l, ∃ x ∈ l, f x ≠ 0 ∧ y = (x.1, f x) := fun y hy => by
    unfold leftL at hy
    rw [List.mem_filterMap] at hy
    obtain ⟨x, hx, e⟩ := hy
    by_cases h0 : f x = 0
    · simp [h0] at e
    · simp [h0] at e
      exact ⟨x, hx, h0, e.symm⟩
  refine ⟨?_, fun y hy => ?_, fun y hy => ?_, ?_⟩
  · have hs : ((leftL f l).map (·.1)).Sublist (l.map (·.1)) := by
      unfold leftL
      clear hmem h hf
      induction l with
      | nil => exact List.Sublist.slnil
      | cons x l ih =>
        by_cases h0 : f x = 0
        · simpa [List.filterMap_cons, h0] using ih.cons x.1
        · simpa [List.filterMap_cons, h0] using ih
    exact h.rise.sublist hs
  · obtain ⟨x, hx, h0, rfl⟩ := hmem y hy
    have := hf x hx
    exact ⟨by show 1 ≤ f x; omega, this.2⟩
  · obtain ⟨x, hx, h0, rfl⟩ := hmem y hy
    exact h.good x hx
  · exact Nat.le_trans (List.length_filterMap_le _ _) h.len
theorem mem_left {f : It → Int} {l : List It} {y : It} : y ∈ leftL f l ↔ ∃ x ∈ l, f x ≠ 0 ∧ y = (x.1, f x) := by
  unfold leftL
  rw [List.mem_filterMap]
  constructor
  · rintro ⟨x, hx, e⟩
    by_cases h0 : f x = 0
    · simp [h0] at e
    · simp [h0] at e
      exact ⟨x, hx, h0, e.symm⟩
  · rintro ⟨x, hx, h0, rfl⟩
    exact ⟨x, hx, by simp [h0]⟩
section
variable {a b c : List It} (ha : MY a) (hb : MY b) (hc : MY c)
include ha hb
theorem MY.both : (mayL a && mayL b) = true := by rw [ha.may, hb.may]; rfl
theorem MY.meet : MY (meetL a b) := by
  unfold meetL
  rw [MY.both ha hb]
  exact ha.left fun x hx => by
    have := ha.num x hx
    have := hb.nonneg x.1
    omega
theorem MY.rest : MY (restL a b) := by
  unfold restL
  rw [MY.both ha hb]
  exact ha.left fun x hx => by
    have := ha.num x hx
    have := hb.nonneg x.1
    unfold wrap64
    omega
theorem mem_meet {y : It} : y ∈ meetL a b ↔ ∃ x ∈ a, min x.2 (ofL b x.1) ≠ 0 ∧ y = (x.1, min x.2 (ofL b x.1)) := by
  unfold meetL
  rw [MY.both ha hb]
  exact mem_left
theorem mem_rest {y : It} : y ∈ restL a b ↔ ∃ x ∈ a, max 0 (x.2 - ofL b x.1) ≠ 0 ∧ y = (x.1, max 0 (x.2 - ofL b x.1)) := by
  unfold restL
  rw [MY.both ha hb]
  refine mem_left.trans ?_
  have hw : ∀ x ∈ a, wrap64 (x.2 - ofL b x.1) = x.2 - ofL b x.1 := fun x hx => by
    have := ha.num x hx
    have := hb.nonneg x.1
    unfold wrap64
    omega
  constructor
  · rintro ⟨x, hx, h0, rfl⟩
    rw [hw x hx] at h0 ⊢
    exact ⟨x, hx, h0, rfl⟩
  · rintro ⟨x, hx, h0, rfl⟩
    exact ⟨x, hx, by rw [hw x hx]; exact h0, by rw [hw x hx]⟩
/-- a covers b: of each good of b it has as many. -/
theorem covers_iff : coversL a b = true ↔ ∀ x ∈ b, x.2 ≤ ofL a x.1 := by
  unfold coversL
  rw [MY.both ha hb, Bool.true_and, decide_eq_true_eq, List.length_eq_zero_iff]
  constructor
  · intro h x hx
    by_cases hle : x.2 ≤ ofL a x.1
    · exact hle
    · have : (x.1, max 0 (x.2 - ofL a x.1)) ∈ restL b a := (mem_rest hb ha).2 ⟨x, hx, by omega, rfl⟩
      rw [h] at this
      simp at this
  · intro h
    rw [List.eq_nil_iff_forall_not_mem]
    intro y hy
    obtain ⟨x, hx, h0, _⟩ := (mem_rest hb ha).1 hy
    have := h x hx
    omega
theorem covers_le : coversL a b = true ↔ ∀ g, ofL b g ≤ ofL a g := by
  rw [covers_iff ha hb]
  constructor
  · intro h g
    rcases hb.of_cases g with ⟨h1, _⟩ | ⟨h1, _⟩
    · exact h _ h1
    · rw [h1]
      exact (ha.nonneg g).1
  · intro h x hx
    have := h x.1
    rw [hb.of_mem hx] at this
    exact this
theorem same_iff : (coversL a b && coversL b a) = decide (a = b) := by
  by_cases e : a = b
  · subst e
    have := (covers_le ha ha).2 fun g => Int.le_refl _
    simp [this]
  · rw [decide_eq_false e]
    cases h : (coversL a b && coversL b a) with
    | false => rfl
    | true =>
      exfalso
      rw [Bool.and_eq_true, covers_le ha hb, covers_le hb ha] at h
      have hof : ∀ g, ofL a g = ofL b g := fun g => by
        have := h.1 g
        have := h.2 g
        omega
      have hmem : ∀ {a b : List It}, MY a → MY b → (∀ g, ofL a g = ofL b g) → ∀ x ∈ a, x ∈ b := fun {a b} ha hb h x hx => by
        have e := ha.of_mem hx
        have hn := ha.num x hx
        rw [h] at e
        rcases hb.of_cases x.1 with ⟨h1, _⟩ | ⟨h1, _⟩
        · rw [e] at h1
          exact h1
        · omega
      exact e (ha.ext hb fun x => ⟨hmem ha hb hof x, hmem hb ha (fun g => (hof g).symm) x⟩)
theorem of_meet (g : List UInt8) : ofL (meetL a b) g = min (ofL a g) (ofL b g) := by
  have hm := MY.meet ha hb
  have hb0 := hb.nonneg g
  have ha0 := ha.nonneg g
  rcases hm.of_cases g with ⟨h1, h2, _⟩ | ⟨h1, h2⟩
  · obtain ⟨x, hx, h0, e⟩ := (mem_meet ha hb).1 h1
    injection e with e1 e2
    subst e1
    rw [e2, ha.of_mem hx]
  · rw [h1]
    rcases ha.of_cases g with ⟨h3, h4, _⟩ | ⟨h3, _⟩
    · by_cases hz : ofL b g = 0
      · omega
      · exact absurd rfl (h2 _ ((mem_meet ha hb).2 ⟨_, h3, by show min (ofL a g) (ofL b g) ≠ 0; omega, rfl⟩))
    · omega
theorem of_rest (g : List UInt8) : ofL (restL a b) g = max 0 (ofL a g - ofL b g) := by
  have hm := MY.rest ha hb
  have hb0 := hb.nonneg g
  have ha0 := ha.nonneg g
  rcases hm.of_cases g with ⟨h1, h2, _⟩ | ⟨h1, h2⟩
  · obtain ⟨x, hx, h0, e⟩ := (mem_rest ha hb).1 h1
    injection e with e1 e2
    subst e1
    rw [e2, ha.of_mem hx]
  · rw [h1]
    rcases ha.of_cases g with ⟨h3, h4, _⟩ | ⟨h3, _⟩
    · by_cases hz : ofL a g ≤ ofL b g
      · omega
      · exact absurd rfl (h2 _ ((mem_rest ha hb).2 ⟨_, h3, by show max 0 (ofL a g - ofL b g) ≠ 0; omega, rfl⟩))
    · omega
end
end
section
open Go.RowKit
set_option linter.unusedVariables false
theorem below_drewN (w : World) (q : Nat) : Below w.heap.size w (w.drewN q) := by
  have h := Below.refl w.heap.size w
  exact ⟨h.1, h.2, h.3, h.4, h.5⟩
theorem refmay_b (A : Option Addr) (n c : Nat) (l : List It) (w : World) (hl : IL w A n l) (hn : n ≤ 9223372036854775807) (hs : ∀ x ∈ l, x.1.length ≤ 9223372036854775807) :
    Calls Tryz.prog 28 #[.slice A n c] w fun e w' => e = .returned (.bool (mayL l)) ∧ Below w.heap.size w w' :=
  (refmay_any A n c l w hl hn hs).mono fun e w' ⟨h, q, hq⟩ => ⟨h, by rw [hq]; exact below_drewN w q⟩
theorem same_b (A A' : Option Addr) (n c n' c' : Nat) (l l' : List It) (w : World) (hl : IL w A n l) (hl' : IL w A' n' l') (hn : n ≤ 9223372036854775807) :
    Calls Tryz.prog 20 #[.slice A n c, .slice A' n' c'] w fun e w' => e = .returned (.bool (decide (l = l'))) ∧ Below w.heap.size w w' :=
  (same_any A A' n c n' c' l l' w hl hl' hn).mono fun e w' ⟨h, q, hq⟩ => ⟨h, by rw [hq]; exact below_drewN w q⟩
theorem WL.meet {a b : List It} (h : WL a) : WL (meetL a b) := fun x hx => by
  unfold meetL at hx
  cases hm : (mayL a && mayL b) with
  | false =>
    rw [hm] at hx
    exact absurd hx (by simp [ifMay])
  | true =>
    rw [hm] at hx
    obtain ⟨y, hy, _, rfl⟩ := mem_left.1 hx
    exact ⟨(h y hy).1, h.min b y hy⟩
theorem WL.rest {a b : List It} (h : WL a) : WL (restL a b) := fun x hx => by
  unfold restL at hx
  cases hm : (mayL a && mayL b) with
  | false =>
    rw [hm] at hx
    exact absurd hx (by simp [ifMay])
  | true =>
    rw [hm] at hx
    obtain ⟨y, hy, _, rfl⟩ := mem_left.1 hx
    exact ⟨(h y hy).1, h.max b y hy⟩
end
section
open Go.RowKit Go.Maps Go.Shelf Go.Sort
set_option linter.unusedVariables false
set_option linter.unusedSimpArgs false

theorem tot_append (l : List It) (g : List UInt8) (l' : List It) : tot (l ++ l') g = tot l g + tot l' g := by
  induction l' using snoc_ind with
  | h0 => simp [tot]
  | h1 l' x ih =>
    rw [← List.append_assoc, tot_snoc, tot_snoc, ih]
    split <;> omega
theorem MY.tot_of {l : List It} (h : MY l) (g : List UInt8) : tot l g = ofL l g := by
  have key : ∀ (l : List It), (l.map (·.1)).Pairwise (fun a b => a < b) → (∀ x ∈ l, 1 ≤ x.2 ∧ x.2 ≤ 1099511627776) → tot l g = ofL l g := by
    intro l
    induction l using snoc_ind with
    | h0 => intro _ _; rfl
    | h1 l y ih =>
      intro hp hn
      rw [List.map_append, List.pairwise_append] at hp
      obtain ⟨hp1, _, hp3⟩ := hp
      rw [tot_snoc, ofL_snoc]
      by_cases e : y.1 = g
      · have hne : ∀ z ∈ l, z.1 ≠ g := fun z hz e2 => by
          have := hp3 z.1 (List.mem_map_of_mem hz) y.1 (by simp)
          rw [e2, e] at this
          exact List.lt_irrefl _ this
        rw [if_pos e, if_pos e, tot_none hne, of_none hne]
        have := hn y (by simp)
        unfold wrap64
        omega
      · rw [if_neg e, if_neg e]
        exact ih hp1 fun x hx => hn x (List.mem_append_left _ hx)
  exact key l h.rise h.num
theorem MY.okN {l : List It} (h : MY l) : okN l = true := by
  refine List.all_eq_true.2 fun x hx => ?_
  have := h.num x hx
  have hg := h.good x hx
  simp only [okX, cMay, hg, Bool.true_and, Bool.and_eq_true, decide_eq_true_eq]
  omega
theorem MY.ext_of {l l' : List It} (h : MY l) (h' : MY l') (e : ∀ g, ofL l g = ofL l' g) : l = l' := by
  have hmem : ∀ {a b : List It}, MY a → MY b → (∀ g, ofL a g = ofL b g) → ∀ x ∈ a, x ∈ b := fun {a b} ha hb h x hx => by
    have e := ha.of_mem hx
    have hn := ha.num x hx
    rw [h] at e
    rcases hb.of_cases x.1 with ⟨h1, _⟩ | ⟨h1, _⟩
    · rw [e] at h1
      exact h1
    · omega
  exact h.ext h' fun x => ⟨hmem h h' e x, hmem h' h (fun g => (e g).symm) x⟩
theorem rising_exists (l : List (List UInt8)) : ∃ ks : List (List UInt8), ks.Pairwise (fun a b => a < b) ∧ ∀ g, g ∈ ks ↔ g ∈ l := by
  induction l with
  | nil => exact ⟨[], List.Pairwise.nil, fun g => Iff.rfl⟩
  | cons x l ih =>
    obtain ⟨ks, h1, h2⟩ := ih
    refine ⟨ks.filter (fun g => decide (g < x)) ++ x :: ks.filter (fun g => decide (x < g)), ?_, fun g => ?_⟩
    · rw [List.pairwise_append]
      refine ⟨h1.filter _, List.pairwise_cons.2 ⟨fun g hg => ?_, h1.filter _⟩, fun a ha b hb => ?_⟩
      · simpa using (List.mem_filter.1 hg).2
      · have h3 : a < x := by simpa using (List.mem_filter.1 ha).2
        rcases List.mem_cons.1 hb with rfl | hb
        · exact h3
        · have h4 : x < b := by simpa using (List.mem_filter.1 hb).2
          exact List.lt_trans h3 h4
    · rw [List.mem_append, List.mem_cons, List.mem_filter, List.mem_filter, h2, List.mem_cons, decide_eq_true_eq, decide_eq_true_eq]
      constructor
      · rintro (⟨h, _⟩ | h | ⟨h, _⟩)
        · exact .inr h
        · exact .inl h
        · exact .inr h
      · rintro (h | h)
        · exact .inr (.inl h)
        · by_cases e : g = x
          · exact .inr (.inl e)
          · by_cases hlt : g < x
            · exact .inl ⟨h, hlt⟩
            · refine .inr (.inr ⟨h, ?_⟩)
              by_cases h5 : x < g
              · exact h5
              · exact absurd (List.le_antisymm (List.not_lt.1 h5) (List.not_lt.1 hlt)) e
theorem mem_listed {ks : List (List UInt8)} {f : List UInt8 → Int} {y : It} : y ∈ listedL ks f ↔ ∃ g ∈ ks, f g ≠ 0 ∧ y = (g, f g) := by
  unfold listedL
  rw [List.mem_filterMap]
  constructor
  · rintro ⟨g, hg, e⟩
    by_cases h0 : f g = 0
    · simp [h0] at e
    · simp [h0] at e
      exact ⟨g, hg, h0, e.symm⟩
  · rintro ⟨g, hg, h0, rfl⟩
    exact ⟨g, hg, by simp [h0]⟩
theorem listed_rise {f : List UInt8 → Int} : ∀ {ks : List (List UInt8)}, ks.Pairwise (fun a b => a < b) → ((listedL ks f).map (·.1)).Pairwise (fun a b => a < b) := by
  intro ks h
  have hs : ((listedL ks f).map (·.1)).Sublist ks := by
    unfold listedL
    clear h
    induction ks with
    | nil => exact List.Sublist.slnil
    | cons x l ih =>
      by_cases h0 : f x = 0
      · simpa [List.filterMap_cons, h0] using ih.cons x
      · simpa [List.filterMap_cons, h0] using ih
  exact h.sublist hs
/-- A list's sums: a list that may be. -/
theorem MY.rows {l : List It} (hok : Go.Proofs.YtjjghhhhalendaaGreat.okN l = true) (ho : overL l = false) (hlen : (rowsN l).length ≤ 16) : MY (rowsN l) ∧ ∀ g, ofL (rowsN l) g = tot l g := by
  obtain ⟨ks, hp, hm⟩ := rising_exists (l.map (·.1))
  have hr := rowsN_eq l ks hp hm
  have hnum : ∀ x ∈ rowsN l, (1 ≤ x.2 ∧ x.2 ≤ 1099511627776) ∧ gOK x.1 = true ∧ x.2 = tot l x.1 := fun x hx => by
    rw [hr] at hx
    obtain ⟨g, hg, h0, rfl⟩ := mem_listed.1 hx
    have hb := tot_bound hok ho g
    rw [hm, List.mem_map] at hg
    obtain ⟨y, hy, rfl⟩ := hg
    exact ⟨⟨by show 1 ≤ tot l y.1; omega, hb.2⟩, (okN_mem hok hy).1, rfl⟩
  have hmy : MY (rowsN l) := ⟨by rw [hr]; exact listed_rise hp, fun x hx => (hnum x hx).1, fun x hx => (hnum x hx).2.1, hlen⟩
  refine ⟨hmy, fun g => ?_⟩
  rcases hmy.of_cases g with ⟨h1, _⟩ | ⟨h1, h2⟩
  · exact (hnum _ h1).2.2
  · rw [h1]
    by_cases h0 : tot l g = 0
    · exact h0.symm
    · exfalso
      have hg : g ∈ ks := by
        rw [hm, List.mem_map]
        by_cases hx : ∃ x ∈ l, x.1 = g
        · obtain ⟨x, hx, e⟩ := hx
          exact ⟨x, hx, e⟩
        · exact absurd (tot_none fun x h1 h2 => hx ⟨x, h1, h2⟩) h0
      refine h2 (g, tot l g) ?_ rfl
      rw [hr]
      exact mem_listed.2 ⟨g, hg, h0, rfl⟩
theorem normE_zero {l : List It} (h : normE l = 0) : Go.Proofs.YtjjghhhhalendaaGreat.okN l = true ∧ overL l = false ∧ (rowsN l).length ≤ 16 := by
  unfold normE at h
  cases h1 : Go.Proofs.YtjjghhhhalendaaGreat.okN l with
  | false => rw [h1] at h; simp at h
  | true =>
    cases h2 : overL l with
    | true => rw [h1, h2] at h; simp at h
    | false =>
      cases h3 : decide (16 < (rowsN l).length) with
      | true => rw [h1, h2, h3] at h; simp at h
      | false => exact ⟨rfl, rfl, by have := of_decide_eq_false h3; omega⟩
theorem normE_of {l : List It} (h1 : Go.Proofs.YtjjghhhhalendaaGreat.okN l = true) (h2 : overL l = false) (h3 : (rowsN l).length ≤ 16) : normE l = 0 := by
  unfold normE
  rw [h1, h2, decide_eq_false (by omega : ¬ 16 < (rowsN l).length)]
/-- All numbers. -/
def sumI (l : List It) : Int := l.foldl (fun s x => s + x.2) 0
theorem sumI_snoc (l : List It) (x : It) : sumI (l ++ [x]) = sumI l + x.2 := by simp [sumI]
theorem sumI_append (l l' : List It) : sumI (l ++ l') = sumI l + sumI l' := by
  induction l' using snoc_ind with
  | h0 => simp [sumI]
  | h1 l' x ih => rw [← List.append_assoc, sumI_snoc, sumI_snoc, ih]; omega
theorem total_sum (l : List It) : totalL l = wrap64 (sumI l) := by
  induction l using snoc_ind with
  | h0 => decide +kernel
  | h1 l x ih =>
    rw [totalL_snoc, sumI_snoc, ih]
    unfold wrap64
    omega
def sumK (ks : List (List UInt8)) (f : List UInt8 → Int) : Int := ks.foldr (fun g s => f g + s) 0
theorem sumK_add (ks : List (List UInt8)) (f h : List UInt8 → Int) : sumK ks (fun g => f g + h g) = sumK ks f + sumK ks h := by
  induction ks with
  | nil => rfl
  | cons g ks ih =>
    show (f g + h g) + sumK ks _ = (f g + sumK ks f) + (h g + sumK ks h)
    rw [ih]
    omega
theorem sumK_none (ks : List (List UInt8)) (x : List UInt8) (n : Int) (h : x ∉ ks) : sumK ks (fun g => if x = g then n else 0) = 0 := by
  induction ks with
  | nil => rfl
  | cons g ks ih =>
    show (if x = g then n else 0) + sumK ks _ = 0
    rw [ih fun hm => h (List.mem_cons_of_mem _ hm), if_neg fun e => h (by rw [e]; exact List.mem_cons_self)]
    rfl
theorem sumK_one (ks : List (List UInt8)) (x : List UInt8) (n : Int) (hp : ks.Pairwise (fun a b => a < b)) (h : x ∈ ks) : sumK ks (fun g => if x = g then n else 0) = n := by
  induction ks with
  | nil => simp at h
  | cons g ks ih =>
    show (if x = g then n else 0) + sumK ks _ = n
    rw [List.pairwise_cons] at hp
    by_cases e : x = g
    · subst e
      rw [if_pos rfl, sumK_none ks x n fun hm => List.lt_irrefl _ (hp.1 x hm)]
      omega
    · rw [if_neg e, ih hp.2 ((List.mem_cons.1 h).resolve_left e)]
      omega
theorem sumK_tot (ks : List (List UInt8)) (hp : ks.Pairwise (fun a b => a < b)) (l : List It) (hm : ∀ x ∈ l, x.1 ∈ ks) : sumK ks (tot l) = sumI l := by
  induction l using snoc_ind with
  | h0 =>
    show sumK ks (fun _ => 0) = 0
    clear hp hm
    induction ks with
    | nil => rfl
    | cons g ks ih => show 0 + sumK ks _ = 0; rw [ih]; rfl
  | h1 l x ih =>
    have hf : tot (l ++ [x]) = fun g => tot l g + (if x.1 = g then x.2 else 0) := by
      funext g
      rw [tot_snoc]
      split <;> omega
    rw [hf, sumK_add, ih fun y hy => hm y (by simp [hy]), sumK_one ks x.1 x.2 hp (hm x (by simp)), sumI_snoc]
theorem sumI_listed (f : List UInt8 → Int) (ks : List (List UInt8)) : sumI (listedL ks f) = sumK ks f := by
  induction ks with
  | nil => rfl
  | cons g ks ih =>
    have hs : listedL (g :: ks) f = (if f g = 0 then [] else [(g, f g)]) ++ listedL ks f := by
      unfold listedL
      by_cases h0 : f g = 0 <;> simp [h0]
    rw [hs, sumI_append, ih]
    show _ = f g + sumK ks f
    by_cases h0 : f g = 0
    · rw [if_pos h0, h0]
      rfl
    · rw [if_neg h0]
      have : sumI [(g, f g)] = f g := by simp [sumI]
      omega
theorem sumI_rows (l : List It) : sumI (rowsN l) = sumI l := by
  obtain ⟨ks, hp, hm⟩ := rising_exists (l.map (·.1))
  rw [rowsN_eq l ks hp hm, sumI_listed, sumK_tot ks hp l fun x hx => (hm _).2 (List.mem_map_of_mem hx)]
section
variable {a b : List It} (ha : MY a) (hb : MY b)
include ha hb
theorem okN_app : Go.Proofs.YtjjghhhhalendaaGreat.okN (a ++ b) = true := by
  have h1 := ha.okN
  have h2 := hb.okN
  unfold Go.Proofs.YtjjghhhhalendaaGreat.okN at h1 h2 ⊢
  rw [List.all_append, h1, h2]
  rfl
theorem plusE_norm : plusE a b = normE (a ++ b) := by
  unfold plusE
  rw [MY.both ha hb]
theorem plusR_norm : plusR a b = normR (a ++ b) := by
  unfold plusR
  rw [MY.both ha hb]
  rfl
/-- Both together. -/
theorem plus_ok (h : plusE a b = 0) : MY (plusR a b) ∧ (∀ g, ofL (plusR a b) g = ofL a g + ofL b g) ∧ totalL (plusR a b) = wrap64 (totalL a + totalL b) := by
  rw [plusE_norm ha hb] at h
  have hR : plusR a b = rowsN (a ++ b) := by
    rw [plusR_norm ha hb]
    unfold normR
    rw [h]
    rfl
  obtain ⟨h1, h2, h3⟩ := normE_zero h
  obtain ⟨hmy, hof⟩ := MY.rows h1 h2 h3
  rw [hR]
  refine ⟨hmy, fun g => ?_, ?_⟩
  · rw [hof, tot_append, ha.tot_of, hb.tot_of]
  · rw [total_sum, total_sum, total_sum, sumI_rows, sumI_append]
    unfold wrap64
    omega
/-- What both have and the rest. -/
theorem parts_ok : plusE (meetL a b) (restL a b) = 0 ∧ plusR (meetL a b) (restL a b) = a := by
  have hm := MY.meet ha hb
  have hr := MY.rest ha hb
  have htot : ∀ g, tot (meetL a b ++ restL a b) g = ofL a g := fun g => by
    rw [tot_append, hm.tot_of, hr.tot_of, of_meet ha hb, of_rest ha hb]
    omega
  have hmem : ∀ x ∈ meetL a b ++ restL a b, x.1 ∈ a.map (·.1) := fun x hx => by
    rcases List.mem_append.1 hx with hx | hx
    · obtain ⟨y, hy, _, rfl⟩ := (mem_meet ha hb).1 hx
      exact List.mem_map.2 ⟨y, hy, rfl⟩
    · obtain ⟨y, hy, _, rfl⟩ := (mem_rest ha hb).1 hx
      exact List.mem_map.2 ⟨y, hy, rfl⟩
  have hks : ∀ g, g ∈ a.map (·.1) ↔ g ∈ (meetL a b ++ restL a b).map (·.1) := fun g => by
    constructor
    · intro hg
      by_cases hx : ∃ x ∈ meetL a b ++ restL a b, x.1 = g
      · obtain ⟨x, hx, rfl⟩ := hx
        exact List.mem_map_of_mem hx
      · have h0 : tot (meetL a b ++ restL a b) g = 0 := tot_none fun x h1 h2 => hx ⟨x, h1, h2⟩
        rw [htot] at h0
        obtain ⟨y, hy, rfl⟩ := List.mem_map.1 hg
        have := ha.num y hy
        rw [ha.of_mem hy] at h0
        omega
    · intro hg
      obtain ⟨x, hx, rfl⟩ := List.mem_map.1 hg
      exact hmem x hx
  have hlist : ∀ (l : List It), (∀ x ∈ l, 1 ≤ x.2 ∧ ofL a x.1 = x.2) → listedL (l.map (·.1)) (ofL a) = l := by
    intro l
    induction l with
    | nil => intro _; rfl
    | cons x l ih =>
      intro h
      have hx := h x List.mem_cons_self
      have ih' := ih fun y hy => h y (List.mem_cons_of_mem _ hy)
      unfold listedL at ih' ⊢
      rw [List.map_cons, List.filterMap_cons, if_neg (by omega : ¬ ofL a x.1 = 0), ih', hx.2]
  have hrows : rowsN (meetL a b ++ restL a b) = a := by
    rw [rowsN_eq _ (a.map (·.1)) ha.rise hks]
    have : tot (meetL a b ++ restL a b) = ofL a := funext htot
    rw [this]
    exact hlist a fun x hx => ⟨(ha.num x hx).1, ha.of_mem hx⟩
  have hover : overL (meetL a b ++ restL a b) = false := by
    refine List.any_eq_false.2 fun x hx => ?_
    rw [htot]
    have := (ha.nonneg x.1).2
    simp
    omega
  have hE : normE (meetL a b ++ restL a b) = 0 := normE_of (okN_app hm hr) hover (by rw [hrows]; exact ha.len)
  refine ⟨by rw [plusE_norm hm hr]; exact hE, ?_⟩
  rw [plusR_norm hm hr]
  unfold normR
  rw [hE]
  exact hrows
/-- Put together and taken away again. -/
theorem minus_back (h : plusE a b = 0) : minusE (plusR a b) b = 0 ∧ minusR (plusR a b) b = a ∧ coversL (plusR a b) a = true ∧ coversL (plusR a b) b = true := by
  obtain ⟨hp, hof, _⟩ := plus_ok ha hb h
  have hcb : coversL (plusR a b) b = true := (covers_le hp hb).2 fun g => by
    rw [hof]
    have := ha.nonneg g
    omega
  have hca : coversL (plusR a b) a = true := (covers_le hp ha).2 fun g => by
    rw [hof]
    have := hb.nonneg g
    omega
  have hE : minusE (plusR a b) b = 0 := by
    unfold minusE
    rw [MY.both hp hb, hcb]
  refine ⟨hE, ?_, hca, hcb⟩
  unfold minusR
  rw [hE]
  exact (MY.rest hp hb).ext_of ha fun g => by
    rw [of_rest hp hb, hof]
    have := ha.nonneg g
    omega
end
end
end Go.Proofs.YtjjghhhhalendaaGreat
