/- Timers, in the order in which they get due: pure. No condition. -/
import Derived.Test.YtiinlcfggjcmoaaWd
import Derived.Shelf.SlSortCmp.Insertion
import Derived.Sort.Statements
import Derived.Maps.Views
import Derived.Maps.OwnSet
namespace Go.Proofs.Ytiinlcfggjcmoaa
open Go.RowKit Go.Maps Go.Sort
set_option linter.unusedVariables false
set_option linter.unusedSimpArgs false

/-- A key and its time. -/
abbrev Tm := Int × Int
def ltT (a b : Tm) : Prop := a.2 < b.2 ∨ (a.2 = b.2 ∧ a.1 < b.1)
instance (a b : Tm) : Decidable (ltT a b) := by unfold ltT; infer_instance
def cmpI (a b : Int) : Int := if a < b then -1 else if b < a then 1 else 0
def orI (a b : Int) : Int := if a = 0 then b else a
def cfT (a b : Tm) : Int := orI (cmpI a.2 b.2) (cmpI a.1 b.1)
theorem cfT_iff (a b : Tm) : ltOf cfT a b = true ↔ ltT a b := by
  unfold ltOf cfT orI cmpI ltT
  simp only [decide_eq_true_eq]
  repeat' split
  all_goals omega
theorem cfT_not (a b : Tm) : ltOf cfT a b = false ↔ ¬ ltT a b := by rw [← cfT_iff]; simp
theorem swoT : SWO (ltOf cfT) where
  irrefl x := by rw [cfT_not]; unfold ltT; omega
  trans x y z h1 h2 := by rw [cfT_iff] at *; unfold ltT at *; omega
  ntrans x y z h1 h2 := by rw [cfT_not] at *; unfold ltT at *; omega
theorem eq_of_not_lt {x y : Tm} (h1 : ¬ ltT x y) (h2 : ¬ ltT y x) : x = y := by
  unfold ltT at *
  obtain ⟨a, b⟩ := x
  obtain ⟨c, d⟩ := y
  simp only [Prod.mk.injEq]
  omega
theorem totT (x y : Tm) (h1 : ltOf cfT x y = false) (h2 : ltOf cfT y x = false) : x = y := eq_of_not_lt ((cfT_not x y).1 h1) ((cfT_not y x).1 h2)
theorem ltT_trans {x y z : Tm} (h1 : ltT x y) (h2 : ltT y z) : ltT x z := by unfold ltT at *; omega
theorem ltT_irrefl (x : Tm) : ¬ ltT x x := by unfold ltT; omega

/-- In order, each key once. -/
structure OrdT (x : List Tm) : Prop where
  srt : x.Pairwise ltT
  keys : (x.map (·.1)).Nodup
theorem OrdT.nil : OrdT [] := ⟨List.Pairwise.nil, List.nodup_nil⟩
theorem OrdT.tail {t : Tm} {x : List Tm} (h : OrdT (t :: x)) : OrdT x := ⟨(List.pairwise_cons.1 h.srt).2, by have := h.keys; simp at this; exact this.2⟩
theorem OrdT.head {t : Tm} {x : List Tm} (h : OrdT (t :: x)) : ∀ y ∈ x, ltT t y := (List.pairwise_cons.1 h.srt).1
theorem OrdT.nodup {x : List Tm} (h : OrdT x) : x.Nodup := h.srt.imp (fun {a b} (hab : ltT a b) (e : a = b) => ltT_irrefl b (by rw [e] at hab; exact hab))
def dropT (x : List Tm) (k : Int) : List Tm := x.filter fun t => !decide (t.1 = k)
def insT (t : Tm) : List Tm → List Tm
  | [] => [t]
  | y :: l => if ltT t y then t :: y :: l else y :: insT t l
def setT (x : List Tm) (k a : Int) : List Tm := insT (k, a) (dropT x k)
theorem mem_insT (t y : Tm) (x : List Tm) : y ∈ insT t x ↔ y = t ∨ y ∈ x := by
  induction x with
  | nil => simp [insT]
  | cons z l ih =>
    rw [insT]
    split
    · simp
    · simp only [List.mem_cons, ih]
      grind
theorem len_insT (t : Tm) (x : List Tm) : (insT t x).length = x.length + 1 := by
  induction x with
  | nil => rfl
  | cons z l ih =>
    rw [insT]
    split
    · rfl
    · simp [ih]
theorem mem_dropT {t : Tm} {x : List Tm} {k : Int} : t ∈ dropT x k ↔ t ∈ x ∧ t.1 ≠ k := by simp [dropT]
theorem OrdT.drop {x : List Tm} (h : OrdT x) (k : Int) : OrdT (dropT x k) := ⟨h.srt.filter _, (List.filter_sublist.map _).nodup h.keys⟩
theorem OrdT.ins {x : List Tm} (t : Tm) (h : OrdT x) (hk : t.1 ∉ x.map (·.1)) : OrdT (insT t x) := by
  induction x with
  | nil => exact ⟨by simp [insT], by simp [insT]⟩
  | cons z l ih =>
    have hz : z.1 ≠ t.1 := fun e => hk (by simp [e])
    have hl : t.1 ∉ l.map (·.1) := fun e => hk (by simp at e ⊢; exact Or.inr e)
    rw [insT]
    split
    case isTrue hlt =>
      refine ⟨List.pairwise_cons.2 ⟨fun y hy => ?_, h.srt⟩, by simpa using ⟨by simpa using hk, by simpa using h.keys⟩⟩
      rcases List.mem_cons.1 hy with rfl | hy
      · exact hlt
      · exact ltT_trans hlt (h.head y hy)
    case isFalse hnl =>
      have hi := ih h.tail hl
      refine ⟨List.pairwise_cons.2 ⟨fun y hy => ?_, hi.srt⟩, ?_⟩
      · rcases (mem_insT t y l).1 hy with rfl | hy
        · by_cases hzy : ltT z y
          · exact hzy
          · exact absurd (eq_of_not_lt hzy hnl) (fun e => hz (by rw [e]))
        · exact h.head y hy
      · rw [List.map_cons, List.nodup_cons]
        refine ⟨fun e => ?_, hi.keys⟩
        obtain ⟨y, hy, hyz⟩ := List.mem_map.1 e
        rcases (mem_insT t y l).1 hy with rfl | hy
        · exact hz hyz.symm
        · have := h.keys
          rw [List.map_cons, List.nodup_cons] at this
          exact this.1 (hyz ▸ List.mem_map_of_mem hy)
theorem OrdT.set {x : List Tm} (h : OrdT x) (k a : Int) : OrdT (setT x k a) := (h.drop k).ins (k, a) (by
  intro e
  obtain ⟨y, hy, hyk⟩ := List.mem_map.1 e
  exact (mem_dropT.1 hy).2 hyk)
theorem len_dropT (x : List Tm) (k : Int) : (dropT x k).length ≤ x.length := List.length_filter_le _ _
theorem len_setT (x : List Tm) (k a : Int) : (setT x k a).length ≤ x.length + 1 := by have := len_dropT x k; rw [setT, len_insT]; omega
/-- However they came, put in order they are these. -/
theorem sort_eq {x l : List Tm} (h : OrdT x) (hp : l.Perm x) : l.mergeSort (fun a b => !(ltOf cfT) b a) = x := by
  have h1 : (l.mergeSort (fun a b => !(ltOf cfT) b a)).Perm x := (List.mergeSort_perm _ _).trans hp
  have h2 : (l.mergeSort (fun a b => !(ltOf cfT) b a)).Pairwise (fun a b => (!(ltOf cfT) b a) = true) := List.pairwise_mergeSort (fun a b c h1 h2 => by
    simp only [Bool.not_eq_true'] at *
    exact swoT.ntrans _ _ _ h2 h1) (fun a b => by
    cases hab : ltOf cfT b a
    · rfl
    · cases hba : ltOf cfT a b
      · simp
      · rw [cfT_iff] at hab hba
        exact absurd (ltT_trans hab hba) (ltT_irrefl _)) l
  have h3 : x.Pairwise (fun a b => (!(ltOf cfT) b a) = true) := h.srt.imp fun {a b} hab => by
    simp only [Bool.not_eq_true', cfT_not]
    exact fun h => ltT_irrefl _ (ltT_trans hab h)
  refine List.Perm.eq_of_pairwise (fun a b _ _ hab hba => ?_) h2 h3 h1
  simp only [Bool.not_eq_true'] at hab hba
  exact totT a b hba hab
theorem perm_of {x l : List Tm} (h : OrdT x) (hl : l.Nodup) (hm : ∀ t, t ∈ l ↔ t ∈ x) : l.Perm x := (List.perm_ext_iff_of_nodup hl h.nodup).2 hm
/-- The first. -/
theorem first_is {x : List Tm} (h : OrdT x) {t : Tm} (ht : t ∈ x) (hm : ∀ y ∈ x, y = t ∨ ltT t y) : x.head? = some t := by
  cases x with
  | nil => cases ht
  | cons z l =>
    rcases List.mem_cons.1 ht with rfl | ht
    · rfl
    · rcases hm z (by simp) with rfl | h2
      · rfl
      · exact absurd (ltT_trans h2 (h.head t ht)) (ltT_irrefl _)

/-- The map reads as these timers. -/
structure DT (D : DataW Unit) (x : List Tm) : Prop where
  tidy : Tidy D
  isMap : IsMap D
  has_ : ∀ k : Int, has D (.int .i64 k) = decide (k ∈ x.map (·.1))
  val : ∀ t ∈ x, ∀ z, D.atKey (.int .i64 t.1) z = .lit (.int .i64 t.2)
  size_ : size D = x.length
theorem int_lit (k : Int) : WideAt.IsKeyLit (Lit.int .i64 k) := by simp [WideAt.IsKeyLit]
theorem lit_ne {a b : Int} (h : a ≠ b) : Lit.int .i64 a ≠ Lit.int .i64 b := fun e => h (by injection e)
theorem DT.start : DT (.map []) [] := ⟨⟨[], rfl, List.Pairwise.nil⟩, isMap_empty, fun k => rfl, fun t h => by simp at h, rfl⟩
theorem key_one {x : List Tm} (h : OrdT x) {t u : Tm} (ht : t ∈ x) (hu : u ∈ x) (e : t.1 = u.1) : t = u := by
  induction x with
  | nil => cases ht
  | cons z l ih =>
    have hk := h.keys
    rw [List.map_cons, List.nodup_cons] at hk
    rcases List.mem_cons.1 ht with rfl | ht'
    · rcases List.mem_cons.1 hu with rfl | hu'
      · rfl
      · exact absurd (List.mem_map_of_mem (f := (·.1)) hu') (by rw [← e]; exact hk.1)
    · rcases List.mem_cons.1 hu with rfl | hu'
      · exact absurd (List.mem_map_of_mem (f := (·.1)) ht') (by rw [e]; exact hk.1)
      · exact ih h.tail ht' hu'
theorem len_drop_of {x : List Tm} (h : OrdT x) (k : Int) : (dropT x k).length + (if k ∈ x.map (·.1) then 1 else 0) = x.length := by
  induction x with
  | nil => rfl
  | cons z l ih =>
    have hk := h.keys
    rw [List.map_cons, List.nodup_cons] at hk
    have hi := ih h.tail
    by_cases e : z.1 = k
    · have hn : k ∉ l.map (·.1) := by rw [← e]; exact hk.1
      rw [if_neg hn] at hi
      have : dropT (z :: l) k = dropT l k := by simp [dropT, e]
      rw [this, if_pos (by rw [List.map_cons, e]; exact List.mem_cons_self), List.length_cons]
      omega
    · have : dropT (z :: l) k = z :: dropT l k := by simp [dropT, e]
      rw [this, List.length_cons, List.length_cons]
      have : (k ∈ (z :: l).map (·.1)) = (k ∈ l.map (·.1)) := by
        rw [List.map_cons, List.mem_cons]
        simp [show ¬ k = z.1 from fun h => e h.symm]
      simp only [this]
      omega
theorem DT.put {D : DataW Unit} {x : List Tm} (h : DT D x) (hx : OrdT x) (k a : Int) : DT (D.put (.int .i64 k) (.lit (.int .i64 a))) (setT x k a) := by
  refine ⟨h.tidy.put (int_lit k) _, h.isMap.put _ _, fun j => ?_, fun t ht z => ?_, ?_⟩
  · by_cases e : j = k
    · subst e
      rw [has_put_same h.isMap (int_lit _)]
      symm
      exact decide_eq_true (List.mem_map.2 ⟨(j, a), (mem_insT _ _ _).2 (.inl rfl), rfl⟩)
    · rw [has_put_other (lit_ne e), h.has_ j]
      congr 1
      simp only [List.mem_map, eq_iff_iff]
      constructor
      · rintro ⟨t, ht, rfl⟩
        exact ⟨t, (mem_insT _ _ _).2 (.inr (mem_dropT.2 ⟨ht, e⟩)), rfl⟩
      · rintro ⟨t, ht, rfl⟩
        rcases (mem_insT _ _ _).1 ht with rfl | ht
        · exact absurd rfl e
        · exact ⟨t, (mem_dropT.1 ht).1, rfl⟩
  · rcases (mem_insT _ _ _).1 ht with rfl | ht
    · exact atKey_put_same h.isMap (int_lit _) _ _
    · obtain ⟨h1, h2⟩ := mem_dropT.1 ht
      rw [atKey_put_other (lit_ne h2)]
      exact h.val t h1 z
  · rw [size_put h.tidy, h.has_ k, h.size_, setT, len_insT]
    have := len_drop_of hx k
    by_cases e : k ∈ x.map (·.1)
    · rw [if_pos e] at this
      rw [if_pos (decide_eq_true e)]
      omega
    · rw [if_neg e] at this
      rw [if_neg (by rw [decide_eq_false e]; simp)]
      omega
theorem DT.del {D : DataW Unit} {x : List Tm} (h : DT D x) (hx : OrdT x) (k : Int) : DT (D.del (.int .i64 k)) (dropT x k) := by
  refine ⟨h.tidy.del _, h.isMap.del _, fun j => ?_, fun t ht z => ?_, ?_⟩
  · by_cases e : j = k
    · subst e
      rw [has_del_same]
      symm
      exact decide_eq_false (fun h => by
        obtain ⟨t, ht, e⟩ := List.mem_map.1 h
        exact (mem_dropT.1 ht).2 e)
    · rw [has_del_other (lit_ne e), h.has_ j]
      congr 1
      simp only [List.mem_map, eq_iff_iff]
      constructor
      · rintro ⟨t, ht, rfl⟩
        exact ⟨t, mem_dropT.2 ⟨ht, e⟩, rfl⟩
      · rintro ⟨t, ht, rfl⟩
        exact ⟨t, (mem_dropT.1 ht).1, rfl⟩
  · obtain ⟨h1, h2⟩ := mem_dropT.1 ht
    rw [atKey_del_other (lit_ne h2)]
    exact h.val t h1 z
  · have h1 := size_del (k := .int .i64 k) h.tidy
    have h2 := len_drop_of hx k
    rw [h.has_ k, h.size_] at h1
    by_cases e : k ∈ x.map (·.1)
    · rw [if_pos e] at h2
      rw [if_pos (decide_eq_true e)] at h1
      omega
    · rw [if_neg e] at h2
      rw [if_neg (by rw [decide_eq_false e]; simp)] at h1
      omega
/-- A key's time. -/
def atT (x : List Tm) (k : Int) : Int := ((x.find? fun t => decide (t.1 = k)).map (·.2)).getD 0
theorem atT_mem {x : List Tm} (h : OrdT x) {t : Tm} (ht : t ∈ x) : atT x t.1 = t.2 := by
  unfold atT
  cases hf : x.find? (fun u => decide (u.1 = t.1)) with
  | none => have := List.find?_eq_none.1 hf t ht; simp at this
  | some u =>
    have h1 := List.mem_of_find?_eq_some hf
    have h2 := List.find?_some hf
    simp at h2
    rw [key_one h h1 ht h2]
    rfl
theorem atT_none {x : List Tm} {k : Int} (h : k ∉ x.map (·.1)) : atT x k = 0 := by
  unfold atT
  cases hf : x.find? (fun u => decide (u.1 = k)) with
  | none => rfl
  | some u =>
    exfalso
    have h1 := List.mem_of_find?_eq_some hf
    have h2 := List.find?_some hf
    simp at h2
    exact h (List.mem_map.2 ⟨u, h1, h2⟩)
theorem DT.at_ {D : DataW Unit} {x : List Tm} (h : DT D x) (hx : OrdT x) (k : Int) : D.atKey (.int .i64 k) (.lit (.int .i64 0)) = .lit (.int .i64 (atT x k)) := by
  by_cases e : k ∈ x.map (·.1)
  · obtain ⟨t, ht, rfl⟩ := List.mem_map.1 e
    rw [h.val t ht, atT_mem hx ht]
  · rw [atKey_of_not_has (by rw [h.has_]; exact decide_eq_false e), atT_none e]
end Go.Proofs.Ytiinlcfggjcmoaa
