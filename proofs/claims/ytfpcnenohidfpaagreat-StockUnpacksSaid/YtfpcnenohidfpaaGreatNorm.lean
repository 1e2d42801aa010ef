/- Norm: a list's sums, in order. No condition but that the list is one of memory, of up to 2^20 items. -/
import Derived.Test.YtfpcnenohidfpaaGreatAgainst
import Derived.Test.YtfpcnenohidfpaaGreatCnt
namespace Go.Proofs.YtfpcnenohidfpaaGreat
open Go.RowKit Go.Maps Go.Shelf Go.Sort
set_option linter.unusedVariables false
set_option linter.unusedSimpArgs false
attribute [local go_sem] Oper.semAt_some

theorem wf_mk {a : Int} (h0 : -9223372036854775808 ≤ a) (h1 : a ≤ 9223372036854775807) : (Lit.int .i64 a).wf = true := by
  simpa [Lit.wf, IntKind.min, IntKind.max, IntKind.signed, IntKind.bits] using And.intro h0 h1
/-- Each has a good, and a count. -/
def okX (x : It) : Bool := gOK x.1 && cMay x.2
def okN (l : List It) : Bool := l.all okX
theorem okN_snoc (l : List It) (x : It) : okN (l ++ [x]) = (okN l && okX x) := by simp [okN, List.all_append]
theorem okN_not {l pre : List It} (hp : pre <+: l) (h : okN pre = false) : okN l = false := by
  obtain ⟨t, rfl⟩ := hp
  unfold okN at h ⊢
  rw [List.all_append, h]
  rfl
theorem okN_mem {l : List It} (h : okN l = true) {x : It} (hx : x ∈ l) : gOK x.1 = true ∧ 0 ≤ x.2 ∧ x.2 ≤ 1099511627776 := by
  have := List.all_eq_true.1 h x hx
  simp [okX, cMay] at this
  exact this
/-- A good has too many. -/
def overL (l : List It) : Bool := l.any fun x => decide (1099511627776 < tot l x.1)
theorem tot_none {g : List UInt8} : ∀ {l : List It}, (∀ x ∈ l, x.1 ≠ g) → tot l g = 0 := by
  intro l
  induction l using snoc_ind with
  | h0 => intro _; rfl
  | h1 l x ih =>
    intro h
    rw [tot_snoc, if_neg (h x (by simp)), ih fun y hy => h y (by simp [hy])]
theorem tot_nonneg (g : List UInt8) : ∀ {l : List It}, (∀ x ∈ l, 0 ≤ x.2) → 0 ≤ tot l g := by
  intro l
  induction l using snoc_ind with
  | h0 => intro _; exact Int.le_refl 0
  | h1 l x ih =>
    intro h
    have h1 := ih fun y hy => h y (by simp [hy])
    have h2 := h x (by simp)
    rw [tot_snoc]
    split <;> omega
theorem tot_mono (g : List UInt8) (pre : List It) : ∀ {t : List It}, (∀ x ∈ t, 0 ≤ x.2) → tot pre g ≤ tot (pre ++ t) g := by
  intro t
  induction t using snoc_ind with
  | h0 => intro _; simp
  | h1 t x ih =>
    intro h
    have h1 := ih fun y hy => h y (by simp [hy])
    have h2 := h x (by simp)
    rw [← List.append_assoc, tot_snoc]
    split <;> omega
theorem tot_bound {l : List It} (hok : okN l = true) (ho : overL l = false) (g : List UInt8) : 0 ≤ tot l g ∧ tot l g ≤ 1099511627776 := by
  refine ⟨tot_nonneg g fun x hx => (okN_mem hok hx).2.1, ?_⟩
  by_cases h : ∃ x ∈ l, x.1 = g
  · obtain ⟨x, hx, rfl⟩ := h
    have := List.any_eq_false.1 ho x hx
    simp at this
    exact this
  · rw [tot_none fun x hx e => h ⟨x, hx, e⟩]
    decide
theorem over_more {l pre : List It} (hp : pre <+: l) (hok : okN l = true) (h : overL pre = true) : overL l = true := by
  obtain ⟨t, rfl⟩ := hp
  obtain ⟨x, hx, h2⟩ := List.any_eq_true.1 h
  simp at h2
  refine List.any_eq_true.2 ⟨x, by simp [hx], ?_⟩
  have := tot_mono x.1 pre (t := t) fun y hy => (okN_mem hok (by simp [hy])).2.1
  simp
  omega
theorem over_snoc {pre : List It} {x : It} (ho : overL pre = false) (h : tot pre x.1 + x.2 ≤ 1099511627776) : overL (pre ++ [x]) = false := by
  refine List.any_eq_false.2 fun y hy => ?_
  simp only [decide_eq_true_eq]
  rw [tot_snoc]
  by_cases e : x.1 = y.1
  · rw [if_pos e, ← e]
    omega
  · rw [if_neg e]
    rcases List.mem_append.1 hy with hy | hy
    · have := List.any_eq_false.1 ho y hy
      simpa using this
    · simp at hy
      subst hy
      exact absurd rfl e
theorem over_now {pre : List It} {x : It} (h : ¬ tot pre x.1 + x.2 ≤ 1099511627776) : overL (pre ++ [x]) = true := by
  refine List.any_eq_true.2 ⟨x, by simp, ?_⟩
  rw [tot_snoc, if_pos rfl]
  simp
  omega

/-- The map of sums. -/
def valOf (D : DataW Unit) (g : List UInt8) : Int := match D.atKey (.string g) (.lit (.int .i64 0)) with | .lit (.int _ n) => n | _ => 0
def sumsN (l : List It) : DataW Unit := l.foldl (fun D x => D.put (.string x.1) (.lit (.int .i64 (valOf D x.1 + x.2)))) (.map [])
theorem sumsN_sm (l : List It) : SM (sumsN l) (tot l) (l.map (·.1)) := by
  induction l using snoc_ind with
  | h0 => exact SM.start
  | h1 l x ih =>
    have hs : sumsN (l ++ [x]) = (sumsN l).put (.string x.1) (.lit (.int .i64 (valOf (sumsN l) x.1 + x.2))) := by simp [sumsN]
    have hv : valOf (sumsN l) x.1 = tot l x.1 := by unfold valOf; rw [ih.val]
    rw [hs, hv, List.map_append]
    have h := ih.put x.1 (tot l x.1 + x.2)
    refine ⟨h.isMap, fun g => ?_, h.has_⟩
    rw [h.val g, tot_snoc]
    by_cases e : g = x.1
    · subst e
      simp
    · rw [if_neg e, if_neg (fun e' => e e'.symm)]
theorem sumsN_snoc (l : List It) (x : It) : sumsN (l ++ [x]) = (sumsN l).put (.string x.1) (.lit (.int .i64 (tot l x.1 + x.2))) := by
  have hv : valOf (sumsN l) x.1 = tot l x.1 := by unfold valOf; rw [(sumsN_sm l).val]
  rw [← hv]
  simp [sumsN]
def rowsN (l : List It) : List It := listedL ((strKeys (sumsN l)).mergeSort leB) (tot l)
def normE (l : List It) : Int := match okN l with
  | false => 60
  | true => match overL l with
    | true => 50
    | false => match decide (16 < (rowsN l).length) with
      | true => 3
      | false => 0
def normR (l : List It) : List It := match normE l with
  | 0 => rowsN l
  | _ => []
theorem heap_row {W W' : World} {row : Option Nat} {D B : Nat} {o : Obj} (h : W.heap[D]? = some o) (hg : W.grownBy W' row) (hD : D < B) (hr : ∀ r, row = some r → B ≤ r ∧ ∃ o : Obj, W.heap[r]? = some o ∧ o.isCells = false) : W'.heap[D]? = some o :=
  (hg.block D (Array.getElem?_eq_some_iff.1 h).1 fun e => by have := (hr _ e.symm).1; omega).trans h
theorem OI.set_ {base : Nat} {W : World} {v : Value} {l : List It} (h : OI base W v l) {b : Nat} (hb : b < base) (i : Nat) (u : Value) : OI base (W.setCell ⟨b, i, none⟩ u) v l :=
  h.kept ((Keep.refl (fun k => k = b) W).setCell (p := ⟨b, i, none⟩) (fun _ => rfl) u) fun g hg e => by have := (h.lt g hg).1; omega

end Go.Proofs.YtfpcnenohidfpaaGreat
