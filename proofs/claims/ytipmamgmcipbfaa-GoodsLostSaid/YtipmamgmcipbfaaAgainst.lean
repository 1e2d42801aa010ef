/- against, Meet, Rest: what is left of each good of a list, over another. No condition but that the lists are ones of memory. -/
import Derived.Test.YtipmamgmcipbfaaListed
namespace Go.Proofs.Ytipmamgmcipbfaa
open Go.RowKit Go.Maps Go.Shelf Go.Sort
set_option linter.unusedVariables false
set_option linter.unusedSimpArgs false
attribute [local go_sem] Oper.semAt_some

theorem OI.putD {base : Nat} {W : World} {v : Value} {l : List It} {D : Nat} (h : OI base W v l) (hD : W.heap[D]? = some (.deferred (some []))) : OI base (W.putObj D (.deferred none)) v l :=
  h.kept (Keep.of_grown (grownBy_putObj' W D _)) fun g hg e => by
    cases e
    obtain ⟨o, h1, h2⟩ := h.blk D hg
    rw [hD] at h1
    cases h1
    cases h2
theorem IL.row {W W' : World} {A : Option Addr} {n : Nat} {l : List It} {row : Option Nat} {B : Nat} (h : IL W A n l) (hg : W.grownBy W' row) (hA : ∀ ad, A = some ad → 0 < n → ad.block < B) (hr : ∀ r, row = some r → B ≤ r ∧ ∃ o : Obj, W.heap[r]? = some o ∧ o.isCells = false) : IL W' A n l :=
  h.kept (Keep.of_grown hg) fun ad h1 h2 e => by have := (hr _ e).1; have := hA ad h1 h2; omega
theorem maps_row {H : Type} {P : Program} {k : TypeId} {R : Value → Option (DataW H × List MemPlace)} {W W' : World} {b n B : Nat} {D : DataW H} {row : Option Nat} (h : W.ownsMap P k R b n D) (hg : W.grownBy W' row) (hb : b < B) (hr : ∀ r, row = some r → B ≤ r ∧ ∃ o : Obj, W.heap[r]? = some o ∧ o.isCells = false) : W'.ownsMap P k R b n D :=
  h.kept hg fun e => by have := (hr _ e.symm).1; omega

/-- The map of what is left. -/
def sumsOf (f : It → Int) (l : List It) : DataW Unit := l.foldl (fun D x => D.put (.string x.1) (.lit (.int .i64 (f x)))) (.map [])
theorem sumsOf_snoc (f : It → Int) (l : List It) (x : It) : sumsOf f (l ++ [x]) = (sumsOf f l).put (.string x.1) (.lit (.int .i64 (f x))) := by simp [sumsOf]
def lastV (f : It → Int) (l : List It) (g : List UInt8) : Int := l.foldl (fun s x => if x.1 = g then f x else s) 0
theorem lastV_snoc (f : It → Int) (l : List It) (x : It) (g : List UInt8) : lastV f (l ++ [x]) g = if x.1 = g then f x else lastV f l g := by simp [lastV]
theorem sumsOf_sm (f : It → Int) (l : List It) : SM (sumsOf f l) (lastV f l) (l.map (·.1)) := by
  induction l using snoc_ind with
  | h0 => exact SM.start
  | h1 l x ih =>
    rw [sumsOf_snoc]
    have h := ih.put x.1 (f x)
    rw [List.map_append]
    refine ⟨h.isMap, fun g => ?_, h.has_⟩
    rw [h.val g, lastV_snoc]
    by_cases e : g = x.1
    · subst e
      simp
    · rw [if_neg e, if_neg (fun e' => e e'.symm)]
theorem rising_pairwise : ∀ (l : List It) (last : List UInt8), mayFrom last l = true → (l.map (·.1)).Pairwise (fun a b => a < b) ∧ ∀ g ∈ l.map (·.1), last < g
  | [], _, _ => ⟨List.Pairwise.nil, fun g h => by simp at h⟩
  | x :: l, last, h => by
    rw [mayFrom, Bool.and_eq_true] at h
    obtain ⟨h1, h2⟩ := rising_pairwise l x.1 h.2
    have hx : last < x.1 := by
      have := h.1
      simp [okAt] at this
      exact this.1.1.2
    refine ⟨List.pairwise_cons.2 ⟨h2, h1⟩, fun g hg => ?_⟩
    rw [List.map_cons, List.mem_cons] at hg
    rcases hg with rfl | hg
    · exact hx
    · exact List.lt_trans hx (h2 g hg)
theorem mayL_from {l : List It} (h : mayL l = true) : l.length ≤ 16 ∧ mayFrom [] l = true := by simpa [mayL] using h
/-- A map's keys in order, where they rise. -/
theorem keys_sorted {H : Type} {D : DataW H} {f : List UInt8 → Int} {ks : List (List UInt8)} (h : SM D f ks) (hp : ks.Pairwise (fun a b => a < b)) (hD : ∃ es : List (Lit × DataW H), D = .map es ∧ es.Pairwise (fun p q => p.1 ≠ q.1) ∧ ∀ p ∈ es, ∃ x, p.1 = .string x) : (strKeys D).mergeSort leB = ks := by
  obtain ⟨es, rfl, h1, h2⟩ := hD
  have hnd : ks.Nodup := hp.imp fun hab e => by subst e; exact List.lt_irrefl _ hab
  have hperm : ks.Perm (strKeys (.map es)) := perm_strKeys h1 h2 hnd fun x => by rw [h.has_ x]; simp
  rw [mergeSort_of_perm hperm.symm]
  refine List.mergeSort_of_pairwise (hp.imp fun hab => ?_)
  simpa [leB] using List.le_of_lt hab
theorem maps_form {H : Type} {w : World} {R : Value → Option (DataW H × List MemPlace)} {b n : Nat} {D : DataW H} (h : w.ownsMap Try.prog 9 R b n D) : ∃ es : List (Lit × DataW H), D = .map es ∧ es.Pairwise (fun p q => p.1 ≠ q.1) ∧ ∀ p ∈ es, ∃ x, p.1 = .string x := by
  obtain ⟨es, rfl, hk⟩ := h.keysOf
  obtain ⟨es', he, hp⟩ := h.tidy (string_keyed Try.underlying9)
  cases he
  refine ⟨es, rfl, hp, fun p hp => ?_⟩
  obtain ⟨key, hkey⟩ := hk p hp
  obtain ⟨x, _, hx, _⟩ := Maps.keyOf_str Try.underlying9 hkey
  exact ⟨x, hx⟩
/-- .. of lists that may be; else nothing. -/
def ifMay (b : Bool) (l : List It) : List It := match b with | true => l | false => []
/-- What is left. -/
def leftL (f : It → Int) (l : List It) : List It := l.filterMap fun x => if f x = 0 then none else some (x.1, f x)
theorem lastV_mem (f : It → Int) : ∀ (l : List It), (l.map (·.1)).Pairwise (fun a b => a < b) → ∀ x ∈ l, lastV f l x.1 = f x := by
  intro l
  induction l using snoc_ind with
  | h0 => intro _ x h; simp at h
  | h1 l y ih =>
    intro hp x hx
    rw [lastV_snoc]
    rw [List.map_append, List.pairwise_append] at hp
    rcases List.mem_append.1 hx with hx | hx
    · have hlt := hp.2.2 x.1 (List.mem_map_of_mem hx) y.1 (by simp)
      rw [if_neg (fun e => by rw [e] at hlt; exact List.lt_irrefl _ hlt)]
      exact ih hp.1 x hx
    · simp at hx
      subst hx
      simp
theorem listed_left (f : It → Int) (l : List It) (hp : (l.map (·.1)).Pairwise (fun a b => a < b)) : listedL (l.map (·.1)) (lastV f l) = leftL f l := by
  unfold listedL leftL
  rw [List.filterMap_map]
  refine fm_congr fun x hx => ?_
  simp only [Function.comp]
  rw [lastV_mem f l hp x hx]

end Go.Proofs.Ytipmamgmcipbfaa
