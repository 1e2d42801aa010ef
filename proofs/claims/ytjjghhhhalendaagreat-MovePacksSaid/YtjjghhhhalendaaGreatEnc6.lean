/- The code of a list of items, and what bytes have first as one: pure. No condition. -/
import Derived.Test.YtjjghhhhalendaaGreatBytes
namespace Go.Proofs.YtjjghhhhalendaaGreat
open Go.RowKit
set_option linter.unusedVariables false
set_option linter.unusedSimpArgs false

theorem take_num (n : Int) (r : List UInt8) (h0 : -9223372036854775808 ≤ n) (h1 : n ≤ 9223372036854775807) (a b : Int) (ha : a ≤ n) (hb : n ≤ b) : tnum (some (numCell n ++ r)) a b = (n, some r) := by
  rw [pt_some_first (st := some _) a b (first_num n r h0 h1), if_neg (by omega), Option.getD_some, List.drop_left]
theorem take_text (s : List UInt8) (r : List UInt8) (b : Int) (hs : s.length ≤ 9223372036854775807) (hb : (s.length : Int) ≤ b) : ttext (some (numCell s.length ++ s ++ r)) b = (s, some r) := by
  have hf := first_num (s.length : Int) (s ++ r) (by omega) (by omega)
  rw [← List.append_assoc] at hf
  have hft := ft_some hf
  rw [if_neg (by simp only [List.length_append]; omega)] at hft
  rw [pt_some_ft (st := some _) b hft, if_neg (by omega)]
  simp only [Option.getD_some, Int.toNat_natCast]
  rw [List.append_assoc, List.drop_left, List.take_left, ← List.append_assoc, ← List.length_append, List.drop_left]

/-- What was taken as a number stood there. -/
theorem num_taken {st : Option (List UInt8)} {a b n : Int} {r : List UInt8} (h : tnum st a b = (n, some r)) : st = some (numCell n ++ r) ∧ a ≤ n ∧ n ≤ b ∧ -9223372036854775808 ≤ n ∧ n ≤ 9223372036854775807 := by
  cases st with
  | none => cases h
  | some l =>
    cases hf : first l with
    | none => rw [pt_none_first (some l) a b hf] at h; cases h
    | some p =>
      obtain ⟨z, k⟩ := p
      rw [pt_some_first (st := some l) a b hf, Option.getD_some] at h
      obtain ⟨h1, h2, h3, h4, h5⟩ := first_some hf
      split at h
      · cases h
      · simp only [Prod.mk.injEq, Option.some.injEq] at h
        obtain ⟨rfl, rfl⟩ := h
        refine ⟨?_, by omega, by omega, h4, h5⟩
        rw [h3, List.take_append_drop]
theorem text_taken {st : Option (List UInt8)} {b : Int} {s r : List UInt8} (h : ttext st b = (s, some r)) : st = some (numCell s.length ++ s ++ r) ∧ (s.length : Int) ≤ b := by
  cases st with
  | none => cases h
  | some l =>
    cases hf : first l with
    | none => rw [pt_none_ft (some l) b (ft_none hf)] at h; cases h
    | some p =>
      obtain ⟨z, k⟩ := p
      have hft := ft_some hf
      obtain ⟨h1, h2, h3, h4, h5⟩ := first_some hf
      by_cases hz : z < 0 ∨ (l.length : Int) - k < z
      · rw [if_pos hz] at hft
        rw [pt_none_ft (some l) b hft] at h
        cases h
      · rw [if_neg hz] at hft
        rw [pt_some_ft (st := some l) b hft, Option.getD_some] at h
        split at h
        · cases h
        · simp only [Prod.mk.injEq, Option.some.injEq] at h
          obtain ⟨rfl, rfl⟩ := h
          have hl : ((l.drop k).take z.toNat).length = z.toNat := by rw [List.length_take, List.length_drop]; omega
          rw [hl]
          refine ⟨?_, by omega⟩
          rw [show ((z.toNat : Nat) : Int) = z by omega, h3, List.append_assoc, ← List.drop_drop, List.take_append_drop, List.take_append_drop]

def itemB (x : It) : List UInt8 := numCell x.1.length ++ x.1 ++ numCell x.2
def itemsB (l : List It) : List UInt8 := l.flatMap itemB
def encL (l : List It) : List UInt8 := numCell l.length ++ itemsB l
def putI (st : Option (List UInt8)) (x : It) : Option (List UInt8) := put (put st (numCell x.1.length ++ x.1)) (numCell x.2)
def putLE (st : Option (List UInt8)) (l : List It) : Option (List UInt8) := l.foldl putI (put st (numCell l.length))
def putsI (st : Option (List UInt8)) (l : List It) : Option (List UInt8) := l.foldl putI st
theorem putsI_snoc (st : Option (List UInt8)) (l : List It) (x : It) : putsI st (l ++ [x]) = putI (putsI st l) x := by simp [putsI]
theorem put_fits (b x : List UInt8) (h : b.length + x.length ≤ 262144) : put (some b) x = some (b ++ x) := by
  show (if 262144 < b.length + x.length then none else some (b ++ x)) = _
  rw [if_neg (by omega)]
theorem itemsB_snoc (l : List It) (x : It) : itemsB (l ++ [x]) = itemsB l ++ itemB x := by simp [itemsB]
theorem putsI_fits (b : List UInt8) (l : List It) : b.length + (itemsB l).length ≤ 262144 → putsI (some b) l = some (b ++ itemsB l) := by
  induction l using snoc_ind with
  | h0 => intro _; simp [putsI, itemsB]
  | h1 l x ih =>
    intro h
    rw [itemsB_snoc, List.length_append] at h
    rw [putsI_snoc, ih (by omega)]
    unfold putI
    have hx : (itemB x).length = (numCell x.1.length ++ x.1).length + (numCell x.2).length := by rw [itemB, List.length_append]
    rw [put_fits _ _ (by rw [List.length_append]; omega), put_fits _ _ (by rw [List.length_append, List.length_append]; omega), itemsB_snoc, itemB]
    simp
theorem putL_fits (b : List UInt8) (l : List It) (h : b.length + (encL l).length ≤ 262144) : putLE (some b) l = some (b ++ encL l) := by
  rw [encL, List.length_append] at h
  show putsI (put (some b) (numCell l.length)) l = _
  rw [put_fits _ _ (by omega), putsI_fits _ _ (by rw [List.length_append]; omega), encL, List.append_assoc]

/-- An item that may stand in a list. -/
def okI (x : It) : Prop := x.1.length ≤ 16 ∧ 1 ≤ x.2 ∧ x.2 ≤ 1099511627776
theorem okAt_okI {last : List UInt8} {x : It} (h : okAt last x = true) : okI x := by
  simp [okAt, gOK, cMay] at h
  refine ⟨by omega, ?_, by omega⟩
  omega
theorem mayFrom_okI : ∀ {l : List It} {last : List UInt8}, mayFrom last l = true → ∀ x ∈ l, okI x
  | [], _, _ => fun x hx => by simp at hx
  | y :: l, last, h => fun x hx => by
    rw [mayFrom, Bool.and_eq_true] at h
    rcases List.mem_cons.1 hx with rfl | hx
    · exact okAt_okI h.1
    · exact mayFrom_okI h.2 x hx
theorem mayL_okI {l : List It} (h : mayL l = true) : l.length ≤ 16 ∧ ∀ x ∈ l, okI x := by
  rw [mayL, Bool.and_eq_true] at h
  exact ⟨of_decide_eq_true h.1, mayFrom_okI h.2⟩
theorem itemB_len (x : It) (h : okI x) : (itemB x).length ≤ 34 := by
  have h1 := numCell_len (x.1.length : Int)
  have h2 := numCell_len x.2
  have := h.1
  rw [itemB, List.length_append, List.length_append]
  omega
theorem itemsB_len (l : List It) (h : ∀ x ∈ l, okI x) : (itemsB l).length ≤ 34 * l.length := by
  induction l with
  | nil => simp [itemsB]
  | cons y l ih =>
    have h1 := itemB_len y (h y (by simp))
    have h2 := ih fun x hx => h x (by simp [hx])
    unfold itemsB at h2 ⊢
    rw [List.flatMap_cons, List.length_append, List.length_cons]
    omega
theorem encL_len (l : List It) (h : mayL l = true) : (encL l).length ≤ 553 := by
  obtain ⟨h1, h2⟩ := mayL_okI h
  have := itemsB_len l h2
  have := numCell_len (l.length : Int)
  rw [encL, List.length_append]
  omega

def itStep (p : List It × Option (List UInt8)) : List It × Option (List UInt8) :=
  (p.1 ++ [((ttext p.2 16).1, (tnum (ttext p.2 16).2 1 1099511627776).1)], (tnum (ttext p.2 16).2 1 1099511627776).2)
def itIter (st : Option (List UInt8)) : Nat → List It × Option (List UInt8)
  | 0 => ([], st)
  | k + 1 => itStep (itIter st k)
theorem itIter_len (st : Option (List UInt8)) : ∀ k, (itIter st k).1.length = k
  | 0 => rfl
  | k + 1 => by rw [itIter, itStep]; simp [itIter_len st k]
def takeN (st : Option (List UInt8)) : Int × Option (List UInt8) := tnum st 0 16
def takeR (st : Option (List UInt8)) : List It × Option (List UInt8) := itIter (takeN st).2 (takeN st).1.toNat
def takeL (st : Option (List UInt8)) : List It × Option (List UInt8) := if mayL (takeR st).1 then takeR st else ([], none)
theorem takeN_bound (st : Option (List UInt8)) : 0 ≤ (takeN st).1 ∧ (takeN st).1 ≤ 16 := by
  unfold takeN
  cases hf : first (st.getD []) with
  | none => rw [pt_none_first st 0 16 hf]; simp
  | some p =>
    obtain ⟨z, k⟩ := p
    rw [pt_some_first 0 16 hf]
    split
    · simp
    · simp only []; omega

theorem itStep_app (x : It) (h : okI x) (l : List It) (r : List UInt8) : itStep (l, some (itemB x ++ r)) = (l ++ [x], some r) := by
  obtain ⟨h1, h2, h3⟩ := h
  have e1 : ttext (some (itemB x ++ r)) 16 = (x.1, some (numCell x.2 ++ r)) := by
    rw [itemB, List.append_assoc]
    exact take_text x.1 _ 16 (by omega) (by omega)
  have e2 : tnum (some (numCell x.2 ++ r)) 1 1099511627776 = (x.2, some r) := take_num x.2 r (by omega) (by omega) _ _ h2 h3
  unfold itStep
  rw [show (l, some (itemB x ++ r)).2 = some (itemB x ++ r) from rfl, e1]
  simp only []
  rw [e2]
theorem itIter_app (l : List It) : (∀ x ∈ l, okI x) → ∀ r, itIter (some (itemsB l ++ r)) l.length = (l, some r) := by
  induction l using snoc_ind with
  | h0 => intro _ r; simp [itIter, itemsB]
  | h1 l x ih =>
    intro h r
    rw [itemsB_snoc, List.append_assoc, List.length_append, List.length_cons, List.length_nil, itIter, ih (fun y hy => h y (by simp [hy]))]
    exact itStep_app x (h x (by simp)) l r
/-- What was put is taken. -/
theorem takeL_enc (l : List It) (h : mayL l = true) (r : List UInt8) : takeL (some (encL l ++ r)) = (l, some r) := by
  obtain ⟨h1, h2⟩ := mayL_okI h
  have e : takeN (some (encL l ++ r)) = ((l.length : Int), some (itemsB l ++ r)) := by
    rw [encL, List.append_assoc]
    exact take_num (l.length : Int) _ (by omega) (by omega) _ _ (by omega) (by omega)
  have e2 : takeR (some (encL l ++ r)) = (l, some r) := by
    unfold takeR
    rw [e]
    exact itIter_app l h2 r
  unfold takeL
  rw [e2, if_pos h]
theorem itStep_none (l : List It) : (itStep (l, none)).2 = none := rfl
theorem itIter_none {st : Option (List UInt8)} {k : Nat} (h : (itIter st k).2 = none) : ∀ m, k ≤ m → (itIter st m).2 = none := by
  intro m hm
  induction m with
  | zero => have : k = 0 := by omega
            subst this; exact h
  | succ m ih =>
    by_cases e : k = m + 1
    · subst e; exact h
    · have := ih (by omega)
      rw [itIter]
      cases hp : itIter st m with
      | mk l s =>
        rw [hp] at this
        simp only [] at this
        subst this
        exact itStep_none l
theorem itStep_some {l : List It} {s : Option (List UInt8)} {l' : List It} {r : List UInt8} (h : itStep (l, s) = (l', some r)) : ∃ x, l' = l ++ [x] ∧ s = some (itemB x ++ r) ∧ okI x := by
  unfold itStep at h
  simp only [] at h
  cases ht : ttext s 16 with
  | mk g s1 =>
    rw [ht] at h
    simp only [] at h
    cases hq : tnum s1 1 1099511627776 with
    | mk q s2 =>
      rw [hq] at h
      simp only [Prod.mk.injEq] at h
      obtain ⟨rfl, rfl⟩ := h
      obtain ⟨rfl, hq1, hq2, _⟩ := num_taken hq
      obtain ⟨rfl, hg⟩ := text_taken ht
      exact ⟨(g, q), rfl, by simp [itemB], by simp only []; omega, hq1, hq2⟩
theorem itIter_some {st : Option (List UInt8)} : ∀ (k : Nat) {l : List It} {r : List UInt8}, itIter st k = (l, some r) → st = some (itemsB l ++ r)
  | 0, l, r, h => by
    rw [itIter] at h
    cases h
    simp [itemsB]
  | k + 1, l, r, h => by
    rw [itIter] at h
    cases hp : itIter st k with
    | mk l0 s0 =>
      rw [hp] at h
      obtain ⟨x, rfl, rfl, _⟩ := itStep_some h
      rw [itIter_some k hp, itemsB_snoc, List.append_assoc]
theorem itIter_ok {st : Option (List UInt8)} : ∀ (k : Nat) {l : List It} {r : List UInt8}, itIter st k = (l, some r) → ∀ x ∈ l, okI x
  | 0, l, r, h => by
    rw [itIter] at h
    cases h
    intro x hx
    simp at hx
  | k + 1, l, r, h => by
    rw [itIter] at h
    cases hp : itIter st k with
    | mk l0 s0 =>
      rw [hp] at h
      obtain ⟨x, rfl, rfl, hx⟩ := itStep_some h
      intro y hy
      rcases List.mem_append.1 hy with hy | hy
      · exact itIter_ok k hp y hy
      · rw [List.mem_singleton.1 hy]
        exact hx
/-- What was taken stood there. -/
theorem takeL_some {st : Option (List UInt8)} {l : List It} {r : List UInt8} (h : takeL st = (l, some r)) : mayL l = true ∧ st = some (encL l ++ r) := by
  unfold takeL at h
  split at h
  case isFalse => cases h
  case isTrue hm =>
    rw [h] at hm
    refine ⟨hm, ?_⟩
    unfold takeR at h
    have hb := takeN_bound st
    have hl := itIter_len (takeN st).2 (takeN st).1.toNat
    rw [h] at hl
    simp only [] at hl
    have h2 := itIter_some _ h
    have h3 : tnum st 0 16 = ((l.length : Int), some (itemsB l ++ r)) := by
      show takeN st = _
      rw [← h2, hl, Int.toNat_of_nonneg hb.1]
    obtain ⟨e, _⟩ := num_taken h3
    rw [e, encL, List.append_assoc]
theorem takeL_none {st : Option (List UInt8)} (h : (takeL st).2 = none) : (takeL st).1 = [] := by
  unfold takeL at h ⊢
  split at h
  case isFalse hm => rw [if_neg hm]
  case isTrue hm =>
    rw [if_pos hm]
    unfold takeR at h hm ⊢
    generalize (takeN st).2 = s at *
    cases hk : (takeN st).1.toNat with
    | zero => rfl
    | succ k =>
      exfalso
      rw [hk] at h hm
      rw [itIter] at h hm
      unfold itStep at h hm
      simp only [] at h hm
      have hok := (mayL_okI hm).2 _ (List.mem_append_right _ (List.mem_singleton.2 rfl))
      have h1 := hok.2.1
      simp only [] at h1
      cases hq : tnum (ttext (itIter s k).2 16).2 1 1099511627776 with
      | mk q s2 =>
        rw [hq] at h h1
        simp only [] at h h1
        subst h
        have : q = 0 := by
          cases hf : first ((ttext (itIter s k).2 16).2.getD []) with
          | none => rw [pt_none_first _ _ _ hf] at hq; cases hq; rfl
          | some p =>
            obtain ⟨z, j⟩ := p
            rw [pt_some_first _ _ hf] at hq
            split at hq
            · cases hq; rfl
            · cases hq
        omega
/-- What any bytes are as a list. -/
def decL (b : List UInt8) : Option (List It) := if (takeL (some b)).2 = some [] then some (takeL (some b)).1 else none
theorem decL_enc (l : List It) (h : mayL l = true) : decL (encL l) = some l := by
  have := takeL_enc l h []
  rw [List.append_nil] at this
  unfold decL
  rw [this]
  simp
theorem decL_some {b : List UInt8} {l : List It} (h : decL b = some l) : mayL l = true ∧ b = encL l := by
  unfold decL at h
  split at h
  case isFalse => cases h
  case isTrue hs =>
    simp only [Option.some.injEq] at h
    have e : takeL (some b) = (l, some []) := by rw [← h, ← hs]
    obtain ⟨h1, h2⟩ := takeL_some e
    rw [List.append_nil] at h2
    exact ⟨h1, by injection h2⟩
end Go.Proofs.YtjjghhhhalendaaGreat
