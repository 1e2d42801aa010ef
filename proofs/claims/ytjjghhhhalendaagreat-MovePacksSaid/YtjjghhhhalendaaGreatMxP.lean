/- What moves are as bytes: pure. No condition. -/
import Derived.Test.YtjjghhhhalendaaGreatMwJ
import Derived.Test.YtjjghhhhalendaaGreatEnc6
import Derived.Test.YtjjghhhhalendaaGreatZg
namespace Go.Proofs.YtjjghhhhalendaaGreat
open Go.RowKit
set_option linter.unusedVariables false
set_option linter.unusedSimpArgs false

/-- What is told of a move: number, from, to, goods, whether it came. -/
abbrev WC := Int × Int × Int × List It × Bool
def wayC (x : WC) : List UInt8 := numCell x.1 ++ (numCell x.2.1 ++ (numCell x.2.2.1 ++ (encL x.2.2.2.1 ++ numCell (flagN x.2.2.2.2))))
def waysC (l : List WC) : List UInt8 := l.flatMap wayC
/-- The code of moves. -/
def encW (l : List WC) : List UInt8 := numCell (l.length : Int) ++ waysC l
structure OkC (x : WC) : Prop where
  mb : mbK x.1 = true
  bt : btK x.2.1 x.2.2.1 = true
  may : mayL x.2.2.2.1 = true
  ne : x.2.2.2.1 ≠ []
theorem OkC.nums {x : WC} (h : OkC x) : (1 ≤ x.1 ∧ x.1 ≤ 1099511627776) ∧ (0 ≤ x.2.1 ∧ x.2.1 ≤ 7) ∧ (0 ≤ x.2.2.1 ∧ x.2.2.1 ≤ 7) ∧ x.2.1 ≠ x.2.2.1 := by
  have h1 := of_decide_eq_true h.mb
  have h2 := of_decide_eq_true h.bt
  refine ⟨h1, ⟨h2.1, by omega⟩, ⟨h2.2.2.1, by omega⟩, h2.2.2.2.2⟩
theorem waysC_snoc (l : List WC) (x : WC) : waysC (l ++ [x]) = waysC l ++ wayC x := by simp [waysC]
theorem waysC_cons (l : List WC) (x : WC) : waysC (x :: l) = wayC x ++ waysC l := by simp [waysC]
theorem wayC_len {x : WC} (h : mayL x.2.2.2.1 = true) : (wayC x).length ≤ 589 := by
  have h1 := numCell_len x.1
  have h2 := numCell_len x.2.1
  have h3 := numCell_len x.2.2.1
  have h4 := numCell_len (flagN x.2.2.2.2)
  have h5 := encL_len _ h
  unfold wayC
  simp only [List.length_append]
  omega
theorem waysC_len (l : List WC) (h : ∀ x ∈ l, OkC x) : (waysC l).length ≤ l.length * 589 := by
  induction l with
  | nil => simp [waysC]
  | cons x l ih =>
    have h1 := wayC_len (h x (by simp)).may
    have h2 := ih (fun y hy => h y (by simp [hy]))
    rw [waysC_cons, List.length_append, List.length_cons]
    omega
theorem encW_len (l : List WC) (h : ∀ x ∈ l, OkC x) : (encW l).length ≤ 9 + l.length * 589 := by
  have h1 := waysC_len l h
  have h2 := numCell_len (l.length : Int)
  unfold encW
  rw [List.length_append]
  omega
def putW (st : Option (List UInt8)) (x : WC) : Option (List UInt8) := put (putLE (put (put (put st (numCell x.1)) (numCell x.2.1)) (numCell x.2.2.1)) x.2.2.2.1) (numCell (flagN x.2.2.2.2))
def putsW (st : Option (List UInt8)) (l : List WC) : Option (List UInt8) := l.foldl putW st
theorem putsW_snoc (st : Option (List UInt8)) (l : List WC) (x : WC) : putsW st (l ++ [x]) = putW (putsW st l) x := by simp [putsW]
theorem putW_fits (b : List UInt8) (x : WC) (h : b.length + (wayC x).length ≤ 262144) : putW (some b) x = some (b ++ wayC x) := by
  unfold wayC at h ⊢
  simp only [List.length_append] at h
  unfold putW
  rw [put_fits _ _ (by omega), put_fits _ _ (by simp only [List.length_append]; omega), put_fits _ _ (by simp only [List.length_append]; omega), putL_fits _ _ (by simp only [List.length_append]; omega), put_fits _ _ (by simp only [List.length_append]; omega)]
  simp
theorem putsW_fits (l : List WC) (b : List UInt8) (h : b.length + (waysC l).length ≤ 262144) : putsW (some b) l = some (b ++ waysC l) := by
  induction l generalizing b with
  | nil => simp [putsW, waysC]
  | cons x l ih =>
    rw [waysC_cons, List.length_append] at h
    show putsW (putW (some b) x) l = _
    rw [putW_fits b x (by omega), ih _ (by rw [List.length_append]; omega), waysC_cons, List.append_assoc]
/-- A move, taken. -/
def takeW (st : Option (List UInt8)) (lo : Int) : WC × Option (List UInt8) :=
  ((((tnum st lo 1099511627776).1, (tnum (tnum st lo 1099511627776).2 0 7).1, (tnum (tnum (tnum st lo 1099511627776).2 0 7).2 0 7).1, (takeL (tnum (tnum (tnum st lo 1099511627776).2 0 7).2 0 7).2).1,
    (tnum (takeL (tnum (tnum (tnum st lo 1099511627776).2 0 7).2 0 7).2).2 0 1).1 == 1)), (tnum (takeL (tnum (tnum (tnum st lo 1099511627776).2 0 7).2 0 7).2).2 0 1).2)
def unpW : Nat → Int → List WC → Option (List UInt8) → Option (List WC)
  | 0, _, acc, st => if st = some [] then some acc else none
  | n + 1, last, acc, st => if (takeW st (last + 1)).1.2.1 = (takeW st (last + 1)).1.2.2.1 ∨ (takeW st (last + 1)).1.2.2.2.1 = [] then none else unpW n (takeW st (last + 1)).1.1 (acc ++ [(takeW st (last + 1)).1]) (takeW st (last + 1)).2
/-- What any bytes are as moves. -/
def decW (c : List UInt8) : Option (List WC) := unpW (tnum (some c) 0 256).1.toNat 0 [] (tnum (some c) 0 256).2
theorem tnum_bad {st : Option (List UInt8)} {a b : Int} (h : (tnum st a b).2 = none) : (tnum st a b).1 = 0 := by
  unfold tnum at h ⊢
  split at h
  · rfl
  · split at h
    · split at h
      · rename_i h2
        simp only [if_pos h2]
      · cases h
    · rfl
theorem takeW_of_none (lo : Int) : takeW none lo = ((0, 0, 0, [], false), none) := rfl
theorem unpW_none (n : Nat) (last : Int) (acc : List WC) : unpW n last acc none = none := by
  cases n with
  | zero => rfl
  | succ n => rw [unpW, takeW_of_none, if_pos (Or.inl rfl)]
theorem flag_back {n : Int} (h0 : 0 ≤ n) (h1 : n ≤ 1) : flagN (n == 1) = n := by
  unfold flagN
  by_cases h : n = 1
  · subst h; rfl
  · rw [show (n == 1) = false from beq_eq_false_iff_ne.2 h]
    have : n = 0 := by omega
    subst this
    rfl
/-- Where a move was taken whole, its parts. -/
theorem takeW_some {st : Option (List UInt8)} {lo : Int} {x : WC} {r : List UInt8} (h : takeW st lo = (x, some r)) : st = some (wayC x ++ r) ∧ (lo ≤ x.1 ∧ x.1 ≤ 1099511627776) ∧ (0 ≤ x.2.1 ∧ x.2.1 ≤ 7) ∧ (0 ≤ x.2.2.1 ∧ x.2.2.1 ≤ 7) ∧ mayL x.2.2.2.1 = true := by
  unfold takeW at h
  obtain ⟨a, sa, ha⟩ : ∃ a s, tnum st lo 1099511627776 = (a, s) := ⟨_, _, rfl⟩
  rw [ha] at h
  dsimp only at h
  obtain ⟨b, sb, hb⟩ : ∃ a s, tnum sa 0 7 = (a, s) := ⟨_, _, rfl⟩
  rw [hb] at h
  dsimp only at h
  obtain ⟨c, sc, hc⟩ : ∃ a s, tnum sb 0 7 = (a, s) := ⟨_, _, rfl⟩
  rw [hc] at h
  dsimp only at h
  obtain ⟨d, sd, hd⟩ : ∃ a s, takeL sc = (a, s) := ⟨_, _, rfl⟩
  rw [hd] at h
  dsimp only at h
  obtain ⟨e, se, he⟩ : ∃ a s, tnum sd 0 1 = (a, s) := ⟨_, _, rfl⟩
  rw [he] at h
  dsimp only at h
  injection h with h1 h2
  subst h1
  subst h2
  obtain ⟨rfl, e1, e2, _, _⟩ := num_taken he
  obtain ⟨d1, rfl⟩ := takeL_some hd
  obtain ⟨rfl, c1, c2, _, _⟩ := num_taken hc
  obtain ⟨rfl, b1, b2, _, _⟩ := num_taken hb
  obtain ⟨rfl, a1, a2, _, _⟩ := num_taken ha
  refine ⟨?_, ⟨a1, a2⟩, ⟨b1, b2⟩, ⟨c1, c2⟩, d1⟩
  unfold wayC
  dsimp only
  rw [flag_back e1 e2]
  simp
theorem takeW_enc {x : WC} (h : OkC x) (lo : Int) (hlo : lo ≤ x.1) (r : List UInt8) : takeW (some (wayC x ++ r)) lo = (x, some r) := by
  obtain ⟨h1, h2, h3, h4⟩ := h.nums
  obtain ⟨m, f, t, l, c⟩ := x
  dsimp only at h1 h2 h3 h4 hlo
  have hm := h.may
  dsimp only at hm
  have e : wayC (m, f, t, l, c) ++ r = numCell m ++ (numCell f ++ (numCell t ++ (encL l ++ (numCell (flagN c) ++ r)))) := by
    unfold wayC
    simp
  have hf : 0 ≤ flagN c ∧ flagN c ≤ 1 := by cases c <;> decide
  unfold takeW
  rw [e, take_num m _ (by omega) (by omega) lo _ hlo (by omega)]
  dsimp only
  rw [take_num f _ (by omega) (by omega) _ _ (by omega) (by omega)]
  dsimp only
  rw [take_num t _ (by omega) (by omega) _ _ (by omega) (by omega)]
  dsimp only
  rw [takeL_enc l hm]
  dsimp only
  rw [take_num (flagN c) _ (by omega) (by omega) _ _ (by omega) (by omega)]
  cases c <;> rfl
theorem unpW_some (n : Nat) (last : Int) (acc : List WC) (st : Option (List UInt8)) (l : List WC) (h0 : 0 ≤ last) (h : unpW n last acc st = some l) :
    ∃ new, l = acc ++ new ∧ new.length = n ∧ st = some (waysC new) ∧ (last :: new.map (fun x => x.1)).Pairwise (fun a b => a < b) ∧ ∀ x ∈ new, OkC x := by
  induction n generalizing last acc st with
  | zero =>
    unfold unpW at h
    split at h
    · rename_i e
      injection h with h
      exact ⟨[], by rw [h]; simp, rfl, e, by simp, fun x hx => by simp at hx⟩
    · cases h
  | succ n ih =>
    unfold unpW at h
    obtain ⟨x, s, hx⟩ : ∃ x s, takeW st (last + 1) = (x, s) := ⟨_, _, rfl⟩
    rw [hx] at h
    dsimp only at h
    split at h
    · cases h
    · rename_i hne
      cases s with
      | none => rw [unpW_none] at h; cases h
      | some r =>
        obtain ⟨e1, e2, e3, e4, e5⟩ := takeW_some hx
        obtain ⟨new, h1, h2, h3, h4, h5⟩ := ih x.1 _ _ (by omega) h
        have hok : OkC x := ⟨decide_eq_true (by omega), decide_eq_true ⟨by omega, by omega, by omega, by omega, fun e => hne (.inl e)⟩, e5, fun e => hne (.inr e)⟩
        refine ⟨x :: new, by rw [h1]; simp, by rw [List.length_cons, h2], ?_, ?_, ?_⟩
        · rw [e1, waysC_cons]
          injection h3 with h3
          rw [h3]
        · rw [List.map_cons, List.pairwise_cons]
          refine ⟨fun a ha => ?_, h4⟩
          rcases List.mem_cons.1 ha with rfl | ha
          · omega
          · have := (List.pairwise_cons.1 h4).1 a ha
            omega
        · intro y hy
          rcases List.mem_cons.1 hy with rfl | hy
          · exact hok
          · exact h5 y hy
theorem unpW_enc (new : List WC) (last : Int) (acc : List WC) (hok : ∀ x ∈ new, OkC x) (hr : (last :: new.map (fun x => x.1)).Pairwise (fun a b => a < b)) : unpW new.length last acc (some (waysC new)) = some (acc ++ new) := by
  induction new generalizing last acc with
  | nil => simp [unpW, waysC]
  | cons x new ih =>
    rw [List.map_cons, List.pairwise_cons] at hr
    have hx := hok x (by simp)
    have hlx := hr.1 x.1 (by simp)
    obtain ⟨_, _, _, h4⟩ := hx.nums
    rw [List.length_cons, unpW, waysC_cons, takeW_enc hx _ (by omega)]
    dsimp only
    rw [if_neg (fun e => e.elim h4 hx.ne), ih _ _ (fun y hy => hok y (by simp [hy])) hr.2]
    simp
theorem decW_enc (l : List WC) (hl : l.length ≤ 256) (hok : ∀ x ∈ l, OkC x) (hr : (l.map (fun x => x.1)).Pairwise (fun a b => a < b)) : decW (encW l) = some l := by
  unfold decW encW
  rw [take_num (l.length : Int) _ (by omega) (by omega) _ _ (by omega) (by omega)]
  dsimp only
  have := unpW_enc l 0 [] hok (by
    rw [List.pairwise_cons]
    refine ⟨fun a ha => ?_, hr⟩
    obtain ⟨x, hx, rfl⟩ := List.mem_map.1 ha
    have := (hok x hx).nums.1
    omega)
  rw [show ((l.length : Int)).toNat = l.length by omega]
  simpa using this
theorem decW_some {c : List UInt8} {l : List WC} (h : decW c = some l) : c = encW l ∧ l.length ≤ 256 ∧ (l.map (fun x => x.1)).Pairwise (fun a b => a < b) ∧ ∀ x ∈ l, OkC x := by
  unfold decW at h
  obtain ⟨n, s, hn⟩ : ∃ x s, tnum (some c) 0 256 = (x, s) := ⟨_, _, rfl⟩
  rw [hn] at h
  dsimp only at h
  cases s with
  | none => rw [unpW_none] at h; cases h
  | some r =>
    obtain ⟨e1, e2, e3, _, _⟩ := num_taken hn
    injection e1 with e1
    obtain ⟨new, h1, h2, h3, h4, h5⟩ := unpW_some _ 0 [] _ l (by omega) h
    rw [List.nil_append] at h1
    subst h1
    injection h3 with h3
    refine ⟨?_, by omega, (List.pairwise_cons.1 h4).2, h5⟩
    rw [e1, h3]
    unfold encW
    rw [h2, show ((n.toNat : Nat) : Int) = n by omega]
/-- With the narrow bound, or with the wide one and a look behind. -/
theorem tnum_low {st : Option (List UInt8)} {a b hi : Int} (hab : a ≤ b) : tnum st b hi = if (tnum st a hi).2.isSome = true ∧ (tnum st a hi).1 < b then (0, none) else tnum st a hi := by
  cases st with
  | none => rfl
  | some s =>
    cases hf : first s with
    | none =>
      have e1 : ∀ x y, tnum (some s) x y = (0, none) := fun x y => by
        unfold tnum
        try dsimp only
        rw [hf]
      rw [e1, e1]
      rfl
    | some p =>
      obtain ⟨m, k⟩ := p
      have e1 : ∀ x y, tnum (some s) x y = if m < x ∨ y < m then (0, none) else (m, some (s.drop k)) := fun x y => by
        unfold tnum
        try dsimp only
        rw [hf]
      rw [e1, e1]
      by_cases h1 : m < a ∨ hi < m
      · rw [if_pos h1, if_pos (by omega)]
        rfl
      · rw [if_neg h1]
        by_cases h2 : m < b
        · rw [if_pos (Or.inl h2), if_pos ⟨rfl, h2⟩]
        · rw [if_neg (by omega), if_neg (fun e => h2 e.2)]
theorem unpW_ref (n : Nat) (last : Int) (acc : List WC) (st : Option (List UInt8)) (h0 : 0 ≤ last) :
    unpW (n + 1) last acc st = match (takeW st 1).2 with
      | none => none
      | some r => if (takeW st 1).1.1 ≤ last ∨ (takeW st 1).1.2.1 = (takeW st 1).1.2.2.1 ∨ (takeW st 1).1.2.2.2.1 = [] then none else unpW n (takeW st 1).1.1 (acc ++ [(takeW st 1).1]) (some r) := by
  have hl := tnum_low (st := st) (a := 1) (b := last + 1) (hi := 1099511627776) (by omega)
  by_cases hlt : (tnum st 1 1099511627776).2.isSome = true ∧ (tnum st 1 1099511627776).1 < last + 1
  · rw [if_pos hlt] at hl
    have h1 : unpW (n + 1) last acc st = none := by
      rw [unpW, if_pos]
      left
      unfold takeW
      rw [hl]
      rfl
    rw [h1]
    cases hs : (takeW st 1).2 with
    | none => rfl
    | some r =>
      dsimp only
      rw [if_pos (show (takeW st 1).1.1 ≤ last ∨ _ from Or.inl (show (tnum st 1 1099511627776).1 ≤ last by omega))]
  · rw [if_neg hlt] at hl
    have e : takeW st (last + 1) = takeW st 1 := by
      unfold takeW
      rw [hl]
    rw [unpW, e]
    cases hs : (takeW st 1).2 with
    | none =>
      dsimp only
      split
      · rfl
      · exact unpW_none _ _ _
    | some r =>
      dsimp only
      have hsm : (tnum st 1 1099511627776).2.isSome = true := Classical.byContradiction fun hno => by
        have hq : (tnum st 1 1099511627776).2 = none := by simpa using hno
        unfold takeW at hs
        rw [hq] at hs
        cases hs
      have hgt : ¬ (takeW st 1).1.1 ≤ last := fun h => hlt ⟨hsm, show (takeW st 1).1.1 < last + 1 by omega⟩
      by_cases h2 : (takeW st 1).1.2.1 = (takeW st 1).1.2.2.1 ∨ (takeW st 1).1.2.2.2.1 = []
      · rw [if_pos h2, if_pos (Or.inr h2)]
      · rw [if_neg h2, if_neg (fun e => e.elim hgt h2)]
end Go.Proofs.YtjjghhhhalendaaGreat
