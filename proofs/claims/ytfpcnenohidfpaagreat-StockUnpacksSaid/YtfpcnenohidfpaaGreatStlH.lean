/- What was taken is put to the same bytes; numbers taken with narrow bounds and with wide ones. No condition. -/
import Derived.Test.YtfpcnenohidfpaaGreatStlG
namespace Go.Proofs.YtfpcnenohidfpaaGreat
open Go.RowKit Go.Shelf
set_option linter.unusedVariables false
set_option linter.unusedSimpArgs false

/-- Numbers taken one after the other. -/
def takeL : List (Int × Int) → Option (List UInt8) → List Int × Option (List UInt8)
  | [], st => ([], st)
  | b :: bs, st => ((tnum st b.1 b.2).1 :: (takeL bs (tnum st b.1 b.2).2).1, (takeL bs (tnum st b.1 b.2).2).2)
theorem takeL_none (bs : List (Int × Int)) : takeL bs none = (bs.map fun _ => 0, none) := by
  induction bs with
  | nil => rfl
  | cons b bs ih =>
    unfold takeL
    rw [show tnum none b.1 b.2 = (0, none) from rfl, ih]
    rfl
theorem takeL_len (bs : List (Int × Int)) (st : Option (List UInt8)) : (takeL bs st).1.length = bs.length := by
  induction bs generalizing st with
  | nil => rfl
  | cons b bs ih =>
    unfold takeL
    simp [ih]
theorem takeL_snoc (bs : List (Int × Int)) (b : Int × Int) (st : Option (List UInt8)) : takeL (bs ++ [b]) st = ((takeL bs st).1 ++ [(tnum (takeL bs st).2 b.1 b.2).1], (tnum (takeL bs st).2 b.1 b.2).2) := by
  induction bs generalizing st with
  | nil => rfl
  | cons c bs ih =>
    show takeL (c :: (bs ++ [b])) st = _
    unfold takeL
    rw [ih]
    rfl
def wideB : Int × Int := (-9223372036854775808, 9223372036854775807)
def inB (b : Int × Int) (n : Int) : Prop := b.1 ≤ n ∧ n ≤ b.2
/-- With the wide bounds the same comes, or something out of the narrow ones. -/
theorem tnum_wide (st : Option (List UInt8)) (b : Int × Int) (hb : -9223372036854775808 ≤ b.1 ∧ b.2 ≤ 9223372036854775807) :
    (tnum st wideB.1 wideB.2 = tnum st b.1 b.2 ∧ ((tnum st b.1 b.2).2 = none ∨ inB b (tnum st b.1 b.2).1)) ∨ ((tnum st b.1 b.2).2 = none ∧ ¬ inB b (tnum st wideB.1 wideB.2).1) := by
  unfold wideB inB
  cases st with
  | none => exact .inl ⟨rfl, .inl rfl⟩
  | some l =>
    unfold tnum
    dsimp only
    cases hf : first l with
    | none => exact .inl ⟨rfl, .inl rfl⟩
    | some p =>
      obtain ⟨n, k⟩ := p
      dsimp only
      by_cases h1 : n < b.1 ∨ b.2 < n
      · rw [if_pos h1]
        by_cases h2 : n < -9223372036854775808 ∨ 9223372036854775807 < n
        · rw [if_pos h2]
          exact .inl ⟨rfl, .inl rfl⟩
        · rw [if_neg h2]
          exact .inr ⟨rfl, by dsimp only; omega⟩
      · rw [if_neg h1, if_neg (by omega)]
        exact .inl ⟨rfl, .inr (by dsimp only; omega)⟩
theorem takeL_wide (bs : List (Int × Int)) (hbs : ∀ b ∈ bs, -9223372036854775808 ≤ b.1 ∧ b.2 ≤ 9223372036854775807) (st : Option (List UInt8)) :
    takeL (bs.map fun _ => wideB) st = takeL bs st ∨ ((takeL bs st).2 = none ∧ ((takeL (bs.map fun _ => wideB) st).2 = none ∨ ∃ (i : Nat) (b : Int × Int) (n : Int), bs[i]? = some b ∧ (takeL (bs.map fun _ => wideB) st).1[i]? = some n ∧ ¬ inB b n)) := by
  induction bs generalizing st with
  | nil => exact .inl rfl
  | cons b bs ih =>
    have hi := fun st => ih (fun c hc => hbs c (by simp [hc])) st
    rw [List.map_cons]
    unfold takeL
    rcases tnum_wide st b (hbs b (by simp)) with ⟨h1, h2⟩ | ⟨h1, h2⟩
    · rw [h1]
      rcases hi (tnum st b.1 b.2).2 with h3 | ⟨h3, h4⟩
      · exact .inl (by rw [h3])
      · refine .inr ⟨h3, ?_⟩
        rcases h4 with h4 | ⟨i, c, n, h5, h6, h7⟩
        · exact .inl h4
        · exact .inr ⟨i + 1, c, n, by simpa using h5, by simpa using h6, h7⟩
    · refine .inr ⟨?_, .inr ⟨0, b, _, rfl, rfl, h2⟩⟩
      rw [h1, takeL_none]
/-- The bounds of a row's numbers. -/
def rowB : List (Int × Int) := [(0, 1099511627776), (0, 1099511627776), (0, 1099511627776), (0, 1099511627776), (0, 72057594037927936), (0, 72057594037927936), (-576460752303423488, 576460752303423488), (0, 72057594037927936), (0, 72057594037927936), (0, 72057594037927936), (0, 72057594037927936)]
theorem rowB_ok : ∀ b ∈ rowB, -9223372036854775808 ≤ b.1 ∧ b.2 ≤ 9223372036854775807 := by decide
theorem takeR_ints (st : Option (List UInt8)) : (takeR st).1.ints = (takeL rowB st).1 ∧ (takeR st).2 = (takeL rowB st).2 := ⟨rfl, rfl⟩
theorem row_ext {r r' : Row} (h : r.ints = r'.ints) : r = r' := by
  obtain ⟨x0, x1, x2, x3, x4, x5, x6, x7, x8, x9, x10⟩ := r
  obtain ⟨y0, y1, y2, y3, y4, y5, y6, y7, y8, y9, y10⟩ := r'
  simp only [Row.ints, List.cons.injEq, and_true] at h
  simp [h]
theorem bal_in {r : Row} (h : r.bal = true) (i : Nat) (b : Int × Int) (n : Int) (hb : rowB[i]? = some b) (hn : r.ints[i]? = some n) : inB b n := by
  unfold Row.bal balB levB at h
  simp only [Bool.and_eq_true, decide_eq_true_eq] at h
  obtain ⟨⟨l1, l2, l3, l4⟩, fl, c1, c2, _⟩ := h
  have m1 := cMay_yes l1
  have m2 := cMay_yes l2
  have m3 := cMay_yes l3
  have m4 := cMay_yes l4
  obtain ⟨f1, f2, f3, f4, f5, f6⟩ := flowB_yes fl
  unfold inB
  match i, hb, hn with
  | 0, hb, hn => simp [rowB, Row.ints] at hb hn; subst hb hn; exact m1
  | 1, hb, hn => simp [rowB, Row.ints] at hb hn; subst hb hn; exact m2
  | 2, hb, hn => simp [rowB, Row.ints] at hb hn; subst hb hn; exact m3
  | 3, hb, hn => simp [rowB, Row.ints] at hb hn; subst hb hn; exact m4
  | 4, hb, hn => simp [rowB, Row.ints] at hb hn; subst hb hn; exact f1
  | 5, hb, hn => simp [rowB, Row.ints] at hb hn; subst hb hn; exact f2
  | 6, hb, hn => simp [rowB, Row.ints] at hb hn; subst hb hn; exact ⟨c1, c2⟩
  | 7, hb, hn => simp [rowB, Row.ints] at hb hn; subst hb hn; exact f3
  | 8, hb, hn => simp [rowB, Row.ints] at hb hn; subst hb hn; exact f4
  | 9, hb, hn => simp [rowB, Row.ints] at hb hn; subst hb hn; exact f5
  | 10, hb, hn => simp [rowB, Row.ints] at hb hn; subst hb hn; exact f6
  | k + 11, hb, hn => simp [rowB] at hb
/-- A row taken with the wide bounds: the same, or the narrow one is at fault, and so is it, or not balanced. -/
theorem takeR_wide (st : Option (List UInt8)) (r : Row) (h : r.ints = (takeL (rowB.map fun _ => wideB) st).1) :
    (r = (takeR st).1 ∧ (takeL (rowB.map fun _ => wideB) st).2 = (takeR st).2) ∨ ((takeR st).2 = none ∧ ((takeL (rowB.map fun _ => wideB) st).2 = none ∨ r.bal = false)) := by
  rcases takeL_wide rowB rowB_ok st with h1 | ⟨h1, h2⟩
  · exact .inl ⟨row_ext (by rw [h, h1]; exact (takeR_ints st).1.symm), by rw [h1]; exact (takeR_ints st).2.symm⟩
  · refine .inr ⟨by rw [(takeR_ints st).2]; exact h1, ?_⟩
    rcases h2 with h2 | ⟨i, b, n, h3, h4, h5⟩
    · exact .inl h2
    · refine .inr ?_
      rw [← h] at h4
      cases hb : r.bal with
      | false => rfl
      | true => exact absurd (bal_in hb i b n h3 h4) h5
theorem unpT_none (n : Nat) (last : List UInt8) (f : List UInt8 → Row) (ks : List (List UInt8)) : unpT n last f ks none = none := by
  cases n with
  | zero => rfl
  | succ n => rfl
/-- Behind a row: what is taken goes on so. -/
def unpW (n : Nat) (s last : List UInt8) (f : List UInt8 → Row) (ks : List (List UInt8)) (r : Row) : Option (List UInt8) → Option ((List UInt8 → Row) × List (List UInt8))
  | none => none
  | some l8 => match rowOK s last r with
    | true => unpT n s (fun k => if k = s then r else f k) (addS ks s) (some l8)
    | false => none
theorem unpW_same (n : Nat) (s last : List UInt8) (f : List UInt8 → Row) (ks : List (List UInt8)) (r : Row) (st8 : Option (List UInt8)) : (match rowOK s last r with
    | true => unpT n s (fun k => if k = s then r else f k) (addS ks s) st8
    | false => none) = unpW n s last f ks r st8 := by
  cases st8 with
  | none =>
    unfold unpW
    cases rowOK s last r with
    | false => rfl
    | true => exact unpT_none _ _ _ _
  | some l8 => rfl
theorem unpT_wide {n : Nat} {last : List UInt8} {f : List UInt8 → Row} {ks : List (List UInt8)} {st : Option (List UInt8)} {s : List UInt8} {st7 st8 : Option (List UInt8)} {r : Row} (ht : ttext st 16 = (s, st7))
    (h : r.ints = (takeL (rowB.map fun _ => wideB) st7).1) (h8 : (takeL (rowB.map fun _ => wideB) st7).2 = st8) :
    unpT (n + 1) last f ks st = unpW n s last f ks r st8 := by
  conv => lhs; unfold unpT
  rw [ht]
  show (match rowOK s last (takeR st7).1 with
    | true => unpT n s (fun k => if k = s then (takeR st7).1 else f k) (addS ks s) (takeR st7).2
    | false => none) = _
  rw [unpW_same]
  rcases takeR_wide st7 r h with ⟨h1, h2⟩ | ⟨h1, h2⟩
  · rw [← h1, ← h2, h8]
  · rw [h1]
    rw [h8] at h2
    show none = _
    rcases h2 with h2 | h2
    · rw [h2]
      rfl
    · cases st8 with
      | none => rfl
      | some l8 =>
        have : rowOK s last r = false := by
          unfold rowOK
          rw [h2]
          simp
        unfold unpW
        rw [this]
end Go.Proofs.YtfpcnenohidfpaaGreat
