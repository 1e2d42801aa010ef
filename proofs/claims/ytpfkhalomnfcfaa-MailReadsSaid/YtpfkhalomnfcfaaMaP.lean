/- What mail is, which may be, its code: pure. No condition. -/
import Derived.Test.YtpfkhalomnfcfaaAskD
namespace Go.Proofs.Ytpfkhalomnfcfaa
open Go.RowKit
set_option linter.unusedVariables false
set_option linter.unusedSimpArgs false

/-- An answer: client, number, code, n. -/
structure AN where
  c : Int
  m : Int
  e : Int
  n : Int
/-- Mail: kind, order, items, request, answer. -/
structure MV where
  k : Int
  o : Int
  l : List It
  a : AV
  y : AN
def y0 : AN := ⟨0, 0, 0, 0⟩
def mv0 : MV := ⟨0, 0, [], x0, y0⟩
def MV.cs (x : MV) (A : Option Addr) (cap : Nat) (B : Option Addr) (capb : Nat) : Array Value := #[.int .i64 x.k, .int .i64 x.o, .slice A x.l.length cap, .int .i64 x.a.c, .int .i64 x.a.m, .int .i64 x.a.k, .int .i64 x.a.o, .int .i64 x.a.r, .int .i64 x.a.t, .int .i64 x.a.n, .string ⟨x.a.g.toArray⟩, .slice B x.a.l.length capb, .int .i64 x.y.c, .int .i64 x.y.m, .int .i64 x.y.e, .int .i64 x.y.n]
def MV.v (x : MV) (A : Option Addr) (cap : Nat) (B : Option Addr) (capb : Nat) : Value := .agg (x.cs A cap B capb)

/-- The fields of a kind. -/
def hasM (k : Int) : List UInt8 :=
  if k = 1 ∨ k = 11 then [97] else if k = 2 ∨ k = 12 then [121] else if k = 3 ∨ k = 4 ∨ k = 8 ∨ k = 10 ∨ k = 13 then [111, 105] else if k = 5 ∨ k = 6 ∨ k = 7 ∨ k = 9 then [111] else []
theorem hasM_none {k : Int} (h : ¬ (1 ≤ k ∧ k ≤ 13)) : hasM k = [] := by
  unfold hasM
  repeat rw [if_neg (by omega)]
theorem hasM_len (k : Int) : (hasM k).length ≤ 2 := by
  unfold hasM
  repeat' split
  all_goals decide
theorem kindsM {k : Int} (h : 1 ≤ k ∧ k ≤ 13) : k = 1 ∨ k = 2 ∨ k = 3 ∨ k = 4 ∨ k = 5 ∨ k = 6 ∨ k = 7 ∨ k = 8 ∨ k = 9 ∨ k = 10 ∨ k = 11 ∨ k = 12 ∨ k = 13 := by omega
/-- A field: right, if the kind has it; else none. -/
def fld (b may none : Bool) : Bool := match b with | true => may | false => none
def mayY (y : AN) : Bool := decide (0 ≤ y.c) && (decide (y.c < 64) && (decide (1 ≤ y.m) && (decide (y.m ≤ 4294967296) && (decide (0 ≤ y.e) && decide (y.e ≤ 1000)))))
def sameY (y z : AN) : Bool := decide (y.c = z.c) && (decide (y.m = z.m) && (decide (y.e = z.e) && decide (y.n = z.n)))
theorem sameY_iff (y z : AN) : sameY y z = true ↔ y = z := by
  obtain ⟨a, b, c, d⟩ := y
  obtain ⟨a2, b2, c2, d2⟩ := z
  unfold sameY
  simp
def mayO (o : Int) : Bool := decide (1 ≤ o) && decide (o ≤ 1099511627776)
def mayKM (L : List UInt8) (x : MV) : Bool :=
  decide (1 ≤ x.k) && (decide (x.k ≤ 14) && (fld (hasB L 111) (mayO x.o) (decide (x.o = 0)) && (fld (hasB L 105) (mayL x.l) (decide (x.l.length = 0)) && (fld (hasB L 97) (mayA x.a) (sameA x.a x0) && fld (hasB L 121) (mayY x.y) (sameY x.y y0)))))
/-- May mail be? -/
def mayM (x : MV) : Bool := mayKM (hasM x.k) x
/-- Are two the same? -/
def sameM (x z : MV) : Bool := decide (x.k = z.k) && (decide (x.o = z.o) && (decide (x.l = z.l) && (sameA x.a z.a && sameY x.y z.y)))
theorem sameM_iff (x z : MV) : sameM x z = true ↔ x = z := by
  obtain ⟨k, o, l, a, y⟩ := x
  obtain ⟨k2, o2, l2, a2, y2⟩ := z
  unfold sameM
  simp [sameA_iff, sameY_iff]
/-- Its code. -/
def askB (L : List UInt8) (a : AV) : List UInt8 := match hasB L 97 with | true => encA a | false => []
def ansB (L : List UInt8) (y : AN) : List UInt8 := match hasB L 121 with | true => numCell y.c ++ (numCell y.m ++ (numCell y.e ++ numCell y.n)) | false => []
def encKM (L : List UInt8) (x : MV) : List UInt8 := numCell x.k ++ (numCell x.o ++ (encL x.l ++ ((numCell (askB L x.a).length ++ askB L x.a) ++ ansB L x.y)))
def encM (x : MV) : List UInt8 := encKM (hasM x.k) x

/-- What mail that may be has. -/
structure OKM (L : List UInt8) (x : MV) : Prop where
  k : 1 ≤ x.k ∧ x.k ≤ 14
  o : fld (hasB L 111) (mayO x.o) (decide (x.o = 0)) = true
  i : fld (hasB L 105) (mayL x.l) (decide (x.l.length = 0)) = true
  a : fld (hasB L 97) (mayA x.a) (sameA x.a x0) = true
  y : fld (hasB L 121) (mayY x.y) (sameY x.y y0) = true
theorem OKM.of {L : List UInt8} {x : MV} (h : mayKM L x = true) : OKM L x := by
  unfold mayKM at h
  simp only [Bool.and_eq_true] at h
  obtain ⟨h1, h2, h3, h4, h5, h6⟩ := h
  exact ⟨⟨of_decide_eq_true h1, of_decide_eq_true h2⟩, h3, h4, h5, h6⟩
theorem OKM.may {L : List UInt8} {x : MV} (h : OKM L x) : mayKM L x = true := by
  unfold mayKM
  rw [h.o, h.i, h.a, h.y, decide_eq_true h.k.1, decide_eq_true h.k.2]
  rfl
theorem fld_nil {b : Bool} {l : List It} (h : fld b (mayL l) (decide (l.length = 0)) = true) : mayL l = true := by
  cases b with
  | true => exact h
  | false =>
    have : l = [] := List.eq_nil_of_length_eq_zero (of_decide_eq_true h)
    rw [this]
    rfl
theorem OKM.list {L : List UInt8} {x : MV} (h : OKM L x) : mayL x.l = true := fld_nil h.i
theorem OKM.order {L : List UInt8} {x : MV} (h : OKM L x) : 0 ≤ x.o ∧ x.o ≤ 1099511627776 := by
  have h3 := h.o
  cases hb : hasB L 111 with
  | true =>
    rw [hb] at h3
    unfold fld mayO at h3
    simp at h3
    omega
  | false =>
    rw [hb] at h3
    have := of_decide_eq_true h3
    omega
theorem mayY_facts {y : AN} (h : mayY y = true) : (0 ≤ y.c ∧ y.c ≤ 63) ∧ (1 ≤ y.m ∧ y.m ≤ 4294967296) ∧ (0 ≤ y.e ∧ y.e ≤ 1000) := by
  unfold mayY at h
  simp at h
  omega
theorem askB_len {L : List UInt8} {x : MV} (h : OKM L x) : (askB L x.a).length ≤ 650 := by
  have h5 := h.a
  unfold askB
  cases hb : hasB L 97 with
  | true =>
    rw [hb] at h5
    exact encA_len h5
  | false => simp
theorem ansB_len (L : List UInt8) (y : AN) : (ansB L y).length ≤ 36 := by
  have h1 := numCell_len y.c
  have h2 := numCell_len y.m
  have h3 := numCell_len y.e
  have h4 := numCell_len y.n
  unfold ansB
  split
  · simp only [List.length_append]
    omega
  · simp
theorem encKM_len {L : List UInt8} {x : MV} (h : OKM L x) : (encKM L x).length ≤ 2048 := by
  have h1 := numCell_len x.k
  have h2 := numCell_len x.o
  have h3 := encL_len _ h.list
  have h4 := askB_len h
  have h5 := numCell_len ((askB L x.a).length : Int)
  have h6 := ansB_len L x.y
  unfold encKM
  simp only [List.length_append]
  omega
theorem x0_no : mayA x0 = false := by decide +kernel
end Go.Proofs.Ytpfkhalomnfcfaa
