/- What a request is, which may be, its code: pure. No condition. -/
import Derived.Test.YtpfkhalomnfcfaaCodeI
namespace Go.Proofs.Ytpfkhalomnfcfaa
open Go.RowKit
set_option linter.unusedVariables false
set_option linter.unusedSimpArgs false

/-- A request: client, number, kind, order, region, to, n, good, items. -/
structure AV where
  c : Int
  m : Int
  k : Int
  o : Int
  r : Int
  t : Int
  n : Int
  g : List UInt8
  l : List It
/-- Its value, with the items at an address. -/
def AV.v (x : AV) (A : Option Addr) (cap : Nat) : Value := .agg #[.int .i64 x.c, .int .i64 x.m, .int .i64 x.k, .int .i64 x.o, .int .i64 x.r, .int .i64 x.t, .int .i64 x.n, .string ⟨x.g.toArray⟩, .slice A x.l.length cap]
def AV.cs (x : AV) (A : Option Addr) (cap : Nat) : Array Value := #[.int .i64 x.c, .int .i64 x.m, .int .i64 x.k, .int .i64 x.o, .int .i64 x.r, .int .i64 x.t, .int .i64 x.n, .string ⟨x.g.toArray⟩, .slice A x.l.length cap]

/-- The fields of a kind. -/
def hasL (k : Int) : List UInt8 :=
  if k = 1 then [110, 105] else if k = 2 then [111] else if k = 3 then [111] else if k = 4 then [111] else if k = 5 then [111, 114, 105] else if k = 6 then [114, 105]
  else if k = 7 then [114, 110, 103] else if k = 8 then [114, 105] else if k = 9 then [114, 105] else if k = 10 then [114, 116, 105] else if k = 11 then [110] else []
theorem hasL_none {k : Int} (h : ¬ (1 ≤ k ∧ k ≤ 11)) : hasL k = [] := by
  unfold hasL
  repeat rw [if_neg (by omega)]
/-- Does a kind have a field? -/
def hasB (L : List UInt8) (c : UInt8) : Bool := L.contains c
theorem hasL_len (k : Int) : (hasL k).length ≤ 3 := by
  unfold hasL
  repeat' split
  all_goals decide
def loN (k : Int) : Int := if k = 11 then 1 else 0
def hiN (k : Int) : Int := if k = 1 then 1 else if k = 7 then 1099511627776 else if k = 11 then 4294967297 else 0
def numOK (b : Bool) (n lo hi : Int) : Bool := match b with
  | false => decide (n = 0)
  | true => decide (lo ≤ n) && decide (n ≤ hi)
def mayK (L : List UInt8) (lo hi : Int) (x : AV) : Bool :=
  !decide (L = []) && (decide (0 ≤ x.c) && (decide (x.c < 64) && (decide (1 ≤ x.m) && (decide (x.m ≤ 4294967296) && (numOK (hasB L 111) x.o 1 1099511627776 && (numOK (hasB L 114) x.r 0 7 && (numOK (hasB L 116) x.t 0 7 &&
  (!(hasB L 116 && decide (x.t = x.r)) && (numOK (hasB L 110) x.n lo hi && (!(hasB L 103 && !gOK x.g) && (!(!hasB L 103 && !decide (x.g = [])) && ((hasB L 105 == decide (0 < x.l.length)) && mayL x.l))))))))))))
/-- May a request be? -/
def mayA (x : AV) : Bool := mayK (hasL x.k) (loN x.k) (hiN x.k) x

/-- Its body and its code. -/
def bodyA (x : AV) : List UInt8 := numCell x.k ++ numCell x.o ++ numCell x.r ++ numCell x.t ++ numCell x.n ++ (numCell x.g.length ++ x.g) ++ encL x.l
def encA (x : AV) : List UInt8 := numCell x.c ++ numCell x.m ++ bodyA x
def putsN (st : Option (List UInt8)) (ns : List Int) : Option (List UInt8) := ns.foldl (fun s n => put s (numCell n)) st
def putB (st : Option (List UInt8)) (x : AV) : Option (List UInt8) := putL (put (putsN st [x.k, x.o, x.r, x.t, x.n]) (numCell x.g.length ++ x.g)) x.l

theorem kinds {k : Int} (h : 1 ≤ k ∧ k ≤ 11) : k = 1 ∨ k = 2 ∨ k = 3 ∨ k = 4 ∨ k = 5 ∨ k = 6 ∨ k = 7 ∨ k = 8 ∨ k = 9 ∨ k = 10 ∨ k = 11 := by omega
/-- What a request that may be has. -/
theorem mayA_facts {x : AV} (h : mayA x = true) : (1 ≤ x.k ∧ x.k ≤ 11) ∧ (0 ≤ x.c ∧ x.c ≤ 63) ∧ (1 ≤ x.m ∧ x.m ≤ 4294967296) ∧ (0 ≤ x.o ∧ x.o ≤ 1099511627776) ∧ (0 ≤ x.r ∧ x.r ≤ 7) ∧ (0 ≤ x.t ∧ x.t ≤ 7) ∧ (0 ≤ x.n ∧ x.n ≤ 1099511627776) ∧ x.g.length ≤ 16 ∧ mayL x.l = true := by
  have hk : 1 ≤ x.k ∧ x.k ≤ 11 := by
    by_cases hk : 1 ≤ x.k ∧ x.k ≤ 11
    · exact hk
    · unfold mayA mayK at h
      rw [hasL_none hk] at h
      simp at h
  refine ⟨hk, ?_⟩
  have hg : ∀ b : Bool, (!(b && !gOK x.g) && !(!b && !decide (x.g = []))) = true → x.g.length ≤ 16 := fun b hb => by
    cases b with
    | true =>
      simp [gOK] at hb
      omega
    | false =>
      simp at hb
      rw [hb]
      simp
  unfold mayA at h
  generalize hL : hasL x.k = L at h
  unfold mayK at h
  simp only [Bool.and_eq_true] at h
  obtain ⟨_, h1, h2, h3, h4, h5, h6, h7, _, h9, h10, h11, _, h13⟩ := h
  have hgg := hg (hasB L 103) (by rw [h10, h11]; rfl)
  have hn : ∀ (b : Bool) (n lo hi : Int), 0 ≤ lo → 0 ≤ hi → numOK b n lo hi = true → 0 ≤ n ∧ n ≤ hi := fun b n lo hi h0 h1 hh => by
    cases b with
    | false =>
      simp [numOK] at hh
      omega
    | true =>
      simp [numOK] at hh
      omega
  have e5 := hn _ _ _ _ (by omega) (by omega) h5
  have e6 := hn _ _ _ _ (by omega) (by omega) h6
  have e7 := hn _ _ _ _ (by omega) (by omega) h7
  have hhi : 0 ≤ loN x.k ∧ 0 ≤ hiN x.k ∧ hiN x.k ≤ 1099511627776 := by
    unfold loN hiN
    refine ⟨?_, ?_, ?_⟩ <;> (repeat' split) <;> omega
  have e9 := hn _ _ _ _ hhi.1 hhi.2.1 h9
  have e1 := of_decide_eq_true h1
  have e2 := of_decide_eq_true h2
  have e3 := of_decide_eq_true h3
  have e4 := of_decide_eq_true h4
  exact ⟨⟨e1, by omega⟩, ⟨e3, e4⟩, e5, e6, e7, ⟨e9.1, by omega⟩, hgg, h13⟩
theorem encA_len {x : AV} (h : mayA x = true) : (encA x).length ≤ 650 := by
  obtain ⟨_, _, _, _, _, _, _, hg, hl⟩ := mayA_facts h
  have := encL_len _ hl
  have h1 := numCell_len x.c
  have h2 := numCell_len x.m
  have h3 := numCell_len x.k
  have h4 := numCell_len x.o
  have h5 := numCell_len x.r
  have h6 := numCell_len x.t
  have h7 := numCell_len x.n
  have h8 := numCell_len (x.g.length : Int)
  unfold encA bodyA
  simp only [List.length_append]
  omega
theorem putsN_fits (b : List UInt8) (ns : List Int) : b.length + (ns.flatMap numCell).length ≤ 262144 → putsN (some b) ns = some (b ++ ns.flatMap numCell) := by
  induction ns using snoc_ind with
  | h0 => intro _; simp [putsN]
  | h1 ns n ih =>
    intro h
    rw [List.flatMap_append, List.length_append] at h
    simp only [List.flatMap_cons, List.flatMap_nil, List.append_nil] at h
    unfold putsN at ih ⊢
    rw [List.foldl_append, ih (by omega)]
    show put (some _) (numCell n) = _
    rw [put_fits _ _ (by rw [List.length_append]; omega)]
    simp
theorem putB_fits {x : AV} (h : mayA x = true) (b : List UInt8) (hb : b.length ≤ 32) : putB (some b) x = some (b ++ bodyA x) := by
  have hl := encA_len h
  have hm := (mayA_facts h).2.2.2.2.2.2.2.2
  unfold encA bodyA at hl
  simp only [List.length_append] at hl
  unfold putB
  rw [putsN_fits _ _ (by simp only [List.flatMap_cons, List.flatMap_nil, List.append_nil, List.length_append]; omega)]
  rw [put_fits _ _ (by simp only [List.flatMap_cons, List.flatMap_nil, List.append_nil, List.length_append]; omega)]
  rw [putL_fits _ _ (by simp only [List.flatMap_cons, List.flatMap_nil, List.append_nil, List.length_append]; omega)]
  unfold bodyA
  simp [List.append_assoc]
end Go.Proofs.Ytpfkhalomnfcfaa
