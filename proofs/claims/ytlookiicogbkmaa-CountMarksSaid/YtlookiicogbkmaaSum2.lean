/- Sum, Add, Less, Move, and the document's Sum. No condition but that ints came in. -/
import Derived.Test.YtlookiicogbkmaaMay
namespace Go.Proofs.Ytlookiicogbkmaa
open Go.RowKit
set_option linter.unusedVariables false
set_option linter.unusedSimpArgs false

/-- The sum of counts, up to one of them: none, where it is no count. -/
def sumOf : Int → List Int → Option Int
  | s, [] => some s
  | s, x :: l => if s + x ≤ 1099511627776 then sumOf (s + x) l else none
def sumVal (l : List Int) : Value :=
  if mays l = true then (match sumOf 0 l with
    | some s => .tuple #[.int .i64 s, .int .i64 0]
    | none => .tuple #[.int .i64 0, .int .i64 50])
  else .tuple #[.int .i64 0, .int .i64 1]

theorem mays_at {l : List Int} (h : mays l = true) {k : Nat} {x : Int} (hx : l[k]? = some x) : 0 ≤ x ∧ x ≤ 1099511627776 :=
  (may_iff x).1 (List.all_eq_true.1 h x (List.mem_of_getElem? hx))
theorem sumOf_step {l : List Int} {k : Nat} {x : Int} (hx : l[k]? = some x) (s : Int) : sumOf s (l.drop k) = if s + x ≤ 1099511627776 then sumOf (s + x) (l.drop (k + 1)) else none := by
  have hk : k < l.length := (List.getElem?_eq_some_iff.1 hx).1
  have he : l[k] = x := (List.getElem?_eq_some_iff.1 hx).2
  rw [List.drop_eq_getElem_cons hk, he]
  rfl

set_option maxRecDepth 100000 in
theorem sum_any (A : Option Addr) (n c : Nat) (l : List Int) (w : World) (h : IR w A n l) (hc : n ≤ 9223372036854775807) :
    Calls Try.prog 16 #[.slice A n c] w fun e w' => e = .returned (sumVal l) ∧ w' = w := by
  cases hm : mays l with
  | false =>
    go_enter Try.func16, Try.ntmps16
    go_wp2_with (go_at_call 27; refine (mayAll_any A n c l _ h hc).mono ?_; rintro e w' ⟨rfl, rfl⟩; rw [hm])
    go_ret2
    exact ⟨by simp [sumVal, hm], rfl⟩
  | true =>
    go_enter Try.func16, Try.ntmps16
    go_wp2_with (go_at_call 27; refine (mayAll_any A n c l _ h hc).mono ?_; rintro e w' ⟨rfl, rfl⟩; rw [hm])
    go_loopw [4, 12] (fun sv v wr => wr = w' ∧ ∃ (k : Nat) (s : Int), v = .int .i64 (k : Int) ∧ sv = .int .i64 s ∧ 0 ≤ s ∧ s ≤ 1099511627776 ∧ k ≤ n ∧ sumOf s (l.drop k) = sumOf 0 l) (fun _ v _ => n - (intOf v).toNat)
    case atStart => exact ⟨rfl, 0, 0, by go_num, rfl, by omega, by omega, by omega, rfl⟩
    case round =>
      obtain ⟨rfl, k, s, rfl, rfl, hs0, hs1, hk, hs⟩ := hrel
      by_cases hlt : k < n
      · have hlz : (k : Int) < (n : Int) := by omega
        obtain ⟨b, off, x, rfl, hx, hcell⟩ := h.place hlt
        obtain ⟨hx0, hx1⟩ := mays_at hm hx
        have hst := sumOf_step hx s
        by_cases hle : s + x ≤ 1099511627776
        · have hmx : may (s + x) = true := (may_iff _).2 ⟨by omega, hle⟩
          go_wp2_with (go_at_call 13; refine (may_any (s + x) _).mono ?_; rintro e w' ⟨rfl, rfl⟩; rw [hmx])
          go_roundw
          case measure => simp [intOf]; omega
          case rel => exact ⟨by trivial, k + 1, s + x, by go_num, by go_num, by omega, by omega, by omega, by rw [← hs, hst, if_pos hle]⟩
        · have hmx : may (s + x) = false := (may_not _).2 (by omega)
          rw [if_neg hle, hs] at hst
          go_wp2_with (go_at_call 13; refine (may_any (s + x) _).mono ?_; rintro e w' ⟨rfl, rfl⟩; rw [hmx])
          go_ret2
          exact ⟨by simp [sumVal, hm, hst], rfl⟩
      · have hlz : ¬ (k : Int) < (n : Int) := by omega
        have hkn : k = n := by omega
        rw [List.drop_eq_nil_of_le (by rw [h.len]; omega)] at hs
        go_wp2
        go_ret2
        exact ⟨by simp [sumVal, hm, ← hs, sumOf], rfl⟩

set_option maxRecDepth 100000 in
theorem refsum_any (A : Option Addr) (n c : Nat) (l : List Int) (w : World) (h : IR w A n l) (hc : n ≤ 9223372036854775807) :
    Calls Try.prog 17 #[.slice A n c] w fun e w' => e = .returned (sumVal l) ∧ w' = w := by
  go_enter Try.func17, Try.ntmps17
  go_wp2
  go_loopw [4] (fun v wr => wr = w ∧ ∃ k : Nat, v = .int .i64 (k : Int) ∧ k ≤ n ∧ mays (l.take k) = true) (fun v _ => n - (intOf v).toNat)
  case atStart => exact ⟨rfl, 0, by go_num, by omega, rfl⟩
  case round =>
    obtain ⟨rfl, k, rfl, hk, hm⟩ := hrel
    by_cases hlt : k < n
    · have hlz : (k : Int) < (n : Int) := by omega
      obtain ⟨b, off, x, rfl, hx, hcell⟩ := h.place hlt
      have hmt := mays_take l k x hx hm
      cases hmx : may x with
      | true =>
        go_wp2_with (go_at_call 14; refine (refmay_any x _).mono ?_; rintro e w' ⟨rfl, rfl⟩; rw [hmx])
        go_roundw
        case measure => simp [intOf]; omega
        case rel => exact ⟨by trivial, k + 1, by go_num, by omega, by rw [hmt, hmx]⟩
      | false =>
        go_wp2_with (go_at_call 14; refine (refmay_any x _).mono ?_; rintro e w' ⟨rfl, rfl⟩; rw [hmx])
        go_ret2
        exact ⟨by simp [sumVal, mays_bad l k x hx hmx], rfl⟩
    · have hlz : ¬ (k : Int) < (n : Int) := by omega
      have hkn : k = n := by omega
      have hm : mays l = true := by rw [← List.take_of_length_le (l := l) (i := k) (by rw [h.len]; omega), hm]
      go_wp2
      go_loopw [5, 6] (fun sv v wr2 => wr2 = wr ∧ ∃ (k : Nat) (s : Int), v = .int .i64 (k : Int) ∧ sv = .int .i64 s ∧ 0 ≤ s ∧ s ≤ 1099511627776 ∧ k ≤ n ∧ sumOf s (l.drop k) = sumOf 0 l) (fun _ v _ => n - (intOf v).toNat)
      case atStart => exact ⟨rfl, 0, 0, by go_num, rfl, by omega, by omega, by omega, rfl⟩
      case round =>
        obtain ⟨rfl, k, s, rfl, rfl, hs0, hs1, hk, hs⟩ := hrel
        by_cases hlt : k < n
        · have hlz : (k : Int) < (n : Int) := by omega
          obtain ⟨b, off, x, rfl, hx, hcell⟩ := h.place hlt
          obtain ⟨hx0, hx1⟩ := mays_at hm hx
          have hst := sumOf_step hx s
          by_cases hle : s + x ≤ 1099511627776
          · go_wp2
            go_roundw
            case measure => simp [intOf]; omega
            case rel => exact ⟨by trivial, k + 1, s + x, by go_num, by go_num, by omega, by omega, by omega, by rw [← hs, hst, if_pos hle]⟩
          · rw [if_neg hle, hs] at hst
            go_wp2
            go_ret2
            exact ⟨by simp [sumVal, hm, hst], rfl⟩
        · have hlz : ¬ (k : Int) < (n : Int) := by omega
          have hkn : k = n := by omega
          rw [List.drop_eq_nil_of_le (by rw [h.len]; omega)] at hs
          go_wp2
          go_ret2
          exact ⟨by simp [sumVal, hm, ← hs, sumOf], rfl⟩

/-- have + more. -/
def addVal (x y : Int) : Value :=
  if may x = true ∧ may y = true then (if x + y ≤ 1099511627776 then .tuple #[.int .i64 (x + y), .int .i64 0] else .tuple #[.int .i64 0, .int .i64 50])
  else .tuple #[.int .i64 0, .int .i64 1]
theorem sumVal_two (x y : Int) : sumVal [x, y] = addVal x y := by
  unfold sumVal addVal mays
  simp only [List.all_cons, List.all_nil, Bool.and_true, Bool.and_eq_true]
  by_cases h : may x = true ∧ may y = true
  · rw [if_pos h, if_pos h]
    have hx := (may_iff x).1 h.1
    simp only [sumOf]
    rw [if_pos (by omega), Int.zero_add]
    by_cases hl : x + y ≤ 1099511627776
    · rw [if_pos hl, if_pos hl]
    · rw [if_neg hl, if_neg hl]
  · rw [if_neg h, if_neg h]

set_option maxRecDepth 100000 in
theorem add_any (x y : Int) (w : World) : Calls Try.prog 10 #[.int .i64 x, .int .i64 y] w fun e w' => e = .returned (addVal x y) ∧ Below w.heap.size w w' := by
  go_enter Try.func10, Try.ntmps10
  go_wp2_with fail
  refine (sum_any _ 2 2 [x, y] _ (IR.made w _ _ _ [x, y] rfl) (by omega)).mono ?_
  rintro e w' ⟨rfl, rfl⟩
  rw [sumVal_two]
  have hb := (Below.refl w.heap.size w).alloc (Nat.le_refl _) (.cells #[.int .i64 x, .int .i64 y] 3)
  by_cases hm : may x = true ∧ may y = true
  · by_cases hl : x + y ≤ 1099511627776
    · have hv : addVal x y = .tuple #[.int .i64 (x + y), .int .i64 0] := by rw [addVal, if_pos hm, if_pos hl]
      rw [hv]
      go_wp2
      go_ret2
      exact ⟨by rw [hv]; rfl, hb⟩
    · have hv : addVal x y = .tuple #[.int .i64 0, .int .i64 50] := by rw [addVal, if_pos hm, if_neg hl]
      rw [hv]
      go_wp2
      go_ret2
      exact ⟨by rw [hv]; rfl, hb⟩
  · have hv : addVal x y = .tuple #[.int .i64 0, .int .i64 1] := by rw [addVal, if_neg hm]
    rw [hv]
    go_wp2
    go_ret2
    exact ⟨by rw [hv]; rfl, hb⟩

def lessVal (x y : Int) : Value :=
  if may x = true ∧ may y = true then (if y ≤ x then .tuple #[.int .i64 (x - y), .int .i64 0] else .tuple #[.int .i64 0, .int .i64 51])
  else .tuple #[.int .i64 0, .int .i64 1]
theorem mays_two (x y : Int) : mays [x, y] = (may x && may y) := by simp [mays]
theorem mays_three (x y z : Int) : mays [x, y, z] = (may x && (may y && may z)) := by simp [mays]

set_option maxRecDepth 100000 in
theorem less_any (x y : Int) (w : World) : Calls Try.prog 11 #[.int .i64 x, .int .i64 y] w fun e w' => e = .returned (lessVal x y) ∧ Below w.heap.size w w' := by
  go_enter Try.func11, Try.ntmps11
  go_wp2_with fail
  refine (mayAll_any _ 2 2 [x, y] _ (IR.made w _ _ _ [x, y] rfl) (by omega)).mono ?_
  rintro e w' ⟨rfl, rfl⟩
  rw [mays_two]
  have hb := (Below.refl w.heap.size w).alloc (Nat.le_refl _) (.cells #[.int .i64 x, .int .i64 y] 3)
  by_cases hm : may x = true ∧ may y = true
  · obtain ⟨hx0, hx1⟩ := (may_iff x).1 hm.1
    obtain ⟨hy0, hy1⟩ := (may_iff y).1 hm.2
    have hmb : (may x && may y) = true := by simp [hm]
    rw [hmb]
    by_cases hl : y ≤ x
    · have hv : lessVal x y = .tuple #[.int .i64 (x - y), .int .i64 0] := by rw [lessVal, if_pos hm, if_pos hl]
      go_wp2
      go_ret2
      exact ⟨by rw [hv]; go_num, hb⟩
    · have hv : lessVal x y = .tuple #[.int .i64 0, .int .i64 51] := by rw [lessVal, if_pos hm, if_neg hl]
      go_wp2
      go_ret2
      exact ⟨by rw [hv]; rfl, hb⟩
  · have hmb : (may x && may y) = false := by simpa using hm
    have hv : lessVal x y = .tuple #[.int .i64 0, .int .i64 1] := by rw [lessVal, if_neg hm]
    rw [hmb]
    go_wp2
    go_ret2
    exact ⟨by rw [hv]; rfl, hb⟩

def moveVal (f t n : Int) : Value :=
  if may f = true ∧ may t = true ∧ may n = true then
    (if n ≤ f then (if t + n ≤ 1099511627776 then .tuple #[.int .i64 (f - n), .int .i64 (t + n), .int .i64 0] else .tuple #[.int .i64 0, .int .i64 0, .int .i64 50])
     else .tuple #[.int .i64 0, .int .i64 0, .int .i64 51])
  else .tuple #[.int .i64 0, .int .i64 0, .int .i64 1]

set_option maxRecDepth 100000 in
theorem move_any (f t n : Int) (w : World) : Calls Try.prog 15 #[.int .i64 f, .int .i64 t, .int .i64 n] w fun e w' => e = .returned (moveVal f t n) ∧ Below w.heap.size w w' := by
  go_enter Try.func15, Try.ntmps15
  go_wp2_with fail
  refine (mayAll_any _ 3 3 [f, t, n] _ (IR.made w _ _ _ [f, t, n] rfl) (by omega)).mono ?_
  rintro e w' ⟨rfl, rfl⟩
  rw [mays_three]
  have hb := (Below.refl w.heap.size w).alloc (Nat.le_refl _) (.cells #[.int .i64 f, .int .i64 t, .int .i64 n] 3)
  by_cases hm : may f = true ∧ may t = true ∧ may n = true
  · obtain ⟨hx0, hx1⟩ := (may_iff f).1 hm.1
    obtain ⟨hy0, hy1⟩ := (may_iff t).1 hm.2.1
    obtain ⟨hz0, hz1⟩ := (may_iff n).1 hm.2.2
    have hmb : (may f && (may t && may n)) = true := by simp [hm]
    rw [hmb]
    by_cases hl : n ≤ f
    · by_cases ho : t + n ≤ 1099511627776
      · have hmo : may (t + n) = true := (may_iff _).2 ⟨by omega, ho⟩
        have hv : moveVal f t n = .tuple #[.int .i64 (f - n), .int .i64 (t + n), .int .i64 0] := by rw [moveVal, if_pos hm, if_pos hl, if_pos ho]
        go_wp2_with (go_at_call 13; refine (may_any (t + n) _).mono ?_; rintro e w' ⟨rfl, rfl⟩; rw [hmo])
        go_ret3
        exact ⟨by rw [hv]; go_num, hb⟩
      · have hmo : may (t + n) = false := (may_not _).2 (by omega)
        have hv : moveVal f t n = .tuple #[.int .i64 0, .int .i64 0, .int .i64 50] := by rw [moveVal, if_pos hm, if_pos hl, if_neg ho]
        go_wp2_with (go_at_call 13; refine (may_any (t + n) _).mono ?_; rintro e w' ⟨rfl, rfl⟩; rw [hmo])
        go_ret3
        exact ⟨by rw [hv]; rfl, hb⟩
    · have hv : moveVal f t n = .tuple #[.int .i64 0, .int .i64 0, .int .i64 51] := by rw [moveVal, if_pos hm, if_neg hl]
      go_wp2
      go_ret3
      exact ⟨by rw [hv]; rfl, hb⟩
  · have hmb : (may f && (may t && may n)) = false := by simpa using hm
    have hv : moveVal f t n = .tuple #[.int .i64 0, .int .i64 0, .int .i64 1] := by rw [moveVal, if_neg hm]
    rw [hmb]
    go_wp2
    go_ret3
    exact ⟨by rw [hv]; rfl, hb⟩
end Go.Proofs.Ytlookiicogbkmaa
