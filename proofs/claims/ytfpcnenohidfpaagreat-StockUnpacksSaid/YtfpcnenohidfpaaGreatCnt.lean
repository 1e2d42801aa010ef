/- Sums of numbers. No condition but that the list is one of memory. -/
import Derived.Test.YtfpcnenohidfpaaGreatGood
namespace Go.Proofs.YtfpcnenohidfpaaGreat.Cnt
open Go.RowKit
set_option linter.unusedVariables false
set_option linter.unusedSimpArgs false

/-- An int. -/
def I64 (x : Int) : Prop := -9223372036854775808 ≤ x ∧ x ≤ 9223372036854775807

/-- The slice value with address A and n elements reads as the ints l. -/
structure IR (w : World) (A : Option Addr) (n : Nat) (l : List Int) : Prop where
  len : l.length = n
  at_ : ∀ j x, l[j]? = some x → ∃ b off, A = some ⟨b, off, none⟩ ∧ w.cell? ⟨b, off + j, none⟩ = some (.int .i64 x)
theorem IR.nil (w : World) (A : Option Addr) : IR w A 0 [] := ⟨rfl, fun j x h => by simp at h⟩
theorem IR.kept {S : Nat → Prop} {w w' : World} {A : Option Addr} {n : Nat} {l : List Int} (h : IR w A n l) (k : Keep S w w') (hs : ∀ ad, A = some ad → ¬ S ad.block) : IR w' A n l :=
  ⟨h.len, fun j x hx => by
    obtain ⟨b, off, e, hc⟩ := h.at_ j x hx
    exact ⟨b, off, e, k.cell hc (hs ⟨b, off, none⟩ e)⟩⟩
theorem IR.drewN {w : World} {A : Option Addr} {n : Nat} {l : List Int} (h : IR w A n l) (k : Nat) : IR (w.drewN k) A n l := ⟨h.len, fun j x hx => by simpa using h.at_ j x hx⟩
theorem IR.alloc {w : World} {A : Option Addr} {n : Nat} {l : List Int} (h : IR w A n l) (o : Obj) : IR (w.alloc o) A n l := h.kept ((Keep.refl (fun _ => False) w).alloc o) fun _ _ => id
theorem IR.below {w w' : World} {A : Option Addr} {n : Nat} {l : List Int} (h : IR w A n l) (k : Below w.heap.size w w') : IR w' A n l :=
  ⟨h.len, fun j x hx => by
    obtain ⟨b, off, e, hc⟩ := h.at_ j x hx
    exact ⟨b, off, e, (k.cell (World.block_lt_of_cell? _ _ hc)).trans hc⟩⟩
theorem IR.place {w : World} {A : Option Addr} {n : Nat} {l : List Int} (h : IR w A n l) {k : Nat} (hk : k < n) : ∃ b off x, A = some ⟨b, off, none⟩ ∧ l[k]? = some x ∧ w.cell? ⟨b, off + k, none⟩ = some (.int .i64 x) := by
  have hl : k < l.length := by rw [h.len]; exact hk
  obtain ⟨b, off, e, hc⟩ := h.at_ k _ (List.getElem?_eq_getElem hl)
  exact ⟨b, off, _, e, List.getElem?_eq_getElem hl, hc⟩

theorem IR.made (w : World) (cs : Array Value) (t : TypeId) (fr : Nat × Nat) (l : List Int) (h : cs = (l.map (Value.int .i64)).toArray) : IR (w.alloc (.cells cs t fr)) (some ⟨w.heap.size, 0, none⟩) l.length l := by
  subst h
  refine ⟨rfl, fun j x hx => ⟨_, _, rfl, ?_⟩⟩
  rw [cell_of_row _ _ _ _ _ _ (heap_alloc_new w _)]
  simp [hx]

/-- Is it a count? -/
def may (n : Int) : Bool := decide (0 ≤ n) && decide (n ≤ 1099511627776)
theorem may_iff (n : Int) : may n = true ↔ 0 ≤ n ∧ n ≤ 1099511627776 := by simp [may]
theorem may_not (n : Int) : may n = false ↔ n < 0 ∨ 1099511627776 < n := by
  unfold may
  simp
  omega


theorem may_any (n : Int) (w : World) : Calls Tryz.prog 43 #[.int .i64 n] w fun e w' => e = .returned (.bool (may n)) ∧ w' = w := by
  by_cases h0 : 0 ≤ n
  · by_cases h1 : n ≤ 1099511627776
    · go_enter Tryz.func43, Tryz.ntmps43
      go_wp2
      go_ret
      exact ⟨by rw [(may_iff n).2 ⟨h0, h1⟩]; rfl, rfl⟩
    · go_enter Tryz.func43, Tryz.ntmps43
      go_wp2
      go_ret
      exact ⟨by rw [(may_not n).2 (by omega)]; rfl, rfl⟩
  · go_enter Tryz.func43, Tryz.ntmps43
    go_wp2
    go_ret
    exact ⟨by rw [(may_not n).2 (by omega)]; rfl, rfl⟩

theorem refmay_any (n : Int) (w : World) : Calls Tryz.prog 47 #[.int .i64 n] w fun e w' => e = .returned (.bool (may n)) ∧ w' = w := by
  by_cases h0 : 0 ≤ n
  · by_cases h1 : n ≤ 1099511627776
    · go_enter Tryz.func47, Tryz.ntmps47
      go_wp2
      go_ret
      exact ⟨by rw [(may_iff n).2 ⟨h0, h1⟩]; rfl, rfl⟩
    · go_enter Tryz.func47, Tryz.ntmps47
      go_wp2
      go_ret
      exact ⟨by rw [(may_not n).2 (by omega)]; rfl, rfl⟩
  · go_enter Tryz.func47, Tryz.ntmps47
    go_wp2
    go_ret
    exact ⟨by rw [(may_not n).2 (by omega)]; rfl, rfl⟩

/-- Are they all counts? -/
def mays (l : List Int) : Bool := l.all may
theorem mays_take (l : List Int) (k : Nat) (x : Int) (hx : l[k]? = some x) (hk : mays (l.take k) = true) : mays (l.take (k + 1)) = may x := by
  rw [List.take_add_one, hx]
  unfold mays at hk ⊢
  rw [List.all_append, hk]
  simp
theorem mays_bad (l : List Int) (k : Nat) (x : Int) (hx : l[k]? = some x) (hm : may x = false) : mays l = false := by
  unfold mays
  rw [List.all_eq_false]
  exact ⟨x, List.mem_of_getElem? hx, by simp [hm]⟩

set_option maxRecDepth 100000 in
theorem mayAll_any (A : Option Addr) (n c : Nat) (l : List Int) (w : World) (h : IR w A n l) (hc : n ≤ 9223372036854775807) :
    Calls Tryz.prog 60 #[.slice A n c] w fun e w' => e = .returned (.bool (mays l)) ∧ w' = w := by
  go_enter Tryz.func60, Tryz.ntmps60
  go_wp2
  go_loopw [7] (fun v wr => wr = w ∧ ∃ k : Nat, v = .int .i64 (k : Int) ∧ k ≤ n ∧ mays (l.take k) = true) (fun v _ => n - (intOf v).toNat)
  case atStart => exact ⟨rfl, 0, by go_num, by omega, rfl⟩
  case round =>
    obtain ⟨rfl, k, rfl, hk, hm⟩ := hrel
    by_cases hlt : k < n
    · have hlz : (k : Int) < (n : Int) := by omega
      obtain ⟨b, off, x, rfl, hx, hcell⟩ := h.place hlt
      have hmt := mays_take l k x hx hm
      cases hmx : may x with
      | true =>
        go_wp2_with (go_at_call 43; refine (may_any x _).mono ?_; rintro e w' ⟨rfl, rfl⟩; rw [hmx])
        go_roundw
        case measure => simp [intOf]; omega
        case rel => exact ⟨by trivial, k + 1, by go_num, by omega, by rw [hmt, hmx]⟩
      | false =>
        go_wp2_with (go_at_call 43; refine (may_any x _).mono ?_; rintro e w' ⟨rfl, rfl⟩; rw [hmx])
        go_ret
        exact ⟨by rw [mays_bad l k x hx hmx]; rfl, rfl⟩
    · have hlz : ¬ (k : Int) < (n : Int) := by omega
      have hkn : k = n := by omega
      go_wp2
      go_ret
      exact ⟨by rw [← List.take_of_length_le (l := l) (i := k) (by rw [h.len]; omega), hm]; rfl, rfl⟩


/-- The sum of counts, up to one of them: none, where it is no count. -/
def sumOf : Int → List Int → Option Int
  | s, [] => some s
  | s, x :: l => if s + x ≤ 1099511627776 then sumOf (s + x) l else none
def sumVal (l : List Int) : Value :=
  if mays l = true then (match sumOf 0 l with
    | some s => .tuple #[.int .i64 s, .int .i64 0]
    | none => .tuple #[.int .i64 0, .int .i64 50])
  else .tuple #[.int .i64 0, .int .i64 1]

theorem mays_at {l : List Int} (h : mays l = true) {k : Nat} {x : Int} (hx : l[k]? = some x) : 0 ≤ x ∧ x ≤ 1099511627776 :=
  (may_iff x).1 (List.all_eq_true.1 h x (List.mem_of_getElem? hx))
theorem sumOf_step {l : List Int} {k : Nat} {x : Int} (hx : l[k]? = some x) (s : Int) : sumOf s (l.drop k) = if s + x ≤ 1099511627776 then sumOf (s + x) (l.drop (k + 1)) else none := by
  have hk : k < l.length := (List.getElem?_eq_some_iff.1 hx).1
  have he : l[k] = x := (List.getElem?_eq_some_iff.1 hx).2
  rw [List.drop_eq_getElem_cons hk, he]
  rfl

set_option maxRecDepth 100000 in
theorem sum_any (A : Option Addr) (n c : Nat) (l : List Int) (w : World) (h : IR w A n l) (hc : n ≤ 9223372036854775807) :
    Calls Tryz.prog 40 #[.slice A n c] w fun e w' => e = .returned (sumVal l) ∧ w' = w := by
  cases hm : mays l with
  | false =>
    go_enter Tryz.func40, Tryz.ntmps40
    go_wp2_with (go_at_call 60; refine (mayAll_any A n c l _ h hc).mono ?_; rintro e w' ⟨rfl, rfl⟩; rw [hm])
    go_ret2
    exact ⟨by simp [sumVal, hm], rfl⟩
  | true =>
    go_enter Tryz.func40, Tryz.ntmps40
    go_wp2_with (go_at_call 60; refine (mayAll_any A n c l _ h hc).mono ?_; rintro e w' ⟨rfl, rfl⟩; rw [hm])
    go_loopw [4, 12] (fun sv v wr => wr = w' ∧ ∃ (k : Nat) (s : Int), v = .int .i64 (k : Int) ∧ sv = .int .i64 s ∧ 0 ≤ s ∧ s ≤ 1099511627776 ∧ k ≤ n ∧ sumOf s (l.drop k) = sumOf 0 l) (fun _ v _ => n - (intOf v).toNat)
    case atStart => exact ⟨rfl, 0, 0, by go_num, rfl, by omega, by omega, by omega, rfl⟩
    case round =>
      obtain ⟨rfl, k, s, rfl, rfl, hs0, hs1, hk, hs⟩ := hrel
      by_cases hlt : k < n
      · have hlz : (k : Int) < (n : Int) := by omega
        obtain ⟨b, off, x, rfl, hx, hcell⟩ := h.place hlt
        obtain ⟨hx0, hx1⟩ := mays_at hm hx
        have hst := sumOf_step hx s
        by_cases hle : s + x ≤ 1099511627776
        · have hmx : may (s + x) = true := (may_iff _).2 ⟨by omega, hle⟩
          go_wp2_with (go_at_call 43; refine (may_any (s + x) _).mono ?_; rintro e w' ⟨rfl, rfl⟩; rw [hmx])
          go_roundw
          case measure => simp [intOf]; omega
          case rel => exact ⟨by trivial, k + 1, s + x, by go_num, by go_num, by omega, by omega, by omega, by rw [← hs, hst, if_pos hle]⟩
        · have hmx : may (s + x) = false := (may_not _).2 (by omega)
          rw [if_neg hle, hs] at hst
          go_wp2_with (go_at_call 43; refine (may_any (s + x) _).mono ?_; rintro e w' ⟨rfl, rfl⟩; rw [hmx])
          go_ret2
          exact ⟨by simp [sumVal, hm, hst], rfl⟩
      · have hlz : ¬ (k : Int) < (n : Int) := by omega
        have hkn : k = n := by omega
        rw [List.drop_eq_nil_of_le (by rw [h.len]; omega)] at hs
        go_wp2
        go_ret2
        exact ⟨by simp [sumVal, hm, ← hs, sumOf], rfl⟩


/-- have + more. -/
def addVal (x y : Int) : Value :=
  if may x = true ∧ may y = true then (if x + y ≤ 1099511627776 then .tuple #[.int .i64 (x + y), .int .i64 0] else .tuple #[.int .i64 0, .int .i64 50])
  else .tuple #[.int .i64 0, .int .i64 1]
theorem sumVal_two (x y : Int) : sumVal [x, y] = addVal x y := by
  unfold sumVal addVal mays
  simp only [List.all_cons, List.all_nil, Bool.and_true, Bool.and_eq_true]
  by_cases h : may x = true ∧ may y = true
  · rw [if_pos h, if_pos h]
    have hx := (may_iff x).1 h.1
    simp only [sumOf]
    rw [if_pos (by omega), Int.zero_add]
    by_cases hl : x + y ≤ 1099511627776
    · rw [if_pos hl, if_pos hl]
    · rw [if_neg hl, if_neg hl]
  · rw [if_neg h, if_neg h]

def lessVal (x y : Int) : Value :=
  if may x = true ∧ may y = true then (if y ≤ x then .tuple #[.int .i64 (x - y), .int .i64 0] else .tuple #[.int .i64 0, .int .i64 51])
  else .tuple #[.int .i64 0, .int .i64 1]
theorem mays_two (x y : Int) : mays [x, y] = (may x && may y) := by simp [mays]

end Go.Proofs.YtfpcnenohidfpaaGreat.Cnt
