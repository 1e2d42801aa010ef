/- life's and its reference's calls on ints in memory; names of texts; codes. No condition but that lists lie in memory. -/
import Derived.Test.YtpcngkbjeiclkaaLiP
namespace Go.Proofs.Ytpcngkbjeiclkaa
open Go.RowKit
set_option linter.unusedVariables false
set_option linter.unusedSimpArgs false

set_option maxHeartbeats 1600000 in
theorem index_any (A : Option Addr) (n c : Nat) (l : List Int) (x : Int) (w : World) (hr : IR w A n l) (hn : n ≤ 9223372036854775807) :
    Calls Try.prog 22 #[.slice A n c, .int .i64 x] w fun e w' => w' = w ∧ ∃ z : Int, e = .returned (.int .i64 z) ∧ (0 ≤ z ↔ x ∈ l) := by
  have hlen := hr.len
  go_enter Try.func22, Try.ntmps22
  go_wp2
  go_loopw [5, 8] (fun _ i wr => ∃ k : Nat, k ≤ n ∧ i = .int .i64 (k : Int) ∧ wr = w ∧ ∀ (j : Nat) y, j < k → l[j]? = some y → ¬ (x = y)) (fun _ i _ => n - (intOf i).toNat)
  case atStart => exact ⟨0, Nat.zero_le _, rfl, rfl, fun j y hj => absurd hj (Nat.not_lt_zero _)⟩
  case round =>
    obtain ⟨k, hk, rfl, rfl, hne⟩ := hrel
    by_cases hlt : k < n
    · have hlz : (k : Int) < (n : Int) := by omega
      obtain ⟨b, off, y, rfl, hy, hcell⟩ := hr.place hlt
      have hnel := Lib.hid hne
      clear hne
      by_cases hq : x = y
      · subst hq
        go_wp2
        go_ret
        exact ⟨by trivial, (k : Int), rfl, ⟨fun _ => List.mem_of_getElem? hy, fun _ => by omega⟩⟩
      · have hqb : (x == y) = false := beq_eq_false_iff_ne.2 hq
        go_wp2
        go_roundw
        case measure => simp [intOf]; omega
        case rel =>
          refine ⟨k + 1, by omega, by go_num, by trivial, fun j z hj hz => ?_⟩
          rcases Nat.lt_succ_iff_lt_or_eq.1 hj with h | h
          · exact hnel.out j z h hz
          · subst h
            rw [hy] at hz
            cases hz
            exact hq
    · have hkn : k = n := by omega
      subst hkn
      have hnel := Lib.hid hne
      clear hne
      go_wp2
      go_ret
      refine ⟨by trivial, -1, rfl, ⟨fun h => by omega, fun h => ?_⟩⟩
      obtain ⟨j, hj⟩ := List.mem_iff_getElem?.1 h
      have hjl : j < l.length := (List.getElem?_eq_some_iff.1 hj).1
      exact absurd rfl (hnel.out j x (by omega) hj)
set_option maxHeartbeats 1600000 in
theorem contains_any (A : Option Addr) (n c : Nat) (l : List Int) (x : Int) (w : World) (hr : IR w A n l) (hn : n ≤ 9223372036854775807) :
    Calls Try.prog 20 #[.slice A n c, .int .i64 x] w fun e w' => e = .returned (.bool (decide (x ∈ l))) ∧ w' = w := by
  by_cases hx : x ∈ l
  · rw [decide_eq_true hx]
    go_enter Try.func20, Try.ntmps20
    go_wp2_with fail
    refine (index_any A n c l x _ hr hn).mono ?_
    rintro e w' ⟨rfl, z, rfl, hz⟩
    have h0 : decide (0 ≤ z) = true := decide_eq_true (hz.2 hx)
    clear hz hx hr
    go_wp2
    go_ret
    exact ⟨rfl, rfl⟩
  · rw [decide_eq_false hx]
    go_enter Try.func20, Try.ntmps20
    go_wp2_with fail
    refine (index_any A n c l x _ hr hn).mono ?_
    rintro e w' ⟨rfl, z, rfl, hz⟩
    have h0 : decide (0 ≤ z) = false := decide_eq_false fun h => hx (hz.1 h)
    clear hz hx hr
    go_wp2
    go_ret
    exact ⟨rfl, rfl⟩
set_option maxHeartbeats 1600000 in
theorem in_any (A : Option Addr) (n c : Nat) (l : List Int) (x : Int) (w : World) (hr : IR w A n l) (hn : n ≤ 9223372036854775807) :
    Calls Try.prog 14 #[.slice A n c, .int .i64 x] w fun e w' => e = .returned (.bool (decide (x ∈ l))) ∧ w' = w := by
  have hlen := hr.len
  obtain ⟨B, hB⟩ : ∃ B, B = decide (x ∈ l) := ⟨_, rfl⟩
  rw [← hB]
  replace hB := Lib.hid hB
  go_enter Try.func14, Try.ntmps14
  go_wp2
  go_loopw [5] (fun i wr => ∃ k : Nat, k ≤ n ∧ i = .int .i64 (k : Int) ∧ wr = w ∧ ∀ (j : Nat) y, j < k → l[j]? = some y → ¬ (y = x)) (fun i _ => n - (intOf i).toNat)
  case atStart => exact ⟨0, Nat.zero_le _, rfl, rfl, fun j y hj => absurd hj (Nat.not_lt_zero _)⟩
  case round =>
    obtain ⟨k, hk, rfl, rfl, hne⟩ := hrel
    by_cases hlt : k < n
    · have hlz : (k : Int) < (n : Int) := by omega
      obtain ⟨b, off, y, rfl, hy, hcell⟩ := hr.place hlt
      have hnel := Lib.hid hne
      clear hne
      by_cases hq : y = x
      · subst hq
        have hm : y ∈ l := List.mem_of_getElem? hy
        have hB1 : B = true := hB.out.trans (decide_eq_true hm)
        subst hB1
        clear hB hm
        go_wp2
        go_ret
        exact ⟨rfl, rfl⟩
      · have hqb : (y == x) = false := beq_eq_false_iff_ne.2 hq
        go_wp2
        go_roundw
        case measure => simp [intOf]; omega
        case rel =>
          refine ⟨k + 1, by omega, by go_num, by trivial, fun j z hj hz => ?_⟩
          rcases Nat.lt_succ_iff_lt_or_eq.1 hj with h | h
          · exact hnel.out j z h hz
          · subst h
            rw [hy] at hz
            cases hz
            exact hq
    · have hkn : k = n := by omega
      subst hkn
      have hno : ¬ x ∈ l := fun h => by
        obtain ⟨j, hj⟩ := List.mem_iff_getElem?.1 h
        have hjl : j < l.length := (List.getElem?_eq_some_iff.1 hj).1
        exact absurd rfl (hne j x (by omega) hj)
      have hB1 : B = false := hB.out.trans (decide_eq_false hno)
      subst hB1
      clear hne hno hB
      go_wp2
      go_ret
      exact ⟨rfl, rfl⟩
set_option maxHeartbeats 1600000 in
theorem may_any (k x : Int) (w : World) : Calls Try.prog 13 #[.int .i64 k, .int .i64 x] w fun e w' => e = .returned (.bool (decide (x ∈ bhK k))) ∧ Below w.heap.size w w' := by
  have hl6 := bhK_len k
  go_enter Try.func13, Try.ntmps13
  go_wp2_with fail
  refine (behind_any k _).mono ?_
  rintro e w1 ⟨v, rfl, hO, hb⟩
  obtain ⟨A, cap, rfl, -, -, hr, -⟩ := hO.form
  go_wp2_with fail
  refine (contains_any A _ cap _ x _ hr (by omega)).mono ?_
  rintro e w' ⟨rfl, rfl⟩
  go_wp2
  go_ret
  exact ⟨rfl, hb⟩

/-- Which state a text names (0: none). -/
structure NmIs (s : List UInt8) (K : Nat) : Prop where
  le : K ≤ 10
  iff : ∀ i : Nat, 1 ≤ i → i ≤ 10 → (nmK (i : Int) = s ↔ i = K)
theorem nmK_inj : ∀ i : Nat, i ≤ 10 → ∀ j : Nat, j ≤ 10 → 1 ≤ i → 1 ≤ j → nmK (i : Int) = nmK (j : Int) → i = j := by decide +kernel
theorem nmIs (s : List UInt8) : ∃ K, NmIs s K := by
  by_cases h : ∃ i : Nat, 1 ≤ i ∧ i ≤ 10 ∧ nmK (i : Int) = s
  · obtain ⟨i, h1, h2, rfl⟩ := h
    exact ⟨i, h2, fun j hj1 hj2 => ⟨fun e => nmK_inj j hj2 i h2 hj1 h1 e, fun e => by rw [e]⟩⟩
  · exact ⟨0, by omega, fun j hj1 hj2 => ⟨fun e => absurd ⟨j, hj1, hj2, e⟩ h, fun e => by omega⟩⟩
theorem NmIs.beq {s : List UInt8} {K : Nat} (h : NmIs s K) (i : Nat) (h1 : 1 ≤ i) (h2 : i ≤ 10) : (nmK (i : Int) == s) = decide (i = K) := by
  have := h.iff i h1 h2
  by_cases e : i = K
  · rw [decide_eq_true e]
    exact beq_iff_eq.2 (this.2 e)
  · rw [decide_eq_false e]
    exact beq_eq_false_iff_ne.2 fun h => e (this.1 h)
set_option maxHeartbeats 1600000 in
theorem named_any (s : List UInt8) (K : Nat) (hK : NmIs s K) (w : World) : Calls Try.prog 8 #[.string ⟨s.toArray⟩] w fun e w' => e = .returned (.tuple #[.int .i64 (K : Int), .bool (decide (1 ≤ K))]) ∧ w' = w := by
  have hKle := hK.le
  obtain ⟨B, hB⟩ : ∃ B, B = decide (1 ≤ K) := ⟨_, rfl⟩
  rw [← hB]
  replace hB := Lib.hid hB
  go_enter Try.func8, Try.ntmps8
  go_wp2
  go_loopw [4] (fun i wr => ∃ k : Nat, i = .int .i64 (k : Int) ∧ 1 ≤ k ∧ k ≤ 11 ∧ wr = w ∧ (1 ≤ K → k ≤ K)) (fun i _ => 11 - (intOf i).toNat)
  case atStart => exact ⟨1, by go_num, by omega, by omega, rfl, fun h => h⟩
  case round =>
    obtain ⟨k, rfl, hk1, hk2, rfl, hkK⟩ := hrel
    by_cases hlt : k ≤ 10
    · have hlz : (k : Int) ≤ 10 := by omega
      have hq := hK.beq k hk1 hlt
      have hK' := Lib.hid hK
      clear hK
      by_cases e : k = K
      · subst e
        rw [decide_eq_true rfl] at hq
        have hB1 : B = true := hB.out.trans (decide_eq_true hk1)
        subst hB1
        clear hB
        go_wp2_with fail
        refine (name_any _ _).mono ?_
        rintro e w' ⟨rfl, rfl⟩
        go_wp2
        go_ret2
        exact ⟨rfl, rfl⟩
      · rw [decide_eq_false e] at hq
        go_wp2_with fail
        refine (name_any _ _).mono ?_
        rintro e w' ⟨rfl, rfl⟩
        go_wp2
        go_roundw
        case measure => simp [intOf]; omega
        case rel => exact ⟨k + 1, by go_num, by omega, by omega, by trivial, fun h => by have := hkK h; omega⟩
    · have hk11 : k = 11 := by omega
      subst hk11
      have hK0 : K = 0 := by omega
      subst hK0
      have hB1 : B = false := hB.out.trans (decide_eq_false (by omega))
      subst hB1
      clear hB hK hkK
      go_wp2
      go_ret2
      exact ⟨rfl, rfl⟩
set_option maxHeartbeats 3200000 in
theorem rname_any (k : Int) (w : World) : Calls Try.prog 7 #[.int .i64 k] w fun e w' => e = .returned (.string ⟨(nmK k).toArray⟩) ∧ Below w.heap.size w w' := by
  by_cases h : 0 ≤ k ∧ k ≤ 10
  · have hk : k = 0 ∨ k = 1 ∨ k = 2 ∨ k = 3 ∨ k = 4 ∨ k = 5 ∨ k = 6 ∨ k = 7 ∨ k = 8 ∨ k = 9 ∨ k = 10 := by omega
    rcases hk with rfl | rfl | rfl | rfl | rfl | rfl | rfl | rfl | rfl | rfl | rfl
    all_goals (go_enter Try.func7, Try.ntmps7; go_wp2; go_ret; exact ⟨rfl, (Below.refl _ w).alloc (Nat.le_refl _) _⟩)
  · rw [nmK_none (by omega)]
    by_cases h0 : k < 0
    · go_enter Try.func7, Try.ntmps7
      go_wp2
      go_ret
      exact ⟨rfl, (Below.refl _ w).alloc (Nat.le_refl _) _⟩
    · have h10 : 10 < k := by omega
      have h11 : 11 ≤ k := by omega
      go_enter Try.func7, Try.ntmps7
      go_wp2
      go_ret
      exact ⟨rfl, (Below.refl _ w).alloc (Nat.le_refl _) _⟩
/-- What is told of a request. -/
def codeK (k s : Int) : Int × Bool := if k = 1 then ordK s else if k = 2 then (0, s == 6) else if k = 3 then (0, s == 8) else if k = 4 then (0, s == 10) else (0, false)
set_option maxHeartbeats 1600000 in
theorem code_any (k s : Int) (w : World) : Calls Try.prog 19 #[.int .i64 k, .int .i64 s] w fun e w' => e = .returned (.tuple #[.int .i64 (codeK k s).1, .bool (codeK k s).2]) ∧ w' = w := by
  by_cases h : 1 ≤ k ∧ k ≤ 4
  · have hk : k = 1 ∨ k = 2 ∨ k = 3 ∨ k = 4 := by omega
    rcases hk with rfl | rfl | rfl | rfl
    all_goals (go_enter Try.func19, Try.ntmps19; go_wp2_with (go_at_call 21; refine (ordered_any _ _).mono ?_; rintro e w' ⟨rfl, rfl⟩); go_ret2; exact ⟨rfl, rfl⟩)
  · skip
    have h1 : (k == 1) = false := beq_eq_false_iff_ne.2 (by omega)
    have h2 : (k == 2) = false := beq_eq_false_iff_ne.2 (by omega)
    have h3 : (k == 3) = false := beq_eq_false_iff_ne.2 (by omega)
    have h4 : (k == 4) = false := beq_eq_false_iff_ne.2 (by omega)
    have hc : codeK k s = (0, false) := by
      unfold codeK
      repeat rw [if_neg (by omega)]
    rw [hc]
    clear hc
    go_enter Try.func19, Try.ntmps19
    go_wp2
    go_ret2
    exact ⟨rfl, rfl⟩
end Go.Proofs.Ytpcngkbjeiclkaa
