/- Small functions of mail and of its reference. No condition. -/
import Derived.Test.YtpfkhalomnfcfaaMaP
import Derived.Lib.IndexAny
namespace Go.Proofs.Ytpfkhalomnfcfaa
open Go.RowKit Go.Maps Go.Shelf
set_option linter.unusedVariables false
set_option linter.unusedSimpArgs false

set_option maxHeartbeats 1600000 in
theorem mhas_any (k : Int) (w : World) : Calls Try.prog 16 #[.int .i64 k] w fun e w' => e = .returned (.string ⟨(hasM k).toArray⟩) ∧ w' = w := by
  by_cases h : 1 ≤ k ∧ k ≤ 13
  · rcases kindsM h with rfl | rfl | rfl | rfl | rfl | rfl | rfl | rfl | rfl | rfl | rfl | rfl | rfl
    all_goals (go_enter Try.func16, Try.ntmps16; go_wp2; go_ret; exact ⟨rfl, rfl⟩)
  · skip
    have h1 : (k == 1) = false := beq_eq_false_iff_ne.2 (by omega)
    have h2 : (k == 2) = false := beq_eq_false_iff_ne.2 (by omega)
    have h3 : (k == 3) = false := beq_eq_false_iff_ne.2 (by omega)
    have h4 : (k == 4) = false := beq_eq_false_iff_ne.2 (by omega)
    have h5 : (k == 5) = false := beq_eq_false_iff_ne.2 (by omega)
    have h6 : (k == 6) = false := beq_eq_false_iff_ne.2 (by omega)
    have h7 : (k == 7) = false := beq_eq_false_iff_ne.2 (by omega)
    have h8 : (k == 8) = false := beq_eq_false_iff_ne.2 (by omega)
    have h9 : (k == 9) = false := beq_eq_false_iff_ne.2 (by omega)
    have h10 : (k == 10) = false := beq_eq_false_iff_ne.2 (by omega)
    have h11 : (k == 11) = false := beq_eq_false_iff_ne.2 (by omega)
    have h12 : (k == 12) = false := beq_eq_false_iff_ne.2 (by omega)
    have h13 : (k == 13) = false := beq_eq_false_iff_ne.2 (by omega)
    rw [hasM_none h]
    go_enter Try.func16, Try.ntmps16
    go_wp2
    go_ret
    exact ⟨rfl, rfl⟩

/-- By which kind one is answered. -/
def ansK (k : Int) : Int := if k = 1 then 2 else if k = 3 ∨ k = 5 ∨ k = 7 ∨ k = 9 ∨ k = 11 then k + 1 else 0
theorem ansK_none {k : Int} (h : ¬ (1 ≤ k ∧ k ≤ 13)) : ansK k = 0 := by
  unfold ansK
  repeat rw [if_neg (by omega)]
set_option maxHeartbeats 1600000 in
theorem manswers_any (k : Int) (w : World) : Calls Try.prog 18 #[.int .i64 k] w fun e w' => e = .returned (.int .i64 (ansK k)) ∧ w' = w := by
  by_cases h : 1 ≤ k ∧ k ≤ 13
  · rcases kindsM h with rfl | rfl | rfl | rfl | rfl | rfl | rfl | rfl | rfl | rfl | rfl | rfl | rfl
    all_goals (go_enter Try.func18, Try.ntmps18; go_wp2; go_ret; exact ⟨rfl, rfl⟩)
  · skip
    have h1 : (k == 1) = false := beq_eq_false_iff_ne.2 (by omega)
    have h2 : (k == 2) = false := beq_eq_false_iff_ne.2 (by omega)
    have h3 : (k == 3) = false := beq_eq_false_iff_ne.2 (by omega)
    have h4 : (k == 4) = false := beq_eq_false_iff_ne.2 (by omega)
    have h5 : (k == 5) = false := beq_eq_false_iff_ne.2 (by omega)
    have h6 : (k == 6) = false := beq_eq_false_iff_ne.2 (by omega)
    have h7 : (k == 7) = false := beq_eq_false_iff_ne.2 (by omega)
    have h8 : (k == 8) = false := beq_eq_false_iff_ne.2 (by omega)
    have h9 : (k == 9) = false := beq_eq_false_iff_ne.2 (by omega)
    have h10 : (k == 10) = false := beq_eq_false_iff_ne.2 (by omega)
    have h11 : (k == 11) = false := beq_eq_false_iff_ne.2 (by omega)
    have h12 : (k == 12) = false := beq_eq_false_iff_ne.2 (by omega)
    have h13 : (k == 13) = false := beq_eq_false_iff_ne.2 (by omega)
    rw [ansK_none h]
    go_enter Try.func18, Try.ntmps18
    go_wp2
    go_ret
    exact ⟨rfl, rfl⟩

theorem mhas1_any (k : Int) (c : UInt8) (w : World) : Calls Try.prog 19 #[.int .i64 k, .string ⟨#[c]⟩] w fun e w' => e = .returned (.bool (hasB (hasM k) c)) ∧ w' = w := by
  go_enter Try.func19, Try.ntmps19
  go_wp2_with fail
  refine (mhas_any k _).mono ?_
  rintro e w1 ⟨rfl, rfl⟩
  go_wp2_with fail
  refine (Try.strings_Contains_one ⟨(hasM k).toArray⟩ c _).mono ?_
  rintro e w1 ⟨rfl, rfl⟩
  rw [← Lib.contains_iff_indexByte, show (hasM k).contains c = hasB (hasM k) c from rfl]
  go_wp2
  go_ret
  exact ⟨rfl, rfl⟩

theorem mfld_any (B : Nat) (k : Int) (c : UInt8) (b1 b2 : Bool) (w : World) (h : w.cell? ⟨B, 0, none⟩ = some (.int .i64 k)) :
    Calls Try.prog 26 #[.string ⟨#[c]⟩, .bool b1, .bool b2, .pointer (some ⟨B, 0, none⟩)] w fun e w' => e = .returned (.bool (fld (hasB (hasM k) c) b1 b2)) ∧ w' = w := by
  have key := mhas1_any k c w
  cases hc : hasB (hasM k) c with
  | false =>
    rw [hc] at key
    go_enter Try.func26, Try.ntmps26
    go_wp2_with fail
    refine key.mono ?_
    rintro e w1 ⟨rfl, rfl⟩
    go_wp2
    go_ret
    exact ⟨rfl, rfl⟩
  | true =>
    rw [hc] at key
    go_enter Try.func26, Try.ntmps26
    go_wp2_with fail
    refine key.mono ?_
    rintro e w1 ⟨rfl, rfl⟩
    go_wp2
    go_ret
    exact ⟨rfl, rfl⟩

def AN.cs (y : AN) : Array Value := #[.int .i64 y.c, .int .i64 y.m, .int .i64 y.e, .int .i64 y.n]
set_option maxHeartbeats 1600000 in
theorem mayAns_any (y : AN) (w : World) : Calls Try.prog 30 #[.agg y.cs] w fun e w' => e = .returned (.bool (mayY y)) ∧ Below w.heap.size w w' := by
  have hb := (Below.refl w.heap.size w).alloc (Nat.le_refl _) (.cells y.cs 27)
  obtain ⟨c, m, e, n⟩ := y
  unfold AN.cs at hb ⊢
  dsimp only at hb ⊢
  by_cases h0 : 0 ≤ c
  · by_cases h1 : c < 64
    · by_cases h2 : 1 ≤ m
      · by_cases h3 : m ≤ 4294967296
        · by_cases h4 : 0 ≤ e
          · by_cases h5 : e ≤ 1000
            all_goals (go_enter Try.func30, Try.ntmps30; go_wp2; go_ret; exact ⟨by simp [mayY] <;> omega, hb⟩)
          · go_enter Try.func30, Try.ntmps30
            go_wp2
            go_ret
            exact ⟨by simp [mayY] <;> omega, hb⟩
        · go_enter Try.func30, Try.ntmps30
          go_wp2
          go_ret
          exact ⟨by simp [mayY] <;> omega, hb⟩
      · go_enter Try.func30, Try.ntmps30
        go_wp2
        go_ret
        exact ⟨by simp [mayY] <;> omega, hb⟩
    · go_enter Try.func30, Try.ntmps30
      go_wp2
      go_ret
      exact ⟨by simp [mayY] <;> omega, hb⟩
  · go_enter Try.func30, Try.ntmps30
    go_wp2
    go_ret
    exact ⟨by simp [mayY] <;> omega, hb⟩

set_option maxHeartbeats 1600000 in
theorem rmhas_any (k : Int) (w : World) : Calls Try.prog 17 #[.int .i64 k] w fun e w' => e = .returned (.string ⟨(hasM k).toArray⟩) ∧ Below w.heap.size w w' := by
  by_cases h0 : k = 0
  · subst h0
    go_enter Try.func17, Try.ntmps17
    go_wp2
    go_ret
    exact ⟨rfl, (Below.refl w.heap.size w).alloc (Nat.le_refl _) _⟩
  by_cases h14 : k = 14
  · subst h14
    go_enter Try.func17, Try.ntmps17
    go_wp2
    go_ret
    exact ⟨rfl, (Below.refl w.heap.size w).alloc (Nat.le_refl _) _⟩
  by_cases h : 1 ≤ k ∧ k ≤ 13
  · rcases kindsM h with rfl | rfl | rfl | rfl | rfl | rfl | rfl | rfl | rfl | rfl | rfl | rfl | rfl
    all_goals (go_enter Try.func17, Try.ntmps17; go_wp2; go_ret; exact ⟨rfl, (Below.refl w.heap.size w).alloc (Nat.le_refl _) _⟩)
  · rw [hasM_none h]
    by_cases hn : k < 0
    · go_enter Try.func17, Try.ntmps17
      go_wp2
      go_ret
      exact ⟨rfl, (Below.refl w.heap.size w).alloc (Nat.le_refl _) _⟩
    · have h15 : 15 ≤ k := by omega
      go_enter Try.func17, Try.ntmps17
      go_wp2
      go_ret
      exact ⟨rfl, (Below.refl w.heap.size w).alloc (Nat.le_refl _) _⟩

set_option maxHeartbeats 1600000 in
theorem rmhas1_any (k : Int) (c : UInt8) (w : World) : Calls Try.prog 31 #[.int .i64 k, .int .u8 (c.toNat : Int)] w fun e w' => e = .returned (.bool (hasB (hasM k) c)) ∧ Below w.heap.size w w' := by
  have hLn := hasM_len k
  generalize hL : hasM k = L at hLn
  have hsz := str_size L
  go_enter Try.func31, Try.ntmps31
  go_wp2_with fail
  refine (rmhas_any k w).mono ?_
  rintro e w1 ⟨rfl, hb1⟩
  rw [hL]
  go_wp2
  go_loopw [6] (fun i wr => wr = w1 ∧ ∃ q : Nat, i = .int .i64 (q : Int) ∧ q ≤ L.length ∧ hasB (L.take q) c = false) (fun i _ => L.length - (intOf i).toNat)
  case atStart => exact ⟨rfl, 0, by go_num, by omega, by simp [hasB]⟩
  case round =>
    obtain ⟨rfl, q, rfl, hq, hno⟩ := hrel
    by_cases hp : q < L.length
    · have hlz : (q : Int) < (L.length : Int) := by omega
      have hp' : q < (⟨L.toArray⟩ : ByteArray).size := by rw [hsz]; exact hp
      obtain ⟨b, hbv⟩ : ∃ b, L[q] = b := ⟨_, rfl⟩
      have hv : ((⟨L.toArray⟩ : ByteArray)[q]'hp').toNat = b.toNat := by rw [str_get, hbv]
      by_cases he : b = c
      · have hez : ((b.toNat : Int) == (c.toNat : Int)) = true := by rw [he]; exact beq_iff_eq.2 rfl
        have hey : (b.toNat : Int) = (c.toNat : Int) := by rw [he]
        have hyes := contains_now hp (hbv.trans he)
        clear he hbv
        go_wp2
        go_ret
        exact ⟨by rw [hyes]; rfl, hb1⟩
      · have hnn : b.toNat ≠ c.toNat := fun e => he (UInt8.toNat_inj.1 e)
        have hney : ¬ (b.toNat : Int) = (c.toNat : Int) := by omega
        have hez : ((b.toNat : Int) == (c.toNat : Int)) = false := beq_eq_false_iff_ne.2 hney
        have hno2 := contains_step hp hno (by rw [hbv]; exact he)
        clear he hbv
        go_wp2
        go_roundw
        case measure => simp [intOf]; omega
        case rel => exact ⟨trivial, q + 1, by go_num, by omega, hno2⟩
    · have hlz : ¬ (q : Int) < (L.length : Int) := by omega
      rw [List.take_of_length_le (by omega)] at hno
      go_wp2
      go_ret
      exact ⟨rfl, hb1⟩

theorem rmhas1_at (k : Int) (c : UInt8) (n : Int) (b : Bool) (hn : (c.toNat : Int) = n) (h : hasB (hasM k) c = b) (w : World) : Calls Try.prog 31 #[.int .i64 k, .int .u8 n] w fun e w' => e = .returned (.bool b) ∧ Below w.heap.size w w' := by
  have := rmhas1_any k c w
  rw [hn, h] at this
  exact this
end Go.Proofs.Ytpfkhalomnfcfaa
