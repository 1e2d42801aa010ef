/- Small functions of ask and of its reference: the fields of a kind, its bounds, owners, homes. No condition. -/
import Derived.Test.YtpfkhalomnfcfaaAskH0
import Derived.Lib.IndexAny
namespace Go.Proofs.Ytpfkhalomnfcfaa
open Go.RowKit Go.Maps Go.Shelf
set_option linter.unusedVariables false
set_option linter.unusedSimpArgs false

theorem contains_step {L : List UInt8} {i : Nat} {c : UInt8} (hi : i < L.length) (h : hasB (L.take i) c = false) (hne : L[i] ≠ c) : hasB (L.take (i + 1)) c = false := by
  have h' : ¬ c ∈ L.take i := by unfold hasB at h; simpa using h
  have h2 : ¬ c ∈ L.take (i + 1) := fun hm => by
    rw [List.take_add_one, List.getElem?_eq_getElem hi] at hm
    rcases List.mem_append.1 hm with hm | hm
    · exact h' hm
    · simp at hm
      exact hne hm.symm
  unfold hasB
  simpa using h2
theorem contains_now {L : List UInt8} {i : Nat} {c : UInt8} (hi : i < L.length) (h : L[i] = c) : hasB L c = true := by
  unfold hasB
  simp
  rw [← h]
  exact List.getElem_mem hi
set_option maxHeartbeats 1600000 in
theorem rhas1_any (k : Int) (c : UInt8) (w : World) : Calls Try.prog 68 #[.int .i64 k, .int .u8 (c.toNat : Int)] w fun e w' => e = .returned (.bool (hasB (hasL k) c)) ∧ Below w.heap.size w w' := by
  have hLn := hasL_len k
  generalize hL : hasL k = L at hLn
  have hsz := str_size L
  go_enter Try.func68, Try.ntmps68
  go_wp2_with fail
  refine (rhas_any k w).mono ?_
  rintro e w1 ⟨rfl, hb1⟩
  rw [hL]
  go_wp2
  go_loopw [6] (fun i wr => wr = w1 ∧ ∃ q : Nat, i = .int .i64 (q : Int) ∧ q ≤ L.length ∧ hasB (L.take q) c = false) (fun i _ => L.length - (intOf i).toNat)
  case atStart => exact ⟨rfl, 0, by go_num, by omega, by simp [hasB]⟩
  case round =>
    obtain ⟨rfl, q, rfl, hq, hno⟩ := hrel
    by_cases hp : q < L.length
    · have hlz : (q : Int) < (L.length : Int) := by omega
      have hp' : q < (⟨L.toArray⟩ : ByteArray).size := by rw [hsz]; exact hp
      obtain ⟨b, hbv⟩ : ∃ b, L[q] = b := ⟨_, rfl⟩
      have hv : ((⟨L.toArray⟩ : ByteArray)[q]'hp').toNat = b.toNat := by rw [str_get, hbv]
      by_cases he : b = c
      · have hez : ((b.toNat : Int) == (c.toNat : Int)) = true := by rw [he]; exact beq_iff_eq.2 rfl
        have hey : (b.toNat : Int) = (c.toNat : Int) := by rw [he]
        have hyes := contains_now hp (hbv.trans he)
        clear he hbv
        go_wp2
        go_ret
        exact ⟨by rw [hyes]; rfl, hb1⟩
      · have hnn : b.toNat ≠ c.toNat := fun e => he (UInt8.toNat_inj.1 e)
        have hney : ¬ (b.toNat : Int) = (c.toNat : Int) := by omega
        have hez : ((b.toNat : Int) == (c.toNat : Int)) = false := beq_eq_false_iff_ne.2 hney
        have hno2 := contains_step hp hno (by rw [hbv]; exact he)
        clear he hbv
        go_wp2
        go_roundw
        case measure => simp [intOf]; omega
        case rel => exact ⟨trivial, q + 1, by go_num, by omega, hno2⟩
    · have hlz : ¬ (q : Int) < (L.length : Int) := by omega
      rw [List.take_of_length_le (by omega)] at hno
      go_wp2
      go_ret
      exact ⟨rfl, hb1⟩

theorem may1_any (B : Nat) (L : List UInt8) (c : UInt8) (w : World) (h : w.cell? ⟨B, 0, none⟩ = some (.string ⟨L.toArray⟩)) :
    Calls Try.prog 62 #[.string ⟨#[c]⟩, .pointer (some ⟨B, 0, none⟩)] w fun e w' => e = .returned (.bool (hasB L c)) ∧ w' = w := by
  go_enter Try.func62, Try.ntmps62
  go_wp2_with fail
  refine (Try.strings_Contains_one ⟨L.toArray⟩ c w).mono ?_
  rintro e w1 ⟨rfl, rfl⟩
  rw [← Lib.contains_iff_indexByte, show L.contains c = hasB L c from rfl]
  go_wp2
  go_ret
  exact ⟨rfl, rfl⟩

set_option maxHeartbeats 1600000 in
theorem may2_any (B C : Nat) (L : List UInt8) (c : UInt8) (n lo hi : Int) (w : World) (h : w.cell? ⟨B, 0, none⟩ = some (.string ⟨L.toArray⟩)) (h' : w.cell? ⟨C, 0, none⟩ = some (.func (.func 62) #[] #[.pointer (some ⟨B, 0, none⟩)])) :
    Calls Try.prog 63 #[.string ⟨#[c]⟩, .int .i64 n, .int .i64 lo, .int .i64 hi, .pointer (some ⟨C, 0, none⟩)] w fun e w' => e = .returned (.bool (numOK (hasB L c) n lo hi)) ∧ w' = w := by
  have key := may1_any B L c w h
  cases hc : hasB L c with
  | false =>
    rw [hc] at key
    by_cases hn : n = 0
    all_goals (
      go_enter Try.func63, Try.ntmps63
      go_wp2_with fail
      refine key.mono ?_
      rintro e w1 ⟨rfl, rfl⟩
      go_wp2
      go_ret
      exact ⟨by simp [numOK, hn], rfl⟩)
  | true =>
    rw [hc] at key
    by_cases h0 : lo ≤ n
    · by_cases h1 : n ≤ hi
      all_goals (
        go_enter Try.func63, Try.ntmps63
        go_wp2_with fail
        refine key.mono ?_
        rintro e w1 ⟨rfl, rfl⟩
        go_wp2
        go_ret
        exact ⟨by simp [numOK] <;> omega, rfl⟩)
    · go_enter Try.func63, Try.ntmps63
      go_wp2_with fail
      refine key.mono ?_
      rintro e w1 ⟨rfl, rfl⟩
      go_wp2
      go_ret
      exact ⟨by simp [numOK] <;> omega, rfl⟩

theorem bounds_any (k : Int) (w : World) : Calls Try.prog 64 #[.int .i64 k] w fun e w' => e = .returned (.tuple #[.int .i64 (loN k), .int .i64 (hiN k)]) ∧ w' = w := by
  by_cases h : k = 1 ∨ k = 7 ∨ k = 11
  · rcases h with rfl | rfl | rfl
    all_goals (go_enter Try.func64, Try.ntmps64; go_wp2; go_ret2; exact ⟨rfl, rfl⟩)
  · have h1 : (k == 1) = false := beq_eq_false_iff_ne.2 (by omega)
    have h7 : (k == 7) = false := beq_eq_false_iff_ne.2 (by omega)
    have h11 : (k == 11) = false := beq_eq_false_iff_ne.2 (by omega)
    have e1 : loN k = 0 := by unfold loN; rw [if_neg (by omega)]
    have e2 : hiN k = 0 := by unfold hiN; rw [if_neg (by omega), if_neg (by omega), if_neg (by omega)]
    rw [e1, e2]
    go_enter Try.func64, Try.ntmps64
    go_wp2
    go_ret2
    exact ⟨rfl, rfl⟩

/-- May client and number be? -/
def mayC (c m : Int) : Bool := decide (0 ≤ c) && (decide (c < 64) && (decide (1 ≤ m) && decide (m ≤ 4294967296)))
theorem refmay09_any (c m : Int) (w : World) : Calls Try.prog 35 #[.int .i64 c, .int .i64 m] w fun e w' => e = .returned (.bool (mayC c m)) ∧ w' = w := by
  by_cases h0 : 0 ≤ c
  · by_cases h1 : c < 64
    · by_cases h2 : 1 ≤ m
      · by_cases h3 : m ≤ 4294967296
        all_goals (go_enter Try.func35, Try.ntmps35; go_wp2; go_ret; exact ⟨by simp [mayC] <;> omega, rfl⟩)
      · go_enter Try.func35, Try.ntmps35
        go_wp2
        go_ret
        exact ⟨by simp [mayC] <;> omega, rfl⟩
    · go_enter Try.func35, Try.ntmps35
      go_wp2
      go_ret
      exact ⟨by simp [mayC] <;> omega, rfl⟩
  · go_enter Try.func35, Try.ntmps35
    go_wp2
    go_ret
    exact ⟨by simp [mayC] <;> omega, rfl⟩

def ownerN (o : Int) : Int := if 1 ≤ o then o % 64 else 0
def homeN (c r : Int) : Int := if 0 ≤ c ∧ 1 ≤ r then c % r else 0
end Go.Proofs.Ytpfkhalomnfcfaa
