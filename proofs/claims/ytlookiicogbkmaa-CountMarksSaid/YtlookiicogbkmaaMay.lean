/- May and mayAll: is it a count, are they all? And what the document says. No condition. -/
import Derived.Test.YtlookiicogbkmaaWd
namespace Go.Proofs.Ytlookiicogbkmaa
open Go.RowKit
set_option linter.unusedVariables false
set_option linter.unusedSimpArgs false

theorem may_any (n : Int) (w : World) : Calls Try.prog 13 #[.int .i64 n] w fun e w' => e = .returned (.bool (may n)) ∧ w' = w := by
  by_cases h0 : 0 ≤ n
  · by_cases h1 : n ≤ 1099511627776
    · go_enter Try.func13, Try.ntmps13
      go_wp2
      go_ret
      exact ⟨by rw [(may_iff n).2 ⟨h0, h1⟩]; rfl, rfl⟩
    · go_enter Try.func13, Try.ntmps13
      go_wp2
      go_ret
      exact ⟨by rw [(may_not n).2 (by omega)]; rfl, rfl⟩
  · go_enter Try.func13, Try.ntmps13
    go_wp2
    go_ret
    exact ⟨by rw [(may_not n).2 (by omega)]; rfl, rfl⟩

theorem refmay_any (n : Int) (w : World) : Calls Try.prog 14 #[.int .i64 n] w fun e w' => e = .returned (.bool (may n)) ∧ w' = w := by
  by_cases h0 : 0 ≤ n
  · by_cases h1 : n ≤ 1099511627776
    · go_enter Try.func14, Try.ntmps14
      go_wp2
      go_ret
      exact ⟨by rw [(may_iff n).2 ⟨h0, h1⟩]; rfl, rfl⟩
    · go_enter Try.func14, Try.ntmps14
      go_wp2
      go_ret
      exact ⟨by rw [(may_not n).2 (by omega)]; rfl, rfl⟩
  · go_enter Try.func14, Try.ntmps14
    go_wp2
    go_ret
    exact ⟨by rw [(may_not n).2 (by omega)]; rfl, rfl⟩

/-- Are they all counts? -/
def mays (l : List Int) : Bool := l.all may
theorem mays_take (l : List Int) (k : Nat) (x : Int) (hx : l[k]? = some x) (hk : mays (l.take k) = true) : mays (l.take (k + 1)) = may x := by
  rw [List.take_add_one, hx]
  unfold mays at hk ⊢
  rw [List.all_append, hk]
  simp
theorem mays_bad (l : List Int) (k : Nat) (x : Int) (hx : l[k]? = some x) (hm : may x = false) : mays l = false := by
  unfold mays
  rw [List.all_eq_false]
  exact ⟨x, List.mem_of_getElem? hx, by simp [hm]⟩

set_option maxRecDepth 100000 in
theorem mayAll_any (A : Option Addr) (n c : Nat) (l : List Int) (w : World) (h : IR w A n l) (hc : n ≤ 9223372036854775807) :
    Calls Try.prog 27 #[.slice A n c] w fun e w' => e = .returned (.bool (mays l)) ∧ w' = w := by
  go_enter Try.func27, Try.ntmps27
  go_wp2
  go_loopw [7] (fun v wr => wr = w ∧ ∃ k : Nat, v = .int .i64 (k : Int) ∧ k ≤ n ∧ mays (l.take k) = true) (fun v _ => n - (intOf v).toNat)
  case atStart => exact ⟨rfl, 0, by go_num, by omega, rfl⟩
  case round =>
    obtain ⟨rfl, k, rfl, hk, hm⟩ := hrel
    by_cases hlt : k < n
    · have hlz : (k : Int) < (n : Int) := by omega
      obtain ⟨b, off, x, rfl, hx, hcell⟩ := h.place hlt
      have hmt := mays_take l k x hx hm
      cases hmx : may x with
      | true =>
        go_wp2_with (go_at_call 13; refine (may_any x _).mono ?_; rintro e w' ⟨rfl, rfl⟩; rw [hmx])
        go_roundw
        case measure => simp [intOf]; omega
        case rel => exact ⟨by trivial, k + 1, by go_num, by omega, by rw [hmt, hmx]⟩
      | false =>
        go_wp2_with (go_at_call 13; refine (may_any x _).mono ?_; rintro e w' ⟨rfl, rfl⟩; rw [hmx])
        go_ret
        exact ⟨by rw [mays_bad l k x hx hmx]; rfl, rfl⟩
    · have hlz : ¬ (k : Int) < (n : Int) := by omega
      have hkn : k = n := by omega
      go_wp2
      go_ret
      exact ⟨by rw [← List.take_of_length_le (l := l) (i := k) (by rw [h.len]; omega), hm]; rfl, rfl⟩
end Go.Proofs.Ytlookiicogbkmaa
