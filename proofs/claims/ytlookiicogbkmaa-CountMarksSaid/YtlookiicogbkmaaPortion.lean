/- portion and its callees, where the product is below 2^64; cmp.Compare; the closure of greatestFirst. -/
import Derived.Test.YtlookiicogbkmaaStart
import Derived.Test.YtlookiicogbkmaaShelf
namespace Go.Proofs.Ytlookiicogbkmaa
open Go.RowKit
set_option linter.unusedVariables false
set_option linter.unusedSimpArgs false

set_option maxRecDepth 100000 in
theorem div_small (x y : Nat) (hx : x < 18446744073709551616) (hy0 : 0 < y) (hy : y < 18446744073709551616) (w : World) :
    Calls Try.prog 31 #[.int .u64 0, .int .u64 (x : Int), .int .u64 (y : Int)] w fun e w' => e = .returned (.tuple #[.int .u64 ((x / y : Nat) : Int), .int .u64 ((x % y : Nat) : Int)]) ∧ ∃ m, w' = w.drewN m := by
  have h1 : ¬ ((y : Int) = 0) := by omega
  have h2 : ¬ ((y : Int) ≤ 0) := by omega
  go_enter Try.func31, Try.ntmps31
  go_wp2_with fail
  go_quiet (fail)
  go_wp2
  go_ret2
  have hd : x / y < 18446744073709551616 := Nat.lt_of_le_of_lt (Nat.div_le_self x y) hx
  have hw : IntKind.u64.wrap ((x : Int) / (y : Int)) = ((x / y : Nat) : Int) := by
    rw [show ((x : Int) / (y : Int)) = ((x / y : Nat) : Int) from (Int.natCast_ediv x y).symm, IntKind.wrap_u64]
    generalize x / y = q at hd ⊢
    omega
  exact ⟨by rw [hw]; rfl, _, rfl⟩

theorem nan64 (x : Nat) (w : World) : Calls Try.prog 50 #[.int .u64 (x : Int)] w fun e w' => e = .returned (.bool false) ∧ w' = w := by
  go_enter Try.func50, Try.ntmps50
  go_wp2
  go_ret
  exact ⟨by simp, rfl⟩

def cmpv (x y : Nat) : Int := if x < y then -1 else if y < x then 1 else 0
theorem cmp64 (x y : Nat) (w : World) : Calls Try.prog 42 #[.int .u64 (x : Int), .int .u64 (y : Int)] w fun e w' => e = .returned (.int .i64 (cmpv x y)) ∧ w' = w := by
  by_cases h : x < y
  · have hz : (x : Int) < (y : Int) := by omega
    go_enter Try.func42, Try.ntmps42
    go_wp2_with (go_at_call 50; refine (nan64 _ _).mono ?_; rintro e w' ⟨rfl, rfl⟩)
    go_ret
    exact ⟨by simp [cmpv, h], rfl⟩
  · have hz : ¬ (x : Int) < (y : Int) := by omega
    by_cases h' : y < x
    · have hz' : (y : Int) < (x : Int) := by omega
      go_enter Try.func42, Try.ntmps42
      go_wp2_with (go_at_call 50; refine (nan64 _ _).mono ?_; rintro e w' ⟨rfl, rfl⟩)
      go_ret
      exact ⟨by simp [cmpv, h, h'], rfl⟩
    · have hz' : ¬ (y : Int) < (x : Int) := by omega
      go_enter Try.func42, Try.ntmps42
      go_wp2_with (go_at_call 50; refine (nan64 _ _).mono ?_; rintro e w' ⟨rfl, rfl⟩)
      go_ret
      exact ⟨by simp [cmpv, h, h'], rfl⟩

/-- What portion answers, where the product is below 2^64. -/
theorem portion_small (n x y : Nat) (hn : n < 9223372036854775808) (hx : x < 9223372036854775808) (hy0 : 0 < y) (hy : y < 9223372036854775808) (hp : n * x < 18446744073709551616) (hq : n * x / y < 9223372036854775808) (w : World) :
    Calls Try.prog 28 #[.int .i64 (n : Int), .int .i64 (x : Int), .int .i64 (y : Int)] w fun e w' => e = .returned (.tuple #[.int .i64 ((n * x / y : Nat) : Int), .int .u64 ((n * x % y : Nat) : Int)]) ∧ ∃ m, w' = w.drewN m := by
  have hm := Try.bits_Mul64 n x (by omega) (by omega)
  have h0 : n * x / 18446744073709551616 = 0 := Nat.div_eq_of_lt hp
  have h1 : n * x % 18446744073709551616 = n * x := Nat.mod_eq_of_lt hp
  rw [h0, h1] at hm
  have cn : IntKind.u64.wrap (n : Int) = (n : Int) := by rw [IntKind.wrap_u64]; omega
  have cx : IntKind.u64.wrap (x : Int) = (x : Int) := by rw [IntKind.wrap_u64]; omega
  have cy : IntKind.u64.wrap (y : Int) = (y : Int) := by rw [IntKind.wrap_u64]; omega
  have cq : IntKind.i64.wrap ((n * x / y : Nat) : Int) = ((n * x / y : Nat) : Int) := by
    rw [IntKind.wrap_i64]
    generalize n * x / y = q at hq ⊢
    omega
  have hd := fun w => div_small (n * x) y hp hy0 (by omega) w
  generalize n * x % y = r at *
  generalize n * x / y = q at *
  generalize n * x = z at *
  go_enter Try.func28, Try.ntmps28
  go_wp2_with (first | (go_at_call 30; refine (hm _).mono ?_; rintro e w' ⟨rfl, rfl⟩) | (go_at_call 31; refine (hd _).mono ?_; rintro e w' ⟨rfl, m, rfl⟩))
  go_ret2
  exact ⟨rfl, _, rfl⟩

/-- The slice value with address A and n elements reads as the words l. -/
structure UR (w : World) (A : Option Addr) (n : Nat) (l : List Nat) : Prop where
  len : l.length = n
  at_ : ∀ (j x : Nat), l[j]? = some x → ∃ b off, A = some ⟨b, off, none⟩ ∧ w.cell? ⟨b, off + j, none⟩ = some (.int .u64 (x : Int))

set_option maxRecDepth 100000 in
theorem greatest_asks (c br : Nat) (off n cap i j x y : Nat) (hi : i < n) (hj : j < n) (w : World)
    (hc : w.cell? ⟨c, 0, none⟩ = some (.slice (some ⟨br, off, none⟩) n cap)) (hx : w.cell? ⟨br, off + i, none⟩ = some (.int .u64 (x : Int))) (hy : w.cell? ⟨br, off + j, none⟩ = some (.int .u64 (y : Int))) :
    Calls Try.prog 41 #[.int .i64 (i : Int), .int .i64 (j : Int), .pointer (some ⟨c, 0, none⟩)] w fun e w' => e = .returned (.int .i64 (cmpv y x)) ∧ ∃ m, w' = w.drewN m := by
  have h1 : (i : Int) < (n : Int) := by omega
  have h2 : (j : Int) < (n : Int) := by omega
  have h3 : (0 : Int) ≤ (i : Int) := by omega
  have h4 : (0 : Int) ≤ (j : Int) := by omega
  have hc' : ∀ q, (w.drewN q).cell? ⟨c, 0, none⟩ = some (.slice (some ⟨br, off, none⟩) n cap) := fun q => by rw [World.cell?_drewN]; exact hc
  have hx' : ∀ q, (w.drewN q).cell? ⟨br, off + i, none⟩ = some (.int .u64 (x : Int)) := fun q => by rw [World.cell?_drewN]; exact hx
  have hy' : ∀ q, (w.drewN q).cell? ⟨br, off + j, none⟩ = some (.int .u64 (y : Int)) := fun q => by rw [World.cell?_drewN]; exact hy
  go_enter Try.func41, Try.ntmps41
  go_wp2_with fail
  go_quiet (first | (go_at_call 42; exact Calls.quiet_of_same (cmp64 _ _ _)))
  go_wp2
  go_ret
  exact ⟨rfl, _, rfl⟩
end Go.Proofs.Ytlookiicogbkmaa
