/- word, Mix, and the document's Mix. No condition. -/
import Derived.Test.YtpendcaefjbomaaWords
import Derived.Test.YtpendcaefjbomaaRefRound
namespace Go.Proofs.Ytpendcaefjbomaa
open Go.RowKit
set_option linter.unusedVariables false

theorem wrap_small (x k : Nat) (hx : x < 256) (hk : k < 8) : IntKind.u64.wrap ((x : Int) * 2 ^ (8 * k)) = (x : Int) * 2 ^ (8 * k) := by
  have hle : x * 2 ^ (8 * k) < 18446744073709551616 := by
    have h1 : 2 ^ (8 * k) ≤ 2 ^ 56 := Nat.pow_le_pow_right (by decide) (by omega)
    have h2 : x * 2 ^ (8 * k) ≤ 255 * 2 ^ 56 := Nat.mul_le_mul (by omega) h1
    omega
  rw [show ((x : Int) * 2 ^ (8 * k)) = ((x * 2 ^ (8 * k) : Nat) : Int) by rw [Int.natCast_mul, Int.natCast_pow]; rfl, IntKind.wrap_u64]
  generalize x * 2 ^ (8 * k) = p at hle
  omega

set_option maxRecDepth 100000 in
set_option maxHeartbeats 800000 in
theorem word_any (A : Option Addr) (n c : Nat) (l : List UInt8) (w : World) (hr : RB w A n l) (hn : n ≤ 8) :
    Calls Try.prog 48 #[.slice A n c] w fun e w' => e = .returned (.int .u64 (lval l : Int)) ∧ w = w' := by
  have hl := hr.1
  go_enter Try.func48, Try.ntmps48
  go_wp2_with fail
  go_loop [3, 8] (fun m i => ∃ k : Nat, k ≤ n ∧ i = .int .i64 (k : Int) ∧ ∃ V : Nat, V < 256 ^ k ∧ Hid (V = lval (l.take k)) ∧ m = .int .u64 (V : Int)) (fun _ i => n - (intOf i).toNat)
  case atStart => exact ⟨0, Nat.zero_le _, rfl, 0, by simp, Lib.hid (by simp [lval]), rfl⟩
  case round =>
    obtain ⟨k, hk, rfl, V, hV, hVe, rfl⟩ := hrel
    by_cases hlt : k < n
    · obtain ⟨b, off, rfl, _, hcell⟩ := hr.place (by omega)
      obtain ⟨x, hx, hcx⟩ := hcell k hlt
      have hxl := x.toNat_lt
      have hor := or_byte V k x (by omega) hV
      rw [← wrap_small x.toNat k x.toNat_lt (by omega)] at hor
      clear hcell
      --ROUND
      go_wp2
      go_round
      case rel => exact ⟨k + 1, by omega, by go_num, V + 256 ^ k * x.toNat, by
        rw [Nat.pow_succ]
        have h1 : 256 ^ k * x.toNat ≤ 256 ^ k * 255 := Nat.mul_le_mul_left _ (by omega)
        omega, Lib.hid (by rw [List.take_add_one, hx.out, hVe.out]; simp only [Option.toList]; rw [lval_snoc, List.length_take, Nat.min_eq_left (by omega)]), by first | go_num | (rw [Int.natCast_add, Int.natCast_mul, Int.natCast_pow]; rfl)⟩
      case measure => simp [intOf]; omega
    · obtain rfl : k = n := by omega
      go_wp2
      go_ret
      exact ⟨by rw [hVe.out, List.take_of_length_le (by omega)]; rfl, rfl⟩

/-- The words behind k pieces of eight bytes. -/
def V4.st (v : V4) (l : List UInt8) : Nat → V4
  | 0 => v
  | k + 1 => (v.st l k).tk (lval ((l.drop (8 * k)).take 8))
theorem lval8 (l : List UInt8) : W64 (lval (l.take 8)) := by
  have := lval_lt (l.take 8)
  have h2 : 256 ^ (l.take 8).length ≤ 256 ^ 8 := Nat.pow_le_pow_right (by decide) (by rw [List.length_take]; omega)
  unfold W64
  omega
theorem V4.Ok.st {v : V4} (h : v.Ok) (l : List UInt8) : ∀ k, (v.st l k).Ok
  | 0 => h
  | k + 1 => (h.st l k).tk (lval8 _)
def mixInit (sl : Nat) : V4 := ⟨sl ^^^ 8317987319222330741, 368457802846855779, sl ^^^ 7816392313619706465, 1519701440043968637⟩
/-- The last word: what is left, and how many bytes there are. -/
def lastw (l : List UInt8) : Nat := lval (l.drop (8 * (l.length / 8))) + l.length % 256 * 72057594037927936
/-- The mix of bytes with a seal. -/
def mixOf (sl : Nat) (l : List UInt8) : Nat := (((mixInit sl).st l (l.length / 8)).tk (lastw l)).out
theorem w64_lit {n : Nat} (h : decide (n < 18446744073709551616) = true) : W64 n := of_decide_eq_true (p := n < 18446744073709551616) h
theorem mixInit_ok {sl : Nat} (h : W64 sl) : (mixInit sl).Ok :=
  ⟨h.xor (w64_lit (by decide)), w64_lit (n := 368457802846855779) (by decide), h.xor (w64_lit (by decide)), w64_lit (n := 1519701440043968637) (by decide)⟩
theorem rest_lt (l : List UInt8) : lval (l.drop (8 * (l.length / 8))) < 72057594037927936 := by
  have := lval_lt (l.drop (8 * (l.length / 8)))
  have h2 : 256 ^ (l.drop (8 * (l.length / 8))).length ≤ 256 ^ 7 := Nat.pow_le_pow_right (by decide) (by rw [List.length_drop]; omega)
  omega
theorem lastw_ok (l : List UInt8) : W64 (lastw l) := by
  have := rest_lt l
  unfold W64 lastw
  omega
theorem lastw_or (l : List UInt8) (n : Nat) (hn : l.length = n) : bits .or .u64 (lval (l.drop (8 * (l.length / 8))) : Int) (IntKind.u64.wrap ((n : Int) * 72057594037927936)) = (lastw l : Int) := by
  subst hn
  have hr := rest_lt l
  have e : IntKind.u64.wrap ((l.length : Int) * 72057594037927936) = ((2 ^ 56 * (l.length % 256) : Nat) : Int) := by
    rw [IntKind.wrap_u64]
    omega
  rw [e, u64_or_nat _ _ (by omega) (by omega), Nat.or_comm, ← Nat.two_pow_add_eq_or_of_lt (i := 56) (by omega)]
  unfold lastw
  omega

set_option maxRecDepth 100000 in
set_option maxHeartbeats 1600000 in
theorem mix_any (sl : Nat) (A : Option Addr) (n c : Nat) (l : List UInt8) (w : World) (hs : W64 sl) (hr : RB w A n l) (hnc : n ≤ c) (hc : c ≤ 9223372036854775807) :
    Calls Try.prog 27 #[.int .u64 (sl : Int), .slice A n c] w fun e w' => e = .returned (.int .u64 (mixOf sl l : Int)) ∧ Keep (fun _ => False) w w' := by
  have hx0 : bits .xor .u64 (sl : Int) 8317987319222330741 = ((sl ^^^ 8317987319222330741 : Nat) : Int) := xor64 hs (w64_lit (n := 8317987319222330741) (by decide))
  have hx1 : bits .xor .u64 (sl : Int) 7816392313619706465 = ((sl ^^^ 7816392313619706465 : Nat) : Int) := xor64 hs (w64_lit (n := 7816392313619706465) (by decide))
  have HL := Lib.hid hr.1
  have hb0 : WB 105 (w.alloc (.cells (mixInit sl).cells 105)) w.heap.size (mixInit sl) := ⟨mixInit_ok hs, Blk.new _ _ _⟩
  have hk0 : Keep (fun _ => False) w (w.alloc (.cells (mixInit sl).cells 105)) := (Keep.refl _ _).alloc _
  have hto := fun (W : World) (A : Option Addr) (n c : Nat) (h : 8 ≤ c) => run_to W A n c 8 (by omega) (by omega)
  have hfr := fun (W : World) (A : Option Addr) (n c : Nat) (h : 8 ≤ n) => run_from W A n c 8 (by omega) (by omega)
  go_enter Try.func27, Try.ntmps27
  go_wp2_with fail
  --START
  clear hx0 hx1
  change Code.wp Try.prog _ _ _ (w.alloc (.cells (mixInit sl).cells 105))
  generalize w.alloc (.cells (mixInit sl).cells 105) = w1 at hb0 hk0 ⊢
  generalize hv : mixInit sl = v at hb0
  have HV := Lib.hid hv
  clear hv
  go_loopw [1] (fun b wr => ∃ k n' c' : Nat, ∃ A', 8 * k + n' = n ∧ n' ≤ c' ∧ c' ≤ 9223372036854775807 ∧ b = .slice A' n' c' ∧ RB w A' n' (l.drop (8 * k)) ∧ Keep (fun _ => False) w wr ∧ WB 105 wr w.heap.size (v.st l k))
    (fun b _ => match b with | .slice _ m _ => m | _ => 0)
  case atStart => exact ⟨0, n, c, A, by omega, hnc, hc, rfl, hr, hk0, hb0⟩
  case round =>
    obtain ⟨k, n', c', A', hkn, hnc', hc', rfl, hr', hK, hB⟩ := hrel
    by_cases h8 : 8 ≤ n'
    · have ht8 := hto w A' n' c'
      --R8
      go_wp2_with fail
      refine (word_any _ 8 _ _ _ ((hr'.take 8 h8).kept hK fun _ _ => id) (by omega)).mono ?_
      rintro e w2 ⟨rfl, rfl⟩
      go_wp2_with fail
      refine (take_any w.heap.size _ _ _ hB (lval8 _)).mono ?_
      rintro e w3 ⟨rfl, hk3, hB3⟩
      go_wp2_with fail
      go_roundw
      case rel => exact ⟨k + 1, n' - 8, c' - 8, _, by omega, by omega, by omega, rfl, by
        have := hr'.sub 8 h8 hnc'
        rwa [List.drop_drop, show 8 * k + 8 = 8 * (k + 1) by omega] at this, hK.trans (hk3.mono (T := fun k => k = w.heap.size) fun _ _ h => h) (fun i hi h => by omega), hB3⟩
      case measure => simp; omega
    · have hkk : k = l.length / 8 := by have := HL.out; omega
      have hlast := lastw_or l n HL.out
      subst hkk
      go_wp2_with fail
      refine (word_any _ n' _ _ _ (hr'.kept hK fun _ _ => id) (by omega)).mono ?_
      rintro e w2 ⟨rfl, rfl⟩
      go_wp2_with fail
      refine (take_any w.heap.size (lastw l) _ _ hB (lastw_ok l)).mono ?_
      rintro e w3 ⟨rfl, hk3, hB3⟩
      go_wp2_with fail
      refine (end_any w.heap.size _ _ hB3).mono ?_
      rintro e w4 ⟨rfl, hk4⟩
      go_wp2_with fail
      go_ret
      exact ⟨by rw [← HV.out]; rfl, (hK.trans hk3 (fun i hi h => by omega)).trans hk4 (fun i hi h => by omega)⟩
end Go.Proofs.Ytpendcaefjbomaa
