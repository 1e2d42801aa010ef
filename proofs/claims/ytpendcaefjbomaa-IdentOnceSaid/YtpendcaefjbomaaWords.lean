/- take, end, word: the program's words. No condition. -/
import Derived.Test.YtpendcaefjbomaaRound
import Derived.Test.YtpendcaefjbomaaHigh
namespace Go.Proofs.Ytpendcaefjbomaa
open Go.RowKit
set_option linter.unusedVariables false

/-- A word is taken. -/
def V4.tk (v : V4) (m : Nat) : V4 :=
  let u := (V4.mk v.a v.b v.c (v.d ^^^ m)).rnd.rnd
  ⟨u.a ^^^ m, u.b, u.c, u.d⟩
theorem V4.Ok.tk {v : V4} (h : v.Ok) {m : Nat} (hm : W64 m) : (v.tk m).Ok := by
  have h1 : (V4.mk v.a v.b v.c (v.d ^^^ m)).rnd.rnd.Ok := V4.Ok.rnd (V4.Ok.rnd ⟨h.a, h.b, h.c, h.d.xor hm⟩)
  exact ⟨h1.a.xor hm, h1.b, h1.c, h1.d⟩
def V4.fin4 (v : V4) : V4 := (V4.mk v.a v.b (v.c ^^^ 255) v.d).rnd.rnd.rnd.rnd
def V4.out (v : V4) : Nat := v.fin4.a ^^^ v.fin4.b ^^^ v.fin4.c ^^^ v.fin4.d
theorem w64_255 : W64 255 := by unfold W64; omega
theorem V4.Ok.fin4 {v : V4} (h : v.Ok) : v.fin4.Ok := V4.Ok.rnd (V4.Ok.rnd (V4.Ok.rnd (V4.Ok.rnd ⟨h.a, h.b, h.c.xor w64_255, h.d⟩)))

set_option maxRecDepth 100000 in
set_option maxHeartbeats 1600000 in
theorem take_any (g m : Nat) (v : V4) (w : World) (hb : WB 105 w g v) (hm : W64 m) :
    Calls Try.prog 47 #[.pointer (some ⟨g, 0, none⟩), .int .u64 (m : Int)] w fun e w' => e = .returned (.tuple #[]) ∧ Keep (fun k => k = g) w w' ∧ WB 105 w' g (v.tk m) := by
  obtain ⟨c0, c1, c2, c3⟩ := hb.cells
  obtain ⟨f0, f1, f2, f3⟩ := hb.free
  have hval := xor64 hb.ok.d hm
  have hb1 : WB 105 (w.setCell ⟨g, 3, none⟩ (.int .u64 ((v.d ^^^ m : Nat) : Int))) g ⟨v.a, v.b, v.c, v.d ^^^ m⟩ := hb.set_d (hb.ok.d.xor hm)
  have hk1 := (Keep.refl (fun k => k = g) w).put 3 (.int .u64 ((v.d ^^^ m : Nat) : Int))
  go_enter Try.func47, Try.ntmps47
  go_wp2_with fail
  refine (round_any g _ _ hb1).mono ?_
  rintro e w2 ⟨rfl, hk2, hb2⟩
  clear hval c0 c1 c2 c3 f0 f1 f2 f3
  go_wp2_with fail
  refine (round_any g _ _ hb2).mono ?_
  rintro e w3 ⟨rfl, hk3, hb3⟩
  obtain ⟨c0, c1, c2, c3⟩ := hb3.cells
  obtain ⟨f0, f1, f2, f3⟩ := hb3.free
  have hval := xor64 hb3.ok.a hm
  have hb4 := hb3.set_a (hb3.ok.a.xor hm)
  have hk4 := ((hk1.trans hk2 (fun _ _ h => h)).trans hk3 (fun _ _ h => h)).put 0 (.int .u64 (((V4.mk v.a v.b v.c (v.d ^^^ m)).rnd.rnd.a ^^^ m : Nat) : Int))
  go_wp2_with fail
  go_end0
  exact ⟨rfl, hk4, hb4⟩

set_option maxRecDepth 100000 in
set_option maxHeartbeats 1600000 in
theorem end_any (g : Nat) (v : V4) (w : World) (hb : WB 105 w g v) :
    Calls Try.prog 49 #[.pointer (some ⟨g, 0, none⟩)] w fun e w' => e = .returned (.int .u64 (v.out : Int)) ∧ Keep (fun k => k = g) w w' := by
  obtain ⟨c0, c1, c2, c3⟩ := hb.cells
  obtain ⟨f0, f1, f2, f3⟩ := hb.free
  have hval : bits .xor .u64 (v.c : Int) 255 = ((v.c ^^^ 255 : Nat) : Int) := xor64 hb.ok.c w64_255
  have hb1 : WB 105 (w.setCell ⟨g, 2, none⟩ (.int .u64 ((v.c ^^^ 255 : Nat) : Int))) g ⟨v.a, v.b, v.c ^^^ 255, v.d⟩ := hb.set_c (hb.ok.c.xor w64_255)
  have hk1 := (Keep.refl (fun k => k = g) w).put 2 (.int .u64 ((v.c ^^^ 255 : Nat) : Int))
  go_enter Try.func49, Try.ntmps49
  go_wp2_with fail
  clear hval c0 c1 c2 c3 f0 f1 f2 f3
  generalize w.setCell ⟨g, 2, none⟩ (.int .u64 ((v.c ^^^ 255 : Nat) : Int)) = w1 at hb1 hk1 ⊢
  generalize hv : V4.mk v.a v.b (v.c ^^^ 255) v.d = v1 at hb1
  have HF : Hid (v.fin4 = v1.rnd.rnd.rnd.rnd) := Lib.hid (by rw [← hv]; rfl)
  have HV := Lib.hid hv
  clear hv
  go_loopw [10] (fun i wr => ∃ k : Nat, k ≤ 4 ∧ i = .int .i64 (k : Int) ∧ Keep (fun k => k = g) w wr ∧ ∃ u : V4, WB 105 wr g u ∧ Hid (u = Nat.rec v1 (fun _ x => x.rnd) k)) (fun i _ => 4 - (intOf i).toNat)
  case atStart => exact ⟨0, by omega, rfl, hk1, v1, hb1, Lib.hid rfl⟩
  case round =>
    obtain ⟨k, hk, rfl, hK, u, hu, HU⟩ := hrel
    by_cases hlt : k < 4
    · go_wp2_with fail
      refine (round_any g _ _ hu).mono ?_
      rintro e w2 ⟨rfl, hk2, hb2⟩
      go_wp2_with fail
      go_roundw
      case rel => exact ⟨k + 1, by omega, by go_num, hK.trans hk2 (fun _ _ h => h), u.rnd, hb2, Lib.hid (by rw [HU.out])⟩
      case measure => simp [intOf]; omega
    · obtain rfl : k = 4 := by omega
      have he : v.fin4 = u := by
        rw [HF.out, HU.out]
        rfl
      have HO : Hid (v.out = u.a ^^^ u.b ^^^ u.c ^^^ u.d) := Lib.hid (by unfold V4.out; rw [he])
      clear he HF HU HV hb1 hk1
      obtain ⟨c0, c1, c2, c3⟩ := hu.cells
      have x1 := xor64 hu.ok.a hu.ok.b
      have x2 := xor64 (hu.ok.a.xor hu.ok.b) hu.ok.c
      have x3 := xor64 ((hu.ok.a.xor hu.ok.b).xor hu.ok.c) hu.ok.d
      go_wp2_with fail
      go_quiet (fail)
      go_wp2_with fail
      go_ret
      exact ⟨by rw [HO.out]; rfl, hK.drewN _⟩

/-- Bytes as a number, the lowest first. -/
def lval : List UInt8 → Nat
  | [] => 0
  | x :: l => x.toNat + 256 * lval l
theorem lval_lt : ∀ l : List UInt8, lval l < 256 ^ l.length
  | [] => by simp [lval]
  | x :: l => by
    have := lval_lt l
    have hx := x.toNat_lt
    simp only [lval, List.length_cons, Nat.pow_succ]
    omega
theorem lval_append (l r : List UInt8) : lval (l ++ r) = lval l + 256 ^ l.length * lval r := by
  induction l with
  | nil => simp [lval]
  | cons x l ih =>
    simp only [List.cons_append, lval, ih, List.length_cons, Nat.pow_succ, Nat.mul_add]
    rw [show 256 * (256 ^ l.length * lval r) = 256 ^ l.length * 256 * lval r by rw [Nat.mul_comm (256 ^ l.length) 256, Nat.mul_assoc]]
    omega
theorem lval_snoc (l : List UInt8) (x : UInt8) : lval (l ++ [x]) = lval l + 256 ^ l.length * x.toNat := by rw [lval_append]; simp [lval]
theorem or_byte (V k : Nat) (x : UInt8) (hk : k < 8) (hV : V < 256 ^ k) : bits .or .u64 (V : Int) ((x.toNat : Int) * 2 ^ (8 * k)) = ((V + 256 ^ k * x.toNat : Nat) : Int) := by
  have hx := x.toNat_lt
  have e : (256 : Nat) ^ k = 2 ^ (8 * k) := by rw [Nat.pow_mul]
  have hle : 2 ^ (8 * k) * x.toNat < 18446744073709551616 := by
    have h1 : 2 ^ (8 * k) ≤ 2 ^ 56 := Nat.pow_le_pow_right (by decide) (by omega)
    have h2 : 2 ^ (8 * k) * x.toNat ≤ 2 ^ 56 * 255 := Nat.mul_le_mul h1 (by omega)
    omega
  rw [e] at hV ⊢
  have hV2 : V < 18446744073709551616 := by
    have h1 : 2 ^ (8 * k) ≤ 2 ^ 56 := Nat.pow_le_pow_right (by decide) (by omega)
    omega
  have h := u64_or_nat V (2 ^ (8 * k) * x.toNat) hV2 hle
  rw [Nat.or_comm, ← Nat.two_pow_add_eq_or_of_lt hV x.toNat, Nat.add_comm] at h
  rw [show ((2 ^ (8 * k) * x.toNat : Nat) : Int) = (x.toNat : Int) * 2 ^ (8 * k) by rw [Int.natCast_mul, Int.natCast_pow, Int.mul_comm]; rfl] at h
  exact h
end Go.Proofs.Ytpendcaefjbomaa
