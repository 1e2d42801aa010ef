/- ready, On and Sum of any table. No condition. -/
import Derived.Test.YtianehamjjnhoaaOn
namespace Go.Proofs.Ytianehamjjnhoaa
open Go.RowKit
set_option linter.unusedVariables false

theorem RB.later {w w' : World} {A : Option Addr} {n : Nat} {l : List UInt8} (h : RB w A n l) (hb : Below w.heap.size w w') : RB w' A n l :=
  ⟨h.1, fun hn => by
    obtain ⟨b, off, e, hc⟩ := h.2 hn
    exact ⟨b, off, e, fun j x hx => (World.cell?_of_block (hb.block b (World.block_lt_of_cell? w _ (hc j x hx)))).trans (hc j x hx)⟩⟩
theorem RB.keptN {S : Nat → Prop} {w w' : World} {A : Option Addr} {n : Nat} {l : List UInt8} (h : RB w A n l) (k : Keep S w w') (hs : 0 < n → ∀ ad, A = some ad → ¬ S ad.block) : RB w' A n l := by
  rcases Nat.eq_zero_or_pos n with h0 | h0
  · subst h0
    rw [List.eq_nil_of_length_eq_zero h.1]
    exact RB.nil _ _
  · exact h.kept k (hs h0)
/-- Block g is a table, reckoned or not. -/
def TT (w : World) (g : Nat) : Prop := (∃ f, TB w g 0 0 f) ∨ ∃ f, TB w g 1 0 (upTo 256 f)
theorem TT.lt {w : World} {g : Nat} (h : TT w g) : g < w.heap.size := by
  rcases h with ⟨f, h⟩ | ⟨f, h⟩
  · exact h.lt
  · exact h.lt
theorem TT.kept {S : Nat → Prop} {w w' : World} {g : Nat} (h : TT w g) (k : Keep S w w') (hg : ¬ S g) : TT w' g := by
  rcases h with ⟨f, h⟩ | ⟨f, h⟩
  · exact .inl ⟨f, h.kept k hg⟩
  · exact .inr ⟨f, h.kept k hg⟩

theorem ready_any (g : Nat) (w : World) (ht : TT w g) :
    Calls Try.prog 26 #[.pointer (some ⟨g, 0, none⟩)] w fun e w' => e = .returned (.pointer (some ⟨g, 0, none⟩)) ∧ Keep (fun k => k = g) w w' ∧ ∃ f, TB w' g 1 0 (upTo 256 f) := by
  rcases ht with ⟨f, h⟩ | ⟨f, h⟩
  · refine (ready_first g f w h).mono ?_
    rintro e w' ⟨rfl, hk, h2⟩
    exact ⟨rfl, hk, f, h2⟩
  · refine (ready_again g 0 _ w h).mono ?_
    rintro e w' ⟨rfl, rfl⟩
    exact ⟨rfl, Keep.refl _ _, f, h⟩

set_option maxRecDepth 100000 in
set_option maxHeartbeats 1600000 in
theorem ready_nil (w : World) :
    Calls Try.prog 26 #[.pointer none] w fun e w' => e = .returned (.pointer (some ⟨w.heap.size, 0, none⟩)) ∧ Below w.heap.size w w' ∧ ∃ f, TB w' w.heap.size 1 0 (upTo 256 f) := by
  have hmf : ∀ (fn : Fn) (first cap : Array Value) (w : World), (Instr.makeFunc fn first cap).run Try.prog w = .ok (.func fn first cap) w := fun _ _ _ _ => rfl
  go_enter Try.func26, Try.ntmps26
  go_wp2_with (first | (go_at_call 11; refine (new_any _).mono ?_; rintro e w1 ⟨rfl, hk1, ht1⟩; have hcl := ht1.done) | (go_at_call 35; refine (do_first w.heap.size _ _ ht1).mono ?_; rintro e w2 ⟨rfl, hk2, ht2⟩))
  go_ret
  exact ⟨rfl, ((hk1.mono (T := fun k => w.heap.size ≤ k) (fun _ _ h => h.elim)).trans (hk2.mono (T := fun k => w.heap.size ≤ k) (fun k _ h => by omega)) (fun _ _ h => h)).below (Nat.le_refl _) (fun k hk h => by omega), _, ht2⟩

set_option maxRecDepth 100000 in
set_option maxHeartbeats 1600000 in
theorem on_any (g s : Nat) (A : Option Addr) (n c : Nat) (l : List UInt8) (w : World) (hs : s < 4294967296) (ht : TT w g) (hr : RB w A n l) (hn : n ≤ 9223372036854775807) (hA : 0 < n → ∀ ad, A = some ad → ¬ ad.block = g) :
    Calls Try.prog 15 #[.pointer (some ⟨g, 0, none⟩), .int .u32 (s : Int), .slice A n c] w fun e w' => e = .returned (.int .u32 (sumOn s l : Int)) ∧ Keep (fun k => k = g) w w' ∧ ∃ f, TB w' g 1 0 (upTo 256 f) := by
  have hf := flip_bits s hs
  have hsg : IntKind.u32.signed = false := rfl
  have hl := hr.1
  go_enter Try.func15, Try.ntmps15
  go_wp2_with (go_at_call 26; refine (ready_any g _ ht).mono ?_; rintro e w1 ⟨rfl, hk1, f, ht1⟩)
  have hr1 := hr.keptN hk1 hA
  go_loop [1, 15] (fun x i => ∃ k : Nat, k ≤ n ∧ i = .int .i64 (k : Int) ∧ ∃ q : Nat, q < 4294967296 ∧ Hid (q = steps (flip s) (l.take k)) ∧ x = .int .u32 (q : Int)) (fun _ i => n - (intOf i).toNat)
  case atStart => exact ⟨0, by omega, rfl, flip s, flip_lt hs, Lib.hid rfl, by first | rfl | rw [hf]⟩
  case round =>
    obtain ⟨k, hk, rfl, q, hq, hqe, rfl⟩ := hrel
    by_cases hlt : k < n
    · obtain ⟨b, off, rfl, _, hcell⟩ := hr1.place (by omega)
      obtain ⟨x, hx, hc⟩ := hcell k hlt
      clear hcell
      have hx8 := u8_xor_nat (q % 256) x.toNat (by omega) x.toNat_lt
      have hj : (q % 256) ^^^ x.toNat < 256 := Nat.xor_lt_two_pow (n := 8) (by omega) x.toNat_lt
      have hst := step_table q x.toNat
      have hjl := step_lt (s := 0) (by omega) hj
      have hw8 : IntKind.u8.wrap (q : Int) = ((q % 256 : Nat) : Int) := by rw [IntKind.wrap_u8]; omega
      generalize hjj : (q % 256) ^^^ x.toNat = j at hx8 hj hst hjl
      have hcj := ht1.at_ hj
      rw [upTo, if_pos hj] at hcj
      have hx2 := u32_xor_nat (step 0 j) (q / 256) hjl (by omega)
      rw [← hst] at hx2
      clear hjj
      rw [show ((q % 256 : Nat) : Int) = (q : Int) % 256 by omega] at hx8
      rw [show ((q / 256 : Nat) : Int) = (q : Int) / 256 by omega] at hx2
      go_wp2
      go_round
      case rel => exact ⟨k + 1, by omega, by go_num, step q x.toNat, step_lt hq x.toNat_lt, Lib.hid (by rw [List.take_add_one, hx.out, hqe.out]; exact (steps_snoc _ _ _).symm), by rw [hst]⟩
      case measure => simp [intOf]; omega
    · obtain rfl : k = n := by omega
      have hfq := flip_bits q hq
      have hse : flip q = sumOn s l := by rw [hqe.out, List.take_of_length_le (by omega)]; rfl
      clear hqe
      rw [hse] at hfq
      go_wp2
      go_ret
      exact ⟨rfl, hk1, f, ht1⟩
set_option maxRecDepth 100000 in
set_option maxHeartbeats 1600000 in
theorem on_nil (s : Nat) (A : Option Addr) (n c : Nat) (l : List UInt8) (w : World) (hs : s < 4294967296) (hr : RB w A n l) (hn : n ≤ 9223372036854775807) :
    Calls Try.prog 15 #[.pointer none, .int .u32 (s : Int), .slice A n c] w fun e w' => e = .returned (.int .u32 (sumOn s l : Int)) ∧ Below w.heap.size w w' := by
  have hf := flip_bits s hs
  have hsg : IntKind.u32.signed = false := rfl
  have hl := hr.1
  go_enter Try.func15, Try.ntmps15
  go_wp2_with (go_at_call 26; refine (ready_nil _).mono ?_; rintro e w1 ⟨rfl, hb1, f, ht1⟩)
  have hr1 := hr.later hb1
  go_loop [1, 15] (fun x i => ∃ k : Nat, k ≤ n ∧ i = .int .i64 (k : Int) ∧ ∃ q : Nat, q < 4294967296 ∧ Hid (q = steps (flip s) (l.take k)) ∧ x = .int .u32 (q : Int)) (fun _ i => n - (intOf i).toNat)
  case atStart => exact ⟨0, by omega, rfl, flip s, flip_lt hs, Lib.hid rfl, by first | rfl | rw [hf]⟩
  case round =>
    obtain ⟨k, hk, rfl, q, hq, hqe, rfl⟩ := hrel
    by_cases hlt : k < n
    · obtain ⟨b, off, rfl, _, hcell⟩ := hr1.place (by omega)
      obtain ⟨x, hx, hc⟩ := hcell k hlt
      clear hcell
      have hx8 := u8_xor_nat (q % 256) x.toNat (by omega) x.toNat_lt
      have hj : (q % 256) ^^^ x.toNat < 256 := Nat.xor_lt_two_pow (n := 8) (by omega) x.toNat_lt
      have hst := step_table q x.toNat
      have hjl := step_lt (s := 0) (by omega) hj
      have hw8 : IntKind.u8.wrap (q : Int) = ((q % 256 : Nat) : Int) := by rw [IntKind.wrap_u8]; omega
      generalize hjj : (q % 256) ^^^ x.toNat = j at hx8 hj hst hjl
      have hcj := ht1.at_ hj
      rw [upTo, if_pos hj] at hcj
      have hx2 := u32_xor_nat (step 0 j) (q / 256) hjl (by omega)
      rw [← hst] at hx2
      clear hjj
      rw [show ((q % 256 : Nat) : Int) = (q : Int) % 256 by omega] at hx8
      rw [show ((q / 256 : Nat) : Int) = (q : Int) / 256 by omega] at hx2
      go_wp2
      go_round
      case rel => exact ⟨k + 1, by omega, by go_num, step q x.toNat, step_lt hq x.toNat_lt, Lib.hid (by rw [List.take_add_one, hx.out, hqe.out]; exact (steps_snoc _ _ _).symm), by rw [hst]⟩
      case measure => simp [intOf]; omega
    · obtain rfl : k = n := by omega
      have hfq := flip_bits q hq
      have hse : flip q = sumOn s l := by rw [hqe.out, List.take_of_length_le (by omega)]; rfl
      clear hqe
      rw [hse] at hfq
      go_wp2
      go_ret
      exact ⟨rfl, hb1⟩
set_option maxRecDepth 100000 in
theorem sum_any (g : Nat) (A : Option Addr) (n c : Nat) (l : List UInt8) (w : World) (ht : TT w g) (hr : RB w A n l) (hn : n ≤ 9223372036854775807) (hA : 0 < n → ∀ ad, A = some ad → ¬ ad.block = g) :
    Calls Try.prog 13 #[.pointer (some ⟨g, 0, none⟩), .slice A n c] w fun e w' => e = .returned (.int .u32 (sumOn 0 l : Int)) ∧ Keep (fun k => k = g) w w' ∧ ∃ f, TB w' g 1 0 (upTo 256 f) := by
  have ho := on_any g 0 A n c l w (by omega) ht hr hn hA
  go_enter Try.func13, Try.ntmps13
  go_wp2_with (go_at_call 15; refine ho.mono ?_; rintro e w1 ⟨rfl, hk, f, ht1⟩)
  go_ret
  exact ⟨rfl, hk, f, ht1⟩

set_option maxRecDepth 100000 in
theorem sum_nil (A : Option Addr) (n c : Nat) (l : List UInt8) (w : World) (hr : RB w A n l) (hn : n ≤ 9223372036854775807) :
    Calls Try.prog 13 #[.pointer none, .slice A n c] w fun e w' => e = .returned (.int .u32 (sumOn 0 l : Int)) ∧ Below w.heap.size w w' := by
  have ho := on_nil 0 A n c l w (by omega) hr hn
  go_enter Try.func13, Try.ntmps13
  go_wp2_with (go_at_call 15; refine ho.mono ?_; rintro e w1 ⟨rfl, hb1⟩)
  go_ret
  exact ⟨rfl, hb1⟩

end Go.Proofs.Ytianehamjjnhoaa
