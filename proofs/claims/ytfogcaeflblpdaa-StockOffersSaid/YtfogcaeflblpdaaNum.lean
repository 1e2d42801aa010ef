/- The contracts of the calls that make numbers' cells: the program's and the document's. No condition. -/
import Derived.Test.YtfogcaeflblpdaaBase
import Derived.Test.YtfogcaeflblpdaaPure
import Derived.Test.YtfogcaeflblpdaaShelf
namespace Go.Proofs.Ytfogcaeflblpdaa
open Go.RowKit
set_option linter.unusedVariables false

theorem u8_small (n : Int) (h0 : 0 ≤ n) (h : n < 256) : n = ((UInt8.ofNat n.toNat).toNat : Int) := by
  simp
  omega

theorem len64 (u : Nat) (w : World) (h : u < 18446744073709551616) :
    Calls Try.prog 83 #[.int .u64 (u : Int)] w fun e w' => ∃ L : Nat, e = .returned (.int .i64 (L : Int)) ∧ Hid ((L + 7) / 8 = (digs u).length) ∧ L ≤ 64 ∧ w = w' := by
  refine (Try.bits_Len64 (u : Int) w (by omega) (by omega)).mono fun e w' ⟨he, hw⟩ => ⟨Lib.bitLen u, by simpa using he, ?_, ?_, hw.symm⟩
  · exact (digs_len u h).symm
  · have := digs_len u h
    have := digs_len_le u
    omega

theorem head_byte (h L u : Nat) (hL : Hid ((L + 7) / 8 = (digs u).length)) (h8 : (digs u).length ≤ 8) (hh : h ≤ 144) : (h : Int) + ((L : Int) + 7) / 8 = ((UInt8.ofNat (h + (digs u).length)).toNat : Int) := by
  have := hL.out
  rw [← this]
  simp
  omega

theorem Grew.after_alloc {base : Nat} {w w1 : World} {v v1 : Value} {l l1 : List UInt8} {o : Obj} (hown : OB base w v l) (h : Grew base (w.alloc o) v w1 v1 l1) : Grew base w v w1 v1 l1 :=
  ((Grew.start hown).alloc o).trans h

set_option maxHeartbeats 400000 in
theorem putNum_small (base : Nat) (v : Value) (l : List UInt8) (n : Int) (w : World) (hown : OB base w v l) (hb : base ≤ w.heap.size) (hl : l.length ≤ 70368744177664) (h0 : 0 ≤ n) (h1 : n < 128) :
    Calls Try.prog 75 #[v, .int .i64 n] w fun e w' => ∃ v', e = .returned v' ∧ Grew base w v w' v' (l ++ [UInt8.ofNat n.toNat]) := by
  go_enter Try.func75, Try.ntmps75
  go_wp2_with (at_builtin; refine wpApp rfl (.tmp 15) (.tmp 18) rfl base v l rfl (hown.alloc _) _ 1 1 [UInt8.ofNat n.toNat] rfl (RB.one_ _ _ _ (u8_small n h0 (by omega)) _) (by omega) (by simp; omega) ?_; intro v1 w1 hg)
  go_ret
  exact ⟨v1, rfl, hg.after_alloc hown⟩

def part (h u k : Nat) : List UInt8 := UInt8.ofNat (h + (digs u).length) :: (digs u).take k

theorem part_len (l : List UInt8) (h u k : Nat) : (l ++ part h u k).length ≤ l.length + 9 := by
  have := digs_len_le u
  rw [List.length_append, part, List.length_cons, List.length_take]
  omega
theorem part_one (w : World) (h L u : Nat) (hL : Hid ((L + 7) / 8 = (digs u).length)) (h8 : (digs u).length ≤ 8) (hh : h ≤ 144) (z : Int) (t : TypeId) (hz : z = (h : Int) + ((L : Int) + 7) / 8) :
    RB (w.alloc (.cells #[.int .u8 z] t)) (some ⟨w.heap.size, 0, none⟩) 1 (part h u 0) :=
  RB.one_ w z _ (hz.trans (head_byte h L u hL h8 hh)) t
theorem part_succ (h u k : Nat) (hu : u < 18446744073709551616) (hk : k < (digs u).length) : part h u (k + 1) = part h u k ++ [UInt8.ofNat (u / 256 ^ ((digs u).length - 1 - k))] := by
  rw [part, digs_take u k hu hk]
  rfl
theorem byte_of (u j : Nat) : (u : Int) / 2 ^ (8 * j) % 256 = ((UInt8.ofNat (u / 256 ^ j)).toNat : Int) := by
  have e : (256 : Nat) ^ j = 2 ^ (8 * j) := by rw [Nat.pow_mul]
  rw [e]
  simp

set_option maxRecDepth 100000 in
set_option maxHeartbeats 800000 in
theorem putNum_great (base : Nat) (v : Value) (l : List UInt8) (n : Int) (w : World) (hown : OB base w v l) (hb : base ≤ w.heap.size) (hl : l.length ≤ 70368744177664) (h0 : 128 ≤ n) (h1 : n ≤ 9223372036854775807) :
    Calls Try.prog 75 #[v, .int .i64 n] w fun e w' => ∃ v', e = .returned v' ∧ Grew base w v w' v' (l ++ part 128 n.toNat (digs n.toNat).length) := by
  obtain ⟨u, rfl⟩ := Int.eq_ofNat_of_zero_le (show 0 ≤ n by omega)
  rw [Int.toNat_natCast]
  have hlt1 : decide ((u : Int) < 128) = false := by simp; omega
  have hlt2 : decide ((u : Int) < 0) = false := by simp
  have hd8 := digs_len_le u
  go_enter Try.func75, Try.ntmps75
  go_wp2_with fail
  refine (len64 u _ (by omega)).mono ?_
  rintro e w' ⟨L, rfl, hL, hL64, rfl⟩
  go_wp2_with (at_builtin; refine wpApp rfl (.tmp 31) (.tmp 36) rfl base v l rfl (hown.alloc _) _ 1 1 (part 128 u 0) rfl (part_one _ 128 L u hL hd8 (by omega) _ _ (by omega)) (by omega) (by simp; omega) ?_; intro v1 w1 hg)
  go_loopw [0, 8] (fun vr i wr => ∃ k : Nat, k ≤ (digs u).length ∧ i = .int .i64 ((((digs u).length : Nat) : Int) - 1 - k) ∧ Grew base w v wr vr (l ++ part 128 u k))
    (fun _ i _ => (intOf i + 1).toNat)
  case atStart =>
    refine ⟨0, Nat.zero_le _, ?_, hg.after_alloc hown⟩
    have := hL.out
    congr 1
    omega
  case round =>
    obtain ⟨k, hk, rfl, hgr⟩ := hrel
    clear hg
    by_cases hlt : k < (digs u).length
    · have ho := hgr.own
      have hs := hgr.keep.size
      have hpl := part_len l 128 u k
      go_wp2_with (at_builtin; refine wpApp rfl (.tmp 44) (.tmp 50) rfl base u0 _ rfl (ho.alloc _) _ 1 1 [UInt8.ofNat (u / 256 ^ ((digs u).length - 1 - k))] rfl (RB.one_ _ _ _ (byte_of u _) _) (by omega) (by simp; omega) ?_; intro v2 w2 hg2)
      go_roundw
      case rel => exact ⟨k + 1, by omega, by go_num, by rw [part_succ 128 u k (by omega) hlt, ← List.append_assoc]; exact hgr.trans (hg2.after_alloc ho)⟩
      case measure => simp [intOf]; omega
    · obtain rfl : k = (digs u).length := by omega
      go_wp2_with fail
      go_ret
      exact ⟨_, rfl, hgr⟩

set_option maxRecDepth 100000 in
set_option maxHeartbeats 800000 in
theorem putNum_below (base : Nat) (v : Value) (l : List UInt8) (n : Int) (w : World) (hown : OB base w v l) (hb : base ≤ w.heap.size) (hl : l.length ≤ 70368744177664) (h0 : n < 0) (h1 : -9223372036854775808 ≤ n) :
    Calls Try.prog 75 #[v, .int .i64 n] w fun e w' => ∃ v', e = .returned v' ∧ Grew base w v w' v' (l ++ part 144 (-1 - n).toNat (digs (-1 - n).toNat).length) := by
  obtain ⟨u, hu⟩ := Int.eq_ofNat_of_zero_le (show 0 ≤ -1 - n by omega)
  obtain rfl : n = -1 - (u : Int) := by omega
  rw [show (-1 - (-1 - (u : Int))).toNat = u from by omega]
  clear hu
  have hd8 := digs_len_le u
  go_enter Try.func75, Try.ntmps75
  go_wp2_with fail
  rw [show (-1 - (-1 - (u : Int))) = (u : Int) from by omega]
  refine (len64 u _ (by omega)).mono ?_
  rintro e w' ⟨L, rfl, hL, hL64, rfl⟩
  go_wp2_with (at_builtin; refine wpApp rfl (.tmp 31) (.tmp 36) rfl base v l rfl (hown.alloc _) _ 1 1 (part 144 u 0) rfl (part_one _ 144 L u hL hd8 (by omega) _ _ (by omega)) (by omega) (by simp; omega) ?_; intro v1 w1 hg)
  go_loopw [0, 8] (fun vr i wr => ∃ k : Nat, k ≤ (digs u).length ∧ i = .int .i64 ((((digs u).length : Nat) : Int) - 1 - k) ∧ Grew base w v wr vr (l ++ part 144 u k))
    (fun _ i _ => (intOf i + 1).toNat)
  case atStart =>
    refine ⟨0, Nat.zero_le _, ?_, hg.after_alloc hown⟩
    have := hL.out
    congr 1
    omega
  case round =>
    obtain ⟨k, hk, rfl, hgr⟩ := hrel
    clear hg
    by_cases hlt : k < (digs u).length
    · have ho := hgr.own
      have hs := hgr.keep.size
      have hpl := part_len l 144 u k
      go_wp2_with (at_builtin; refine wpApp rfl (.tmp 44) (.tmp 50) rfl base u0 _ rfl (ho.alloc _) _ 1 1 [UInt8.ofNat (u / 256 ^ ((digs u).length - 1 - k))] rfl (RB.one_ _ _ _ (byte_of u _) _) (by omega) (by simp; omega) ?_; intro v2 w2 hg2)
      go_roundw
      case rel => exact ⟨k + 1, by omega, by go_num, by rw [part_succ 144 u k (by omega) hlt, ← List.append_assoc]; exact hgr.trans (hg2.after_alloc ho)⟩
      case measure => simp [intOf]; omega
    · obtain rfl : k = (digs u).length := by omega
      go_wp2_with fail
      go_ret
      exact ⟨_, rfl, hgr⟩


theorem putNum_any (base : Nat) (v : Value) (l : List UInt8) (n : Int) (w : World) (hown : OB base w v l) (hb : base ≤ w.heap.size) (hl : l.length ≤ 70368744177664) (h0 : -9223372036854775808 ≤ n) (h1 : n ≤ 9223372036854775807) :
    Calls Try.prog 75 #[v, .int .i64 n] w fun e w' => ∃ v', e = .returned v' ∧ Grew base w v w' v' (l ++ numCell n) := by
  unfold numCell
  by_cases ha : 0 ≤ n ∧ n < 128
  · rw [if_pos ha]
    exact putNum_small base v l n w hown hb hl ha.1 ha.2
  · rw [if_neg ha]
    by_cases hn : n < 0
    · rw [if_pos hn]
      have := putNum_below base v l n w hown hb hl hn h0
      rwa [part, List.take_length] at this
    · rw [if_neg hn]
      have := putNum_great base v l n w hown hb hl (by omega) h1
      rwa [part, List.take_length] at this

theorem byte_mod (q : Nat) : (q : Int) % 256 = ((UInt8.ofNat (q % 256)).toNat : Int) := by
  simp

theorem wrap_nat (z : Int) : ∃ q : Nat, IntKind.u64.wrap z = (q : Int) ∧ q < 18446744073709551616 := by
  refine ⟨(IntKind.u64.wrap z).toNat, ?_, ?_⟩ <;> rw [IntKind.wrap_u64] <;> omega
theorem u8_head (h u : Nat) (hh : h ≤ 144) : (h : Int) + ((digs u).length : Int) = ((UInt8.ofNat (h + (digs u).length)).toNat : Int) := by
  have := digs_len_le u
  simp
  omega

theorem num_any (n : Int) (w : World) (h0 : -9223372036854775808 ≤ n) (h1 : n ≤ 9223372036854775807) :
    Calls Try.prog 59 #[.int .i64 n] w fun e w' => ∃ v', e = .returned v' ∧ Grew w.heap.size w (.slice none 0 0) w' v' (numCell n) := by
  go_enter Try.func59, Try.ntmps59
  go_wp2_with fail
  refine (putNum_any w.heap.size _ [] n w (OB.nil _ _) (Nat.le_refl _) (by simp) h0 h1).mono ?_
  rintro e w' ⟨v', rfl, hg⟩
  go_wp2_with fail
  go_ret
  exact ⟨v', rfl, hg⟩

end Go.Proofs.Ytfogcaeflblpdaa
