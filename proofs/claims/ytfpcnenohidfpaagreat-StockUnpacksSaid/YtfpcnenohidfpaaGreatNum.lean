/- The contracts of the calls that make numbers' cells: the program's and the document's. No condition. -/
import Derived.Test.YtfpcnenohidfpaaGreatBase
import Derived.Test.YtfpcnenohidfpaaGreatPure
import Derived.Test.YtfpcnenohidfpaaGreatShelf
namespace Go.Proofs.YtfpcnenohidfpaaGreat
open Go.RowKit
set_option linter.unusedVariables false

theorem u8_small (n : Int) (h0 : 0 ≤ n) (h : n < 256) : n = ((UInt8.ofNat n.toNat).toNat : Int) := by
  simp
  omega

theorem len64 (u : Nat) (w : World) (h : u < 18446744073709551616) :
    Calls Tryz.prog 82 #[.int .u64 (u : Int)] w fun e w' => ∃ L : Nat, e = .returned (.int .i64 (L : Int)) ∧ Hid ((L + 7) / 8 = (digs u).length) ∧ L ≤ 64 ∧ w = w' := by
  refine (Tryz.bits_Len64 (u : Int) w (by omega) (by omega)).mono fun e w' ⟨he, hw⟩ => ⟨Lib.bitLen u, by simpa using he, ?_, ?_, hw.symm⟩
  · exact (digs_len u h).symm
  · have := digs_len u h
    have := digs_len_le u
    omega

theorem head_byte (h L u : Nat) (hL : Hid ((L + 7) / 8 = (digs u).length)) (h8 : (digs u).length ≤ 8) (hh : h ≤ 144) : (h : Int) + ((L : Int) + 7) / 8 = ((UInt8.ofNat (h + (digs u).length)).toNat : Int) := by
  have := hL.out
  rw [← this]
  simp
  omega

theorem Grew.after_alloc {base : Nat} {w w1 : World} {v v1 : Value} {l l1 : List UInt8} {o : Obj} (hown : OB base w v l) (h : Grew base (w.alloc o) v w1 v1 l1) : Grew base w v w1 v1 l1 :=
  ((Grew.start hown).alloc o).trans h

set_option maxHeartbeats 400000 in
theorem putNum_small (base : Nat) (v : Value) (l : List UInt8) (n : Int) (w : World) (hown : OB base w v l) (hb : base ≤ w.heap.size) (hl : l.length ≤ 70368744177664) (h0 : 0 ≤ n) (h1 : n < 128) :
    Calls Tryz.prog 73 #[v, .int .i64 n] w fun e w' => ∃ v', e = .returned v' ∧ Grew base w v w' v' (l ++ [UInt8.ofNat n.toNat]) := by
  go_enter Tryz.func73, Tryz.ntmps73
  go_wp2_with (at_builtin; refine wpApp rfl (.tmp 15) (.tmp 18) rfl base v l rfl (hown.alloc _) _ 1 1 [UInt8.ofNat n.toNat] rfl (RB.one_ _ _ _ (u8_small n h0 (by omega)) _) (by omega) (by simp; omega) ?_; intro v1 w1 hg)
  go_ret
  exact ⟨v1, rfl, hg.after_alloc hown⟩

def part (h u k : Nat) : List UInt8 := UInt8.ofNat (h + (digs u).length) :: (digs u).take k

theorem part_len (l : List UInt8) (h u k : Nat) : (l ++ part h u k).length ≤ l.length + 9 := by
  have := digs_len_le u
  rw [List.length_append, part, List.length_cons, List.length_take]
  omega
theorem part_one (w : World) (h L u : Nat) (hL : Hid ((L + 7) / 8 = (digs u).length)) (h8 : (digs u).length ≤ 8) (hh : h ≤ 144) (z : Int) (t : TypeId) (hz : z = (h : Int) + ((L : Int) + 7) / 8) :
    RB (w.alloc (.cells #[.int .u8 z] t)) (some ⟨w.heap.size, 0, none⟩) 1 (part h u 0) :=
  RB.one_ w z _ (hz.trans (head_byte h L u hL h8 hh)) t
theorem part_succ (h u k : Nat) (hu : u < 18446744073709551616) (hk : k < (digs u).length) : part h u (k + 1) = part h u k ++ [UInt8.ofNat (u / 256 ^ ((digs u).length - 1 - k))] := by
  rw [part, digs_take u k hu hk]
  rfl
theorem byte_of (u j : Nat) : (u : Int) / 2 ^ (8 * j) % 256 = ((UInt8.ofNat (u / 256 ^ j)).toNat : Int) := by
  have e : (256 : Nat) ^ j = 2 ^ (8 * j) := by rw [Nat.pow_mul]
  rw [e]
  simp

set_option maxRecDepth 100000 in
set_option maxHeartbeats 800000 in
theorem putNum_great (base : Nat) (v : Value) (l : List UInt8) (n : Int) (w : World) (hown : OB base w v l) (hb : base ≤ w.heap.size) (hl : l.length ≤ 70368744177664) (h0 : 128 ≤ n) (h1 : n ≤ 9223372036854775807) :
    Calls Tryz.prog 73 #[v, .int .i64 n] w fun e w' => ∃ v', e = .returned v' ∧ Grew base w v w' v' (l ++ part 128 n.toNat (digs n.toNat).length) := by
  obtain ⟨u, rfl⟩ := Int.eq_ofNat_of_zero_le (show 0 ≤ n by omega)
  rw [Int.toNat_natCast]
  have hlt1 : decide ((u : Int) < 128) = false := by simp; omega
  have hlt2 : decide ((u : Int) < 0) = false := by simp
  have hd8 := digs_len_le u
  go_enter Tryz.func73, Tryz.ntmps73
  go_wp2_with fail
  refine (len64 u _ (by omega)).mono ?_
  rintro e w' ⟨L, rfl, hL, hL64, rfl⟩
  go_wp2_with (at_builtin; refine wpApp rfl (.tmp 31) (.tmp 36) rfl base v l rfl (hown.alloc _) _ 1 1 (part 128 u 0) rfl (part_one _ 128 L u hL hd8 (by omega) _ _ (by omega)) (by omega) (by simp; omega) ?_; intro v1 w1 hg)
  go_loopw [0, 8] (fun vr i wr => ∃ k : Nat, k ≤ (digs u).length ∧ i = .int .i64 ((((digs u).length : Nat) : Int) - 1 - k) ∧ Grew base w v wr vr (l ++ part 128 u k))
    (fun _ i _ => (intOf i + 1).toNat)
  case atStart =>
    refine ⟨0, Nat.zero_le _, ?_, hg.after_alloc hown⟩
    have := hL.out
    congr 1
    omega
  case round =>
    obtain ⟨k, hk, rfl, hgr⟩ := hrel
    clear hg
    by_cases hlt : k < (digs u).length
    · have ho := hgr.own
      have hs := hgr.keep.size
      have hpl := part_len l 128 u k
      go_wp2_with (at_builtin; refine wpApp rfl (.tmp 44) (.tmp 50) rfl base u0 _ rfl (ho.alloc _) _ 1 1 [UInt8.ofNat (u / 256 ^ ((digs u).length - 1 - k))] rfl (RB.one_ _ _ _ (byte_of u _) _) (by omega) (by simp; omega) ?_; intro v2 w2 hg2)
      go_roundw
      case rel => exact ⟨k + 1, by omega, by go_num, by rw [part_succ 128 u k (by omega) hlt, ← List.append_assoc]; exact hgr.trans (hg2.after_alloc ho)⟩
      case measure => simp [intOf]; omega
    · obtain rfl : k = (digs u).length := by omega
      go_wp2_with fail
      go_ret
      exact ⟨_, rfl, hgr⟩

set_option maxRecDepth 100000 in
set_option maxHeartbeats 800000 in
theorem putNum_below (base : Nat) (v : Value) (l : List UInt8) (n : Int) (w : World) (hown : OB base w v l) (hb : base ≤ w.heap.size) (hl : l.length ≤ 70368744177664) (h0 : n < 0) (h1 : -9223372036854775808 ≤ n) :
    Calls Tryz.prog 73 #[v, .int .i64 n] w fun e w' => ∃ v', e = .returned v' ∧ Grew base w v w' v' (l ++ part 144 (-1 - n).toNat (digs (-1 - n).toNat).length) := by
  obtain ⟨u, hu⟩ := Int.eq_ofNat_of_zero_le (show 0 ≤ -1 - n by omega)
  obtain rfl : n = -1 - (u : Int) := by omega
  rw [show (-1 - (-1 - (u : Int))).toNat = u from by omega]
  clear hu
  have hd8 := digs_len_le u
  go_enter Tryz.func73, Tryz.ntmps73
  go_wp2_with fail
  rw [show (-1 - (-1 - (u : Int))) = (u : Int) from by omega]
  refine (len64 u _ (by omega)).mono ?_
  rintro e w' ⟨L, rfl, hL, hL64, rfl⟩
  go_wp2_with (at_builtin; refine wpApp rfl (.tmp 31) (.tmp 36) rfl base v l rfl (hown.alloc _) _ 1 1 (part 144 u 0) rfl (part_one _ 144 L u hL hd8 (by omega) _ _ (by omega)) (by omega) (by simp; omega) ?_; intro v1 w1 hg)
  go_loopw [0, 8] (fun vr i wr => ∃ k : Nat, k ≤ (digs u).length ∧ i = .int .i64 ((((digs u).length : Nat) : Int) - 1 - k) ∧ Grew base w v wr vr (l ++ part 144 u k))
    (fun _ i _ => (intOf i + 1).toNat)
  case atStart =>
    refine ⟨0, Nat.zero_le _, ?_, hg.after_alloc hown⟩
    have := hL.out
    congr 1
    omega
  case round =>
    obtain ⟨k, hk, rfl, hgr⟩ := hrel
    clear hg
    by_cases hlt : k < (digs u).length
    · have ho := hgr.own
      have hs := hgr.keep.size
      have hpl := part_len l 144 u k
      go_wp2_with (at_builtin; refine wpApp rfl (.tmp 44) (.tmp 50) rfl base u0 _ rfl (ho.alloc _) _ 1 1 [UInt8.ofNat (u / 256 ^ ((digs u).length - 1 - k))] rfl (RB.one_ _ _ _ (byte_of u _) _) (by omega) (by simp; omega) ?_; intro v2 w2 hg2)
      go_roundw
      case rel => exact ⟨k + 1, by omega, by go_num, by rw [part_succ 144 u k (by omega) hlt, ← List.append_assoc]; exact hgr.trans (hg2.after_alloc ho)⟩
      case measure => simp [intOf]; omega
    · obtain rfl : k = (digs u).length := by omega
      go_wp2_with fail
      go_ret
      exact ⟨_, rfl, hgr⟩


theorem putNum_any (base : Nat) (v : Value) (l : List UInt8) (n : Int) (w : World) (hown : OB base w v l) (hb : base ≤ w.heap.size) (hl : l.length ≤ 70368744177664) (h0 : -9223372036854775808 ≤ n) (h1 : n ≤ 9223372036854775807) :
    Calls Tryz.prog 73 #[v, .int .i64 n] w fun e w' => ∃ v', e = .returned v' ∧ Grew base w v w' v' (l ++ numCell n) := by
  unfold numCell
  by_cases ha : 0 ≤ n ∧ n < 128
  · rw [if_pos ha]
    exact putNum_small base v l n w hown hb hl ha.1 ha.2
  · rw [if_neg ha]
    by_cases hn : n < 0
    · rw [if_pos hn]
      have := putNum_below base v l n w hown hb hl hn h0
      rwa [part, List.take_length] at this
    · rw [if_neg hn]
      have := putNum_great base v l n w hown hb hl (by omega) h1
      rwa [part, List.take_length] at this

theorem byte_mod (q : Nat) : (q : Int) % 256 = ((UInt8.ofNat (q % 256)).toNat : Int) := by
  simp

theorem wrap_nat (z : Int) : ∃ q : Nat, IntKind.u64.wrap z = (q : Int) ∧ q < 18446744073709551616 := by
  refine ⟨(IntKind.u64.wrap z).toNat, ?_, ?_⟩ <;> rw [IntKind.wrap_u64] <;> omega
theorem u8_head (h u : Nat) (hh : h ≤ 144) : (h : Int) + ((digs u).length : Int) = ((UInt8.ofNat (h + (digs u).length)).toNat : Int) := by
  have := digs_len_le u
  simp
  omega

theorem num_any (n : Int) (w : World) (h0 : -9223372036854775808 ≤ n) (h1 : n ≤ 9223372036854775807) :
    Calls Tryz.prog 58 #[.int .i64 n] w fun e w' => ∃ v', e = .returned v' ∧ Grew w.heap.size w (.slice none 0 0) w' v' (numCell n) := by
  go_enter Tryz.func58, Tryz.ntmps58
  go_wp2_with fail
  refine (putNum_any w.heap.size _ [] n w (OB.nil _ _) (Nat.le_refl _) (by simp) h0 h1).mono ?_
  rintro e w' ⟨v', rfl, hg⟩
  go_wp2_with fail
  go_ret
  exact ⟨v', rfl, hg⟩

set_option maxHeartbeats 800000 in
/-- The document's digits. -/
theorem digits_any (u : Nat) (w : World) (hu : u < 18446744073709551616) :
    Calls Tryz.prog 74 #[.int .u64 (u : Int)] w fun e w' => ∃ v', e = .returned v' ∧ OB w.heap.size w' v' (digs u) ∧ Below w.heap.size w w' := by
  have hd8 := digs_len_le u
  go_enter Tryz.func74, Tryz.ntmps74
  go_wp2_with fail
  go_loopw [0, 3] (fun x vr wr => ∃ (q : Nat) (d : List UInt8), q ≤ u ∧ x = .int .u64 (q : Int) ∧ Hid (digs q ++ d = digs u) ∧ OB w.heap.size wr vr d ∧ Below w.heap.size w wr)
    (fun x _ _ => (intOf x).toNat)
  case atStart => exact ⟨u, [], Nat.le_refl _, rfl, Lib.hid (by simp), OB.nil _ _, Below.refl _ _⟩
  case round =>
    obtain ⟨q, d, hq, rfl, hd, ho, hbel⟩ := hrel
    by_cases hlt : 0 < q
    · have hs := hbel.size
      have hdl : d.length ≤ 8 := by
        have := congrArg List.length hd.out
        rw [List.length_append] at this
        omega
      obtain ⟨A, cap, rfl, hl, hm, hr, had⟩ := ho.form
      go_wp2_with (at_builtin; refine wpApp rfl (.tmp 9) (.tmp 10) rfl w.heap.size _ [UInt8.ofNat (q % 256)] rfl (OB.one_ _ _ _ _ (byte_mod q) hs) A d.length cap d rfl (hr.alloc _) (by simp; omega) (by simp; omega) ?_; intro v2 w2 hg2)
      have hb2 := hg2.below (OB.one_ _ _ _ _ (byte_mod q) hs) (by simp; omega)
      go_roundw
      case rel => exact ⟨q / 256, [UInt8.ofNat (q % 256)] ++ d, by omega, by go_num, Lib.hid (by rw [← hd.out, digs_step q hlt (by omega)]; simp), hg2.own, (hbel.alloc hs _).trans hb2⟩
      case measure => simp [intOf]; omega
    · obtain rfl : q = 0 := by omega
      have he := hd.out
      rw [digs_zero, List.nil_append] at he
      subst he
      go_wp2_with fail
      go_ret
      exact ⟨_, rfl, ho, hbel⟩

set_option maxHeartbeats 800000 in
/-- The document's cell of a number. -/
theorem refNum_any (n : Int) (w : World) (h0 : -9223372036854775808 ≤ n) (h1 : n ≤ 9223372036854775807) :
    Calls Tryz.prog 61 #[.int .i64 n] w fun e w' => ∃ v', e = .returned v' ∧ OB w.heap.size w' v' (numCell n) ∧ Below w.heap.size w w' := by
  unfold numCell
  by_cases ha : 0 ≤ n ∧ n < 128
  · rw [if_pos ha]
    obtain ⟨ha, hb⟩ := ha
    go_enter Tryz.func61, Tryz.ntmps61
    go_wp2_with fail
    go_ret
    exact ⟨_, rfl, OB.one_ _ _ _ _ (u8_small n ha (by omega)) (Nat.le_refl _), (Below.refl _ _).alloc (Nat.le_refl _) _⟩
  · rw [if_neg ha]
    by_cases hn : n < 0
    · rw [if_pos hn]
      obtain ⟨u, hu⟩ := Int.eq_ofNat_of_zero_le (show 0 ≤ -1 - n by omega)
      obtain rfl : n = -1 - (u : Int) := by omega
      rw [show (-1 - (-1 - (u : Int))).toNat = u from by omega]
      clear hu
      go_enter Tryz.func61, Tryz.ntmps61
      obtain ⟨q, hq, hq'⟩ := wrap_nat (-1 - (u : Int))
      go_wp2_with fail
      refine (digits_any q w hq').mono ?_
      rintro e w1 ⟨v1, rfl, ho1, hb1⟩
      clear hq hq'
      obtain ⟨A1, cap1, rfl, _, _, _, _⟩ := ho1.form
      clear ho1
      have hs1 := hb1.size
      go_wp2_with fail
      rw [show (-1 - (-1 - (u : Int))) = (u : Int) from by omega]
      refine (digits_any u w1 (by omega)).mono ?_
      rintro e w2 ⟨v2, rfl, ho2, hb2⟩
      obtain ⟨A, cap, rfl, hl, hm, hr, had⟩ := ho2.form
      have hs2 := hb2.size
      have hd8 := digs_len_le u
      have hx := u8_head 144 u (by omega)
      go_wp2_with (at_builtin; refine wpApp rfl (.tmp 28) (.tmp 29) rfl w.heap.size _ [UInt8.ofNat (144 + (digs u).length)] rfl (OB.one_ _ _ _ _ hx (by omega)) A _ cap (digs u) rfl (hr.alloc _) (by simp; omega) (by simp; omega) ?_; intro v3 w3 hg3)
      have hb3 := hg3.below (OB.one_ _ _ _ _ hx (by omega)) (by simp; omega)
      go_ret
      exact ⟨_, rfl, hg3.own, ((hb1.trans (hb2.mono hs1)).alloc (by omega) _).trans hb3⟩
    · rw [if_neg hn]
      obtain ⟨u, rfl⟩ := Int.eq_ofNat_of_zero_le (show 0 ≤ n by omega)
      rw [Int.toNat_natCast]
      have hlt1 : decide ((u : Int) < 128) = false := by simp; omega
      have hlt2 : decide ((u : Int) < 0) = false := by simp
      go_enter Tryz.func61, Tryz.ntmps61
      go_wp2_with fail
      refine (digits_any u w (by omega)).mono ?_
      rintro e w2 ⟨v2, rfl, ho2, hb2⟩
      obtain ⟨A, cap, rfl, hl, hm, hr, had⟩ := ho2.form
      have hs2 := hb2.size
      have hd8 := digs_len_le u
      have hx := u8_head 128 u (by omega)
      go_wp2_with (at_builtin; refine wpApp rfl (.tmp 28) (.tmp 29) rfl w.heap.size _ [UInt8.ofNat (128 + (digs u).length)] rfl (OB.one_ _ _ _ _ hx (by omega)) A _ cap (digs u) rfl (hr.alloc _) (by simp; omega) (by simp; omega) ?_; intro v3 w3 hg3)
      have hb3 := hg3.below (OB.one_ _ _ _ _ hx (by omega)) (by simp; omega)
      go_ret
      exact ⟨_, rfl, hg3.own, (hb2.alloc (by omega) _).trans hb3⟩
end Go.Proofs.YtfpcnenohidfpaaGreat
