/- The document's frame; a frame is opened again, and is none when it is cut off. No condition. -/
import Derived.Test.YtianehamjjnhoaaCLaw
namespace Go.Proofs.Ytianehamjjnhoaa
open Go.RowKit
set_option linter.unusedVariables false
set_option linter.unusedSimpArgs false

theorem hval_hb (u s : Nat) : ∀ k, k ≤ s → hval (hb u s k) = u / 256 ^ (s - k) % 256 ^ k
  | 0, _ => by simp [hb_zero, hval, Nat.mod_one]
  | k + 1, h => by
    rw [hb_succ, hval_snoc, hval_hb u s k (by omega)]
    have e : (UInt8.ofNat (u / 256 ^ (s - 1 - k))).toNat = u / 256 ^ (s - 1 - k) % 256 := by simp
    rw [e, show s - 1 - k = s - (k + 1) by omega]
    have e2 : u / 256 ^ (s - k) = u / 256 ^ (s - (k + 1)) / 256 := by
      rw [Nat.div_div_eq_div_mul, ← Nat.pow_succ, Nat.succ_eq_add_one, show s - (k + 1) + 1 = s - k by omega]
    rw [e2]
    generalize u / 256 ^ (s - (k + 1)) = x
    rw [Nat.pow_succ, Nat.mul_comm (256 ^ k) 256, Nat.mod_mul]
    omega
theorem hval_all (u s : Nat) (h : u < 256 ^ s) : hval (hb u s s) = u := by
  rw [hval_hb u s s (Nat.le_refl _), Nat.sub_self, Nat.pow_zero, Nat.div_one, Nat.mod_eq_of_lt h]

theorem frame_parts (sl : Nat) (l r : List UInt8) :
    (frameOf sl l ++ r).take 4 = hb (l.length + 1) 4 4 ∧ ((frameOf sl l ++ r).drop 4).take 4 = hb (sumOn 0 l) 4 4 ∧ ((frameOf sl l ++ r).drop 8).take 8 = hb (mixOf sl l) 8 8 ∧ (frameOf sl l ++ r).drop 16 = l ++ r := by
  have h1 : (hb (l.length + 1) 4 4).length = 4 := hb_len _ _ _
  have h2 : (hb (sumOn 0 l) 4 4).length = 4 := hb_len _ _ _
  have h3 : (hb (mixOf sl l) 8 8).length = 8 := hb_len _ _ _
  unfold frameOf
  generalize hb (l.length + 1) 4 4 = a at h1
  generalize hb (sumOn 0 l) 4 4 = b at h2
  generalize hb (mixOf sl l) 8 8 = c at h3
  refine ⟨?_, ?_, ?_, ?_⟩
  · rw [List.append_assoc, List.append_assoc, List.append_assoc, List.take_append_of_le_length (by omega), List.take_of_length_le (by omega)]
  · rw [List.append_assoc, List.append_assoc, List.append_assoc, ← h1, List.drop_left, List.take_append_of_le_length (by omega), List.take_of_length_le (by omega)]
  · rw [List.append_assoc, List.append_assoc, show 8 = (a ++ b).length by simp [h1, h2], List.drop_left, List.take_append_of_le_length (by simp; omega), List.take_of_length_le (by simp; omega)]
  · rw [List.append_assoc, show 16 = (a ++ b ++ c).length by simp [h1, h2, h3], List.drop_left]
theorem hval4 (u : Nat) (h : u < 4294967296) : hval (hb u 4 4) = u := hval_all u 4 (by omega)
theorem hval8 (u : Nat) (h : W64 u) : hval (hb u 8 8) = u := hval_all u 8 (by unfold W64 at h; omega)
theorem opn_frame (sl : Nat) (l r : List UInt8) (hs : W64 sl) (hl : l.length ≤ 65536) : opn sl (frameOf sl l ++ r) = some l := by
  obtain ⟨p1, p2, p3, p4⟩ := frame_parts sl l r
  have hlen : (frameOf sl l ++ r).length = 16 + l.length + r.length := by rw [List.length_append, frameOf_len]
  have hb : bodyOf (frameOf sl l ++ r) = l := by
    unfold bodyOf
    rw [p4, p1, hval4 _ (by omega), Nat.add_sub_cancel, List.take_left]
  unfold opn
  rw [hb, p1, p2, p3, hval4 _ (by omega), hval4 _ (sumOn_lt 0 l (by omega)), hval8 _ (mixOf_ok sl l hs)]
  rw [if_neg (by omega), if_neg (by omega), if_neg (by omega), if_neg (by omega), if_neg (by simp), if_neg (by simp)]
theorem opn_cut (sl : Nat) (l : List UInt8) (k : Nat) (hl : l.length ≤ 65536) (hk : k < 16 + l.length) : opn sl ((frameOf sl l).take k) = none := by
  have hlen : ((frameOf sl l).take k).length = k := by rw [List.length_take, frameOf_len]; omega
  unfold opn
  by_cases h : ((frameOf sl l).take k).length < 16
  · rw [if_pos h]
  rw [if_neg h]
  have p1 : ((frameOf sl l).take k).take 4 = hb (l.length + 1) 4 4 := by
    have := (frame_parts sl l []).1
    rw [List.append_nil] at this
    rw [List.take_take, Nat.min_eq_left (by omega), this]
  rw [p1, hval4 _ (by omega), if_neg (by omega), if_neg (by omega), if_pos (by omega)]

set_option maxRecDepth 100000 in
set_option maxHeartbeats 1600000 in
theorem refFrame_any (sl : Nat) (A : Option Addr) (n c : Nat) (l : List UInt8) (w : World) (hs : W64 sl) (hr : RB w A n l) (hn : n ≤ 65536) :
    Calls Try.prog 19 #[.int .u64 (sl : Int), .slice A n c] w fun e w' => ∃ v', e = .returned (.tuple #[v', .int .u64 (mixOf sl l : Int)]) ∧ OB w.heap.size w' v' (frameOf sl l) ∧ Keep (fun _ => False) w w' := by
  have HL := Lib.hid hr.1
  obtain ⟨m, hm⟩ : ∃ m : Nat, m = n + 1 := ⟨_, rfl⟩
  have hmi : (n : Int) + 1 = (m : Int) := by omega
  have hmm : m < 18446744073709551616 := by omega
  have HM : Hid (m = l.length + 1) := Lib.hid (by rw [hm, HL.out])
  clear hm
  go_enter Try.func19, Try.ntmps19
  go_wp2_with fail
  refine (refMix_any sl A n c l _ hs hr (by omega)).mono ?_
  rintro e w1 ⟨rfl, hk1⟩
  have hz1 := hk1.size
  go_wp2_with fail
  refine (refHigh_any m 4 _ hmm (by omega)).mono ?_
  rintro e w2 ⟨v2, rfl, hg2⟩
  have ho2 := hg2.own.mono hz1
  have hk2 : Keep (fun _ => False) w w2 := hk1.trans hg2.keep (fun i hi h => by simp [Value.ownBlock] at h)
  clear hg2 hmi hk1
  go_wp2_with fail
  refine (refOn_any 0 A n c l _ (by omega) (hr.kept hk2 fun _ _ => id) (by omega)).mono ?_
  rintro e w3 ⟨rfl, rfl⟩
  have hsl := sumOn_lt 0 l (by omega)
  have hz2 := hk2.size
  go_wp2_with fail
  refine (refHigh_any (sumOn 0 l) 4 _ (by omega) (by omega)).mono ?_
  rintro e w4 ⟨v4, rfl, hg4⟩
  have hk4 : Keep (fun _ => False) w w4 := hk2.trans hg4.keep (fun i hi h => by simp [Value.ownBlock] at h)
  have ho24 := ho2.kept hg4.keep (fun g hg h => by simp [Value.ownBlock] at h)
  obtain ⟨A4, c4, rfl, _, _, hr4, _⟩ := hg4.own.formN (N := 4) (hb_len _ _ _)
  clear hg4 ho2
  go_wp2_with (at_builtin; refine wpApp rfl (.tmp 15) (.tmp 19) rfl w.heap.size v2 _ rfl ho24 A4 4 c4 _ rfl hr4 (by simp [hb_len]) hk4.size ?_; intro v5 w5 hg5; have ho5 := hg5.own; have hk5 : Keep (fun _ => False) w w5 := hk4.trans hg5.keep (fun i hi h => by have := (ho24.lt i h).1; omega); clear hg5)
  --HIGH8
  have hz5 := hk5.size
  have hm8 := mixOf_ok sl l hs
  refine (refHigh_any (mixOf sl l) 8 _ hm8 (by omega)).mono ?_
  rintro e w6 ⟨v6, rfl, hg6⟩
  have hk6 : Keep (fun _ => False) w w6 := hk5.trans hg6.keep (fun i hi h => by simp [Value.ownBlock] at h)
  have ho56 := ho5.kept hg6.keep (fun g hg h => by simp [Value.ownBlock] at h)
  obtain ⟨A6, c6, rfl, _, _, hr6, _⟩ := hg6.own.formN (N := 8) (hb_len _ _ _)
  clear hg6 ho5
  have hra : RB w6 A n l := hr.kept hk6 fun _ _ => id
  go_wp2_with (first | (at_builtin; refine wpApp rfl (.tmp 21) (.tmp 23) rfl w.heap.size v5 _ rfl ho56 A6 8 c6 _ rfl hr6 (by simp [hb_len]) hk6.size ?_; intro v7 w7 hg7; have ho7 := hg7.own; have hk7 : Keep (fun _ => False) w w7 := hk6.trans hg7.keep (fun i hi h => by have := (ho56.lt i h).1; omega); clear hg7) | (at_builtin; refine wpApp rfl (.tmp 25) (.tmp 26) rfl w.heap.size v7 _ rfl ho7 A n c l rfl (hr.kept hk7 fun _ _ => id) (by simp [hb_len]; omega) hk7.size ?_; intro v8 w8 hg8; have ho8 := hg8.own; have hk8 : Keep (fun _ => False) w w8 := hk7.trans hg8.keep (fun i hi h => by have := (ho7.lt i h).1; omega); clear hg8))
  go_ret2
  rw [HM.out] at ho8
  exact ⟨v8, rfl, ho8, hk8⟩
end Go.Proofs.Ytianehamjjnhoaa
