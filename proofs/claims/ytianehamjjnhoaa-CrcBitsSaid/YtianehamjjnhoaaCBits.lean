/- 'CrcBits' returns true for every input: the row of this law, proved. No condition. -/
import Derived.Test.YtianehamjjnhoaaBits
import Derived.IntWalk
import Derived.ProofKit
import Derived.OpenShut
import Derived.ShutString
import Derived.ChangeOld
import Derived.SizedLaws
namespace Go.Proofs.Ytianehamjjnhoaa
open Go.RowKit
set_option linter.unusedVariables false
set_option linter.unusedSimpArgs false
theorem hbyte32 (u j : Nat) : (u : Int) / 2 ^ (8 * j) % 256 = ((UInt8.ofNat (u / 256 ^ j)).toNat : Int) := by
  have e : (256 : Nat) ^ j = 2 ^ (8 * j) := by rw [Nat.pow_mul]
  rw [e]
  simp

set_option maxRecDepth 100000 in
set_option maxHeartbeats 1600000 in
theorem crcBits_out {w : World} (s : Nat) (A1 : Option Addr) (n1 c1 : Nat) (a2 a3 : Int) (h2 : -9223372036854775808 ≤ a2 ∧ a2 ≤ 9223372036854775807) (hn : n1 ≤ 140737488351232) (h3 : 0 ≤ a3 ∧ a3 < 4294967296) (h : n1 < 4 ∨ a2 < 0 ∨ (n1 : Int) - 4 < a2 ∨ a3 = 0) :
    Calls Try.prog 5 #[.int .u32 (s : Int), .slice A1 n1 c1, .int .i64 a2, .int .u32 a3] w fun e w' => e = .returned (.bool true) ∧ Below w.heap.size w w' := by
  have fin : ∀ w, Calls Try.prog 12 #[] w fun e w' => e = .returned (.bool true) ∧ Below w.heap.size w w' := lives_any
  by_cases g1 : n1 < 4
  · go_enter Try.func5, Try.ntmps5
    go_wp2_with (go_at_call 12; refine (fin _).mono ?_; rintro e w1 ⟨rfl, hb1⟩)
    go_ret
    exact ⟨rfl, hb1⟩
  by_cases g2 : a2 < 0
  · go_enter Try.func5, Try.ntmps5
    go_wp2_with (go_at_call 12; refine (fin _).mono ?_; rintro e w1 ⟨rfl, hb1⟩)
    go_ret
    exact ⟨rfl, hb1⟩
  by_cases g3 : (n1 : Int) - 4 < a2
  · go_enter Try.func5, Try.ntmps5
    go_wp2_with (go_at_call 12; refine (fin _).mono ?_; rintro e w1 ⟨rfl, hb1⟩)
    go_ret
    exact ⟨rfl, hb1⟩
  obtain rfl : a3 = 0 := by omega
  clear h
  go_enter Try.func5, Try.ntmps5
  go_wp2_with (go_at_call 12; refine (fin _).mono ?_; rintro e w1 ⟨rfl, hb1⟩)
  go_ret
  exact ⟨rfl, hb1⟩

set_option maxRecDepth 100000 in
set_option maxHeartbeats 1600000 in
theorem crcBits_in {w : World} (s : Nat) (hs : s < 4294967296) (A1 : Option Addr) (n1 c1 : Nat) (l1 : List UInt8) (hr1 : RB w A1 n1 l1) (hc1 : n1 ≤ c1) (hl1 : c1 ≤ 140737488351232) (p o : Nat) (hp : p + 4 ≤ n1) (ho : o < 4294967296) (h0 : 0 < o) :
    Calls Try.prog 5 #[.int .u32 (s : Int), .slice A1 n1 c1, .int .i64 (p : Int), .int .u32 (o : Int)] w fun e w' => e = .returned (.bool true) ∧ Below w.heap.size w w' := by
  have HL := Lib.hid hr1.1
  have d3 : decide ((n1 : Int) - 4 < (p : Int)) = false := by simp; omega
  have d4 : ((o : Int) == 0) = false := by simp; omega
  have hE : OB w.heap.size (w.alloc (.cells #[] 5)) (.slice (some ⟨w.heap.size, 0, none⟩) 0 0) [] := by
    simpa using OB.built w.heap.size w [] (Nat.le_refl _) (by simp [maxLen])
  have hra := hr1.alloc (.cells #[] 5)
  go_enter Try.func5, Try.ntmps5
  go_wp2_with (at_builtin; refine wpApp rfl (.tmp 31) (.tmp 32) rfl w.heap.size (.slice (some ⟨w.heap.size, 0, none⟩) 0 0) [] rfl hE A1 n1 c1 l1 rfl hra (by simp; omega) (by simp) ?_; intro v2 w2 hg2; have ho2 := hg2.own; rw [List.nil_append] at ho2; obtain ⟨g, cc, rfl, hlc, hmc, hbg, hgl, _, _⟩ := ho2.place0 (by rw [HL.out]; omega); rw [HL.out] at ho2 hlc ⊢)
  --LOOP
  have hB2 : Below w.heap.size w w2 := ((Keep.refl (fun _ => False) w).alloc (.cells #[] 5)).mono (T := fun k => w.heap.size ≤ k) (fun _ _ h => h.elim) |>.trans hg2.keep (fun i hi h => by simp [Value.ownBlock] at h; omega) |>.below (Nat.le_refl _) (fun k hk h => by omega)
  clear hg2 hE hra
  go_loopw [10] (fun iv wr => ∃ k : Nat, k ≤ 4 ∧ iv = .int .i64 (k : Int) ∧ OB w.heap.size wr (.slice (some ⟨g, 0, none⟩) n1 cc) (modL l1 p o k) ∧ Below w.heap.size w wr)
    (fun iv _ => 4 - (intOf iv).toNat)
  case atStart => exact ⟨0, by omega, rfl, ho2, hB2⟩
  case round =>
    obtain ⟨k, hk, rfl, hO, hB⟩ := hrel
    by_cases hlt : k < 4
    · have hlen : (modL l1 p o k).length = n1 := by rw [modL_len, HL.out]
      obtain ⟨g', cap', hv', _, _, _, hgl', hcell, hfrz⟩ := hO.place0 (by rw [hlen]; omega)
      simp only [Value.slice.injEq, Option.some.injEq, Addr.mk.injEq, and_true] at hv'
      obtain ⟨rfl, hv1, rfl⟩ := hv'
      clear hv1
      have hcl := hcell (p + k) (by rw [hlen]; omega)
      have hfl := hfrz (p + k)
      have hsw := IntWalk.i64_in ((p : Int) + (k : Int)) ⟨by omega, by omega⟩
      have hi0 : (0 : Int) ≤ (p : Int) + (k : Int) := by omega
      have hi1 : (p : Int) + (k : Int) < (n1 : Int) := by omega
      have hi2 : ¬ ((p : Int) + (k : Int) < 0) := by omega
      have hq1 := IntWalk.i64_in (8 * (k : Int)) ⟨by omega, by omega⟩
      have hq2 : (0 : Int) ≤ 8 * (k : Int) := by omega
      have hq3 : (8 * (k : Int)).toNat = 8 * k := by omega
      have hq4 : ¬ (8 * (k : Int) < 0) := by omega
      have hti : ((p : Int) + (k : Int)).toNat = p + k := by omega
      have HY := Lib.hid (hbyte32 o k)
      have hO2 := hO.put hlen (p + k) ((modL l1 p o k).getD (p + k) 0 ^^^ UInt8.ofNat (o / 256 ^ k))
      have HM : Hid ((modL l1 p o k).set (p + k) ((modL l1 p o k).getD (p + k) 0 ^^^ UInt8.ofNat (o / 256 ^ k)) = modL l1 p o (k + 1)) := Lib.hid rfl
      rw [HM.out] at hO2
      have hxor := u8_xor_nat ((modL l1 p o k).getD (p + k) 0).toNat (UInt8.ofNat (o / 256 ^ k)).toNat (UInt8.toNat_lt _) (UInt8.toNat_lt _)
      rw [← UInt8.toNat_xor] at hxor
      rw [← HY.out] at hxor
      clear HM hcell hfrz hlen
      generalize ((modL l1 p o k).getD (p + k) 0 ^^^ UInt8.ofNat (o / 256 ^ k)) = y at hO2 hxor
      generalize (modL l1 p o k).getD (p + k) 0 = x at hcl hxor
      have HX := Lib.hid hxor
      clear HY hxor
      go_wp2_with fail
      --REGION
      go_still_tail 17, (by kernel_rfl)
      change wpList _ _ _ _ _ wr.drew
      have hB' := Below.drew hB
      have hO2' : OB w.heap.size (wr.drew.setCell ⟨g, p + k, none⟩ (.int .u8 (y.toNat : Int))) (.slice (some ⟨g, 0, none⟩) n1 cc) (modL l1 p o (k + 1)) := hO2
      have hcl' : wr.drew.cell? ⟨g, p + k, none⟩ = some (.int .u8 (x.toNat : Int)) := hcl
      have hfl' : wr.drew.frozen? ⟨g, p + k, none⟩ = false := hfl
      rw [← HX.out] at hO2'
      generalize wr.drew = w4 at hB' hO2' hcl' hfl' ⊢
      clear hsw hti hq1 hq2 hq3 hq4 hi0 hi1 hi2 hcl hfl hO2
      go_wp2_with fail
      go_roundw
      case rel => exact ⟨k + 1, by omega, by go_num, hO2', hB'.setCell (by simp; omega) _⟩
      case measure => simp [intOf]; omega
    · obtain rfl : k = 4 := by omega
      obtain ⟨A4, c4, hv4, hl4, hm4, hr4, had4⟩ := hO.formN (N := n1) (by rw [modL_len, HL.out])
      simp only [Value.slice.injEq, true_and] at hv4
      obtain ⟨rfl, rfl⟩ := hv4
      have HD : Hid (sumOn s (modL l1 p o 4) ≠ sumOn s l1) := Lib.hid (bits_differ s p o l1 ho (by omega) (by rw [HL.out]; exact hp))
      have hr1' := hr1.below hB
      generalize modL l1 p o 4 = l4 at hr4 HD
      clear hO
      go_wp2_with fail
      refine (new_any wr).mono ?_
      rintro e w5 ⟨rfl, hk5, htb⟩
      have ht5 := TT.new htb
      have hB5 : Below w.heap.size w w5 := hB.trans (hk5.below hB.size fun _ _ h => h)
      have hr5 := hr4.kept hk5 (fun _ _ => id)
      clear hr4 hr1' htb hk5
      go_wp2_with fail
      refine (lives_any w5).mono ?_
      rintro e w6 ⟨rfl, hb6⟩
      have ht6 := ht5.below hb6
      have hB6 := hB5.trans (hb6.mono hB5.size)
      have hr6 := hr5.below hb6
      have hr16 := hr1.below hB6
      clear hr5 ht5 hb6
      have hs1 := sumOn_lt s l1 hs
      have hs4 := sumOn_lt s l4 hs
      have hbs := hB.size
      have hgw : ∀ ad, (some (⟨g, 0, none⟩ : Addr)) = some ad → ¬ ad.block = wr.heap.size := fun ad h => by have := (had4 ad h).2.1; omega
      go_wp2_with fail
      refine (on_any wr.heap.size s A1 n1 c1 l1 _ hs ht6 hr16 (by omega) (fun hp ad h => by have := hr1.addr_lt h hp; omega)).mono ?_
      rintro e w7 ⟨rfl, hk7, f7, ht7'⟩
      have ht7 := TT.of_tb ht7'
      have hB7 := Keep.past hB6 hk7 fun i hi h => by omega
      have hr7 := hr6.kept hk7 hgw
      clear ht7' ht6 hr6 hr16 hk7
      go_wp2_with fail
      refine (on_any wr.heap.size s _ n1 cc l4 _ hs ht7 hr7 (by omega) (fun _ => hgw)).mono ?_
      rintro e w8 ⟨rfl, hk8, f8, ht8'⟩
      have hB8 := Keep.past hB7 hk8 fun i hi h => by omega
      clear ht8' ht7 hr7 hk8
      generalize sumOn s l4 = x4 at hs4 HD ⊢
      generalize sumOn s l1 = x1 at hs1 HD ⊢
      have hd : ((x1 : Int) == (x4 : Int)) = false := by have := HD.out; simp; omega
      have hd2 : ((x1 : Int) != (x4 : Int)) = true := by have := HD.out; simp; omega
      have hd3 : (x1 == x4) = false := by have := HD.out; simp; omega
      go_wp2_with fail
      go_ret
      exact ⟨rfl, hB8⟩

theorem crcBits_walk {w : World} (a0 : Int) (w0 : (Lit.int .u32 a0).wf = true) (A1 : Option Addr) (n1 c1 : Nat) (l1 : List UInt8) (hr1 : RB w A1 n1 l1) (hc1 : n1 ≤ c1) (hm1 : c1 ≤ 9223372036854775807) (hl1 : c1 ≤ 140737488351232) (a2 : Int) (w2 : (Lit.int .i64 a2).wf = true) (a3 : Int) (w3 : (Lit.int .u32 a3).wf = true) :
    Calls Try.prog 5 #[.int .u32 a0, .slice A1 n1 c1, .int .i64 a2, .int .u32 a3] w fun e w' => e = .returned (.bool true) ∧ Below w.heap.size w w' := by
  obtain ⟨s, rfl, hs⟩ := nat_u32 w0
  obtain ⟨o, rfl, ho⟩ := nat_u32 w3
  have hw2 := wf_int w2
  by_cases h : n1 < 4 ∨ a2 < 0 ∨ (n1 : Int) - 4 < a2 ∨ (o : Int) = 0
  · exact crcBits_out s A1 n1 c1 a2 o hw2 (by omega) (by omega) h
  · obtain ⟨p, rfl⟩ : ∃ p : Nat, a2 = (p : Int) := ⟨a2.toNat, by omega⟩
    exact crcBits_in s hs A1 n1 c1 l1 hr1 hc1 hl1 p o (by omega) ho (by omega)

namespace crcBitsDone
open Go.ChangeShapes Go.WideShapes Go.ChangeAt
set_option maxRecDepth 100000 in
theorem lifted (os : Os) (started : os.Started) (H : Type) (enc : TypeId × Value → H) :
    ReturnsInHanded {} Try.checked os 5 .any (Rows.crcBitsSpec.pre6 enc Try.prog Try.f5 Rows.crcBitsRow.domain false) (Rows.crcBitsSpec.post enc Try.prog Try.f5 false true false false) := by
  refine returnsInHanded_of_change_sized (C := Try.checked) own started (by kernel_rfl) Try.func5
    (ChangeSpec.witness6 (enc := enc) (C := Try.checked) false ⟨#[], #[Value.int .u32 0, Value.slice none 0 0, Value.int .i64 0, Value.int .u32 0], []⟩ 8 (by kernel_rfl) (by kernel_rfl) (by kernel_rfl) (by kernel_rfl)) ?_
  intro W base args ds gs before hval0 hW hcnd hsz0 _
  have hsz : (DataW.weightsEach Try.prog (Try.f5.params.toList ++ Rows.crcBitsSpec.plain.varTypes Try.prog) (ds ++ gs)).all (· ≤ reachBytes) = true := hsz0
  clear hsz0
  have hval : ∀ (j : Nat) t v, Try.f5.params[j]? = some t → args[j]? = some v → Value.okWide Try.prog W .any base t v := hval0
  have hW' := hW
  obtain ⟨p, q, hA0, hV, rfl, hfz, hnd⟩ := hW
  have hA : DataW.TrodAll enc Try.prog W 0 (fun _ => true) true Try.f5.params.toList args.toList ds p := hA0
  rw [Try.params5] at hA hval hsz
  obtain ⟨v0, vs0, d0, ds0, p0, q0, hargs, rfl, rfl, h0, r0⟩ := trodAll_cons hA
  obtain ⟨v1, vs1, d1, ds1, p1, q1, rfl, rfl, rfl, h1, r1⟩ := trodAll_cons r0
  obtain ⟨v2, vs2, d2, ds2, p2, q2, rfl, rfl, rfl, h2, r2⟩ := trodAll_cons r1
  obtain ⟨v3, vs3, d3, ds3, p3, q3, rfl, rfl, rfl, h3, r3⟩ := trodAll_cons r2
  obtain ⟨rfl, rfl, rfl⟩ := trodAll_nil r3
  obtain rfl : args = #[v0, v1, v2, v3] := by cases args; simp_all
  obtain ⟨rfl, rfl⟩ := trodVars_none hV
  obtain ⟨a0, rfl, rfl, rfl, w0⟩ := open_int Try.underlying22 (hval 0 22 v0 rfl rfl) h0
  obtain ⟨a1, len1, cap1, rfl⟩ := okWide_slice Try.underlying23 (hval 1 23 v1 rfl rfl)
  have k1 := h1
  have lt1 : ∀ x ∈ p1, x.block < W.heap.size := by obtain ⟨m, hm⟩ := k1; exact DataW.trod_lt m _ _ _ hm
  obtain ⟨z1, hr1, hc1, hm1, hd1⟩ := bytes_open h1
  have hl1 : cap1 ≤ 140737488351232 := by
    rcases hd1 with ⟨_, h⟩ | ⟨es, sp, rfl, h⟩
    · omega
    · have := sized_slice hsz (j := 1) (t := 23) (e := 5) rfl rfl Try.underlying23
      rw [bytes_u8] at this
      simp only [reachBytes] at this
      omega
  obtain ⟨a2, rfl, rfl, rfl, w2⟩ := open_int Try.underlying3 (hval 2 3 v2 rfl rfl) h2
  obtain ⟨a3, rfl, rfl, rfl, w3⟩ := open_int Try.underlying22 (hval 3 22 v3 rfl rfl) h3
  clear hA0 hval0
  refine (crcBits_walk (w := W) a0 w0 a1 len1 cap1 z1 hr1 hc1 hm1 hl1 a2 w2 a3 w3).mono fun e W' ⟨he, bel⟩ => ?_
  subst he
  exact ⟨_, rfl, _, _, _, [], _, [], hW', trodAll_mk1 (shut_bool Try.underlying4 _), (trodAll_cons_mk (shut_int Try.underlying22 w0) (trodAll_cons_mk (Below.trod laidOut (by kernel_rfl) (of_decide_eq_true (by kernel_rfl)) k1 bel lt1) (trodAll_cons_mk (shut_int Try.underlying3 w2) (trodAll_cons_mk (shut_int Try.underlying22 w3) trodAll_mk0)))), rfl, bel.frame _, fun h => by cases h⟩

theorem over : Rows.crcBitsRow.holds Try.pinned (OpenSpec.ofChange Rows.crcBitsSpec) :=
  OpenClaim.holds_of_wide 5 Try.f5 rfl rfl rfl rfl rfl rfl rfl ⟨rfl, rfl, rfl, rfl, rfl⟩ rfl rfl rfl rfl rfl (by kernel_rfl) Try.func5 (by kernel_rfl)
    (of_decide_eq_true (by kernel_rfl)) (by unfold Func.isWrapper; first | (rw [if_pos (by decide +kernel)]; kernel_rfl) | (rw [if_neg (by decide +kernel)]; exact ⟨rfl, rfl⟩))
    (fun os started H enc _ => lifted os started H enc)

/-- The statement. -/
theorem proved : Rows.CrcBitsSaid := over
end crcBitsDone
end Go.Proofs.Ytianehamjjnhoaa
