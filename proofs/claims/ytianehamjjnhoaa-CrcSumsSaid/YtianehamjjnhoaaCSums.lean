/- 'CrcSums' returns true for every input: the row of this law, proved. No condition. -/
import Derived.Test.YtianehamjjnhoaaCLaw
import Derived.ProofKit
import Derived.OpenShut
import Derived.ShutString
import Derived.ChangeOld
import Derived.SizedLaws
namespace Go.Proofs.Ytianehamjjnhoaa
open Go.RowKit
set_option linter.unusedVariables false
set_option linter.unusedSimpArgs false

set_option maxRecDepth 100000 in
set_option maxHeartbeats 1600000 in
theorem crcSums_walk {w : World} (a0 : Int) (w0 : (Lit.int .u32 a0).wf = true) (A1 : Option Addr) (n1 c1 : Nat) (l1 : List UInt8) (hr1 : RB w A1 n1 l1) (hc1 : n1 ≤ c1) (hm1 : c1 ≤ 9223372036854775807) (hl1 : c1 ≤ 140737488351232) (a2 : Int) (w2 : (Lit.int .u8 a2).wf = true) :
    Calls Try.prog 3 #[.int .u32 a0, .slice A1 n1 c1, .int .u8 a2] w fun e w' => e = .returned (.bool true) ∧ Below w.heap.size w w' := by
  obtain ⟨s, rfl, hs⟩ := nat_u32 w0
  obtain ⟨b, rfl, hb⟩ := nat_u8 w2
  have hn1 : n1 ≤ 9223372036854775807 := by omega
  go_enter Try.func3, Try.ntmps3
  go_wp2_with fail
  refine (new_any w).mono ?_
  rintro e w1 ⟨rfl, hk1, htb⟩
  have hb1 : Below w.heap.size w w1 := hk1.below (Nat.le_refl _) fun _ _ h => h
  have ht1 := TT.new htb
  clear hk1 htb
  have hA : 0 < n1 → ∀ ad, A1 = some ad → ¬ ad.block = w.heap.size := fun hp ad h => by have := hr1.addr_lt h hp; omega
  go_wp2_with fail
  refine (lives_any w1).mono ?_
  rintro e w3 ⟨rfl, hl3⟩
  have ht3 := ht1.below hl3
  have hb3 := hb1.trans (hl3.mono hb1.size)
  have hr3 := hr1.below hb3
  clear ht1 hb1 hl3
  go_wp2_with fail
  --SUM
  refine (sum_any w.heap.size A1 n1 c1 l1 _ ht3 hr3 hn1 hA).mono ?_
  rintro e w4 ⟨rfl, hk4, f4, ht4'⟩
  have ht4 := TT.of_tb ht4'
  have hb4 := Keep.past hb3 hk4 fun i hi h => by omega
  have hr4 := hr1.below hb4
  clear ht4' hk4 ht3 hr3 hb3
  go_wp2_with fail
  refine (refOn_any 0 A1 n1 c1 l1 _ (by omega) hr4 hn1).mono ?_
  rintro e w5 ⟨rfl, rfl⟩
  go_wp2_with fail
  refine (on_any w.heap.size s A1 n1 c1 l1 _ hs ht4 hr4 hn1 hA).mono ?_
  rintro e w5 ⟨rfl, hk5, f5, ht5'⟩
  have hb5 := Keep.past hb4 hk5 fun i hi h => by omega
  have hr5 := hr1.below hb5
  clear ht5' hk5 ht4 hr4 hb4
  go_wp2_with fail
  refine (refOn_any s A1 n1 c1 l1 _ hs hr5 hn1).mono ?_
  rintro e w6 ⟨rfl, rfl⟩
  go_wp2_with fail
  refine (on_nil s A1 n1 c1 l1 _ hs hr5 hn1).mono ?_
  rintro e w6 ⟨rfl, hl6⟩
  have hb6 := hb5.trans (hl6.mono hb5.size)
  have hr6 := hr1.below hb6
  clear hl6 hr5 hb5
  go_wp2_with fail
  refine (refOn_any s A1 n1 c1 l1 _ hs hr6 hn1).mono ?_
  rintro e w7 ⟨rfl, rfl⟩
  go_wp2_with fail
  refine (sum_nil A1 n1 c1 l1 _ hr6 hn1).mono ?_
  rintro e w7 ⟨rfl, hl7⟩
  have hb7 := hb6.trans (hl7.mono hb6.size)
  have hr7 := hr1.below hb7
  clear hl7 hr6 hb6
  go_wp2_with fail
  refine (refOn_any 0 A1 n1 c1 l1 _ (by omega) hr7 hn1).mono ?_
  rintro e w8 ⟨rfl, rfl⟩
  go_wp2_with fail
  refine (step_any s b _ hs hb).mono ?_
  rintro e w8 ⟨rfl, rfl⟩
  go_wp2_with fail
  refine (refStep_any s b _ hs hb).mono ?_
  rintro e w8 ⟨rfl, rfl⟩
  go_wp2_with fail
  go_ret
  exact ⟨rfl, hb7⟩

namespace crcSumsDone
open Go.ChangeShapes Go.WideShapes Go.ChangeAt
set_option maxRecDepth 100000 in
theorem lifted (os : Os) (started : os.Started) (H : Type) (enc : TypeId × Value → H) :
    ReturnsInHanded {} Try.checked os 3 .any (Rows.crcSumsSpec.pre6 enc Try.prog Try.f3 Rows.crcSumsRow.domain false) (Rows.crcSumsSpec.post enc Try.prog Try.f3 false true false false) := by
  refine returnsInHanded_of_change_sized (C := Try.checked) own started (by kernel_rfl) Try.func3
    (ChangeSpec.witness6 (enc := enc) (C := Try.checked) false ⟨#[], #[Value.int .u32 0, Value.slice none 0 0, Value.int .u8 0], []⟩ 8 (by kernel_rfl) (by kernel_rfl) (by kernel_rfl) (by kernel_rfl)) ?_
  intro W base args ds gs before hval0 hW hcnd hsz0 _
  have hsz : (DataW.weightsEach Try.prog (Try.f3.params.toList ++ Rows.crcSumsSpec.plain.varTypes Try.prog) (ds ++ gs)).all (· ≤ reachBytes) = true := hsz0
  clear hsz0
  have hval : ∀ (j : Nat) t v, Try.f3.params[j]? = some t → args[j]? = some v → Value.okWide Try.prog W .any base t v := hval0
  have hW' := hW
  obtain ⟨p, q, hA0, hV, rfl, hfz, hnd⟩ := hW
  have hA : DataW.TrodAll enc Try.prog W 0 (fun _ => true) true Try.f3.params.toList args.toList ds p := hA0
  rw [Try.params3] at hA hval hsz
  obtain ⟨v0, vs0, d0, ds0, p0, q0, hargs, rfl, rfl, h0, r0⟩ := trodAll_cons hA
  obtain ⟨v1, vs1, d1, ds1, p1, q1, rfl, rfl, rfl, h1, r1⟩ := trodAll_cons r0
  obtain ⟨v2, vs2, d2, ds2, p2, q2, rfl, rfl, rfl, h2, r2⟩ := trodAll_cons r1
  obtain ⟨rfl, rfl, rfl⟩ := trodAll_nil r2
  obtain rfl : args = #[v0, v1, v2] := by cases args; simp_all
  obtain ⟨rfl, rfl⟩ := trodVars_none hV
  obtain ⟨a0, rfl, rfl, rfl, w0⟩ := open_int Try.underlying22 (hval 0 22 v0 rfl rfl) h0
  obtain ⟨a1, len1, cap1, rfl⟩ := okWide_slice Try.underlying23 (hval 1 23 v1 rfl rfl)
  have k1 := h1
  have lt1 : ∀ x ∈ p1, x.block < W.heap.size := by obtain ⟨m, hm⟩ := k1; exact DataW.trod_lt m _ _ _ hm
  obtain ⟨z1, hr1, hc1, hm1, hd1⟩ := bytes_open h1
  have hl1 : cap1 ≤ 140737488351232 := by
    rcases hd1 with ⟨_, h⟩ | ⟨es, sp, rfl, h⟩
    · omega
    · have := sized_slice hsz (j := 1) (t := 23) (e := 5) rfl rfl Try.underlying23
      rw [bytes_u8] at this
      simp only [reachBytes] at this
      omega
  obtain ⟨a2, rfl, rfl, rfl, w2⟩ := open_int Try.underlying5 (hval 2 5 v2 rfl rfl) h2
  clear hA0 hval0
  refine (crcSums_walk (w := W) a0 w0 a1 len1 cap1 z1 hr1 hc1 hm1 hl1 a2 w2).mono fun e W' ⟨he, bel⟩ => ?_
  subst he
  exact ⟨_, rfl, _, _, _, [], _, [], hW', trodAll_mk1 (shut_bool Try.underlying4 _), (trodAll_cons_mk (shut_int Try.underlying22 w0) (trodAll_cons_mk (Below.trod laidOut (by kernel_rfl) (of_decide_eq_true (by kernel_rfl)) k1 bel lt1) (trodAll_cons_mk (shut_int Try.underlying5 w2) trodAll_mk0))), rfl, bel.frame _, fun h => by cases h⟩

theorem over : Rows.crcSumsRow.holds Try.pinned (OpenSpec.ofChange Rows.crcSumsSpec) :=
  OpenClaim.holds_of_wide 3 Try.f3 rfl rfl rfl rfl rfl rfl rfl ⟨rfl, rfl, rfl, rfl, rfl⟩ rfl rfl rfl rfl rfl (by kernel_rfl) Try.func3 (by kernel_rfl)
    (of_decide_eq_true (by kernel_rfl)) (by unfold Func.isWrapper; first | (rw [if_pos (by decide +kernel)]; kernel_rfl) | (rw [if_neg (by decide +kernel)]; exact ⟨rfl, rfl⟩))
    (fun os started H enc _ => lifted os started H enc)

/-- The statement. -/
theorem proved : Rows.CrcSumsSaid := over
end crcSumsDone
end Go.Proofs.Ytianehamjjnhoaa
