/- 'SectorStops' returns true for every input: the row of this law, proved. No condition. -/
import Derived.Test.YtoioigkbcfmfkaaLaw3
import Derived.ProofKit
import Derived.OpenShut
import Derived.ShutString
import Derived.ChangeOld
import Derived.SizedLaws
namespace Go.Proofs.Ytoioigkbcfmfkaa
open Go.RowKit
set_option linter.unusedVariables false
set_option linter.unusedSimpArgs false
set_option maxRecDepth 100000 in
set_option maxHeartbeats 3200000 in
theorem sectorStops_walk {w : World} (n : Int) (w0 : (Lit.int .i64 n).wf = true) :
    Calls Try.prog 8 #[.int .i64 n] w fun e w' => e = .returned (.bool true) ∧ Below w.heap.size w w' := by
  clear w0
  by_cases hb : 0 ≤ n ∧ n ≤ 500
  · obtain ⟨m, rfl⟩ : ∃ m : Nat, n = (m : Int) := ⟨n.toNat, by omega⟩
    have hm : m ≤ 500 := by omega
    have hz0 : ¬ (m : Int) < 0 := by omega
    have hz1 : ¬ (500 : Int) < (m : Int) := by omega
    clear hb
    go_enter Try.func8, Try.ntmps8
    go_wp2_with fail
    refine (new_dev 1 _ (by omega) (by omega)).mono ?_
    rintro e w1 ⟨g, bm, gs, rfl, hg, hbm, hgs, hb1, hd1⟩
    go_wp2_with fail
    refine (lives_any _).mono ?_
    rintro e w2 ⟨rfl, hb12⟩
    have hb2 := hb1.trans (hb12.mono hb1.size)
    have hd2 := hd1.below hb12
    clear hb1 hd1 hb12
    go_wp2_with fail
    refine (stop_any g 1 1 bm _ _ _ _ (m : Int) _ hd2.db).mono ?_
    rintro e w3 ⟨rfl, hk3, hdb3⟩
    have hd3 := hd2.with_db hk3 hdb3
    have hb3 := keep_below hb2 hk3 (fun i hi h => by omega)
    clear hd2 hb2 hk3 hdb3
    go_wp2_with fail
    go_loopw [5] (fun v wr => ∃ k : Nat, v = .int .i64 (k : Int) ∧ k ≤ m ∧ Below w.heap.size w wr ∧ ∃ wt fl sure D dm N, DEV wr g 1 bm gs ((m : Int) - (k : Int)) wt fl sure D N ∧ REP 1 D dm ∧ N ≤ k) (fun v _ => m - (intOf v).toNat)
    case atStart => exact ⟨0, by go_num, by omega, hb3, 0, 0, _, _, _, 0, by simpa using hd3, REP.start 1, by omega⟩
    case round =>
      obtain ⟨k, rfl, hk, hbw, wt, fl, sure, D, dm, N, hd, hr, hN⟩ := hrel
      clear hd3 hb3
      by_cases hlt : k < m
      · have hlz : (k : Int) < (m : Int) := by omega
        have hsp := spent_pos m k hlt (by omega)
        have hle : (m : Int) - (k : Int) ≠ 0 := by omega
        have hle' : (((m : Int) - (k : Int)) == 0) = false := by simpa using hle
        have hoff := off_any g 1 1 bm (some ⟨gs, 0, none⟩) _ wt fl _ hd.db
        rw [hle'] at hoff
        have HSP := Lib.hid hsp
        clear hsp
        by_cases h2 : (k : Int) % 2 = 0
        · have h3 : ¬ (k : Int) % 2 = 1 := by omega
          go_wp2_with (go_at_call 26; refine hoff.mono ?_; rintro e w4 ⟨rfl, rfl⟩)
          refine (block_any 1 _).mono ?_
          rintro e w5 ⟨v5, rfl, ho5, hb5⟩
          have hd5 := hd.below hb5
          have hb05 := hbw.trans (hb5.mono hbw.size)
          clear hd hb5 hbw hoff
          go_wp2_with fail
          refine (write_own g 1 bm gs N 0 _ v5 _ wt fl _ sure D dm _ _ hd5 hr (by omega) (by omega) hle ho5 (blockL_len 1) (by simp [maxLen]; omega) rfl).mono ?_
          rintro e w6 ⟨rfl, hk6, D6, hd6, hr6⟩
          rw [HSP.out] at hd6
          have hb6 := keep_below hb05 hk6 (fun i hi h => by omega)
          clear hd5 hk6 hb05 ho5
          go_wp2
          go_roundw
          case measure => simp [intOf]; omega
          case rel => exact ⟨k + 1, by go_num, by omega, hb6, _, _, _, _, _, _, hd6, hr6, by omega⟩
        · have h3 : (k : Int) % 2 = 1 := by omega
          go_wp2_with (go_at_call 26; refine hoff.mono ?_; rintro e w4 ⟨rfl, rfl⟩)
          refine (flush_ok g 1 bm gs N _ wt fl _ sure D dm _ hd hr (by omega) hle rfl).mono ?_
          rintro e w6 ⟨rfl, hk6, hd6⟩
          rw [HSP.out] at hd6
          have hb6 := keep_below hbw hk6 (fun i hi h => by omega)
          clear hd hk6 hbw hoff
          go_wp2
          go_roundw
          case measure => simp [intOf]; omega
          case rel => exact ⟨k + 1, by go_num, by omega, hb6, _, _, _, _, _, 0, hd6, REP.start 1, by omega⟩
      · have hlz : ¬ (k : Int) < (m : Int) := by omega
        have hkm : (m : Int) - (k : Int) = 0 := by omega
        rw [hkm] at hd
        have hoff := off_any g 1 1 bm (some ⟨gs, 0, none⟩) _ wt fl _ hd.db
        rw [show ((0 : Int) == 0) = true by rfl] at hoff
        clear hkm
        go_wp2_with (go_at_call 26; refine hoff.mono ?_; rintro e w4 ⟨rfl, rfl⟩)
        refine (block_any 1 _).mono ?_
        rintro e w5 ⟨v5, rfl, ho5, hb5⟩
        have hd5 := hd.below hb5
        have hb05 := hbw.trans (hb5.mono hbw.size)
        obtain ⟨A5, c5, rfl, _, _, _, _⟩ := ho5.form
        rw [blockL_len]
        clear hd hb5 hbw hoff ho5
        go_wp2_with (first | (go_at_call_of 13 (Value.int .i64 0); refine (write_off g 1 1 bm _ A5 c5 wt fl 0 _ hd5.db (by rfl)).mono ?_; rintro e w6 ⟨rfl, rfl⟩) | (go_at_call 16; refine (flush_off g 1 1 bm _ wt fl _ hd5.db).mono ?_; rintro e w6 ⟨rfl, rfl⟩) | (go_at_call 13; refine (write_none g 1 1 bm _ 0 wt fl 1 _ _ hd5.db (by rfl)).mono ?_; rintro e w6 ⟨rfl, rfl⟩))
        go_ret
        exact ⟨by simp, hb05⟩
  · have hcase : n < 0 ∨ 500 < n := by omega
    clear hb
    rcases hcase with hz | hz
    · go_enter Try.func8, Try.ntmps8
      go_wp2_with fail
      refine (new_dev 1 _ (by omega) (by omega)).mono ?_
      rintro e w1 ⟨g, bm, gs, rfl, hg, hbm, hgs, hb1, hd1⟩
      go_wp2_with fail
      refine (lives_any _).mono ?_
      rintro e w2 ⟨rfl, hb12⟩
      have hb2 := hb1.trans (hb12.mono hb1.size)
      clear hb1 hd1 hb12
      go_wp2_with fail
      refine (lives_any _).mono ?_
      rintro e w3 ⟨rfl, hb23⟩
      go_wp2
      go_ret
      exact ⟨rfl, hb2.trans (hb23.mono hb2.size)⟩
    · have hz' : ¬ n < 0 := by omega
      go_enter Try.func8, Try.ntmps8
      go_wp2_with fail
      refine (new_dev 1 _ (by omega) (by omega)).mono ?_
      rintro e w1 ⟨g, bm, gs, rfl, hg, hbm, hgs, hb1, hd1⟩
      go_wp2_with fail
      refine (lives_any _).mono ?_
      rintro e w2 ⟨rfl, hb12⟩
      have hb2 := hb1.trans (hb12.mono hb1.size)
      clear hb1 hd1 hb12
      go_wp2_with fail
      refine (lives_any _).mono ?_
      rintro e w3 ⟨rfl, hb23⟩
      go_wp2
      go_ret
      exact ⟨rfl, hb2.trans (hb23.mono hb2.size)⟩

namespace sectorStopsDone
open Go.ChangeShapes Go.WideShapes Go.ChangeAt
set_option maxRecDepth 100000 in
theorem lifted (os : Os) (started : os.Started) (H : Type) (enc : TypeId × Value → H) :
    ReturnsInHanded {} Try.checked os 8 .any (Rows.sectorStopsSpec.pre6 enc Try.prog Try.f8 Rows.sectorStopsRow.domain false) (Rows.sectorStopsSpec.post enc Try.prog Try.f8 false true false false) := by
  refine returnsInHanded_of_change_sized (C := Try.checked) own started (by kernel_rfl) Try.func8
    (ChangeSpec.witness6 (enc := enc) (C := Try.checked) false ⟨#[], #[Value.int .i64 0], []⟩ 8 (by kernel_rfl) (by kernel_rfl) (by kernel_rfl) (by kernel_rfl)) ?_
  intro W base args ds gs before hval0 hW hcnd hsz0 _
  have hsz : (DataW.weightsEach Try.prog (Try.f8.params.toList ++ Rows.sectorStopsSpec.plain.varTypes Try.prog) (ds ++ gs)).all (· ≤ reachBytes) = true := hsz0
  clear hsz0
  have hval : ∀ (j : Nat) t v, Try.f8.params[j]? = some t → args[j]? = some v → Value.okWide Try.prog W .any base t v := hval0
  have hW' := hW
  obtain ⟨p, q, hA0, hV, rfl, hfz, hnd⟩ := hW
  have hA : DataW.TrodAll enc Try.prog W 0 (fun _ => true) true Try.f8.params.toList args.toList ds p := hA0
  rw [Try.params8] at hA hval hsz
  obtain ⟨v0, vs0, d0, ds0, p0, q0, hargs, rfl, rfl, h0, r0⟩ := trodAll_cons hA
  obtain ⟨rfl, rfl, rfl⟩ := trodAll_nil r0
  obtain rfl : args = #[v0] := by cases args; simp_all
  obtain ⟨rfl, rfl⟩ := trodVars_none hV
  obtain ⟨a0, rfl, rfl, rfl, w0⟩ := open_int Try.underlying3 (hval 0 3 v0 rfl rfl) h0
  clear hA0 hval0
  refine (sectorStops_walk (w := W) a0 w0).mono fun e W' ⟨he, bel⟩ => ?_
  subst he
  exact ⟨_, rfl, _, _, _, [], _, [], hW', trodAll_mk1 (shut_bool Try.underlying4 _), (trodAll_cons_mk (shut_int Try.underlying3 w0) trodAll_mk0), rfl, bel.frame _, fun h => by cases h⟩

theorem over : Rows.sectorStopsRow.holds Try.pinned (OpenSpec.ofChange Rows.sectorStopsSpec) :=
  OpenClaim.holds_of_wide 8 Try.f8 rfl rfl rfl rfl rfl rfl rfl ⟨rfl, rfl, rfl, rfl, rfl⟩ rfl rfl rfl rfl rfl (by kernel_rfl) Try.func8 (by kernel_rfl)
    (of_decide_eq_true (by kernel_rfl)) (by unfold Func.isWrapper; first | (rw [if_pos (by decide +kernel)]; kernel_rfl) | (rw [if_neg (by decide +kernel)]; exact ⟨rfl, rfl⟩))
    (fun os started H enc _ => lifted os started H enc)

/-- The statement. -/
theorem proved : Rows.SectorStopsSaid := over
end sectorStopsDone
end Go.Proofs.Ytoioigkbcfmfkaa
