/- 'LifeNames' returns true for every input: the row of this law, proved. No condition. -/
import Derived.Test.YtpcngkbjeiclkaaLiO
import Derived.ProofKit
import Derived.OpenShut
import Derived.ShutString
import Derived.ChangeOld
import Derived.SizedLaws
import Derived.ChangeMaps5
namespace Go.Proofs.Ytpcngkbjeiclkaa
open Go.RowKit
set_option linter.unusedVariables false
set_option linter.unusedSimpArgs false
set_option maxRecDepth 100000 in
set_option maxHeartbeats 6400000 in
theorem lifeNames_walk {w : World} (a0 : Int) (w0 : (Lit.int .i64 a0).wf = true) (s1 : List UInt8) (hz1 : s1.length ≤ 9223372036854775807) :
    Calls Try.prog 3 #[.int .i64 a0, .string ⟨s1.toArray⟩] w fun e w' => e = .returned (.bool true) ∧ Below w.heap.size w w' := by
  obtain ⟨K, hK⟩ := nmIs s1
  have cN := fun w => named_any s1 K hK w
  have cM := fun w => name_any a0 w
  have cR := fun w => rname_any a0 w
  obtain ⟨nm, hnm⟩ : ∃ l, nmK a0 = l := ⟨_, rfl⟩
  rw [hnm] at cM cR
  clear hnm
  have hKle := hK.le
  go_enter Try.func3, Try.ntmps3
  go_wp2
  go_loopw [5, 6, 7] (fun v b i wr => ∃ k : Nat, i = .int .i64 (k : Int) ∧ 1 ≤ k ∧ k ≤ 11 ∧ v = .int .i64 ((if K < k then K else 0 : Nat) : Int) ∧ b = .bool (decide (1 ≤ K) && decide (K < k)) ∧ Below w.heap.size w wr) (fun _ _ i _ => 11 - (intOf i).toNat)
  case atStart => exact ⟨1, by go_num, by omega, by omega, by by_cases h : K < 1 <;> simp [h] <;> omega, by by_cases h : 1 ≤ K <;> simp [h] <;> omega, Below.refl _ _⟩
  case round =>
    obtain ⟨k, rfl, hk1, hk2, hv, hbv, hbw⟩ := hrel
    by_cases hlt : k ≤ 10
    · have hlz : (k : Int) ≤ 10 := by omega
      have hq := hK.beq k hk1 hlt
      have hK' := Lib.hid hK
      clear hK cN cM cR
      by_cases e : k = K
      · subst e
        rw [decide_eq_true rfl] at hq
        rw [if_neg (Nat.lt_irrefl _)] at hv
        subst hv
        clear hbv
        go_wp2_with fail
        refine (rname_any _ _).mono ?_
        rintro e w2 ⟨rfl, hx⟩
        go_wp2
        go_roundw
        case measure => simp [intOf]; omega
        case rel => exact ⟨k + 1, by go_num, by omega, by omega, by rw [if_pos (Nat.lt_succ_self _)], by rw [decide_eq_true hk1, decide_eq_true (Nat.lt_succ_self _)]; rfl, hbw.trans (hx.mono hbw.size)⟩
      · rw [decide_eq_false e] at hq
        have hc1 : (if K < k + 1 then K else 0 : Nat) = if K < k then K else 0 := by
          by_cases h : K < k
          · rw [if_pos h, if_pos (by omega)]
          · rw [if_neg h, if_neg (by omega)]
        have hc2 : decide (K < k + 1) = decide (K < k) := decide_eq_decide.2 (by omega)
        obtain ⟨V, hV⟩ : ∃ V : Nat, V = if K < k then K else 0 := ⟨_, rfl⟩
        obtain ⟨B, hB⟩ : ∃ B : Bool, B = (decide (1 ≤ K) && decide (K < k)) := ⟨_, rfl⟩
        rw [← hV] at hv hc1
        rw [← hB] at hbv
        rw [← hc2] at hB
        replace hc1 := Lib.hid hc1
        replace hB := Lib.hid hB
        subst hv
        subst hbv
        clear hV hc2
        go_wp2_with fail
        refine (rname_any _ _).mono ?_
        rintro e w2 ⟨rfl, hx⟩
        go_wp2
        go_roundw
        case measure => simp [intOf]; omega
        case rel => exact ⟨k + 1, by go_num, by omega, by omega, by rw [hc1.out], by rw [← hB.out], hbw.trans (hx.mono hbw.size)⟩
    · have hk11 : k = 11 := by omega
      subst hk11
      have hb0 : decide (K < 11) = true := decide_eq_true (by omega)
      rw [if_pos (by omega)] at hv
      rw [hb0, Bool.and_true] at hbv
      subst hv
      clear hb0 hK
      obtain ⟨B, hB⟩ : ∃ B : Bool, decide (1 ≤ K) = B := ⟨_, rfl⟩
      rw [hB] at hbv cN
      subst hbv
      clear hB
      go_wp2_with fail
      refine (cN _).mono ?_
      rintro e w' ⟨rfl, hww⟩
      subst w'
      go_wp2_with fail
      refine (lives_any _).mono ?_
      rintro e wl ⟨rfl, hl⟩
      replace hbw := hbw.trans (hl.mono hbw.size)
      go_wp2_with fail
      refine (cM _).mono ?_
      rintro e w' ⟨rfl, hww⟩
      subst w'
      go_wp2_with fail
      refine (cR _).mono ?_
      rintro e w2 ⟨rfl, hx⟩
      replace hbw := hbw.trans (hx.mono hbw.size)
      go_wp2
      go_ret
      exact ⟨by simp, hbw⟩

namespace lifeNamesDone
open Go.ChangeShapes Go.WideShapes Go.ChangeAt
set_option maxRecDepth 100000 in
theorem lifted (os : Os) (started : os.Started) (H : Type) (enc : TypeId × Value → H) :
    ReturnsInHanded {} Try.checked os 3 .any (Rows.lifeNamesSpec.pre6 enc Try.prog Try.f3 Rows.lifeNamesRow.domain false) (Rows.lifeNamesSpec.post enc Try.prog Try.f3 false true false false) := by
  refine returnsInHanded_of_change_sized (C := Try.checked) own started (by kernel_rfl) Try.func3
    (ChangeSpec.witness6 (enc := enc) (C := Try.checked) false ⟨#[], #[Value.int .i64 0, Value.string ⟨#[]⟩], []⟩ 8 (by kernel_rfl) (by kernel_rfl) (by kernel_rfl) (by kernel_rfl)) ?_
  intro W base args ds gs before hval0 hW hcnd hsz0 _
  have hsz : (DataW.weightsEach Try.prog (Try.f3.params.toList ++ Rows.lifeNamesSpec.plain.varTypes Try.prog) (ds ++ gs)).all (· ≤ reachBytes) = true := hsz0
  clear hsz0
  have hval : ∀ (j : Nat) t v, Try.f3.params[j]? = some t → args[j]? = some v → Value.okWide Try.prog W .any base t v := hval0
  have hW' := hW
  obtain ⟨p, q, hA0, hV, rfl, hfz, hnd⟩ := hW
  have hA : DataW.TrodAll enc Try.prog W 0 (fun _ => true) true Try.f3.params.toList args.toList ds p := hA0
  rw [Try.params3] at hA hval hsz
  obtain ⟨v0, vs0, d0, ds0, p0, q0, hargs, rfl, rfl, h0, r0⟩ := trodAll_cons hA
  obtain ⟨v1, vs1, d1, ds1, p1, q1, rfl, rfl, rfl, h1, r1⟩ := trodAll_cons r0
  obtain ⟨rfl, rfl, rfl⟩ := trodAll_nil r1
  obtain rfl : args = #[v0, v1] := by cases args; simp_all
  obtain ⟨rfl, rfl⟩ := trodVars_none hV
  obtain ⟨a0, rfl, rfl, rfl, w0⟩ := open_int Try.underlying3 (hval 0 3 v0 rfl rfl) h0
  obtain ⟨s1, rfl, rfl, rfl, ws1⟩ := Go.ChangeMaps.open_string Try.underlying9 (hval 1 9 v1 rfl rfl) h1
  have hs1 : s1 = ⟨s1.data.toList.toArray⟩ := rfl
  have hz1 : s1.data.toList.length ≤ 9223372036854775807 := by rw [Array.length_toList]; exact ws1
  clear hA0 hval0
  refine (lifeNames_walk (w := W) a0 w0 s1.data.toList hz1).mono fun e W' ⟨he, bel⟩ => ?_
  subst he
  exact ⟨_, rfl, _, _, _, [], _, [], hW', trodAll_mk1 (shut_bool Try.underlying4 _), (trodAll_cons_mk (shut_int Try.underlying3 w0) (trodAll_cons_mk (Go.ChangeMaps.shut_string Try.underlying9 ws1) trodAll_mk0)), rfl, bel.frame _, fun h => by cases h⟩

theorem over : Rows.lifeNamesRow.holds Try.pinned (OpenSpec.ofChange Rows.lifeNamesSpec) :=
  OpenClaim.holds_of_wide 3 Try.f3 rfl rfl rfl rfl rfl rfl rfl ⟨rfl, rfl, rfl, rfl, rfl⟩ rfl rfl rfl rfl rfl (by kernel_rfl) Try.func3 (by kernel_rfl)
    (of_decide_eq_true (by kernel_rfl)) (by unfold Func.isWrapper; first | (rw [if_pos (by decide +kernel)]; kernel_rfl) | (rw [if_neg (by decide +kernel)]; exact ⟨rfl, rfl⟩))
    (fun os started H enc _ => lifted os started H enc)

/-- The statement. -/
theorem proved : Rows.LifeNamesSaid := over
end lifeNamesDone
end Go.Proofs.Ytpcngkbjeiclkaa
