/- 'CellsApart' returns true for every input: the row of this law, proved. No condition. -/
import Derived.Test.YtdelbddgaekkaaaLaw
import Derived.ProofKit
import Derived.OpenShut
import Derived.ShutString
import Derived.ChangeOld
import Derived.SizedLaws
namespace Go.Proofs.Ytdelbddgaekkaaa
open Go.RowKit
set_option linter.unusedVariables false
set_option linter.unusedSimpArgs false
theorem apart_order (a b : Int) (h : ¬ (numCell a).length ≤ (numCell b).length) : decide (a < 0) = true ∨ decide (b < a) = true := by
  by_cases h0 : a < 0
  · exact .inl (decide_eq_true h0)
  · by_cases h1 : b < a
    · exact .inr (decide_eq_true h1)
    · exact absurd (numCell_mono (by omega) (by omega)) h

set_option maxRecDepth 100000 in
set_option maxHeartbeats 1600000 in
theorem cellsApart_walk (a : Int) (w0 : (Lit.int .i64 a).wf = true) (b : Int) (w1 : (Lit.int .i64 b).wf = true) (w : World) :
    Calls Try.prog 5 #[.int .i64 a, .int .i64 b] w fun e w' => e = .returned (.bool true) ∧ Below w.heap.size w w' := by
  have ha := wf_int w0
  have hb := wf_int w1
  clear w0 w1
  have hla := numCell_len a
  have hlb := numCell_len b
  have hd9 : decide ((((numCell a).length : Nat) : Int) ≤ 9) = true := decide_eq_true (by omega)
  by_cases hle : (numCell a).length ≤ (numCell b).length
  · have hdle : decide ((((numCell a).length : Nat) : Int) ≤ (((numCell b).length : Nat) : Int)) = true := decide_eq_true (by omega)
    have hpre : (((numCell b).take (numCell a).length == numCell a) = true ∧ (a == b) = true) ∨ (((numCell b).take (numCell a).length == numCell a) = false ∧ (a == b) = false) := by
      by_cases hab : a = b
      · subst hab
        exact .inl ⟨by simp, by simp⟩
      · refine .inr ⟨?_, by simpa using hab⟩
        rw [beq_eq_false_iff_ne]
        exact fun h => hab (numCell_apart ha hb hle h)
    have HA := Lib.hid ha
    have HB := Lib.hid hb
    clear ha hb
    rcases hpre with ⟨hp, hab⟩ | ⟨hp, hab⟩
    all_goals
      go_enter Try.func5, Try.ntmps5
      go_wp2_with fail
      refine (num_any a w HA.out.1 HA.out.2).mono ?_
      rintro e w1 ⟨v1, rfl, hg1⟩
      have hb1 := hg1.fresh
      obtain ⟨A1, c1, rfl, hl1, hm1, hr1, had1⟩ := hg1.own.form
      clear hg1
      go_wp2_with fail
      refine (num_any b w1 HB.out.1 HB.out.2).mono ?_
      rintro e w2 ⟨v2, rfl, hg2⟩
      have hb2 := hg2.fresh
      obtain ⟨A2, c2, rfl, hl2, hm2, hr2, had2⟩ := hg2.own.form
      clear hg2
      have hr1' := hr1.kept (Keep.of_below hb2) fun ad had => by have := (had1 ad had).2.1; omega
      have hb12 := hb1.trans (hb2.mono hb1.size)
      have hs12 := hb12.size
      have hs1 := fun q => run_str (w2.drewN q) A1 _ c1 _ (hr1'.drewN q)
      have hs2 := fun q => run_str (w2.drewN q) A2 _ c2 _ ((hr2.take (numCell a).length hle).drewN q)
      have hcap : (numCell a).length ≤ c2 := by omega
      clear hb1 hb2 hr1 hr1' hr2 had1 had2
      go_wp2_with fail
      go_quiet (fail)
      go_wp2_with (go_at_call 15; refine (lives_any _).mono ?_; rintro e w3 ⟨rfl, hb3⟩)
      all_goals go_ret
      all_goals exact ⟨rfl, (Below.drewN hb12 _).trans (hb3.mono hs12)⟩
  · have hdle : decide ((((numCell a).length : Nat) : Int) ≤ (((numCell b).length : Nat) : Int)) = false := decide_eq_false (by omega)
    have hab : (a == b) = false := by
      rw [beq_eq_false_iff_ne]
      rintro rfl
      exact hle (Nat.le_refl _)
    have hor := apart_order a b hle
    have HA := Lib.hid ha
    have HB := Lib.hid hb
    clear ha hb
    rcases hor with hor | hor
    all_goals
      go_enter Try.func5, Try.ntmps5
      go_wp2_with fail
      refine (num_any a w HA.out.1 HA.out.2).mono ?_
      rintro e w1 ⟨v1, rfl, hg1⟩
      have hb1 := hg1.fresh
      obtain ⟨A1, c1, rfl, hl1, hm1, hr1, had1⟩ := hg1.own.form
      clear hg1
      go_wp2_with fail
      refine (num_any b w1 HB.out.1 HB.out.2).mono ?_
      rintro e w2 ⟨v2, rfl, hg2⟩
      have hb2 := hg2.fresh
      obtain ⟨A2, c2, rfl, hl2, hm2, hr2, had2⟩ := hg2.own.form
      clear hg2
      have hb12 := hb1.trans (hb2.mono hb1.size)
      have hs12 := hb12.size
      clear hb1 hb2 hr1 hr2 had1 had2
      go_wp2_with fail
      go_quiet (fail)
      go_wp2_with (go_at_call 15; refine (lives_any _).mono ?_; rintro e w3 ⟨rfl, hb3⟩)
      all_goals go_ret
      all_goals exact ⟨rfl, (Below.drewN hb12 _).trans (hb3.mono hs12)⟩

namespace cellsApartDone
open Go.ChangeShapes Go.WideShapes Go.ChangeAt
set_option maxRecDepth 100000 in
theorem lifted (os : Os) (started : os.Started) (H : Type) (enc : TypeId × Value → H) :
    ReturnsInHanded {} Try.checked os 5 .any (Rows.cellsApartSpec.pre6 enc Try.prog Try.f5 Rows.cellsApartRow.domain false) (Rows.cellsApartSpec.post enc Try.prog Try.f5 false true false false) := by
  refine returnsInHanded_of_change_sized (C := Try.checked) own started (by kernel_rfl) Try.func5
    (ChangeSpec.witness6 (enc := enc) (C := Try.checked) false ⟨#[], #[Value.int .i64 0, Value.int .i64 0], []⟩ 8 (by kernel_rfl) (by kernel_rfl) (by kernel_rfl) (by kernel_rfl)) ?_
  intro W base args ds gs before hval0 hW hcnd hsz0 _
  have hsz : (DataW.weightsEach Try.prog (Try.f5.params.toList ++ Rows.cellsApartSpec.plain.varTypes Try.prog) (ds ++ gs)).all (· ≤ reachBytes) = true := hsz0
  clear hsz0
  have hval : ∀ (j : Nat) t v, Try.f5.params[j]? = some t → args[j]? = some v → Value.okWide Try.prog W .any base t v := hval0
  have hW' := hW
  obtain ⟨p, q, hA0, hV, rfl, hfz, hnd⟩ := hW
  have hA : DataW.TrodAll enc Try.prog W 0 (fun _ => true) true Try.f5.params.toList args.toList ds p := hA0
  rw [Try.params5] at hA hval hsz
  obtain ⟨v0, vs0, d0, ds0, p0, q0, hargs, rfl, rfl, h0, r0⟩ := trodAll_cons hA
  obtain ⟨v1, vs1, d1, ds1, p1, q1, rfl, rfl, rfl, h1, r1⟩ := trodAll_cons r0
  obtain ⟨rfl, rfl, rfl⟩ := trodAll_nil r1
  obtain rfl : args = #[v0, v1] := by cases args; simp_all
  obtain ⟨rfl, rfl⟩ := trodVars_none hV
  obtain ⟨a0, rfl, rfl, rfl, w0⟩ := open_int Try.underlying3 (hval 0 3 v0 rfl rfl) h0
  obtain ⟨a1, rfl, rfl, rfl, w1⟩ := open_int Try.underlying3 (hval 1 3 v1 rfl rfl) h1
  clear hA0 hval0
  refine (cellsApart_walk (w := W) a0 w0 a1 w1).mono fun e W' ⟨he, bel⟩ => ?_
  subst he
  exact ⟨_, rfl, _, _, _, [], _, [], hW', trodAll_mk1 (shut_bool Try.underlying4 _), (trodAll_cons_mk (shut_int Try.underlying3 w0) (trodAll_cons_mk (shut_int Try.underlying3 w1) trodAll_mk0)), rfl, bel.frame _, fun h => by cases h⟩

theorem over : Rows.cellsApartRow.holds Try.pinned (OpenSpec.ofChange Rows.cellsApartSpec) :=
  OpenClaim.holds_of_wide 5 Try.f5 rfl rfl rfl rfl rfl rfl rfl ⟨rfl, rfl, rfl, rfl, rfl⟩ rfl rfl rfl rfl rfl (by kernel_rfl) Try.func5 (by kernel_rfl)
    (of_decide_eq_true (by kernel_rfl)) (by unfold Func.isWrapper; first | (rw [if_pos (by decide +kernel)]; kernel_rfl) | (rw [if_neg (by decide +kernel)]; exact ⟨rfl, rfl⟩))
    (fun os started H enc _ => lifted os started H enc)

/-- The statement. -/
theorem proved : Rows.CellsApartSaid := over
end cellsApartDone
end Go.Proofs.Ytdelbddgaekkaaa
