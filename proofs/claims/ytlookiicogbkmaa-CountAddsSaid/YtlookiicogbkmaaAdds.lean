/- 'CountAdds' returns true for every input: the row of this law, proved. No condition. -/
import Derived.Test.YtlookiicogbkmaaLaw5
import Derived.ProofKit
import Derived.OpenShut
import Derived.ShutString
import Derived.ChangeOld
import Derived.SizedLaws
namespace Go.Proofs.Ytlookiicogbkmaa
open Go.RowKit
set_option linter.unusedVariables false
set_option linter.unusedSimpArgs false
set_option maxRecDepth 100000 in
set_option maxHeartbeats 1600000 in
theorem countAdds_walk {w : World} (x : Int) (w0 : (Lit.int .i64 x).wf = true) (y : Int) (w1 : (Lit.int .i64 y).wf = true) :
    Calls Try.prog 3 #[.int .i64 x, .int .i64 y] w fun e w' => e = .returned (.bool true) ∧ Below w.heap.size w w' := by
  clear w0 w1
  by_cases hm : may x = true ∧ may y = true
  · have hmx := hm.1
    have hmy := hm.2
    obtain ⟨hx0, hx1⟩ := (may_iff x).1 hmx
    obtain ⟨hy0, hy1⟩ := (may_iff y).1 hmy
    by_cases hs : x + y ≤ 1099511627776
    · have hv : addVal x y = .tuple #[.int .i64 (x + y), .int .i64 0] := by rw [addVal, if_pos hm, if_pos hs]
      by_cases hl : y ≤ x
      · have hu : lessVal x y = .tuple #[.int .i64 (x - y), .int .i64 0] := by rw [lessVal, if_pos hm, if_pos hl]
        go_enter Try.func3, Try.ntmps3
        go_wp2_with fail
        refine (add_any x y _).mono ?_
        rintro e w1 ⟨rfl, hb1⟩
        rw [hv]
        clear hv
        go_wp2_with fail
        refine (less_any x y _).mono ?_
        rintro e w2 ⟨rfl, hb2⟩
        rw [hu]
        clear hu
        have hb02 := hb1.trans (hb2.mono hb1.size)
        clear hb1 hb2
        go_wp2_with fail
        refine (lives_any _).mono ?_
        rintro e w3 ⟨rfl, hb3⟩
        have hb03 := hb02.trans (hb3.mono hb02.size)
        clear hb02 hb3
        have MX := Lib.hid hmx
        have MY := Lib.hid hmy
        clear hmx hmy hm
        go_wp2_with (first | (go_at_call 13; refine (may_any y _).mono ?_; rintro e w' ⟨rfl, rfl⟩; rw [MY.out]) | (go_at_call_of 14 (Value.int .i64 y); refine (refmay_any y _).mono ?_; rintro e w' ⟨rfl, rfl⟩; rw [MY.out]) | (go_at_call_of 14 (Value.int .i64 x); refine (refmay_any x _).mono ?_; rintro e w' ⟨rfl, rfl⟩; rw [MX.out]))
        go_ret
        exact ⟨by simp, hb03⟩
      · have hu : lessVal x y = .tuple #[.int .i64 0, .int .i64 51] := by rw [lessVal, if_pos hm, if_neg hl]
        go_enter Try.func3, Try.ntmps3
        go_wp2_with fail
        refine (add_any x y _).mono ?_
        rintro e w1 ⟨rfl, hb1⟩
        rw [hv]
        clear hv
        go_wp2_with fail
        refine (less_any x y _).mono ?_
        rintro e w2 ⟨rfl, hb2⟩
        rw [hu]
        clear hu
        have hb02 := hb1.trans (hb2.mono hb1.size)
        clear hb1 hb2
        go_wp2_with fail
        refine (lives_any _).mono ?_
        rintro e w3 ⟨rfl, hb3⟩
        have hb03 := hb02.trans (hb3.mono hb02.size)
        clear hb02 hb3
        have MX := Lib.hid hmx
        have MY := Lib.hid hmy
        clear hmx hmy hm
        go_wp2_with (first | (go_at_call 13; refine (may_any y _).mono ?_; rintro e w' ⟨rfl, rfl⟩; rw [MY.out]) | (go_at_call_of 14 (Value.int .i64 y); refine (refmay_any y _).mono ?_; rintro e w' ⟨rfl, rfl⟩; rw [MY.out]) | (go_at_call_of 14 (Value.int .i64 x); refine (refmay_any x _).mono ?_; rintro e w' ⟨rfl, rfl⟩; rw [MX.out]))
        go_ret
        exact ⟨by simp, hb03⟩
    · have hv : addVal x y = .tuple #[.int .i64 0, .int .i64 50] := by rw [addVal, if_pos hm, if_neg hs]
      by_cases hl : y ≤ x
      · have hu : lessVal x y = .tuple #[.int .i64 (x - y), .int .i64 0] := by rw [lessVal, if_pos hm, if_pos hl]
        go_enter Try.func3, Try.ntmps3
        go_wp2_with fail
        refine (add_any x y _).mono ?_
        rintro e w1 ⟨rfl, hb1⟩
        rw [hv]
        clear hv
        go_wp2_with fail
        refine (less_any x y _).mono ?_
        rintro e w2 ⟨rfl, hb2⟩
        rw [hu]
        clear hu
        have hb02 := hb1.trans (hb2.mono hb1.size)
        clear hb1 hb2
        go_wp2_with fail
        refine (lives_any _).mono ?_
        rintro e w3 ⟨rfl, hb3⟩
        have hb03 := hb02.trans (hb3.mono hb02.size)
        clear hb02 hb3
        have MX := Lib.hid hmx
        have MY := Lib.hid hmy
        clear hmx hmy hm
        go_wp2_with (first | (go_at_call 13; refine (may_any y _).mono ?_; rintro e w' ⟨rfl, rfl⟩; rw [MY.out]) | (go_at_call_of 14 (Value.int .i64 y); refine (refmay_any y _).mono ?_; rintro e w' ⟨rfl, rfl⟩; rw [MY.out]) | (go_at_call_of 14 (Value.int .i64 x); refine (refmay_any x _).mono ?_; rintro e w' ⟨rfl, rfl⟩; rw [MX.out]))
        go_ret
        exact ⟨by simp, hb03⟩
      · have hu : lessVal x y = .tuple #[.int .i64 0, .int .i64 51] := by rw [lessVal, if_pos hm, if_neg hl]
        go_enter Try.func3, Try.ntmps3
        go_wp2_with fail
        refine (add_any x y _).mono ?_
        rintro e w1 ⟨rfl, hb1⟩
        rw [hv]
        clear hv
        go_wp2_with fail
        refine (less_any x y _).mono ?_
        rintro e w2 ⟨rfl, hb2⟩
        rw [hu]
        clear hu
        have hb02 := hb1.trans (hb2.mono hb1.size)
        clear hb1 hb2
        go_wp2_with fail
        refine (lives_any _).mono ?_
        rintro e w3 ⟨rfl, hb3⟩
        have hb03 := hb02.trans (hb3.mono hb02.size)
        clear hb02 hb3
        have MX := Lib.hid hmx
        have MY := Lib.hid hmy
        clear hmx hmy hm
        go_wp2_with (first | (go_at_call 13; refine (may_any y _).mono ?_; rintro e w' ⟨rfl, rfl⟩; rw [MY.out]) | (go_at_call_of 14 (Value.int .i64 y); refine (refmay_any y _).mono ?_; rintro e w' ⟨rfl, rfl⟩; rw [MY.out]) | (go_at_call_of 14 (Value.int .i64 x); refine (refmay_any x _).mono ?_; rintro e w' ⟨rfl, rfl⟩; rw [MX.out]))
        go_ret
        exact ⟨by simp, hb03⟩
  · have hv : addVal x y = .tuple #[.int .i64 0, .int .i64 1] := by rw [addVal, if_neg hm]
    have hu : lessVal x y = .tuple #[.int .i64 0, .int .i64 1] := by rw [lessVal, if_neg hm]
    cases hmx : may x with
    | true =>
      have hmy : may y = false := by
        cases hy : may y with
        | true => exact absurd ⟨hmx, hy⟩ hm
        | false => rfl
      go_enter Try.func3, Try.ntmps3
      go_wp2_with fail
      refine (add_any x y _).mono ?_
      rintro e w1 ⟨rfl, hb1⟩
      rw [hv]
      clear hv
      go_wp2_with fail
      refine (less_any x y _).mono ?_
      rintro e w2 ⟨rfl, hb2⟩
      rw [hu]
      clear hu
      have hb02 := hb1.trans (hb2.mono hb1.size)
      clear hb1 hb2
      go_wp2_with fail
      refine (lives_any _).mono ?_
      rintro e w3 ⟨rfl, hb3⟩
      have hb03 := hb02.trans (hb3.mono hb02.size)
      clear hb02 hb3
      have MX := Lib.hid hmx
      have MY := Lib.hid hmy
      clear hmx hmy hm
      go_wp2_with (first | (go_at_call 13; refine (may_any y _).mono ?_; rintro e w' ⟨rfl, rfl⟩; rw [MY.out]) | (go_at_call_of 14 (Value.int .i64 y); refine (refmay_any y _).mono ?_; rintro e w' ⟨rfl, rfl⟩; rw [MY.out]) | (go_at_call_of 14 (Value.int .i64 x); refine (refmay_any x _).mono ?_; rintro e w' ⟨rfl, rfl⟩; rw [MX.out]))
      go_ret
      exact ⟨by simp, hb03⟩
    | false =>
      cases hmy : may y with
      | true =>
        go_enter Try.func3, Try.ntmps3
        go_wp2_with fail
        refine (add_any x y _).mono ?_
        rintro e w1 ⟨rfl, hb1⟩
        rw [hv]
        clear hv
        go_wp2_with fail
        refine (less_any x y _).mono ?_
        rintro e w2 ⟨rfl, hb2⟩
        rw [hu]
        clear hu
        have hb02 := hb1.trans (hb2.mono hb1.size)
        clear hb1 hb2
        go_wp2_with fail
        refine (lives_any _).mono ?_
        rintro e w3 ⟨rfl, hb3⟩
        have hb03 := hb02.trans (hb3.mono hb02.size)
        clear hb02 hb3
        have MX := Lib.hid hmx
        have MY := Lib.hid hmy
        clear hmx hmy hm
        go_wp2_with (first | (go_at_call 13; refine (may_any y _).mono ?_; rintro e w' ⟨rfl, rfl⟩; rw [MY.out]) | (go_at_call_of 14 (Value.int .i64 y); refine (refmay_any y _).mono ?_; rintro e w' ⟨rfl, rfl⟩; rw [MY.out]) | (go_at_call_of 14 (Value.int .i64 x); refine (refmay_any x _).mono ?_; rintro e w' ⟨rfl, rfl⟩; rw [MX.out]))
        go_ret
        exact ⟨by simp, hb03⟩
      | false =>
        go_enter Try.func3, Try.ntmps3
        go_wp2_with fail
        refine (add_any x y _).mono ?_
        rintro e w1 ⟨rfl, hb1⟩
        rw [hv]
        clear hv
        go_wp2_with fail
        refine (less_any x y _).mono ?_
        rintro e w2 ⟨rfl, hb2⟩
        rw [hu]
        clear hu
        have hb02 := hb1.trans (hb2.mono hb1.size)
        clear hb1 hb2
        go_wp2_with fail
        refine (lives_any _).mono ?_
        rintro e w3 ⟨rfl, hb3⟩
        have hb03 := hb02.trans (hb3.mono hb02.size)
        clear hb02 hb3
        have MX := Lib.hid hmx
        have MY := Lib.hid hmy
        clear hmx hmy hm
        go_wp2_with (first | (go_at_call 13; refine (may_any y _).mono ?_; rintro e w' ⟨rfl, rfl⟩; rw [MY.out]) | (go_at_call_of 14 (Value.int .i64 y); refine (refmay_any y _).mono ?_; rintro e w' ⟨rfl, rfl⟩; rw [MY.out]) | (go_at_call_of 14 (Value.int .i64 x); refine (refmay_any x _).mono ?_; rintro e w' ⟨rfl, rfl⟩; rw [MX.out]))
        go_ret
        exact ⟨by simp, hb03⟩

namespace countAddsDone
open Go.ChangeShapes Go.WideShapes Go.ChangeAt
set_option maxRecDepth 100000 in
theorem lifted (os : Os) (started : os.Started) (H : Type) (enc : TypeId × Value → H) :
    ReturnsInHanded {} Try.checked os 3 .any (Rows.countAddsSpec.pre6 enc Try.prog Try.f3 Rows.countAddsRow.domain false) (Rows.countAddsSpec.post enc Try.prog Try.f3 false true false false) := by
  refine returnsInHanded_of_change_sized (C := Try.checked) own started (by kernel_rfl) Try.func3
    (ChangeSpec.witness6 (enc := enc) (C := Try.checked) false ⟨#[], #[Value.int .i64 0, Value.int .i64 0], []⟩ 8 (by kernel_rfl) (by kernel_rfl) (by kernel_rfl) (by kernel_rfl)) ?_
  intro W base args ds gs before hval0 hW hcnd hsz0 _
  have hsz : (DataW.weightsEach Try.prog (Try.f3.params.toList ++ Rows.countAddsSpec.plain.varTypes Try.prog) (ds ++ gs)).all (· ≤ reachBytes) = true := hsz0
  clear hsz0
  have hval : ∀ (j : Nat) t v, Try.f3.params[j]? = some t → args[j]? = some v → Value.okWide Try.prog W .any base t v := hval0
  have hW' := hW
  obtain ⟨p, q, hA0, hV, rfl, hfz, hnd⟩ := hW
  have hA : DataW.TrodAll enc Try.prog W 0 (fun _ => true) true Try.f3.params.toList args.toList ds p := hA0
  rw [Try.params3] at hA hval hsz
  obtain ⟨v0, vs0, d0, ds0, p0, q0, hargs, rfl, rfl, h0, r0⟩ := trodAll_cons hA
  obtain ⟨v1, vs1, d1, ds1, p1, q1, rfl, rfl, rfl, h1, r1⟩ := trodAll_cons r0
  obtain ⟨rfl, rfl, rfl⟩ := trodAll_nil r1
  obtain rfl : args = #[v0, v1] := by cases args; simp_all
  obtain ⟨rfl, rfl⟩ := trodVars_none hV
  obtain ⟨a0, rfl, rfl, rfl, w0⟩ := open_int Try.underlying3 (hval 0 3 v0 rfl rfl) h0
  obtain ⟨a1, rfl, rfl, rfl, w1⟩ := open_int Try.underlying3 (hval 1 3 v1 rfl rfl) h1
  clear hA0 hval0
  refine (countAdds_walk (w := W) a0 w0 a1 w1).mono fun e W' ⟨he, bel⟩ => ?_
  subst he
  exact ⟨_, rfl, _, _, _, [], _, [], hW', trodAll_mk1 (shut_bool Try.underlying4 _), (trodAll_cons_mk (shut_int Try.underlying3 w0) (trodAll_cons_mk (shut_int Try.underlying3 w1) trodAll_mk0)), rfl, bel.frame _, fun h => by cases h⟩

theorem over : Rows.countAddsRow.holds Try.pinned (OpenSpec.ofChange Rows.countAddsSpec) :=
  OpenClaim.holds_of_wide 3 Try.f3 rfl rfl rfl rfl rfl rfl rfl ⟨rfl, rfl, rfl, rfl, rfl⟩ rfl rfl rfl rfl rfl (by kernel_rfl) Try.func3 (by kernel_rfl)
    (of_decide_eq_true (by kernel_rfl)) (by unfold Func.isWrapper; first | (rw [if_pos (by decide +kernel)]; kernel_rfl) | (rw [if_neg (by decide +kernel)]; exact ⟨rfl, rfl⟩))
    (fun os started H enc _ => lifted os started H enc)

/-- The statement. -/
theorem proved : Rows.CountAddsSaid := over
end countAddsDone
end Go.Proofs.Ytlookiicogbkmaa
