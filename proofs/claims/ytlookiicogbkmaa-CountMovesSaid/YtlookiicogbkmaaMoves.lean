/- 'CountMoves' returns true for every input: the row of this law, proved. No condition. -/
import Derived.Test.YtlookiicogbkmaaLaw5
import Derived.ProofKit
import Derived.OpenShut
import Derived.ShutString
import Derived.ChangeOld
import Derived.SizedLaws
namespace Go.Proofs.Ytlookiicogbkmaa
open Go.RowKit
set_option linter.unusedVariables false
set_option linter.unusedSimpArgs false
set_option maxRecDepth 100000 in
set_option maxHeartbeats 1600000 in
theorem countMoves_walk {w : World} (f : Int) (w0 : (Lit.int .i64 f).wf = true) (t : Int) (w1 : (Lit.int .i64 t).wf = true) (n : Int) (w2 : (Lit.int .i64 n).wf = true) :
    Calls Try.prog 4 #[.int .i64 f, .int .i64 t, .int .i64 n] w fun e w' => e = .returned (.bool true) ∧ Below w.heap.size w w' := by
  clear w0 w1 w2
  by_cases hm : may f = true ∧ may t = true ∧ may n = true
  · have hmf := hm.1
    have hmt := hm.2.1
    have hmn := hm.2.2
    obtain ⟨hx0, hx1⟩ := (may_iff f).1 hmf
    obtain ⟨hy0, hy1⟩ := (may_iff t).1 hmt
    obtain ⟨hz0, hz1⟩ := (may_iff n).1 hmn
    by_cases hl : n ≤ f
    · by_cases ho : t + n ≤ 1099511627776
      · have hv : moveVal f t n = .tuple #[.int .i64 (f - n), .int .i64 (t + n), .int .i64 0] := by rw [moveVal, if_pos hm, if_pos hl, if_pos ho]
        have hu : moveVal (t + n) (f - n) n = .tuple #[.int .i64 t, .int .i64 f, .int .i64 0] := by
          rw [moveVal, if_pos ⟨(may_iff _).2 ⟨by omega, by omega⟩, (may_iff _).2 ⟨by omega, by omega⟩, hmn⟩, if_pos (by omega), if_pos (by omega)]
          rw [show t + n - n = t by omega, show f - n + n = f by omega]
        go_enter Try.func4, Try.ntmps4
        go_wp2_with fail
        refine (move_any f t n _).mono ?_
        rintro e w1 ⟨rfl, hb1⟩
        rw [hv]
        clear hv
        go_wp2_with fail
        refine (lives_any _).mono ?_
        rintro e w3 ⟨rfl, hb3⟩
        have hb03 := hb1.trans (hb3.mono hb1.size)
        clear hb1 hb3
        have MF := Lib.hid hmf
        have MT := Lib.hid hmt
        have MN := Lib.hid hmn
        clear hmf hmt hmn hm
        go_wp2_with (first | (go_at_call_of 14 (Value.int .i64 f); refine (refmay_any f _).mono ?_; rintro e w' ⟨rfl, rfl⟩; rw [MF.out]) | (go_at_call_of 14 (Value.int .i64 t); refine (refmay_any t _).mono ?_; rintro e w' ⟨rfl, rfl⟩; rw [MT.out]) | (go_at_call_of 14 (Value.int .i64 n); refine (refmay_any n _).mono ?_; rintro e w' ⟨rfl, rfl⟩; rw [MN.out]) | (go_at_call 15; refine (move_any (t + n) (f - n) n _).mono ?_; rintro e w5 ⟨rfl, hb5⟩; rw [hu]))
        go_ret
        exact ⟨by simp, hb03.trans (hb5.mono hb03.size)⟩
      · have hv : moveVal f t n = .tuple #[.int .i64 0, .int .i64 0, .int .i64 50] := by rw [moveVal, if_pos hm, if_pos hl, if_neg ho]
        go_enter Try.func4, Try.ntmps4
        go_wp2_with fail
        refine (move_any f t n _).mono ?_
        rintro e w1 ⟨rfl, hb1⟩
        rw [hv]
        clear hv
        go_wp2_with fail
        refine (lives_any _).mono ?_
        rintro e w3 ⟨rfl, hb3⟩
        have hb03 := hb1.trans (hb3.mono hb1.size)
        clear hb1 hb3
        have MF := Lib.hid hmf
        have MT := Lib.hid hmt
        have MN := Lib.hid hmn
        clear hmf hmt hmn hm
        go_wp2_with (first | (go_at_call_of 14 (Value.int .i64 f); refine (refmay_any f _).mono ?_; rintro e w' ⟨rfl, rfl⟩; rw [MF.out]) | (go_at_call_of 14 (Value.int .i64 t); refine (refmay_any t _).mono ?_; rintro e w' ⟨rfl, rfl⟩; rw [MT.out]) | (go_at_call_of 14 (Value.int .i64 n); refine (refmay_any n _).mono ?_; rintro e w' ⟨rfl, rfl⟩; rw [MN.out]))
        go_ret
        exact ⟨by simp, hb03⟩
    · have hv : moveVal f t n = .tuple #[.int .i64 0, .int .i64 0, .int .i64 51] := by rw [moveVal, if_pos hm, if_neg hl]
      go_enter Try.func4, Try.ntmps4
      go_wp2_with fail
      refine (move_any f t n _).mono ?_
      rintro e w1 ⟨rfl, hb1⟩
      rw [hv]
      clear hv
      go_wp2_with fail
      refine (lives_any _).mono ?_
      rintro e w3 ⟨rfl, hb3⟩
      have hb03 := hb1.trans (hb3.mono hb1.size)
      clear hb1 hb3
      have MF := Lib.hid hmf
      have MT := Lib.hid hmt
      have MN := Lib.hid hmn
      clear hmf hmt hmn hm
      go_wp2_with (first | (go_at_call_of 14 (Value.int .i64 f); refine (refmay_any f _).mono ?_; rintro e w' ⟨rfl, rfl⟩; rw [MF.out]) | (go_at_call_of 14 (Value.int .i64 t); refine (refmay_any t _).mono ?_; rintro e w' ⟨rfl, rfl⟩; rw [MT.out]) | (go_at_call_of 14 (Value.int .i64 n); refine (refmay_any n _).mono ?_; rintro e w' ⟨rfl, rfl⟩; rw [MN.out]))
      go_ret
      exact ⟨by simp, hb03⟩
  · have hv : moveVal f t n = .tuple #[.int .i64 0, .int .i64 0, .int .i64 1] := by rw [moveVal, if_neg hm]
    cases hmf : may f with
    | false =>
      cases hmt : may t with
      | true =>
        cases hmn : may n with
        | true =>
          go_enter Try.func4, Try.ntmps4
          go_wp2_with fail
          refine (move_any f t n _).mono ?_
          rintro e w1 ⟨rfl, hb1⟩
          rw [hv]
          clear hv
          go_wp2_with fail
          refine (lives_any _).mono ?_
          rintro e w3 ⟨rfl, hb3⟩
          have hb03 := hb1.trans (hb3.mono hb1.size)
          clear hb1 hb3
          have MF := Lib.hid hmf
          have MT := Lib.hid hmt
          have MN := Lib.hid hmn
          clear hmf hmt hmn hm
          go_wp2_with (first | (go_at_call_of 14 (Value.int .i64 f); refine (refmay_any f _).mono ?_; rintro e w' ⟨rfl, rfl⟩; rw [MF.out]) | (go_at_call_of 14 (Value.int .i64 t); refine (refmay_any t _).mono ?_; rintro e w' ⟨rfl, rfl⟩; rw [MT.out]) | (go_at_call_of 14 (Value.int .i64 n); refine (refmay_any n _).mono ?_; rintro e w' ⟨rfl, rfl⟩; rw [MN.out]))
          go_ret
          exact ⟨by simp, hb03⟩
        | false =>
          go_enter Try.func4, Try.ntmps4
          go_wp2_with fail
          refine (move_any f t n _).mono ?_
          rintro e w1 ⟨rfl, hb1⟩
          rw [hv]
          clear hv
          go_wp2_with fail
          refine (lives_any _).mono ?_
          rintro e w3 ⟨rfl, hb3⟩
          have hb03 := hb1.trans (hb3.mono hb1.size)
          clear hb1 hb3
          have MF := Lib.hid hmf
          have MT := Lib.hid hmt
          have MN := Lib.hid hmn
          clear hmf hmt hmn hm
          go_wp2_with (first | (go_at_call_of 14 (Value.int .i64 f); refine (refmay_any f _).mono ?_; rintro e w' ⟨rfl, rfl⟩; rw [MF.out]) | (go_at_call_of 14 (Value.int .i64 t); refine (refmay_any t _).mono ?_; rintro e w' ⟨rfl, rfl⟩; rw [MT.out]) | (go_at_call_of 14 (Value.int .i64 n); refine (refmay_any n _).mono ?_; rintro e w' ⟨rfl, rfl⟩; rw [MN.out]))
          go_ret
          exact ⟨by simp, hb03⟩
      | false =>
        cases hmn : may n with
        | true =>
          go_enter Try.func4, Try.ntmps4
          go_wp2_with fail
          refine (move_any f t n _).mono ?_
          rintro e w1 ⟨rfl, hb1⟩
          rw [hv]
          clear hv
          go_wp2_with fail
          refine (lives_any _).mono ?_
          rintro e w3 ⟨rfl, hb3⟩
          have hb03 := hb1.trans (hb3.mono hb1.size)
          clear hb1 hb3
          have MF := Lib.hid hmf
          have MT := Lib.hid hmt
          have MN := Lib.hid hmn
          clear hmf hmt hmn hm
          go_wp2_with (first | (go_at_call_of 14 (Value.int .i64 f); refine (refmay_any f _).mono ?_; rintro e w' ⟨rfl, rfl⟩; rw [MF.out]) | (go_at_call_of 14 (Value.int .i64 t); refine (refmay_any t _).mono ?_; rintro e w' ⟨rfl, rfl⟩; rw [MT.out]) | (go_at_call_of 14 (Value.int .i64 n); refine (refmay_any n _).mono ?_; rintro e w' ⟨rfl, rfl⟩; rw [MN.out]))
          go_ret
          exact ⟨by simp, hb03⟩
        | false =>
          go_enter Try.func4, Try.ntmps4
          go_wp2_with fail
          refine (move_any f t n _).mono ?_
          rintro e w1 ⟨rfl, hb1⟩
          rw [hv]
          clear hv
          go_wp2_with fail
          refine (lives_any _).mono ?_
          rintro e w3 ⟨rfl, hb3⟩
          have hb03 := hb1.trans (hb3.mono hb1.size)
          clear hb1 hb3
          have MF := Lib.hid hmf
          have MT := Lib.hid hmt
          have MN := Lib.hid hmn
          clear hmf hmt hmn hm
          go_wp2_with (first | (go_at_call_of 14 (Value.int .i64 f); refine (refmay_any f _).mono ?_; rintro e w' ⟨rfl, rfl⟩; rw [MF.out]) | (go_at_call_of 14 (Value.int .i64 t); refine (refmay_any t _).mono ?_; rintro e w' ⟨rfl, rfl⟩; rw [MT.out]) | (go_at_call_of 14 (Value.int .i64 n); refine (refmay_any n _).mono ?_; rintro e w' ⟨rfl, rfl⟩; rw [MN.out]))
          go_ret
          exact ⟨by simp, hb03⟩
    | true =>
      cases hmt : may t with
      | false =>
        cases hmn : may n with
        | true =>
          go_enter Try.func4, Try.ntmps4
          go_wp2_with fail
          refine (move_any f t n _).mono ?_
          rintro e w1 ⟨rfl, hb1⟩
          rw [hv]
          clear hv
          go_wp2_with fail
          refine (lives_any _).mono ?_
          rintro e w3 ⟨rfl, hb3⟩
          have hb03 := hb1.trans (hb3.mono hb1.size)
          clear hb1 hb3
          have MF := Lib.hid hmf
          have MT := Lib.hid hmt
          have MN := Lib.hid hmn
          clear hmf hmt hmn hm
          go_wp2_with (first | (go_at_call_of 14 (Value.int .i64 f); refine (refmay_any f _).mono ?_; rintro e w' ⟨rfl, rfl⟩; rw [MF.out]) | (go_at_call_of 14 (Value.int .i64 t); refine (refmay_any t _).mono ?_; rintro e w' ⟨rfl, rfl⟩; rw [MT.out]) | (go_at_call_of 14 (Value.int .i64 n); refine (refmay_any n _).mono ?_; rintro e w' ⟨rfl, rfl⟩; rw [MN.out]))
          go_ret
          exact ⟨by simp, hb03⟩
        | false =>
          go_enter Try.func4, Try.ntmps4
          go_wp2_with fail
          refine (move_any f t n _).mono ?_
          rintro e w1 ⟨rfl, hb1⟩
          rw [hv]
          clear hv
          go_wp2_with fail
          refine (lives_any _).mono ?_
          rintro e w3 ⟨rfl, hb3⟩
          have hb03 := hb1.trans (hb3.mono hb1.size)
          clear hb1 hb3
          have MF := Lib.hid hmf
          have MT := Lib.hid hmt
          have MN := Lib.hid hmn
          clear hmf hmt hmn hm
          go_wp2_with (first | (go_at_call_of 14 (Value.int .i64 f); refine (refmay_any f _).mono ?_; rintro e w' ⟨rfl, rfl⟩; rw [MF.out]) | (go_at_call_of 14 (Value.int .i64 t); refine (refmay_any t _).mono ?_; rintro e w' ⟨rfl, rfl⟩; rw [MT.out]) | (go_at_call_of 14 (Value.int .i64 n); refine (refmay_any n _).mono ?_; rintro e w' ⟨rfl, rfl⟩; rw [MN.out]))
          go_ret
          exact ⟨by simp, hb03⟩
      | true =>
        have hmn : may n = false := by
          cases hn : may n with
          | true => exact absurd ⟨hmf, hmt, hn⟩ hm
          | false => rfl
        go_enter Try.func4, Try.ntmps4
        go_wp2_with fail
        refine (move_any f t n _).mono ?_
        rintro e w1 ⟨rfl, hb1⟩
        rw [hv]
        clear hv
        go_wp2_with fail
        refine (lives_any _).mono ?_
        rintro e w3 ⟨rfl, hb3⟩
        have hb03 := hb1.trans (hb3.mono hb1.size)
        clear hb1 hb3
        have MF := Lib.hid hmf
        have MT := Lib.hid hmt
        have MN := Lib.hid hmn
        clear hmf hmt hmn hm
        go_wp2_with (first | (go_at_call_of 14 (Value.int .i64 f); refine (refmay_any f _).mono ?_; rintro e w' ⟨rfl, rfl⟩; rw [MF.out]) | (go_at_call_of 14 (Value.int .i64 t); refine (refmay_any t _).mono ?_; rintro e w' ⟨rfl, rfl⟩; rw [MT.out]) | (go_at_call_of 14 (Value.int .i64 n); refine (refmay_any n _).mono ?_; rintro e w' ⟨rfl, rfl⟩; rw [MN.out]))
        go_ret
        exact ⟨by simp, hb03⟩

namespace countMovesDone
open Go.ChangeShapes Go.WideShapes Go.ChangeAt
set_option maxRecDepth 100000 in
theorem lifted (os : Os) (started : os.Started) (H : Type) (enc : TypeId × Value → H) :
    ReturnsInHanded {} Try.checked os 4 .any (Rows.countMovesSpec.pre6 enc Try.prog Try.f4 Rows.countMovesRow.domain false) (Rows.countMovesSpec.post enc Try.prog Try.f4 false true false false) := by
  refine returnsInHanded_of_change_sized (C := Try.checked) own started (by kernel_rfl) Try.func4
    (ChangeSpec.witness6 (enc := enc) (C := Try.checked) false ⟨#[], #[Value.int .i64 0, Value.int .i64 0, Value.int .i64 0], []⟩ 8 (by kernel_rfl) (by kernel_rfl) (by kernel_rfl) (by kernel_rfl)) ?_
  intro W base args ds gs before hval0 hW hcnd hsz0 _
  have hsz : (DataW.weightsEach Try.prog (Try.f4.params.toList ++ Rows.countMovesSpec.plain.varTypes Try.prog) (ds ++ gs)).all (· ≤ reachBytes) = true := hsz0
  clear hsz0
  have hval : ∀ (j : Nat) t v, Try.f4.params[j]? = some t → args[j]? = some v → Value.okWide Try.prog W .any base t v := hval0
  have hW' := hW
  obtain ⟨p, q, hA0, hV, rfl, hfz, hnd⟩ := hW
  have hA : DataW.TrodAll enc Try.prog W 0 (fun _ => true) true Try.f4.params.toList args.toList ds p := hA0
  rw [Try.params4] at hA hval hsz
  obtain ⟨v0, vs0, d0, ds0, p0, q0, hargs, rfl, rfl, h0, r0⟩ := trodAll_cons hA
  obtain ⟨v1, vs1, d1, ds1, p1, q1, rfl, rfl, rfl, h1, r1⟩ := trodAll_cons r0
  obtain ⟨v2, vs2, d2, ds2, p2, q2, rfl, rfl, rfl, h2, r2⟩ := trodAll_cons r1
  obtain ⟨rfl, rfl, rfl⟩ := trodAll_nil r2
  obtain rfl : args = #[v0, v1, v2] := by cases args; simp_all
  obtain ⟨rfl, rfl⟩ := trodVars_none hV
  obtain ⟨a0, rfl, rfl, rfl, w0⟩ := open_int Try.underlying3 (hval 0 3 v0 rfl rfl) h0
  obtain ⟨a1, rfl, rfl, rfl, w1⟩ := open_int Try.underlying3 (hval 1 3 v1 rfl rfl) h1
  obtain ⟨a2, rfl, rfl, rfl, w2⟩ := open_int Try.underlying3 (hval 2 3 v2 rfl rfl) h2
  clear hA0 hval0
  refine (countMoves_walk (w := W) a0 w0 a1 w1 a2 w2).mono fun e W' ⟨he, bel⟩ => ?_
  subst he
  exact ⟨_, rfl, _, _, _, [], _, [], hW', trodAll_mk1 (shut_bool Try.underlying4 _), (trodAll_cons_mk (shut_int Try.underlying3 w0) (trodAll_cons_mk (shut_int Try.underlying3 w1) (trodAll_cons_mk (shut_int Try.underlying3 w2) trodAll_mk0))), rfl, bel.frame _, fun h => by cases h⟩

theorem over : Rows.countMovesRow.holds Try.pinned (OpenSpec.ofChange Rows.countMovesSpec) :=
  OpenClaim.holds_of_wide 4 Try.f4 rfl rfl rfl rfl rfl rfl rfl ⟨rfl, rfl, rfl, rfl, rfl⟩ rfl rfl rfl rfl rfl (by kernel_rfl) Try.func4 (by kernel_rfl)
    (of_decide_eq_true (by kernel_rfl)) (by unfold Func.isWrapper; first | (rw [if_pos (by decide +kernel)]; kernel_rfl) | (rw [if_neg (by decide +kernel)]; exact ⟨rfl, rfl⟩))
    (fun os started H enc _ => lifted os started H enc)

/-- The statement. -/
theorem proved : Rows.CountMovesSaid := over
end countMovesDone
end Go.Proofs.Ytlookiicogbkmaa
