/- 'IdentFull' returns true for every input: the row of this law, proved. No condition. -/
import Derived.Test.YtpendcaefjbomaaIdZ
import Derived.Deep.CutBlock
import Derived.Deep.CutRange
import Derived.ProofKit
import Derived.OpenShut
import Derived.ShutString
import Derived.ChangeOld
import Derived.SizedLaws
namespace Go.Proofs.Ytpendcaefjbomaa
open Go.RowKit
set_option linter.unusedVariables false
set_option linter.unusedSimpArgs false
set_option maxRecDepth 100000 in
set_option maxHeartbeats 12800000 in
theorem identFull_walk {w : World} (a0 : Int) (w0 : (Lit.int .i64 a0).wf = true) (a1 : Int) (w1 : (Lit.int .i64 a1).wf = true) :
    Calls Try.prog 6 #[.int .i64 a0, .int .i64 a1] w fun e w' => e = .returned (.bool true) ∧ Below w.heap.size w w' := by
  by_cases h1 : a0 < 0
  · as_aux_lemma =>
      have d1 : decide (a0 < 0) = true := decide_eq_true h1
      go_enter Try.func6, Try.ntmps6
      go_wp2_with fail
      refine (tnew_any _).mono ?_
      rintro e w1 ⟨p, b, rfl, hS, -, -, hb1⟩
      clear hS
      go_wp2_with fail
      refine (lives_any _).mono ?_
      rintro e w2 ⟨rfl, hx2⟩
      have hb2 := hb1.trans (hx2.mono hb1.size)
      go_wp2_with fail
      refine (lives_any _).mono ?_
      rintro e w3 ⟨rfl, hx3⟩
      have hb3 := hb2.trans (hx3.mono hb2.size)
      go_wp2
      go_ret
      exact ⟨rfl, hb3⟩
  have d1 : decide (a0 < 0) = false := decide_eq_false h1
  by_cases h2 : 63 < a0
  · as_aux_lemma =>
      have d2 : decide (63 < a0) = true := decide_eq_true h2
      go_enter Try.func6, Try.ntmps6
      go_wp2_with fail
      refine (tnew_any _).mono ?_
      rintro e w1 ⟨p, b, rfl, hS, -, -, hb1⟩
      clear hS
      go_wp2_with fail
      refine (lives_any _).mono ?_
      rintro e w2 ⟨rfl, hx2⟩
      have hb2 := hb1.trans (hx2.mono hb1.size)
      go_wp2_with fail
      refine (lives_any _).mono ?_
      rintro e w3 ⟨rfl, hx3⟩
      have hb3 := hb2.trans (hx3.mono hb2.size)
      go_wp2
      go_ret
      exact ⟨rfl, hb3⟩
  have d2 : decide (63 < a0) = false := decide_eq_false h2
  by_cases h3 : a1 < 1
  · as_aux_lemma =>
      have d3 : decide (a1 < 1) = true := decide_eq_true h3
      go_enter Try.func6, Try.ntmps6
      go_wp2_with fail
      refine (tnew_any _).mono ?_
      rintro e w1 ⟨p, b, rfl, hS, -, -, hb1⟩
      clear hS
      go_wp2_with fail
      refine (lives_any _).mono ?_
      rintro e w2 ⟨rfl, hx2⟩
      have hb2 := hb1.trans (hx2.mono hb1.size)
      go_wp2_with fail
      refine (lives_any _).mono ?_
      rintro e w3 ⟨rfl, hx3⟩
      have hb3 := hb2.trans (hx3.mono hb2.size)
      go_wp2
      go_ret
      exact ⟨rfl, hb3⟩
  have d3 : decide (a1 < 1) = false := decide_eq_false h3
  by_cases h4 : 1073741824 < a1
  · as_aux_lemma =>
      have d4 : decide (1073741824 < a1) = true := decide_eq_true h4
      go_enter Try.func6, Try.ntmps6
      go_wp2_with fail
      refine (tnew_any _).mono ?_
      rintro e w1 ⟨p, b, rfl, hS, -, -, hb1⟩
      clear hS
      go_wp2_with fail
      refine (lives_any _).mono ?_
      rintro e w2 ⟨rfl, hx2⟩
      have hb2 := hb1.trans (hx2.mono hb1.size)
      go_wp2_with fail
      refine (lives_any _).mono ?_
      rintro e w3 ⟨rfl, hx3⟩
      have hb3 := hb2.trans (hx3.mono hb2.size)
      go_wp2
      go_ret
      exact ⟨rfl, hb3⟩
  have d4 : decide (1073741824 < a1) = false := decide_eq_false h4
  have hmc : mayC a0 := ⟨by omega, by omega⟩
  have ha : 1 ≤ a1 ∧ a1 ≤ 1073741824 := ⟨by omega, by omega⟩
  have wn128 : (Lit.int .i64 (a1 + 128)).wf = true := by simp [Lit.wf, IntKind.min, IntKind.max, IntKind.signed, IntKind.bits]; omega
  have wn5 : (Lit.int .i64 (a1 + 5)).wf = true := by simp [Lit.wf, IntKind.min, IntKind.max, IntKind.signed, IntKind.bits]; omega
  have ww128 : wrap64 (a1 + 128) = a1 + 128 := by unfold wrap64; omega
  have ww5 : wrap64 (a1 + 5) = a1 + 5 := by unfold wrap64; omega
  have ww1 : wrap64 (a1 + 1) = a1 + 1 := by unfold wrap64; omega
  clear h1 h2 h3 h4
  obtain ⟨M, hM⟩ : ∃ M : Int, (mixOf 7 [] : Int) = M := ⟨_, rfl⟩
  go_enter Try.func6, Try.ntmps6
  go_wp2_with fail
  refine (tnew_any _).mono ?_
  rintro e w1' ⟨p, b, rfl, hS, -, -, hb1⟩
  have hT1 := TI.of hS
  have hL1 : ∀ g, (w.heap.size ≤ g ∧ g < w1'.heap.size) → w.heap.size ≤ g := fun g hg => hg.1
  clear hS
  go_wp2_with fail
  refine (lives_any _).mono ?_
  rintro e w2 ⟨rfl, hx2⟩
  have hT2 := hT1.below hx2
  have hb2 := hb1.trans (hx2.mono hb1.size)
  clear hT1 hb1 hx2
  go_wp2
  go_loopw [6, 7, 8] (fun i s7 s8 wr => ∃ (k : Nat) (F : Nat → Prop) (cl : Int → Cl) (cs : List Int), i = .int .i64 (k : Int) ∧ k ≤ 128 ∧ TI F wr p b k cl cs ∧ (∀ g, F g → w.heap.size ≤ g) ∧ Below w.heap.size w wr ∧ Hid (FullI (cl a0) a1 k M)) (fun i _ _ _ => 128 - (intOf i).toNat)
  case atStart => exact ⟨0, _, _, _, by go_num, by omega, hT2, hL1, hb2, Lib.hid (FullI.start a1 M)⟩
  case round =>
    clear hT2 hL1 hb2 d1 d2 d3 d4
    obtain ⟨k, F, cl, cs, rfl, hk, hT, hL, hb, hI⟩ := hrel
    by_cases hk128 : k < 128
    · have hlz : (k : Int) < 128 := by omega
      have wnk : (Lit.int .i64 (a1 + (k : Int))).wf = true := by simp [Lit.wf, IntKind.min, IntKind.max, IntKind.signed, IntKind.bits]; omega
      have wwk : wrap64 (a1 + (k : Int)) = a1 + (k : Int) := by unfold wrap64; omega
      have v4 : vd cl a0 (a1 + (k : Int)) M = 1 := hI.out.new hmc ha hk128
      have u4 : (vr cl a0 (a1 + (k : Int)) M).a = .agg #[.int .i64 0, .int .i64 0, .int .i64 0, .int .i64 0] := by simp only [vr]; rw [v4]; rfl
      have hc4 := ask_i hT a0 (a1 + (k : Int)) w0 wnk none 0 0 [] (RB.nil _ _) (by omega) (by omega) (by unfold maxLen; omega)
      rw [hM, v4, u4] at hc4
      skip
      go_wp2_with fail
      refine hc4.mono ?_
      rintro e w4 ⟨rfl, F4, cl4, cs4, hT4', hk4, hF4, hto4⟩
      have hb4' := hb.trans (hk4.below (B := w.heap.size) hb.size (fun j hj e => by have := hL j e; omega))
      have hL4 : ∀ g, F4 g → w.heap.size ≤ g := fun g hg => (hF4 g hg).elim (hL g) (fun e => by have := hb.size; omega)
      have hT4 := hT4'.below ((Below.refl w4.heap.size w4).alloc (Nat.le_refl _) (.cells #[.int .i64 0, .int .i64 0, .int .i64 0, .int .i64 0] 35))
      have hb4 := hb4'.alloc hb4'.size (.cells #[.int .i64 0, .int .i64 0, .int .i64 0, .int .i64 0] 35)
      clear hc4 hT4' hb4' hk4 hF4
      have hI4 := hI.out.ask v4 hto4
      replace hI4 := Lib.hid hI4
      clear hto4 v4 u4
      go_wp2
      go_roundw
      case measure => simp [intOf]; omega
      case rel => exact ⟨k + 1, F4, cl4, cs4, by go_num, by omega, hT4, hL4, hb4, hI4⟩
    · have hlz : ¬ (k : Int) < 128 := by omega
      obtain rfl : k = 128 := by omega
      replace hI := hI.out
      clear hlz hk hk128
      have v5 : vd cl a0 (a1 + 128) M = 6 := hI.full hmc ha
      have u5 : (vr cl a0 (a1 + 128) M).a = .agg #[.int .i64 0, .int .i64 0, .int .i64 0, .int .i64 0] := by simp only [vr]; rw [v5]; rfl
      have hc5 := ask_i hT a0 (a1 + 128) w0 wn128 none 0 0 [] (RB.nil _ _) (by omega) (by omega) (by unfold maxLen; omega)
      rw [hM, v5, u5] at hc5
      skip
      go_wp2_with fail
      refine hc5.mono ?_
      rintro e w5 ⟨rfl, F5, cl5, cs5, hT5', hk5, hF5, hto5⟩
      have hb5' := hb.trans (hk5.below (B := w.heap.size) hb.size (fun j hj e => by have := hL j e; omega))
      have hL5 : ∀ g, F5 g → w.heap.size ≤ g := fun g hg => (hF5 g hg).elim (hL g) (fun e => by have := hb.size; omega)
      have hT5 := hT5'.below ((Below.refl w5.heap.size w5).alloc (Nat.le_refl _) (.cells #[.int .i64 0, .int .i64 0, .int .i64 0, .int .i64 0] 35))
      have hb5 := hb5'.alloc hb5'.size (.cells #[.int .i64 0, .int .i64 0, .int .i64 0, .int .i64 0] 35)
      clear hc5 hT5' hb5' hk5 hF5
      obtain rfl : cl5 = cl := hto5.1 (by rw [v5]; decide)
      clear hto5
      have v6 : vd cl5 a0 (a1 + 5) M = 2 := hI.open_ hmc ha
      have u6 : (vr cl5 a0 (a1 + 5) M).a = .agg #[.int .i64 0, .int .i64 0, .int .i64 0, .int .i64 0] := by simp only [vr]; rw [v6]; rfl
      have hc6 := ask_i hT5 a0 (a1 + 5) w0 wn5 none 0 0 [] (RB.nil _ _) (by omega) (by omega) (by unfold maxLen; omega)
      rw [hM, v6, u6] at hc6
      skip
      go_wp2_with fail
      refine hc6.mono ?_
      rintro e w6 ⟨rfl, F6, cl6, cs6, hT6', hk6, hF6, hto6⟩
      have hb6' := hb5.trans (hk6.below (B := w.heap.size) hb5.size (fun j hj e => by have := hL5 j e; omega))
      have hL6 : ∀ g, F6 g → w.heap.size ≤ g := fun g hg => (hF6 g hg).elim (hL5 g) (fun e => by have := hb5.size; omega)
      have hT6 := hT6'.below ((Below.refl w6.heap.size w6).alloc (Nat.le_refl _) (.cells #[.int .i64 0, .int .i64 0, .int .i64 0, .int .i64 0] 35))
      have hb6 := hb6'.alloc hb6'.size (.cells #[.int .i64 0, .int .i64 0, .int .i64 0, .int .i64 0] 35)
      clear hc6 hT6' hb6' hk6 hF6
      obtain rfl : cl6 = cl5 := hto6.1 (by rw [v6]; decide)
      clear hto6
      have hc7 := low_i hT6 a0 (a1 + 1) w0 (by rw [hI.2.1]; decide) (by unfold maxLen; omega)
      go_wp2_with fail
      refine hc7.mono ?_
      rintro e w7 ⟨E, rfl, F7, cl7, cs7, hT7, hk7, hF7, hto7⟩
      obtain ⟨rfl, rfl⟩ := hI.low hmc ha hto7
      have hb7 := hb6.trans (hk7.below (B := w.heap.size) hb6.size (fun j hj e => by have := hL6 j e; omega))
      have hL7 : ∀ g, F7 g → w.heap.size ≤ g := fun g hg => (hF7 g hg).elim (hL6 g) (fun e => by have := hb6.size; omega)
      clear hc7 hto7 hk7 hF7
      have v8 := hI.tell hmc ha
      have hc8 := tell_i hT7 a0 a1 0 0 w0 w1 (by unfold maxLen; omega)
      rw [v8] at hc8
      go_wp2_with fail
      refine hc8.mono ?_
      rintro e w8 ⟨rfl, cl8, hT8, hk8, hto8⟩
      have hb8 := hb7.trans (hk8.below (B := w.heap.size) hb7.size (fun j hj e => by have := hL7 j e; omega))
      clear hc8 hk8
      have hn8 : (cl8 a0).ns.length ≤ 1048576 := by rw [(hto8.2 v8).2.2.1, hI.2.1]; decide
      have hc9 := low_i hT8 a0 (a1 + 1) w0 hn8 (by unfold maxLen; omega)
      go_wp2_with fail
      refine hc9.mono ?_
      rintro e w9 ⟨E, rfl, F9, cl9, cs9, hT9, hk9, hF9, hto9⟩
      obtain ⟨rfl, v10', hl9⟩ := hI.low2 hmc ha v8 hto8 hto9
      have hb9 := hb8.trans (hk9.below (B := w.heap.size) hb8.size (fun j hj e => by have := hL7 j e; omega))
      have hL9 : ∀ g, F9 g → w.heap.size ≤ g := fun g hg => (hF9 g hg).elim (hL7 g) (fun e => by have := hb8.size; omega)
      clear hc9 hto9 hk9 hF9 hto8 v8 hn8
      have v10 : vd cl9 a0 (a1 + 128) M = 1 := v10'
      have u10 : (vr cl9 a0 (a1 + 128) M).a = .agg #[.int .i64 0, .int .i64 0, .int .i64 0, .int .i64 0] := by simp only [vr]; rw [v10]; rfl
      have hc10 := ask_i hT9 a0 (a1 + 128) w0 wn128 none 0 0 [] (RB.nil _ _) (by omega) (by omega) (by unfold maxLen; omega)
      rw [hM, v10, u10] at hc10
      skip
      go_wp2_with fail
      refine hc10.mono ?_
      rintro e w10 ⟨rfl, F10, cl10, cs10, hT10', hk10, hF10, hto10⟩
      have hb10' := hb9.trans (hk10.below (B := w.heap.size) hb9.size (fun j hj e => by have := hL9 j e; omega))
      have hL10 : ∀ g, F10 g → w.heap.size ≤ g := fun g hg => (hF10 g hg).elim (hL9 g) (fun e => by have := hb9.size; omega)
      have hT10 := hT10'.below ((Below.refl w10.heap.size w10).alloc (Nat.le_refl _) (.cells #[.int .i64 0, .int .i64 0, .int .i64 0, .int .i64 0] 35))
      have hb10 := hb10'.alloc hb10'.size (.cells #[.int .i64 0, .int .i64 0, .int .i64 0, .int .i64 0] 35)
      clear hc10 hT10' hb10' hk10 hF10
      have hl10 : (cl10 a0).ns.length = 128 := by rw [(hto10.2 v10).2.2.1, List.length_append, hl9]; rfl
      have hln := len_any hT10.1 a0 w0
      rw [hl10] at hln
      clear hto10 hl10 hl9 hI
      go_wp2_with fail
      refine hln.mono ?_
      rintro e w11 ⟨rfl, hx11⟩
      have hb11 := hb10.trans (hx11.mono hb10.size)
      clear hln
      go_wp2
      go_ret
      exact ⟨rfl, hb11⟩

namespace identFullDone
open Go.ChangeShapes Go.WideShapes Go.ChangeAt
set_option maxRecDepth 100000 in
theorem lifted (os : Os) (started : os.Started) (H : Type) (enc : TypeId × Value → H) :
    ReturnsInHanded {} Try.checked os 6 .any (Rows.identFullSpec.pre6 enc Try.prog Try.f6 Rows.identFullRow.domain false) (Rows.identFullSpec.post enc Try.prog Try.f6 false true false false) := by
  refine returnsInHanded_of_change_sized (C := Try.checked) own started (by kernel_rfl) Try.func6
    (ChangeSpec.witness6 (enc := enc) (C := Try.checked) false ⟨#[], #[Value.int .i64 0, Value.int .i64 0], []⟩ 8 (by kernel_rfl) (by kernel_rfl) (by kernel_rfl) (by kernel_rfl)) ?_
  intro W base args ds gs before hval0 hW hcnd hsz0 _
  have hsz : (DataW.weightsEach Try.prog (Try.f6.params.toList ++ Rows.identFullSpec.plain.varTypes Try.prog) (ds ++ gs)).all (· ≤ reachBytes) = true := hsz0
  clear hsz0
  have hval : ∀ (j : Nat) t v, Try.f6.params[j]? = some t → args[j]? = some v → Value.okWide Try.prog W .any base t v := hval0
  have hW' := hW
  obtain ⟨p, q, hA0, hV, rfl, hfz, hnd⟩ := hW
  have hA : DataW.TrodAll enc Try.prog W 0 (fun _ => true) true Try.f6.params.toList args.toList ds p := hA0
  rw [Try.params6] at hA hval hsz
  obtain ⟨v0, vs0, d0, ds0, p0, q0, hargs, rfl, rfl, h0, r0⟩ := trodAll_cons hA
  obtain ⟨v1, vs1, d1, ds1, p1, q1, rfl, rfl, rfl, h1, r1⟩ := trodAll_cons r0
  obtain ⟨rfl, rfl, rfl⟩ := trodAll_nil r1
  obtain rfl : args = #[v0, v1] := by cases args; simp_all
  obtain ⟨rfl, rfl⟩ := trodVars_none hV
  obtain ⟨a0, rfl, rfl, rfl, w0⟩ := open_int Try.underlying3 (hval 0 3 v0 rfl rfl) h0
  obtain ⟨a1, rfl, rfl, rfl, w1⟩ := open_int Try.underlying3 (hval 1 3 v1 rfl rfl) h1
  clear hA0 hval0
  refine (identFull_walk (w := W) a0 w0 a1 w1).mono fun e W' ⟨he, bel⟩ => ?_
  subst he
  exact ⟨_, rfl, _, _, _, [], _, [], hW', trodAll_mk1 (shut_bool Try.underlying4 _), (trodAll_cons_mk (shut_int Try.underlying3 w0) (trodAll_cons_mk (shut_int Try.underlying3 w1) trodAll_mk0)), rfl, bel.frame _, fun h => by cases h⟩

theorem over : Rows.identFullRow.holds Try.pinned (OpenSpec.ofChange Rows.identFullSpec) :=
  OpenClaim.holds_of_wide 6 Try.f6 rfl rfl rfl rfl rfl rfl rfl ⟨rfl, rfl, rfl, rfl, rfl⟩ rfl rfl rfl rfl rfl (by kernel_rfl) Try.func6 (by kernel_rfl)
    (of_decide_eq_true (by kernel_rfl)) (by unfold Func.isWrapper; first | (rw [if_pos (by decide +kernel)]; kernel_rfl) | (rw [if_neg (by decide +kernel)]; exact ⟨rfl, rfl⟩))
    (fun os started H enc _ => lifted os started H enc)

/-- The statement. -/
theorem proved : Rows.IdentFullSaid := over
end identFullDone
end Go.Proofs.Ytpendcaefjbomaa
