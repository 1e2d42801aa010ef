/- 'MoveFull' returns true for every input: the row of this law, proved. No condition. -/
import Derived.Test.YtflbpagkmkbgcaaMvF
import Derived.ProofKit
import Derived.OpenShut
import Derived.ShutString
import Derived.ChangeOld
import Derived.SizedLaws
namespace Go.Proofs.Ytflbpagkmkbgcaa
open Go.RowKit
set_option linter.unusedVariables false
set_option linter.unusedSimpArgs false
set_option maxRecDepth 100000 in
set_option maxHeartbeats 6400000 in
theorem moveFull_walk {w : World} (a0 : Int) (w0 : (Lit.int .i64 a0).wf = true) :
    Calls Try.prog 5 #[.int .i64 a0] w fun e w' => e = .returned (.bool true) ∧ Below w.heap.size w w' := by
  by_cases h1 : a0 < 1
  · go_enter Try.func5, Try.ntmps5
    go_wp2_with fail
    refine (pnew_any _).mono ?_
    rintro e w1 ⟨p, b, rfl, hP, hpw, hbw, hb⟩
    go_wp2_with fail
    refine (lives_any _).mono ?_
    rintro e w2 ⟨rfl, hl⟩
    replace hb := hb.trans (hl.mono hb.size)
    clear hP hl
    go_wp2_with fail
    refine (lives_any _).mono ?_
    rintro e w3 ⟨rfl, hl⟩
    replace hb := hb.trans (hl.mono hb.size)
    go_wp2
    go_ret
    exact ⟨rfl, hb⟩
  by_cases h2 : 549755813888 < a0
  · go_enter Try.func5, Try.ntmps5
    go_wp2_with fail
    refine (pnew_any _).mono ?_
    rintro e w1 ⟨p, b, rfl, hP, hpw, hbw, hb⟩
    go_wp2_with fail
    refine (lives_any _).mono ?_
    rintro e w2 ⟨rfl, hl⟩
    replace hb := hb.trans (hl.mono hb.size)
    clear hP hl
    go_wp2_with fail
    refine (lives_any _).mono ?_
    rintro e w3 ⟨rfl, hl⟩
    replace hb := hb.trans (hl.mono hb.size)
    go_wp2
    go_ret
    exact ⟨rfl, hb⟩
  go_enter Try.func5, Try.ntmps5
  go_wp2_with fail
  refine (pnew_any _).mono ?_
  rintro e w1 ⟨p, b, rfl, hP, hpw, hbw, hb⟩
  go_wp2_with fail
  refine (lives_any _).mono ?_
  rintro e w2 ⟨rfl, hl⟩
  replace hP := hP.below hl
  replace hb := hb.trans (hl.mono hb.size)
  clear hl
  have hlt := hP.lt
  have hil := IL.one w2 [97] 1 36
  have hPa := hP.alloc (.cells #[.string ⟨#[97]⟩, .int .i64 1] 36)
  have hba := hb.alloc hb.size (.cells #[.string ⟨#[97]⟩, .int .i64 1] 36)
  obtain ⟨lb, hlb⟩ : ∃ lb, w2.heap.size = lb := ⟨_, rfl⟩
  go_wp2
  try rw [hlb]
  rw [hlb] at hil hlt
  have hlbb : ¬ lb = b := by omega
  clear hlb hP hb
  generalize w2.alloc (.cells #[.string ⟨#[97]⟩, .int .i64 1] 36) = w3 at *
  go_loopw [5] (fun i wr => ∃ k N : Nat, ∃ f, i = .int .i64 (k : Int) ∧ k ≤ 256 ∧ PS (fun k => w.heap.size ≤ k) wr p b N f (upK a0 k) ∧ N ≤ k ∧ (∀ j, j < k → ∃ x : Ls, f (a0 + (j : Nat)) = ⟨a0 + (j : Nat), 0, 1, x, false⟩ ∧ x.l = ga 1) ∧ IL wr (some ⟨lb, 0, none⟩) 1 (ga 1) ∧ Below w.heap.size w wr) (fun i _ => 256 - (intOf i).toNat)
  case atStart => exact ⟨0, 0, _, by go_num, by omega, hPa, Nat.le_refl _, fun j hj => by omega, hil, hba⟩
  case round =>
    clear hPa hil hba hlt
    obtain ⟨k, N, f, rfl, hk, hP, hN, hf, hil, hb⟩ := hrel
    replace hf := Lib.hid hf
    by_cases hk256 : k < 256
    · have hlz : (k : Int) < 256 := by omega
      have hNm : N < maxLen := by unfold maxLen; omega
      have hkn : a0 + (k : Int) ∉ upK a0 k := fun h => by
        obtain ⟨j, hj, e⟩ := mem_upK.1 h
        omega
      have hE : goE (upK a0 k) (a0 + (k : Int)) 0 1 (ga 1) = 0 := by
        rw [goE_ga (by omega) (by omega) hkn, if_neg (by rw [upK_len]; omega)]
      have hkw : (Lit.int .i64 (a0 + (k : Int))).wf = true := by simp [Lit.wf, IntKind.min, IntKind.max, IntKind.signed, IntKind.bits]; omega
      have hw1 : wrap64 (a0 + (k : Int)) = a0 + (k : Int) := by unfold wrap64; omega
      have hadd : addK (upK a0 k) (a0 + (k : Int)) = upK a0 (k + 1) := by rw [upK_succ]; exact if_neg hkn
      have c1 := go_ok hP hNm (a0 + (k : Int)) 0 1 (some ⟨lb, 0, none⟩) 1 (ga 1) hil ga_wl hkw hE
      replace hadd := Lib.hid hadd
      clear hE hkn
      go_wp2_with fail
      refine c1.mono ?_
      rintro e w4 ⟨rfl, x, hx, hP4, hk4⟩
      have hP5 := hP4.mono (G := fun k => w.heap.size ≤ k) (fun i _ h => h.elim id (fun h => by have := hb.size; omega))
      rw [hadd.out] at hP5
      have hb4 := hb.trans (hk4.below (B := w.heap.size) hb.size (fun i hi e => by omega))
      have hil4 := hil.kept hk4 (fun ad e _ e2 => by cases e; exact hlbb e2)
      clear c1 hP4
      go_wp2
      go_roundw
      case measure => simp [intOf]; omega
      case rel =>
        refine ⟨k + 1, N + 1, _, by go_num, by omega, hP5, by omega, fun j hj => ?_, hil4, hb4⟩
        by_cases e : j = k
        · subst e
          exact ⟨x, if_pos rfl, hx⟩
        · obtain ⟨y, h3, h4⟩ := hf.out j (by omega)
          refine ⟨y, ?_, h4⟩
          rw [if_neg (by omega)]
          exact h3
    · have hlz : ¬ (k : Int) < 256 := by omega
      have hk6 : k = 256 := by omega
      subst hk6
      clear hk hk256
      have hbz := hP.lt
      have hNm : N < maxLen := by unfold maxLen; omega
      have hNm2 : N + 1 < maxLen := by unfold maxLen; omega
      have hw1 : wrap64 (a0 + 256) = a0 + 256 := by unfold wrap64; omega
      have hkw : (Lit.int .i64 (a0 + 256)).wf = true := by simp [Lit.wf, IntKind.min, IntKind.max, IntKind.signed, IntKind.bits]; omega
      have hkn : a0 + 256 ∉ upK a0 256 := fun h => by
        obtain ⟨j, hj, e⟩ := mem_upK.1 h
        omega
      have hE : goE (upK a0 256) (a0 + 256) 0 1 (ga 1) = 2 := by
        rw [goE_ga (by omega) (by omega) hkn, if_pos (by rw [upK_len]; omega)]
      have hin : a0 ∈ upK a0 256 := mem_upK.2 ⟨0, by omega, by simp⟩
      obtain ⟨x0, hf0, hx0⟩ := hf.out 0 (by omega)
      rw [show a0 + ((0 : Nat) : Int) = a0 from by simp] at hf0
      have hU : underO f 0 1 (sortI (upK a0 256)) [] = ga 256 := by
        rw [upK_sorted]
        have hall : ∀ y ∈ upK a0 256, onWay (f y) 0 1 = true ∧ (f y).l.l = ga 1 := fun y hy => by
          obtain ⟨j, hj, rfl⟩ := mem_upK.1 hy
          obtain ⟨z, h3, h4⟩ := hf.out j hj
          rw [h3]
          exact ⟨by simp [onWay], h4⟩
        have hlen := upK_len a0 256
        cases hl : upK a0 256 with
        | nil => rw [hl] at hlen; simp at hlen
        | cons y ys =>
          rw [hl] at hlen hall
          simp only [List.length_cons] at hlen
          have hy : ys.length = 255 := by omega
          rw [under_all f y ys hall (by rw [hy]; decide), hy]
          rfl
      obtain ⟨ks, hks⟩ : ∃ ks, upK a0 256 = ks := ⟨_, rfl⟩
      have hkl : ks.length = 256 := by rw [← hks]; exact upK_len _ _
      have hnd : ks.Nodup := by
        rw [← hks]
        unfold upK
        rw [List.Nodup, List.pairwise_map]
        exact (List.pairwise_lt_range).imp fun {i j} h => by omega
      rw [hks] at hP hkn hE hin hU
      clear hf hks
      have c1 := go_no hP (a0 + 256) 0 1 (some ⟨lb, 0, none⟩) 1 (ga 1) hil hkw (by decide) (by rw [hE]; decide)
      rw [hE] at c1
      replace hkl := Lib.hid hkl
      replace hU := Lib.hid hU
      go_wp2_with fail
      refine c1.mono ?_
      rintro e w4 ⟨rfl, hx4⟩
      replace hP := hP.below hx4
      replace hb := hb.trans (hx4.mono hb.size)
      replace hil := hil.below hx4
      clear c1 hx4 hE
      go_wp2_with fail
      refine (forget_state hP a0 w0 hin (by rw [hf0])).mono ?_
      rintro e w5 ⟨rfl, hx5⟩
      replace hP := hP.below hx5
      replace hb := hb.trans (hx5.mono hb.size)
      replace hil := hil.below hx5
      have c1 := under_any hP (by rw [hkl.out]; decide) 0 1
      rw [hU.out] at c1
      have hx5s := hP.lt.2
      clear hx5 hU
      go_wp2_with fail
      refine c1.mono ?_
      rintro e w6 ⟨v6, rfl, hO6, hx6⟩
      replace hP := hP.below hx6
      replace hb := hb.trans (hx6.mono hb.size)
      replace hil := hil.below hx6
      obtain ⟨A6, c6, rfl, -, -, hil6, hal6⟩ := hO6.form
      simp only [show (ga 256).length = 1 from rfl] at hil6 ⊢
      have hal6b : ∀ ad, A6 = some ad → ¬ ad.block = b := fun ad e => by have h3 := (hal6 ad e).1; have h4 := hx5s; omega
      clear c1 hO6 hal6
      have c1 := come_ok hP hNm a0 w0 hin (by rw [hf0])
      rw [hf0] at c1
      go_wp2_with fail
      refine c1.mono ?_
      rintro e w7 ⟨v7, rfl, hO7, hP7, hk7⟩
      replace hb := hb.trans (hk7.below (B := w.heap.size) hb.size (fun i hi e => by omega))
      replace hil := hil.kept hk7 (fun ad e _ e2 => by cases e; exact hlbb e2)
      replace hil6 := hil6.kept hk7 (fun ad e _ e2 => hal6b ad e e2)
      obtain ⟨A7, c7, rfl, -, -, -, -⟩ := hO7.form
      clear c1 hO7 hP
      obtain ⟨f2, hf2, hP⟩ : ∃ f2 : Int → Rec, f2 a0 = ⟨a0, 0, 1, x0, true⟩ ∧ PS _ w7 p b _ f2 ks := ⟨_, if_pos rfl, hP7⟩
      obtain ⟨ab, ao, rfl, hc6⟩ := IL.N0 hil6
      clear hP7 hil6
      go_wp2_with fail
      refine (forget_ok hP a0 w0 hin (by rw [hf2])).mono ?_
      rintro e w8 ⟨rfl, hP8, hk8⟩
      have hbz8 := hP.lt.2
      replace hb := hb.trans (hk8.below (B := w.heap.size) hb.size (fun i hi e => by omega))
      replace hil := hil.kept hk8 (fun ad e _ e2 => by cases e; exact hlbb e2)
      have hkn2 : a0 + 256 ∉ ks.erase a0 := fun h => hkn (hnd.mem_erase_iff.1 h).2
      have hE2 : goE (ks.erase a0) (a0 + 256) 0 1 (ga 1) = 0 := by
        rw [goE_ga (by omega) (by omega) hkn2, if_neg (by rw [List.length_erase_of_mem hin, hkl.out]; omega)]
      have c1 := go_ok hP8 hNm2 (a0 + 256) 0 1 (some ⟨lb, 0, none⟩) 1 (ga 1) hil ga_wl hkw hE2
      clear hP hkn2 hE2
      go_wp2_with fail
      refine c1.mono ?_
      rintro e w9 ⟨rfl, x9, -, hP9, hk9⟩
      have hbz9 := hP8.lt.2
      replace hb := hb.trans (hk9.below (B := w.heap.size) hb.size (fun i hi e => by omega))
      clear c1 hP9
      go_wp2
      go_ret
      exact ⟨rfl, hb⟩

namespace moveFullDone
open Go.ChangeShapes Go.WideShapes Go.ChangeAt
set_option maxRecDepth 100000 in
theorem lifted (os : Os) (started : os.Started) (H : Type) (enc : TypeId × Value → H) :
    ReturnsInHanded {} Try.checked os 5 .any (Rows.moveFullSpec.pre6 enc Try.prog Try.f5 Rows.moveFullRow.domain false) (Rows.moveFullSpec.post enc Try.prog Try.f5 false true false false) := by
  refine returnsInHanded_of_change_sized (C := Try.checked) own started (by kernel_rfl) Try.func5
    (ChangeSpec.witness6 (enc := enc) (C := Try.checked) false ⟨#[], #[Value.int .i64 0], []⟩ 8 (by kernel_rfl) (by kernel_rfl) (by kernel_rfl) (by kernel_rfl)) ?_
  intro W base args ds gs before hval0 hW hcnd hsz0 _
  have hsz : (DataW.weightsEach Try.prog (Try.f5.params.toList ++ Rows.moveFullSpec.plain.varTypes Try.prog) (ds ++ gs)).all (· ≤ reachBytes) = true := hsz0
  clear hsz0
  have hval : ∀ (j : Nat) t v, Try.f5.params[j]? = some t → args[j]? = some v → Value.okWide Try.prog W .any base t v := hval0
  have hW' := hW
  obtain ⟨p, q, hA0, hV, rfl, hfz, hnd⟩ := hW
  have hA : DataW.TrodAll enc Try.prog W 0 (fun _ => true) true Try.f5.params.toList args.toList ds p := hA0
  rw [Try.params5] at hA hval hsz
  obtain ⟨v0, vs0, d0, ds0, p0, q0, hargs, rfl, rfl, h0, r0⟩ := trodAll_cons hA
  obtain ⟨rfl, rfl, rfl⟩ := trodAll_nil r0
  obtain rfl : args = #[v0] := by cases args; simp_all
  obtain ⟨rfl, rfl⟩ := trodVars_none hV
  obtain ⟨a0, rfl, rfl, rfl, w0⟩ := open_int Try.underlying3 (hval 0 3 v0 rfl rfl) h0
  clear hA0 hval0
  refine (moveFull_walk (w := W) a0 w0).mono fun e W' ⟨he, bel⟩ => ?_
  subst he
  exact ⟨_, rfl, _, _, _, [], _, [], hW', trodAll_mk1 (shut_bool Try.underlying4 _), (trodAll_cons_mk (shut_int Try.underlying3 w0) trodAll_mk0), rfl, bel.frame _, fun h => by cases h⟩

theorem over : Rows.moveFullRow.holds Try.pinned (OpenSpec.ofChange Rows.moveFullSpec) :=
  OpenClaim.holds_of_wide 5 Try.f5 rfl rfl rfl rfl rfl rfl rfl ⟨rfl, rfl, rfl, rfl, rfl⟩ rfl rfl rfl rfl rfl (by kernel_rfl) Try.func5 (by kernel_rfl)
    (of_decide_eq_true (by kernel_rfl)) (by unfold Func.isWrapper; first | (rw [if_pos (by decide +kernel)]; kernel_rfl) | (rw [if_neg (by decide +kernel)]; exact ⟨rfl, rfl⟩))
    (fun os started H enc _ => lifted os started H enc)

/-- The statement. -/
theorem proved : Rows.MoveFullSaid := over
end moveFullDone
end Go.Proofs.Ytflbpagkmkbgcaa
