/- 'CrcEmpty' returns true for every input: the row of this law, proved. No condition. -/
import Derived.Test.YtianehamjjnhoaaCLaw
import Derived.Test.YtianehamjjnhoaaAll
import Derived.Laws.OwnMore
import Derived.ProofKit
import Derived.OpenShut
import Derived.ShutString
import Derived.ChangeOld
import Derived.SizedLaws
namespace Go.Proofs.Ytianehamjjnhoaa
open Go.RowKit
set_option linter.unusedVariables false
set_option linter.unusedSimpArgs false
theorem zeros_cells (n : Nat) : (madeCells (#[.int .u8 0] : Array Value) (n * 1)).toList = (List.replicate n (0 : UInt8)).map bv := by
  rw [Nat.mul_one, toList_madeCells_one, List.map_replicate]
  rfl
theorem run_make_zeros (w : World) (base n : Nat) (hb : base ≤ w.heap.size) (hn : n ≤ 140737488355328) :
    ∃ w', (Instr.makeSlice 23 (.int .i64 (n : Int)) (.int .i64 (n : Int))).run Try.prog w = .ok (.slice (some ⟨w.heap.size, 0, none⟩) n n) w' ∧ OB base w' (.slice (some ⟨w.heap.size, 0, none⟩) n n) (List.replicate n 0) ∧ Keep (fun _ => False) w w' := by
  obtain ⟨i, hi, hz, hs, hb1⟩ := info_parts u8_info
  obtain ⟨w', h1, h2, h3⟩ := run_make_full (P := Try.prog) w base 23 5 i (.int .u8 0) 1 Try.underlying23 hi hz hs .i64 .i64 n (by rw [hb1]; omega) (by simp only [maxLen]; omega) hb
  refine ⟨w', h1, ?_, (Keep.of_grown h3).mono fun k _ h => by cases h⟩
  have e := zeros_cells n
  show w'.ownsRow base 5 1 _ (List.replicate n (0 : UInt8)).length ((List.replicate n (0 : UInt8)).map bv)
  rw [← e, List.length_replicate]
  exact h2
theorem hval_zeros : hval [0, 0, 0, 0] = 0 := by decide
theorem opn_zeros (sl n : Nat) : opn sl (List.replicate n 0) = none := by
  unfold opn
  by_cases h : (List.replicate n (0 : UInt8)).length < 16
  · rw [if_pos h]
  · rw [if_neg h]
    rw [List.length_replicate] at h
    have : (List.replicate n (0 : UInt8)).take 4 = [0, 0, 0, 0] := by
      rw [List.take_replicate, Nat.min_eq_left (by omega)]
      rfl
    rw [this, hval_zeros, if_pos (by decide)]
theorem allOf_zeros (sl n : Nat) : allOf sl (List.replicate n 0) = ([], sl, 0) := allF_none (opn_zeros sl n)

set_option maxRecDepth 100000 in
set_option maxHeartbeats 1600000 in
theorem crcEmpty_walk {w : World} (a0 : Int) (w0 : (Lit.int .u64 a0).wf = true) (a1 : Int) (w1 : (Lit.int .i64 a1).wf = true) :
    Calls Try.prog 10 #[.int .u64 a0, .int .i64 a1] w fun e w' => e = .returned (.bool true) ∧ Below w.heap.size w w' := by
  obtain ⟨s, rfl, hs⟩ := nat_u64 w0
  have hw1 := wf_int w1
  by_cases hneg : a1 < 0
  · go_enter Try.func10, Try.ntmps10
    go_wp2_with fail
    refine (lives_any w).mono ?_
    rintro e w1 ⟨rfl, hb1⟩
    go_wp2_with fail
    go_ret
    exact ⟨rfl, hb1⟩
  by_cases hbig : 2000 < a1
  · go_enter Try.func10, Try.ntmps10
    go_wp2_with fail
    refine (lives_any w).mono ?_
    rintro e w1 ⟨rfl, hb1⟩
    go_wp2_with fail
    go_ret
    exact ⟨rfl, hb1⟩
  obtain ⟨n, rfl⟩ : ∃ n : Nat, a1 = (n : Int) := ⟨a1.toNat, by omega⟩
  have hn : n ≤ 2000 := by omega
  clear hw1 w1 hneg hbig
  go_enter Try.func10, Try.ntmps10
  go_wp2_with fail
  refine (new_any w).mono ?_
  rintro e w1 ⟨rfl, hk1, htb⟩
  have ht1 := TT.new htb
  have hg1 := ht1.lt
  obtain ⟨w2, hmk2, ho2, hk2⟩ := run_make_zeros w1 w1.heap.size n (Nat.le_refl _) (by omega)
  have hK2 : Keep (fun _ => False) w w2 := hk1.trans hk2 (fun _ _ h => h)
  have ht2 := ht1.kept hk2 id
  obtain ⟨_, _, hv2, hl2, hm2, hr2, had2⟩ := ho2.formN (N := n) (by simp)
  simp only [Value.slice.injEq, true_and] at hv2
  obtain ⟨rfl, rfl⟩ := hv2
  clear htb hk1 ho2 had2 ht1 hk2
  go_wp2_with fail
  clear hmk2
  refine (open_any w.heap.size s _ n n _ _ hs ht2 hr2 (Nat.le_refl _) (by omega) (fun _ ad h => by cases h; exact fun h => by simp at h; omega)).mono ?_
  rintro e w3 ⟨v3, m3, k3, rfl, hk3, ht3, hp3⟩
  rw [opn_zeros] at hp3
  obtain ⟨rfl, rfl, rfl⟩ := hp3
  have hK3 : Keep (fun k => k = w.heap.size) w w3 := (hK2.mono fun _ _ h => h.elim).trans hk3 (fun _ _ h => h)
  have hg3 := ht3.lt
  obtain ⟨w4, hmk4, ho4, hk4⟩ := run_make_zeros w3 w3.heap.size n (Nat.le_refl _) (by omega)
  have hK4 : Keep (fun k => k = w.heap.size) w w4 := hK3.trans hk4 (fun _ _ h => h.elim)
  have ht4 := ht3.kept hk4 id
  obtain ⟨_, _, hv4, hl4, hm4, hr4, had4⟩ := ho4.formN (N := n) (by simp)
  simp only [Value.slice.injEq, true_and] at hv4
  obtain ⟨rfl, rfl⟩ := hv4
  clear hk3 ho4 had4 ht3 hk4 hr2 ht2
  go_wp2_with fail
  clear hmk4
  --ALL
  refine (all_any w.heap.size s _ n n _ _ hs ht4 hr4 (Nat.le_refl _) (by omega) (by omega) (fun _ ad h => by cases h; exact fun h => by simp at h; omega)).mono ?_
  rintro e w5 ⟨v5, rfl, hL5, hk5, ht5⟩
  rw [allOf_zeros] at hL5 ⊢
  obtain ⟨A5, c5, hv5, _, _⟩ := hL5.form
  dsimp only at hv5 ⊢
  subst hv5
  have hK5 := hK4.trans hk5 (fun _ _ h => h)
  have hB5 : Below w.heap.size w w5 := hK5.below (Nat.le_refl _) fun i hi h => by omega
  clear hL5 hk5 ht5 hK5
  go_wp2_with fail
  refine (lives_any w5).mono ?_
  rintro e w6 ⟨rfl, hb6⟩
  have hB6 := hB5.trans (hb6.mono hB5.size)
  go_wp2_with fail
  go_ret
  exact ⟨rfl, hB6⟩

namespace crcEmptyDone
open Go.ChangeShapes Go.WideShapes Go.ChangeAt
set_option maxRecDepth 100000 in
theorem lifted (os : Os) (started : os.Started) (H : Type) (enc : TypeId × Value → H) :
    ReturnsInHanded {} Try.checked os 10 .any (Rows.crcEmptySpec.pre6 enc Try.prog Try.f10 Rows.crcEmptyRow.domain false) (Rows.crcEmptySpec.post enc Try.prog Try.f10 false true false false) := by
  refine returnsInHanded_of_change_sized (C := Try.checked) own started (by kernel_rfl) Try.func10
    (ChangeSpec.witness6 (enc := enc) (C := Try.checked) false ⟨#[], #[Value.int .u64 0, Value.int .i64 0], []⟩ 8 (by kernel_rfl) (by kernel_rfl) (by kernel_rfl) (by kernel_rfl)) ?_
  intro W base args ds gs before hval0 hW hcnd hsz0 _
  have hsz : (DataW.weightsEach Try.prog (Try.f10.params.toList ++ Rows.crcEmptySpec.plain.varTypes Try.prog) (ds ++ gs)).all (· ≤ reachBytes) = true := hsz0
  clear hsz0
  have hval : ∀ (j : Nat) t v, Try.f10.params[j]? = some t → args[j]? = some v → Value.okWide Try.prog W .any base t v := hval0
  have hW' := hW
  obtain ⟨p, q, hA0, hV, rfl, hfz, hnd⟩ := hW
  have hA : DataW.TrodAll enc Try.prog W 0 (fun _ => true) true Try.f10.params.toList args.toList ds p := hA0
  rw [Try.params10] at hA hval hsz
  obtain ⟨v0, vs0, d0, ds0, p0, q0, hargs, rfl, rfl, h0, r0⟩ := trodAll_cons hA
  obtain ⟨v1, vs1, d1, ds1, p1, q1, rfl, rfl, rfl, h1, r1⟩ := trodAll_cons r0
  obtain ⟨rfl, rfl, rfl⟩ := trodAll_nil r1
  obtain rfl : args = #[v0, v1] := by cases args; simp_all
  obtain ⟨rfl, rfl⟩ := trodVars_none hV
  obtain ⟨a0, rfl, rfl, rfl, w0⟩ := open_int Try.underlying33 (hval 0 33 v0 rfl rfl) h0
  obtain ⟨a1, rfl, rfl, rfl, w1⟩ := open_int Try.underlying3 (hval 1 3 v1 rfl rfl) h1
  clear hA0 hval0
  refine (crcEmpty_walk (w := W) a0 w0 a1 w1).mono fun e W' ⟨he, bel⟩ => ?_
  subst he
  exact ⟨_, rfl, _, _, _, [], _, [], hW', trodAll_mk1 (shut_bool Try.underlying4 _), (trodAll_cons_mk (shut_int Try.underlying33 w0) (trodAll_cons_mk (shut_int Try.underlying3 w1) trodAll_mk0)), rfl, bel.frame _, fun h => by cases h⟩

theorem over : Rows.crcEmptyRow.holds Try.pinned (OpenSpec.ofChange Rows.crcEmptySpec) :=
  OpenClaim.holds_of_wide 10 Try.f10 rfl rfl rfl rfl rfl rfl rfl ⟨rfl, rfl, rfl, rfl, rfl⟩ rfl rfl rfl rfl rfl (by kernel_rfl) Try.func10 (by kernel_rfl)
    (of_decide_eq_true (by kernel_rfl)) (by unfold Func.isWrapper; first | (rw [if_pos (by decide +kernel)]; kernel_rfl) | (rw [if_neg (by decide +kernel)]; exact ⟨rfl, rfl⟩))
    (fun os started H enc _ => lifted os started H enc)

/-- The statement. -/
theorem proved : Rows.CrcEmptySaid := over
end crcEmptyDone
end Go.Proofs.Ytianehamjjnhoaa
