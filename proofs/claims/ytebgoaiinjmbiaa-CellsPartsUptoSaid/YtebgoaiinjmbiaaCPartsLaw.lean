/- 'CellsParts' returns true for every input whose parts are together at most 1048576 values: the second row of this law, proved. Its condition: that bound. -/
import Derived.Test.YtebgoaiinjmbiaaCParts1
import Derived.IntWalk
import Derived.ProofKit
import Derived.OpenShut
import Derived.ShutString
import Derived.ChangeOld
import Derived.JoinedCond
namespace Go.Proofs.Ytebgoaiinjmbiaa
open Go.RowKit
set_option linter.unusedVariables false
set_option linter.unusedSimpArgs false
theorem part_at {l : List UInt8} {m k i : Nat} (hi : i < k) : (partsL l m k)[i]? = some ((l.drop (i * m)).take m) := by
  unfold partsL
  rw [List.getElem?_map, List.getElem?_range hi]
  rfl
theorem mul_mono {i j m : Nat} (h : i ≤ j) : i * m ≤ j * m := Nat.mul_le_mul_right m h

set_option maxRecDepth 100000 in
theorem parts_none (A : Option Addr) (n c : Nat) (m : Int) (w : World) (h : m < 1) :
    Calls Try.prog 11 #[.slice A n c, .int .i64 m] w fun e w' => e = .returned (.slice none 0 0) ∧ w = w' := by
  go_enter Try.func11, Try.ntmps11
  go_wp2_with fail
  go_ret
  exact ⟨rfl, rfl⟩

set_option maxRecDepth 100000 in
set_option maxHeartbeats 3200000 in
theorem cellsParts_walk {w : World} (A1 : Option Addr) (n1 c1 : Nat) (l1 : List UInt8) (hr1 : RB w A1 n1 l1) (hc1 : n1 ≤ c1) (hm1 : c1 ≤ 9223372036854775807) (hl1 : c1 ≤ 1048576) (a1 : Int) (w1 : (Lit.int .i64 a1).wf = true) :
    Calls Try.prog 5 #[.slice A1 n1 c1, .int .i64 a1] w fun e w' => e = .returned (.bool true) ∧ Below w.heap.size w w' := by
  have hw1 := wf_int w1
  have HL := Lib.hid hr1.1
  by_cases hneg : a1 < 1
  · go_enter Try.func5, Try.ntmps5
    go_wp2_with fail
    refine (parts_none A1 n1 c1 a1 w hneg).mono ?_
    rintro e w2 ⟨rfl, rfl⟩
    go_wp2_with fail
    refine (lives_any w).mono ?_
    rintro e w2 ⟨rfl, hb2⟩
    go_wp2_with fail
    go_ret
    exact ⟨rfl, hb2⟩
  obtain ⟨m, rfl⟩ : ∃ m : Nat, a1 = (m : Int) := ⟨a1.toNat, by omega⟩
  have hm : 1 ≤ m := by omega
  have hm2 : m ≤ 9223372036854775807 := by omega
  clear hw1 w1 hneg
  go_enter Try.func5, Try.ntmps5
  go_wp2_with fail
  refine (parts_any A1 n1 c1 l1 m w hr1 hc1 (by omega) hm1 hm hm2).mono ?_
  rintro e w2 ⟨v2, k, rfl, hk1, hk2, hL2, hkp2⟩
  rw [HL.out] at hk1 hk2
  have hb2 : Below w.heap.size w w2 := hkp2.below (Nat.le_refl _) fun _ _ h => h
  obtain ⟨A2, c2, hv2, _, _⟩ := hL2.form
  rw [partsL_len] at hv2
  subst hv2
  have hkn : k ≤ n1 := by
    rcases Nat.eq_zero_or_pos k with h | h
    · omega
    · have h2 := hk2 h
      have h3 : (k - 1) * 1 ≤ (k - 1) * m := Nat.mul_le_mul_left _ hm
      omega
  go_wp2_with fail
  refine (lives_any w2).mono ?_
  rintro e w3 ⟨rfl, hb3⟩
  have hB3 := hb2.trans (hb3.mono hb2.size)
  have hL3 := hL2.kept (Keep.of_below hb3) (fun g _ hl h => by omega)
  obtain ⟨A2', c2', hv3, _, hel⟩ := hL3.form
  rw [partsL_len] at hv3
  simp only [Value.slice.injEq, true_and] at hv3
  obtain ⟨rfl, rfl⟩ := hv3
  have hr3 := hr1.below hB3
  have HK1 := Lib.hid hk1
  have HK2 := Lib.hid hk2
  clear hL2 hL3 hb2 hb3 hkp2 hk1 hk2
  by_cases h0 : n1 = 0
  · obtain rfl : k = 0 := by
      rcases Nat.eq_zero_or_pos k with h | h
      · exact h
      · have := HK2.out h
        omega
    subst h0
    go_wp2_with fail
    go_ret
    exact ⟨rfl, hB3⟩
  have d0 : ((n1 : Int) == 0) = false := by simp; omega
  have d00 : (n1 == 0) = false := by simp; omega
  go_wp2_with fail
  --LOOP
  go_loopw [6, 7] (fun av iv wr => ∃ i a q : Nat, i ≤ k ∧ a ≤ n1 ∧ Hid (a = min (i * m) n1) ∧ iv = .int .i64 (i : Int) ∧ av = .int .i64 (a : Int) ∧ wr = w3.drewN q)
    (fun _ iv _ => k - (intOf iv).toNat)
  case atStart => exact ⟨0, 0, 0, by omega, by omega, Lib.hid (by simp), rfl, rfl, rfl⟩
  case round =>
    obtain ⟨i, a, q0, hik, ha, HA, rfl, rfl, rfl⟩ := hrel
    by_cases hlt : i < k
    · obtain ⟨b, off, x, rfl, hcx, hox⟩ := hel i _ (part_at hlt)
      have him : i * m < n1 := Nat.lt_of_le_of_lt (mul_mono (by omega)) (HK2.out (by omega))
      have hai : a = i * m := by have := HA.out; omega
      obtain ⟨q, hq⟩ : ∃ q, q = ((l1.drop (i * m)).take m).length := ⟨_, rfl⟩
      have hq2 : q = min m (n1 - i * m) := by rw [hq, List.length_take, List.length_drop, HL.out]
      obtain ⟨Ax, cx, rfl, _, _, hrx, _⟩ := hox.formN (N := q) hq.symm
      have hsame : (l1.drop a).take q = (l1.drop (i * m)).take m := by
        rw [hai, hq]
        exact (List.take_eq_take_iff.2 (by rw [List.length_take]; omega))
      have hrb := (hr3.sub a ha hc1).take q (by omega)
      rw [hsame] at hrb
      have hs1 := fun t => run_str (w3.drewN t) Ax q cx _ (hrx.drewN t)
      have hs2 := fun t => run_str (w3.drewN t) (subA A1 c1 a) q (c1 - a) _ (hrb.drewN t)
      generalize (⟨((l1.drop (i * m)).take m).toArray⟩ : ByteArray) = SB at hs1 hs2
      have hx := fun W : World => run_win W A1 n1 c1 (a : Int) ((a : Int) + (q : Int)) (by omega) (by omega) (by omega)
      have e1 : ((a : Int) + (q : Int)).toNat = a + q := by omega
      rw [e1] at hx
      simp only [Int.toNat_natCast, Nat.add_sub_cancel_left] at hx
      have p1 := IntWalk.i64_in ((a : Int) + (q : Int)) ⟨by omega, by omega⟩
      have p2 := IntWalk.i64_in ((k : Int) - 1) ⟨by omega, by omega⟩
      have p3 := IntWalk.i64_in ((n1 : Int) - (a : Int)) ⟨by omega, by omega⟩
      have d1 : decide ((q : Int) < 1) = false := by simp; omega
      have d2 : decide ((m : Int) < (q : Int)) = false := by simp; omega
      have d2' : ¬ m < q := by omega
      have d4 : decide ((n1 : Int) - (a : Int) < (q : Int)) = false := by simp; omega
      have HN : Hid (a + q = min ((i + 1) * m) n1) := Lib.hid (by rw [Nat.succ_mul]; omega)
      have hlast : q < m → decide ((i : Int) < (k : Int) - 1) = false := fun h => by
        have : ¬ i < k - 1 := fun hi => by
          have h1 : (i + 1) * m ≤ (k - 1) * m := mul_mono (by omega)
          have h2 := HK2.out (by omega)
          rw [Nat.succ_mul] at h1
          omega
        simp; omega
      clear hel hrx hrb hox hsame hq hq2 e1 hai him
      by_cases hqm : q < m
      · have d3 := hlast hqm
        have d5 : decide ((q : Int) < (m : Int)) = true := by simp; omega
        clear hlast
        go_wp2_with fail
        --QUIET
        go_quiet (fail)
        go_wp2_with fail
        go_roundw
        case rel => exact ⟨i + 1, a + q, _, by omega, by have := HN.out; omega, HN, by go_num, by go_num, rfl⟩
        case measure => simp [intOf]; omega
      · have d5 : decide ((q : Int) < (m : Int)) = false := by simp; omega
        clear hlast
        go_wp2_with fail
        go_quiet (fail)
        go_wp2_with fail
        go_roundw
        case rel => exact ⟨i + 1, a + q, _, by omega, by have := HN.out; omega, HN, by go_num, by go_num, rfl⟩
        case measure => simp [intOf]; omega
    · obtain rfl : i = k := by omega
      have han : a = n1 := by have := HA.out; have := HK1.out; omega
      have hBq : Below w.heap.size w (w3.drewN q0) := ⟨hB3.os, hB3.tape, hB3.output, hB3.size, hB3.block⟩
      subst han
      clear hel
      go_wp2_with fail
      go_ret
      exact ⟨rfl, hBq⟩

namespace cellsPartsUptoDone
open Go.ChangeShapes Go.WideShapes Go.ChangeAt
theorem some_bulk {H : Type} (d : DataW H) : 1 ≤ Rows.uptoBulk d := by
  cases d with
  | lit l => cases l <;> simp [Rows.uptoBulk]
  | _ => simp [Rows.uptoBulk]
theorem all_bulk {H : Type} : ∀ l : List (DataW H), l.length ≤ Rows.uptoBulkAll l
  | [] => Nat.zero_le _
  | d :: l => by
    have h1 := some_bulk d
    have h2 := all_bulk l
    simp only [Rows.uptoBulkAll, List.length_cons]
    omega
theorem cap_bulk {H : Type} {d : DataW H} {cap : Nat} (h : (d = .nil ∧ cap = 0) ∨ ∃ es sp, d = .slice es sp ∧ es.length + sp.length = cap) : cap ≤ Rows.uptoBulk d := by
  rcases h with ⟨_, rfl⟩ | ⟨es, sp, rfl, h⟩
  · exact Nat.zero_le _
  · have h1 := all_bulk es
    have h2 := all_bulk sp
    simp only [Rows.uptoBulk]
    omega
theorem contract (H : Type) (enc : TypeId × Value → H) (W : World) (base : Nat) (args : Array Value) (ds gs : List (DataW H)) (before : List MemPlace)
    (hval0 : ∀ (j : Nat) t v, Try.f5.params[j]? = some t → args[j]? = some v → Value.okWide Try.prog W .any base t v)
    (hW : DataW.Whole enc Try.prog Try.f5.params.toList Rows.cellsPartsSpec.vars false W args.toList ds gs before) (hk : Rows.uptoSmall H (ds ++ gs) = true) :
    Calls Try.prog 5 args W fun e W' => ∃ v, e = .returned v ∧ Rows.cellsPartsSpec.post enc Try.prog Try.f5 false true false false W args v W' := by
  have hval : ∀ (j : Nat) t v, Try.f5.params[j]? = some t → args[j]? = some v → Value.okWide Try.prog W .any base t v := hval0
  have hbulk : Rows.uptoBulkAll (ds ++ gs) ≤ 1048576 := of_decide_eq_true hk
  clear hk
  have hW' := hW
  obtain ⟨p, q, hA0, hV, rfl, hfz, hnd⟩ := hW
  have hA : DataW.TrodAll enc Try.prog W 0 (fun _ => true) true Try.f5.params.toList args.toList ds p := hA0
  rw [Try.params5] at hA hval
  obtain ⟨v0, vs0, d0, ds0, p0, q0, hargs, rfl, rfl, h0, r0⟩ := trodAll_cons hA
  obtain ⟨v1, vs1, d1, ds1, p1, q1, rfl, rfl, rfl, h1, r1⟩ := trodAll_cons r0
  obtain ⟨rfl, rfl, rfl⟩ := trodAll_nil r1
  obtain rfl : args = #[v0, v1] := by cases args; simp_all
  obtain ⟨rfl, rfl⟩ := trodVars_none hV
  simp only [List.append_nil, Rows.uptoBulkAll] at hbulk
  obtain ⟨a0, len0, cap0, rfl⟩ := okWide_slice Try.underlying23 (hval 0 23 v0 rfl rfl)
  have k0 := h0
  have lt0 : ∀ x ∈ p0, x.block < W.heap.size := by obtain ⟨m, hm⟩ := k0; exact DataW.trod_lt m _ _ _ hm
  obtain ⟨z0, hr0, hc0, hm0, hd0⟩ := bytes_open h0
  have hl0 : cap0 ≤ 1048576 := by have := cap_bulk hd0; omega
  obtain ⟨a1, rfl, rfl, rfl, w1⟩ := open_int Try.underlying3 (hval 1 3 v1 rfl rfl) h1
  clear hA0 hval0
  refine (cellsParts_walk (w := W) a0 len0 cap0 z0 hr0 hc0 hm0 hl0 a1 w1).mono fun e W' ⟨he, bel⟩ => ?_
  subst he
  exact ⟨_, rfl, _, _, _, [], _, [], hW', trodAll_mk1 (shut_bool Try.underlying4 _), (trodAll_cons_mk (Below.trod laidOut (by kernel_rfl) (of_decide_eq_true (by kernel_rfl)) k0 bel lt0) (trodAll_cons_mk (shut_int Try.underlying3 w1) trodAll_mk0)), rfl, bel.frame _, fun h => by cases h⟩

set_option maxRecDepth 100000 in
theorem lifted (os : Os) (started : os.Started) (H : Type) (enc : TypeId × Value → H) (F : Stop.Interp) :
    ReturnsInHanded {} Try.checked os 5 .any ((Rows.OpenSpec.upto Rows.cellsPartsSpec).pre6 enc Try.prog Try.f5 Rows.cellsPartsUptoRow.domain false) (((Rows.OpenSpec.upto Rows.cellsPartsSpec).at F).post enc Try.prog Try.f5 false true false false) := by
  refine returnsInHanded_of_cond (C := Try.checked) (s := Rows.OpenSpec.upto Rows.cellsPartsSpec) (k := Rows.uptoSmall) rfl own started (by kernel_rfl) Try.func5
    (OpenSpec.witness (enc := enc) (C := Try.checked) (s := Rows.OpenSpec.upto Rows.cellsPartsSpec) (k := Rows.uptoSmall) rfl false ⟨#[], #[Value.slice none 0 0, Value.int .i64 0], []⟩ 8 (by kernel_rfl) (by kernel_rfl) (by kernel_rfl)
      (x := ([.nil, .lit (.int .i64 0)], [], [])) (by kernel_rfl) rfl (by kernel_rfl)) ?_
  intro W base args ds gs before hval hW _ hk _
  exact contract H enc W base args ds gs before hval hW hk

/-- The statement. -/
theorem proved : Rows.CellsPartsUptoSaid :=
  OpenClaim.holds_of_cond 5 Try.f5 rfl rfl rfl rfl rfl rfl rfl ⟨rfl, rfl, rfl, rfl, rfl⟩ rfl rfl rfl rfl rfl (by kernel_rfl) Try.func5 (by kernel_rfl)
    (of_decide_eq_true (by kernel_rfl)) (by unfold Func.isWrapper; first | (rw [if_pos (by decide +kernel)]; kernel_rfl) | (rw [if_neg (by decide +kernel)]; exact ⟨rfl, rfl⟩))
    (fun os started H enc _ F => lifted os started H enc F)
end cellsPartsUptoDone
end Go.Proofs.Ytebgoaiinjmbiaa
