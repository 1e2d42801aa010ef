/- 'CellsSplits' returns true for every input whose parts are together at most 1048576 values: the second row of this law, proved. Its condition: that bound. -/
import Derived.Test.YtebgoaiinjmbiaaRefSplit
import Derived.ProofKit
import Derived.OpenShut
import Derived.ShutString
import Derived.ChangeOld
import Derived.JoinedCond
namespace Go.Proofs.Ytebgoaiinjmbiaa
open Go.RowKit
set_option linter.unusedVariables false
set_option linter.unusedSimpArgs false
theorem ft_cell {l : List UInt8} {k m : Nat} (h : ft l = some (k, m)) : numCell (m : Int) = l.take k ∧ k + m ≤ l.length := by
  have hle := ft_le h
  unfold ft at h
  cases hf : first l with
  | none => rw [hf] at h; cases h
  | some p =>
    obtain ⟨z, q⟩ := p
    rw [hf] at h
    simp only at h
    split at h
    · cases h
    · rename_i hn
      injection h with h
      injection h with h1 h2
      have hs := first_some hf
      have hz : (m : Int) = z := by omega
      rw [hz, ← h1]
      exact ⟨hs.2.2.1, by omega⟩
theorem splF_join : ∀ (f : Nat) (l : List UInt8) (ls : List (List UInt8)), splF f l = some ls → joinL ls = l
  | 0, l, ls, h => by
    rw [splF] at h
    split at h
    · rename_i h0
      injection h with h
      subst h
      subst h0
      rfl
    · cases h
  | f + 1, l, ls, h => by
    by_cases h0 : l = []
    · subst h0
      rw [splF_nil] at h
      injection h with h
      subst h
      rfl
    · cases hf : ft l with
      | none => rw [splF_none h0 hf] at h; cases h
      | some p =>
        obtain ⟨k, m⟩ := p
        rw [splF_some h0 hf] at h
        cases hr : splF f (l.drop (k + m)) with
        | none => rw [hr] at h; cases h
        | some r =>
          rw [hr] at h
          injection h with h
          subst h
          have ih := splF_join f _ r hr
          obtain ⟨h1, h2⟩ := ft_cell hf
          have hlen : ((l.drop k).take m).length = m := by rw [List.length_take, List.length_drop]; omega
          show (numCell ((((l.drop k).take m).length : Nat) : Int) ++ (l.drop k).take m) ++ joinL r = l
          rw [hlen, h1, ih, List.append_assoc, ← List.drop_drop, List.take_append_drop, List.take_append_drop]
theorem splOf_join {l : List UInt8} {ls : List (List UInt8)} (h : splOf l = some ls) : joinL ls = l := splF_join _ _ _ h
theorem joinL_ge (ls : List (List UInt8)) : ls.length ≤ (joinL ls).length := by
  induction ls with
  | nil => simp [joinL]
  | cons t r ih =>
    have h1 := (numCell_len (t.length : Int)).1
    have e : joinL (t :: r) = (numCell t.length ++ t) ++ joinL r := rfl
    rw [e, List.length_append, List.length_append, List.length_cons]
    omega
theorem RR.kept {S : Nat → Prop} {w w' : World} {A : Option Addr} {n : Nat} {ls : List (List UInt8)} (h : RR w A n ls) (hb : Below w.heap.size w w') : RR w' A n ls := h.below hb

set_option maxRecDepth 100000 in
set_option maxHeartbeats 3200000 in
theorem cellsSplits_walk {w : World} (A1 : Option Addr) (n1 c1 : Nat) (l1 : List UInt8) (hr1 : RB w A1 n1 l1) (hc1 : n1 ≤ c1) (hm1 : c1 ≤ 9223372036854775807) (hl1 : c1 ≤ 1048576) :
    Calls Try.prog 4 #[.slice A1 n1 c1] w fun e w' => e = .returned (.bool true) ∧ Below w.heap.size w w' := by
  have HL1 := Lib.hid hr1.1
  have hE : OB w.heap.size (w.alloc (.cells #[] 5)) (.slice (some ⟨w.heap.size, 0, none⟩) 0 0) [] := by
    simpa using OB.built w.heap.size w [] (Nat.le_refl _) (by simp [maxLen])
  have hb0 : Below w.heap.size w (w.alloc (.cells #[] 5)) := (Below.refl _ _).alloc (Nat.le_refl _) _
  go_enter Try.func4, Try.ntmps4
  go_wp2_with (at_builtin; refine wpApp rfl (.tmp 9) (.tmp 10) rfl w.heap.size (.slice (some ⟨w.heap.size, 0, none⟩) 0 0) [] rfl hE A1 n1 c1 l1 rfl (hr1.below hb0) (by simp; omega) (by simp) ?_; intro v2 w2 hg2; have ho2 := hg2.own; have hb2 := Keep.past hb0 hg2.keep (fun i hi h => by simp [Value.ownBlock] at h; omega); rw [List.nil_append] at ho2; clear hg2; obtain ⟨A3, c3, rfl, hl3, hm3, hr3, _⟩ := ho2.formN HL1.out)
  have hm3' : c3 ≤ 9223372036854775807 := by unfold maxLen at hm3; exact hm3
  clear ho2 hE hb0 hm3
  refine (split_any A3 n1 c3 l1 _ hr3 hl3 (by omega) hm3').mono ?_
  rintro e w3 ⟨v3, z3, rfl, hk3, hp3⟩
  have hb3 := Keep.past hb2 hk3 fun _ _ h => h
  have hr33 := hr3.kept hk3 fun _ _ => id
  have hz23 := hk3.size
  clear hk3 hr3 hb2
  go_wp2_with fail
  refine (refSplit_any A1 n1 c1 l1 _ (hr1.below hb3) hc1 (by omega) hm1).mono ?_
  rintro e w4 ⟨v4, k4, rfl, hb4, hp4⟩
  have hB4 := hb3.trans (hb4.mono hb3.size)
  have hr34 := hr33.below hb4
  have hun : ∃ (ls : List (List UInt8)) (N : Nat), ls.length = N ∧ N ≤ n1 ∧ (∃ A c, v3 = .slice A N c ∧ RR w4 A N ls) ∧ (∃ A c, v4 = .slice A N c ∧ RR w4 A N ls) ∧ ((k4 = true ∧ z3 = 0 ∧ Hid (joinL ls = l1)) ∨ (k4 = false ∧ z3 = 10)) := by
    cases hs : splOf l1 with
    | none =>
      rw [hs] at hp3 hp4
      obtain ⟨rfl, rfl⟩ := hp3
      obtain ⟨rfl, rfl⟩ := hp4
      exact ⟨[], 0, rfl, by omega, ⟨none, 0, rfl, rfl, fun i l h => by simp at h⟩, ⟨none, 0, rfl, rfl, fun i l h => by simp at h⟩, .inr ⟨rfl, rfl⟩⟩
    | some ls =>
      rw [hs] at hp3 hp4
      obtain ⟨hL, rfl⟩ := hp3
      obtain ⟨⟨Ay, cy, rfl, hry⟩, rfl⟩ := hp4
      obtain ⟨Ax, cx, rfl, _, _⟩ := hL.form
      have hj := splOf_join hs
      refine ⟨ls, ls.length, rfl, ?_, ⟨Ax, cx, rfl, (RR.of_lb hL).below hb4⟩, ⟨Ay, cy, rfl, hry⟩, .inl ⟨rfl, rfl, Lib.hid hj⟩⟩
      have := joinL_ge ls
      rw [hj, HL1.out] at this
      exact this
  obtain ⟨ls, N, hN, hNn, ⟨Ax, cx, rfl, hrx⟩, ⟨Ay, cy, rfl, hry⟩, hq⟩ := hun
  have HN := Lib.hid hN
  clear hN hp3 hp4 hb3 hr33 hb4
  go_wp2_with fail
  --LIVES
  refine (lives_any w4).mono ?_
  rintro e w5 ⟨rfl, hb5⟩
  have hB5 := hB4.trans (hb5.mono hB4.size)
  have hrx5 := hrx.below hb5
  have hry5 := hry.below hb5
  have hco := run_str w5 A3 n1 c3 l1 (hr34.below hb5)
  have hcb := run_str w5 A1 n1 c1 l1 (hr1.below hB5)
  have hSL : ∃ SL : ByteArray, Hid ((⟨l1.toArray⟩ : ByteArray) = SL) := ⟨_, Lib.hid rfl⟩
  obtain ⟨SL, HSL⟩ := hSL
  rw [HSL.out] at hco hcb
  clear hr34 hrx hry hb5 hB4
  rcases hq with ⟨rfl, rfl, HJ⟩ | ⟨rfl, rfl⟩
  all_goals
    go_wp2_with fail
    --LOOP
    go_loopw [8] (fun iv wr => ∃ i q : Nat, i ≤ N ∧ iv = .int .i64 (i : Int) ∧ wr = w5.drewN q)
      (fun iv _ => N - (intOf iv).toNat)
    case atStart => exact ⟨0, 0, by omega, rfl, rfl⟩
    case round =>
      obtain ⟨i, q, hik, rfl, rfl⟩ := hrel
      clear hco hcb
      by_cases hlt : i < N
      · obtain ⟨l, hl⟩ : ∃ l, ls[i]? = some l := ⟨_, List.getElem?_eq_getElem (by rw [HN.out]; exact hlt)⟩
        obtain ⟨b, off, Ai, ni, ci, rfl, hci, hri, _, _⟩ := hrx5.2 i l hl
        obtain ⟨b2, off2, Aj, nj, cj, rfl, hcj, hrj, _, _⟩ := hry5.2 i l hl
        have hs1 := fun t => run_str (w5.drewN t) Ai ni ci l (hri.drewN t)
        have hs2 := fun t => run_str (w5.drewN t) Aj nj cj l (hrj.drewN t)
        generalize (⟨l.toArray⟩ : ByteArray) = SB at hs1 hs2
        clear hrx5 hry5 hri hrj hl
        go_wp2_with fail
        --CMP
        go_quiet (fail)
        go_wp2_with fail
        go_roundw
        case rel => exact ⟨i + 1, _, by omega, by go_num, rfl⟩
        case measure => simp [intOf]; omega
      · obtain rfl : i = N := by omega
        have hBq : Below w.heap.size w (w5.drewN q) := ⟨hB5.os, hB5.tape, hB5.output, hB5.size, hB5.block⟩
        first
        | (have hj := HJ.out
           have hrq : RR (w5.drewN q).drew Ax i ls := hrx5
           have hBd : Below w.heap.size w (w5.drewN q).drew := hBq.drew
           have hja := join_any Ax i cx ls (w5.drewN q).drew hrq (by omega) (by rw [hj, HL1.out]; omega)
           rw [hj] at hja
           have hcd := run_str (w5.drewN q).drew A1 n1 c1 l1 (hr1.below hBd)
           rw [HSL.out] at hcd
           clear hj hrx5 hry5
           go_wp2_with fail
           --R11
           refine wp_region_held_drew (S := (fun w' => (convert 23 9 (.slice A1 n1 c1)).run Try.prog w' = .ok (.string SL) w')) (by kernel_rfl) hcd (fun hHeld => ?_)
           refine wpAnyH_take (i := 0) (oi := ?oi0) (v := ?v0) ?hi0 (by kernel_rfl) (by kernel_rfl) (by kernel_rfl) ?hq0 (Or.inl ⟨?hw0, ?hy0⟩) (by assumption) ?rest0
           case hi0 => (simp only [List.getElem?_toArray, List.getElem?_cons_succ, List.getElem?_cons_zero]; rfl)
           case hq0 => exact fun _ _ _ h => h
           case hw0 => rfl
           case hy0 => (intro w hSw; (try dsimp only at hSw); go_simp <;> with_reducible rfl)
           try simp only [Act.put, List.setIfInBounds_toArray, List.set_cons_zero, List.set_cons_succ]
           refine wpAnyH_take (i := 1) (oi := ?oi1) (v := ?v1) ?hi1 (by kernel_rfl) (by kernel_rfl) (by kernel_rfl) ?hq1 (Or.inl ⟨?hw1, ?hy1⟩) (by assumption) ?rest1
           case hi1 => (simp only [List.getElem?_toArray, List.getElem?_cons_succ, List.getElem?_cons_zero]; rfl)
           case hq1 => exact fun _ _ _ h => h
           case hw1 => rfl
           case hy1 => (intro w hSw; (try dsimp only at hSw); go_simp <;> with_reducible rfl)
           try simp only [Act.put, List.setIfInBounds_toArray, List.set_cons_zero, List.set_cons_succ]
           refine wpAnyH_take (i := 2) (oi := ?oi2) (v := ?v2) ?hi2 (by kernel_rfl) (by kernel_rfl) (by kernel_rfl) ?hq2 (Or.inl ⟨?hw2, ?hy2⟩) (by assumption) ?rest2
           case hi2 => (simp only [List.getElem?_toArray, List.getElem?_cons_succ, List.getElem?_cons_zero]; rfl)
           case hq2 => exact fun _ _ _ h => h
           case hw2 => rfl
           case hy2 => (intro w hSw; (try dsimp only at hSw); go_simp <;> with_reducible rfl)
           try simp only [Act.put, List.setIfInBounds_toArray, List.set_cons_zero, List.set_cons_succ]
           refine wpAnyH_take (i := 3) (oi := ?oi3) (v := ?v3) ?hi3 (by kernel_rfl) (by kernel_rfl) (by kernel_rfl) ?hq3 (Or.inl ⟨?hw3, ?hy3⟩) (by assumption) ?rest3
           case hi3 => (simp only [List.getElem?_toArray, List.getElem?_cons_succ, List.getElem?_cons_zero]; rfl)
           case hq3 => exact fun _ _ _ h => h
           case hw3 => rfl
           case hy3 => (intro w hSw; (try dsimp only at hSw); go_simp <;> with_reducible rfl)
           try simp only [Act.put, List.setIfInBounds_toArray, List.set_cons_zero, List.set_cons_succ]
           refine wpAnyH_take (i := 6) (oi := ?oi6) (v := ?v6) ?hi6 (by kernel_rfl) (by kernel_rfl) (by kernel_rfl) ?hq6 (Or.inl ⟨?hw6, ?hy6⟩) (by assumption) ?rest6
           case hi6 => (simp only [List.getElem?_toArray, List.getElem?_cons_succ, List.getElem?_cons_zero]; rfl)
           case hq6 => exact fun _ _ _ h => h
           case hw6 => rfl
           case hy6 => (intro w hSw; (try dsimp only at hSw); go_simp <;> with_reducible rfl)
           try simp only [Act.put, List.setIfInBounds_toArray, List.set_cons_zero, List.set_cons_succ]
           refine wpAnyH_take (i := 7) (oi := ?oi7) (v := ?v7) ?hi7 (by kernel_rfl) (by kernel_rfl) (by kernel_rfl) ?hq7 (Or.inl ⟨?hw7, ?hy7⟩) (by assumption) ?rest7
           case hi7 => (simp only [List.getElem?_toArray, List.getElem?_cons_succ, List.getElem?_cons_zero]; rfl)
           case hq7 => exact fun _ _ _ h => h
           case hw7 => rfl
           case hy7 => (intro w hSw; (try dsimp only at hSw); go_simp <;> with_reducible rfl)
           try simp only [Act.put, List.setIfInBounds_toArray, List.set_cons_zero, List.set_cons_succ]
           refine wpAnyH_ready (rs := [4]) (by kernel_rfl) (by simp) ?_
           refine AllReadyH.cons (o := ?o4) ?hi4 (fun K hK => ?st4) AllReadyH.nil
           case hi4 => (simp only [List.getElem?_toArray, List.getElem?_cons_succ, List.getElem?_cons_zero]; rfl)
           go_simp
           refine hja.mono ?_
           rintro e w7 ⟨v7, rfl, ho7, hb7⟩
           obtain ⟨A7, c7, rfl, _, _, hr7, _⟩ := ho7.formN HL1.out
           have hB7 := hBd.trans (hb7.mono hBd.size)
           have hc7 := run_str w7 A7 n1 c7 l1 hr7
           rw [HSL.out] at hc7
           have hcb7 := run_str w7 A1 n1 c1 l1 (hr1.below hB7)
           rw [HSL.out] at hcb7
           try go_simp
           refine hK.out _ _ hcb7 (fun hHeld2 => ?_)
           clear hK K hHeld
           have hHeld := hHeld2
           clear hHeld2
           try simp only [Act.put, List.setIfInBounds_toArray, List.set_cons_zero, List.set_cons_succ]
           refine wpAnyH_ready (rs := [5]) (by kernel_rfl) (by simp) ?_
           refine AllReadyH.cons (o := ?o5) ?hi5 (fun K hK => ?st5) AllReadyH.nil
           case hi5 => (simp only [List.getElem?_toArray, List.getElem?_cons_succ, List.getElem?_cons_zero]; rfl)
           go_simp
           refine hK.out _ _ hcb7 (fun hHeld2 => ?_)
           clear hK K hHeld
           have hHeld := hHeld2
           clear hHeld2
           try simp only [Act.put, List.setIfInBounds_toArray, List.set_cons_zero, List.set_cons_succ]
           refine wpAnyH_take (i := 8) (oi := ?oi8) (v := ?v8) ?hi8 (by kernel_rfl) (by kernel_rfl) (by kernel_rfl) ?hq8 (Or.inl ⟨?hw8, ?hy8⟩) (by assumption) ?rest8
           case hi8 => (simp only [List.getElem?_toArray, List.getElem?_cons_succ, List.getElem?_cons_zero]; rfl)
           case hq8 => exact fun _ _ _ h => h
           case hw8 => rfl
           case hy8 => (intro w hSw; (try dsimp only at hSw); go_simp <;> with_reducible rfl)
           try simp only [Act.put, List.setIfInBounds_toArray, List.set_cons_zero, List.set_cons_succ]
           refine wpAnyH_take (i := 9) (oi := ?oi9) (v := ?v9) ?hi9 (by kernel_rfl) (by kernel_rfl) (by kernel_rfl) ?hq9 (Or.inl ⟨?hw9, ?hy9⟩) (by assumption) ?rest9
           case hi9 => (simp only [List.getElem?_toArray, List.getElem?_cons_succ, List.getElem?_cons_zero]; rfl)
           case hq9 => exact fun _ _ _ h => h
           case hw9 => rfl
           case hy9 => (intro w hSw; (try dsimp only at hSw); go_simp <;> with_reducible rfl)
           try simp only [Act.put, List.setIfInBounds_toArray, List.set_cons_zero, List.set_cons_succ]
           refine wpAnyH_take (i := 10) (oi := ?oi10) (v := ?v10) ?hi10 (by kernel_rfl) (by kernel_rfl) (by kernel_rfl) ?hq10 (Or.inl ⟨?hw10, ?hy10⟩) (by assumption) ?rest10
           case hi10 => (simp only [List.getElem?_toArray, List.getElem?_cons_succ, List.getElem?_cons_zero]; rfl)
           case hq10 => exact fun _ _ _ h => h
           case hw10 => rfl
           case hy10 => (intro w hSw; (try dsimp only at hSw); go_simp <;> with_reducible rfl)
           try simp only [Act.put, List.setIfInBounds_toArray, List.set_cons_zero, List.set_cons_succ]
           refine wpAnyH_done (by kernel_rfl) ?_ _
           go_wp2_with fail
           go_ret
           exact ⟨rfl, hB7⟩)
        | (clear hrx5 hry5
           go_wp2_with fail
           --R11B
           go_quiet (fail)
           go_wp2_with fail
           go_ret
           exact ⟨rfl, hBq.os, hBq.tape, hBq.output, hBq.size, hBq.block⟩)

namespace cellsSplitsUptoDone
open Go.ChangeShapes Go.WideShapes Go.ChangeAt
theorem some_bulk {H : Type} (d : DataW H) : 1 ≤ Rows.uptoBulk d := by
  cases d with
  | lit l => cases l <;> simp [Rows.uptoBulk]
  | _ => simp [Rows.uptoBulk]
theorem all_bulk {H : Type} : ∀ l : List (DataW H), l.length ≤ Rows.uptoBulkAll l
  | [] => Nat.zero_le _
  | d :: l => by
    have h1 := some_bulk d
    have h2 := all_bulk l
    simp only [Rows.uptoBulkAll, List.length_cons]
    omega
theorem cap_bulk {H : Type} {d : DataW H} {cap : Nat} (h : (d = .nil ∧ cap = 0) ∨ ∃ es sp, d = .slice es sp ∧ es.length + sp.length = cap) : cap ≤ Rows.uptoBulk d := by
  rcases h with ⟨_, rfl⟩ | ⟨es, sp, rfl, h⟩
  · exact Nat.zero_le _
  · have h1 := all_bulk es
    have h2 := all_bulk sp
    simp only [Rows.uptoBulk]
    omega
theorem contract (H : Type) (enc : TypeId × Value → H) (W : World) (base : Nat) (args : Array Value) (ds gs : List (DataW H)) (before : List MemPlace)
    (hval0 : ∀ (j : Nat) t v, Try.f4.params[j]? = some t → args[j]? = some v → Value.okWide Try.prog W .any base t v)
    (hW : DataW.Whole enc Try.prog Try.f4.params.toList Rows.cellsSplitsSpec.vars false W args.toList ds gs before) (hk : Rows.uptoSmall H (ds ++ gs) = true) :
    Calls Try.prog 4 args W fun e W' => ∃ v, e = .returned v ∧ Rows.cellsSplitsSpec.post enc Try.prog Try.f4 false true false false W args v W' := by
  have hval : ∀ (j : Nat) t v, Try.f4.params[j]? = some t → args[j]? = some v → Value.okWide Try.prog W .any base t v := hval0
  have hbulk : Rows.uptoBulkAll (ds ++ gs) ≤ 1048576 := of_decide_eq_true hk
  clear hk
  have hW' := hW
  obtain ⟨p, q, hA0, hV, rfl, hfz, hnd⟩ := hW
  have hA : DataW.TrodAll enc Try.prog W 0 (fun _ => true) true Try.f4.params.toList args.toList ds p := hA0
  rw [Try.params4] at hA hval
  obtain ⟨v0, vs0, d0, ds0, p0, q0, hargs, rfl, rfl, h0, r0⟩ := trodAll_cons hA
  obtain ⟨rfl, rfl, rfl⟩ := trodAll_nil r0
  obtain rfl : args = #[v0] := by cases args; simp_all
  obtain ⟨rfl, rfl⟩ := trodVars_none hV
  simp only [List.append_nil, Rows.uptoBulkAll] at hbulk
  obtain ⟨a0, len0, cap0, rfl⟩ := okWide_slice Try.underlying23 (hval 0 23 v0 rfl rfl)
  have k0 := h0
  have lt0 : ∀ x ∈ p0, x.block < W.heap.size := by obtain ⟨m, hm⟩ := k0; exact DataW.trod_lt m _ _ _ hm
  obtain ⟨z0, hr0, hc0, hm0, hd0⟩ := bytes_open h0
  have hl0 : cap0 ≤ 1048576 := by have := cap_bulk hd0; omega
  clear hA0 hval0
  refine (cellsSplits_walk (w := W) a0 len0 cap0 z0 hr0 hc0 hm0 hl0).mono fun e W' ⟨he, bel⟩ => ?_
  subst he
  exact ⟨_, rfl, _, _, _, [], _, [], hW', trodAll_mk1 (shut_bool Try.underlying4 _), (trodAll_cons_mk (Below.trod laidOut (by kernel_rfl) (of_decide_eq_true (by kernel_rfl)) k0 bel lt0) trodAll_mk0), rfl, bel.frame _, fun h => by cases h⟩

set_option maxRecDepth 100000 in
theorem lifted (os : Os) (started : os.Started) (H : Type) (enc : TypeId × Value → H) (F : Stop.Interp) :
    ReturnsInHanded {} Try.checked os 4 .any ((Rows.OpenSpec.upto Rows.cellsSplitsSpec).pre6 enc Try.prog Try.f4 Rows.cellsSplitsUptoRow.domain false) (((Rows.OpenSpec.upto Rows.cellsSplitsSpec).at F).post enc Try.prog Try.f4 false true false false) := by
  refine returnsInHanded_of_cond (C := Try.checked) (s := Rows.OpenSpec.upto Rows.cellsSplitsSpec) (k := Rows.uptoSmall) rfl own started (by kernel_rfl) Try.func4
    (OpenSpec.witness (enc := enc) (C := Try.checked) (s := Rows.OpenSpec.upto Rows.cellsSplitsSpec) (k := Rows.uptoSmall) rfl false ⟨#[], #[Value.slice none 0 0], []⟩ 8 (by kernel_rfl) (by kernel_rfl) (by kernel_rfl)
      (x := ([.nil], [], [])) (by kernel_rfl) rfl (by kernel_rfl)) ?_
  intro W base args ds gs before hval hW _ hk _
  exact contract H enc W base args ds gs before hval hW hk

/-- The statement. -/
theorem proved : Rows.CellsSplitsUptoSaid :=
  OpenClaim.holds_of_cond 4 Try.f4 rfl rfl rfl rfl rfl rfl rfl ⟨rfl, rfl, rfl, rfl, rfl⟩ rfl rfl rfl rfl rfl (by kernel_rfl) Try.func4 (by kernel_rfl)
    (of_decide_eq_true (by kernel_rfl)) (by unfold Func.isWrapper; first | (rw [if_pos (by decide +kernel)]; kernel_rfl) | (rw [if_neg (by decide +kernel)]; exact ⟨rfl, rfl⟩))
    (fun os started H enc _ F => lifted os started H enc F)
end cellsSplitsUptoDone
end Go.Proofs.Ytebgoaiinjmbiaa
