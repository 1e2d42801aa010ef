/- 'CellsFirsts' returns true for every input: the row of this law, proved. No condition. -/
import Derived.Test.YtdelbddgaekkaaaLaw
import Derived.ProofKit
import Derived.OpenShut
import Derived.ShutString
import Derived.ChangeOld
import Derived.SizedLaws
namespace Go.Proofs.Ytdelbddgaekkaaa
open Go.RowKit
set_option linter.unusedVariables false
set_option linter.unusedSimpArgs false
set_option maxRecDepth 100000 in
set_option maxHeartbeats 1600000 in
theorem cellsFirsts_none {w : World} (A : Option Addr) (len cap : Nat) (l : List UInt8) (hr : RB w A len l) (hc : len ≤ cap) (hm : cap ≤ 9223372036854775807) (hl : cap ≤ 140737488351232) (HF : Hid (first l = none)) :
    Calls Try.prog 4 #[.slice A len cap] w fun e w' => e = .returned (.bool true) ∧ Below w.heap.size w w' := by
  have hln := hr.1
  go_enter Try.func4, Try.ntmps4
  go_wp2_with (at_builtin; refine wpApp rfl (.tmp 9) (.tmp 10) rfl w.heap.size _ [] rfl (OB.built w.heap.size w [] (Nat.le_refl _) (by simp [maxLen])) A len cap l rfl (hr.alloc _) (by simp; omega) (by simp) ?_; intro v2 w2 hg2; have hb2 := ((Below.refl w.heap.size w).alloc (Nat.le_refl _) (.cells #[] 5)).trans (hg2.below (OB.built w.heap.size w [] (Nat.le_refl _) (by simp [maxLen])) (by simp)); obtain ⟨A2, c2, hv2, hl2, hm2, hr2, had2⟩ := hg2.own.form; clear hg2; subst hv2)
  have hr2' : RB w2 A2 len l := by
    have := hr2
    rw [List.nil_append, hln] at this
    exact this
  have hl2' : len ≤ c2 := by
    have := hl2
    rw [List.nil_append, hln] at this
    exact this
  have hs2 := hb2.size
  clear hr2 hl2 had2
  refine (first_any A2 len c2 l w2 hr2' hl2' hm2).mono ?_
  rintro e w3 ⟨rfl, rfl⟩
  rw [HF.out, firstV]
  go_wp2_with fail
  refine (refFirst_any A len cap l w2 (hr.below hb2) hc hm).mono ?_
  rintro e w3 ⟨rfl, hb3⟩
  rw [HF.out, refFirstV]
  have hr3 := hr2'.below hb3
  have hb3' := hb2.trans (hb3.mono hs2)
  have hs3 := hb3'.size
  clear hb2 hb3 hr2'
  go_wp2_with (go_at_call 15; refine (lives_any _).mono ?_; rintro e w5 ⟨rfl, hb5⟩; have hb5' := hb3'.trans (hb5.mono hs3); have hc51 := run_str w5 A2 len c2 l (hr3.below hb5); have hc52 := run_str w5 A len cap l (hr.below hb5'))
  go_quiet (fail)
  go_wp2
  go_ret
  exact ⟨rfl, Below.drewN hb5' _⟩

set_option maxRecDepth 100000 in
set_option maxHeartbeats 1600000 in
theorem cellsFirsts_some {w : World} (A : Option Addr) (len cap : Nat) (l : List UInt8) (hr : RB w A len l) (hc : len ≤ cap) (hm : cap ≤ 9223372036854775807) (hl : cap ≤ 140737488351232) (z : Int) (k : Nat) (HF : Hid (first l = some (z, k))) (HZ : Hid (-9223372036854775808 ≤ z ∧ z ≤ 9223372036854775807)) (hk0 : 1 ≤ k) (hkl : k ≤ len) (hpre : Hid (numCell z = l.take k)) :
    Calls Try.prog 4 #[.slice A len cap] w fun e w' => e = .returned (.bool true) ∧ Below w.heap.size w w' := by
  have hpe : (numCell z == l.take k) = true := by rw [hpre.out]; simp
  have hkd : decide ((0 : Int) < (k : Int)) = true := decide_eq_true (by omega)
  have hkz : ((k : Int) == 0) = false := by simp; omega
  have hkc : (k : Int) ≤ (cap : Int) := by omega
  have hln := hr.1
  go_enter Try.func4, Try.ntmps4
  go_wp2_with (at_builtin; refine wpApp rfl (.tmp 9) (.tmp 10) rfl w.heap.size _ [] rfl (OB.built w.heap.size w [] (Nat.le_refl _) (by simp [maxLen])) A len cap l rfl (hr.alloc _) (by simp; omega) (by simp) ?_; intro v2 w2 hg2; have hb2 := ((Below.refl w.heap.size w).alloc (Nat.le_refl _) (.cells #[] 5)).trans (hg2.below (OB.built w.heap.size w [] (Nat.le_refl _) (by simp [maxLen])) (by simp)); obtain ⟨A2, c2, hv2, hl2, hm2, hr2, had2⟩ := hg2.own.form; clear hg2; subst hv2)
  have hr2' : RB w2 A2 len l := by
    have := hr2
    rw [List.nil_append, hln] at this
    exact this
  have hl2' : len ≤ c2 := by
    have := hl2
    rw [List.nil_append, hln] at this
    exact this
  have hs2 := hb2.size
  clear hr2 hl2 had2
  refine (first_any A2 len c2 l w2 hr2' hl2' hm2).mono ?_
  rintro e w3 ⟨rfl, rfl⟩
  rw [HF.out, firstV]
  go_wp2_with fail
  refine (refFirst_any A len cap l w2 (hr.below hb2) hc hm).mono ?_
  rintro e w3 ⟨rfl, hb3⟩
  rw [HF.out, refFirstV]
  have hr3 := hr2'.below hb3
  have hb3' := hb2.trans (hb3.mono hs2)
  have hs3 := hb3'.size
  clear hb2 hb3 hr2'
  go_wp2_with (go_at_call 15; refine (lives_any _).mono ?_; rintro e w5 ⟨rfl, hb5⟩; have hb5' := hb3'.trans (hb5.mono hs3); have hc51 := run_str w5 A2 len c2 l (hr3.below hb5); have hc52 := run_str w5 A len cap l (hr.below hb5'))
  have hc5 := run_str w5.drew A k cap _ (((hr.below hb5').take k hkl).drew)
  refine wp_region_held_drew (S := (fun w' => (convert 22 9 (.slice A k cap)).run Try.prog w' = .ok (.string ⟨(l.take k).toArray⟩) w')) (by kernel_rfl) hc5 (fun hHeld => ?_)
  refine wpAnyH_take (i := 0) (oi := ?oi0) (v := ?v0) ?hi0 (by kernel_rfl) (by kernel_rfl) (by kernel_rfl) ?hq0 (Or.inl ⟨?hw0, ?hy0⟩) (by assumption) ?rest0
  case hi0 => (simp only [List.getElem?_toArray, List.getElem?_cons_succ, List.getElem?_cons_zero]; rfl)
  case hq0 => exact fun _ _ _ h => h
  case hw0 => rfl
  case hy0 => (intro w hSw; (try dsimp only at hSw); go_simp <;> with_reducible rfl)
  try simp only [Act.put, List.setIfInBounds_toArray, List.set_cons_zero, List.set_cons_succ]
  refine wpAnyH_take (i := 1) (oi := ?oi1) (v := ?v1) ?hi1 (by kernel_rfl) (by kernel_rfl) (by kernel_rfl) ?hq1 (Or.inl ⟨?hw1, ?hy1⟩) (by assumption) ?rest1
  case hi1 => (simp only [List.getElem?_toArray, List.getElem?_cons_succ, List.getElem?_cons_zero]; rfl)
  case hq1 => exact fun _ _ _ h => h
  case hw1 => rfl
  case hy1 => (intro w hSw; (try dsimp only at hSw); go_simp <;> with_reducible rfl)
  try simp only [Act.put, List.setIfInBounds_toArray, List.set_cons_zero, List.set_cons_succ]
  refine wpAnyH_take (i := 2) (oi := ?oi2) (v := ?v2) ?hi2 (by kernel_rfl) (by kernel_rfl) (by kernel_rfl) ?hq2 (Or.inl ⟨?hw2, ?hy2⟩) (by assumption) ?rest2
  case hi2 => (simp only [List.getElem?_toArray, List.getElem?_cons_succ, List.getElem?_cons_zero]; rfl)
  case hq2 => exact fun _ _ _ h => h
  case hw2 => rfl
  case hy2 => (intro w hSw; (try dsimp only at hSw); go_simp <;> with_reducible rfl)
  try simp only [Act.put, List.setIfInBounds_toArray, List.set_cons_zero, List.set_cons_succ]
  refine wpAnyH_take (i := 3) (oi := ?oi3) (v := ?v3) ?hi3 (by kernel_rfl) (by kernel_rfl) (by kernel_rfl) ?hq3 (Or.inl ⟨?hw3, ?hy3⟩) (by assumption) ?rest3
  case hi3 => (simp only [List.getElem?_toArray, List.getElem?_cons_succ, List.getElem?_cons_zero]; rfl)
  case hq3 => exact fun _ _ _ h => h
  case hw3 => rfl
  case hy3 => (intro w hSw; (try dsimp only at hSw); go_simp <;> with_reducible rfl)
  try simp only [Act.put, List.setIfInBounds_toArray, List.set_cons_zero, List.set_cons_succ]
  refine wpAnyH_take (i := 6) (oi := ?oi6) (v := ?v6) ?hi6 (by kernel_rfl) (by kernel_rfl) (by kernel_rfl) ?hq6 (Or.inl ⟨?hw6, ?hy6⟩) (by assumption) ?rest6
  case hi6 => (simp only [List.getElem?_toArray, List.getElem?_cons_succ, List.getElem?_cons_zero]; rfl)
  case hq6 => exact fun _ _ _ h => h
  case hw6 => rfl
  case hy6 => (intro w hSw; (try dsimp only at hSw); go_simp <;> with_reducible rfl)
  try simp only [Act.put, List.setIfInBounds_toArray, List.set_cons_zero, List.set_cons_succ]
  refine wpAnyH_take (i := 7) (oi := ?oi7) (v := ?v7) ?hi7 (by kernel_rfl) (by kernel_rfl) (by kernel_rfl) ?hq7 (Or.inl ⟨?hw7, ?hy7⟩) (by assumption) ?rest7
  case hi7 => (simp only [List.getElem?_toArray, List.getElem?_cons_succ, List.getElem?_cons_zero]; rfl)
  case hq7 => exact fun _ _ _ h => h
  case hw7 => rfl
  case hy7 => (intro w hSw; (try dsimp only at hSw); go_simp <;> with_reducible rfl)
  try simp only [Act.put, List.setIfInBounds_toArray, List.set_cons_zero, List.set_cons_succ]
  refine wpAnyH_take (i := 8) (oi := ?oi8) (v := ?v8) ?hi8 (by kernel_rfl) (by kernel_rfl) (by kernel_rfl) ?hq8 (Or.inl ⟨?hw8, ?hy8⟩) (by assumption) ?rest8
  case hi8 => (simp only [List.getElem?_toArray, List.getElem?_cons_succ, List.getElem?_cons_zero]; rfl)
  case hq8 => exact fun _ _ _ h => h
  case hw8 => rfl
  case hy8 => (intro w hSw; (try dsimp only at hSw); go_simp <;> with_reducible rfl)
  try simp only [Act.put, List.setIfInBounds_toArray, List.set_cons_zero, List.set_cons_succ]
  refine wpAnyH_take (i := 9) (oi := ?oi9) (v := ?v9) ?hi9 (by kernel_rfl) (by kernel_rfl) (by kernel_rfl) ?hq9 (Or.inl ⟨?hw9, ?hy9⟩) (by assumption) ?rest9
  case hi9 => (simp only [List.getElem?_toArray, List.getElem?_cons_succ, List.getElem?_cons_zero]; rfl)
  case hq9 => exact fun _ _ _ h => h
  case hw9 => rfl
  case hy9 => (intro w hSw; (try dsimp only at hSw); go_simp <;> with_reducible rfl)
  try simp only [Act.put, List.setIfInBounds_toArray, List.set_cons_zero, List.set_cons_succ]
  refine wpAnyH_ready (rs := [4]) (by kernel_rfl) (by simp) ?_
  refine AllReadyH.cons (o := ?o4) ?hi4 (fun K hK => ?st4) AllReadyH.nil
  case hi4 => (simp only [List.getElem?_toArray, List.getElem?_cons_succ, List.getElem?_cons_zero]; rfl)
  go_simp
  refine (num_any z _ HZ.out.1 HZ.out.2).mono ?_
  rintro e w6 ⟨v6, rfl, hg6⟩
  have hb6 := hg6.fresh
  have hb6' := (Below.drew hb5').trans (hb6.mono hb5'.size)
  obtain ⟨A6, c6, hv6, hl6, hm6, hr6, had6⟩ := hg6.own.form
  clear hg6
  subst hv6
  have hc6 := run_str w6 A k cap _ ((hr.below hb6').take k hkl)
  have hc7 := run_str w6 A6 _ c6 _ hr6
  go_wp2_with fail
  refine hK.out _ _ hc6 (fun hHeld2 => ?_)
  clear hK K hHeld
  have hHeld := hHeld2
  clear hHeld2
  try simp only [Act.put, List.setIfInBounds_toArray, List.set_cons_zero, List.set_cons_succ]
  refine wpAnyH_ready (rs := [5]) (by kernel_rfl) (by simp) ?_
  refine AllReadyH.cons (o := ?o5) ?hi5 (fun K hK => ?st5) AllReadyH.nil
  case hi5 => (simp only [List.getElem?_toArray, List.getElem?_cons_succ, List.getElem?_cons_zero]; rfl)
  go_simp
  refine hK.out _ _ hc6 (fun hHeld2 => ?_)
  clear hK K hHeld
  have hHeld := hHeld2
  clear hHeld2
  try simp only [Act.put, List.setIfInBounds_toArray, List.set_cons_zero, List.set_cons_succ]
  refine wpAnyH_take (i := 10) (oi := ?oi10) (v := ?v10) ?hi10 (by kernel_rfl) (by kernel_rfl) (by kernel_rfl) ?hq10 (Or.inl ⟨?hw10, ?hy10⟩) (by assumption) ?rest10
  case hi10 => (simp only [List.getElem?_toArray, List.getElem?_cons_succ, List.getElem?_cons_zero]; rfl)
  case hq10 => exact fun _ _ _ h => h
  case hw10 => rfl
  case hy10 => (intro w hSw; (try dsimp only at hSw); go_simp <;> with_reducible rfl)
  try simp only [Act.put, List.setIfInBounds_toArray, List.set_cons_zero, List.set_cons_succ]
  refine wpAnyH_take (i := 11) (oi := ?oi11) (v := ?v11) ?hi11 (by kernel_rfl) (by kernel_rfl) (by kernel_rfl) ?hq11 (Or.inl ⟨?hw11, ?hy11⟩) (by assumption) ?rest11
  case hi11 => (simp only [List.getElem?_toArray, List.getElem?_cons_succ, List.getElem?_cons_zero]; rfl)
  case hq11 => exact fun _ _ _ h => h
  case hw11 => rfl
  case hy11 => (intro w hSw; (try dsimp only at hSw); go_simp <;> with_reducible rfl)
  try simp only [Act.put, List.setIfInBounds_toArray, List.set_cons_zero, List.set_cons_succ]
  refine wpAnyH_take (i := 12) (oi := ?oi12) (v := ?v12) ?hi12 (by kernel_rfl) (by kernel_rfl) (by kernel_rfl) ?hq12 (Or.inl ⟨?hw12, ?hy12⟩) (by assumption) ?rest12
  case hi12 => (simp only [List.getElem?_toArray, List.getElem?_cons_succ, List.getElem?_cons_zero]; rfl)
  case hq12 => exact fun _ _ _ h => h
  case hw12 => rfl
  case hy12 => (intro w hSw; (try dsimp only at hSw); go_simp <;> with_reducible rfl)
  try simp only [Act.put, List.setIfInBounds_toArray, List.set_cons_zero, List.set_cons_succ]
  refine wpAnyH_done (by kernel_rfl) ?_ _
  go_wp2
  go_ret
  exact ⟨rfl, hb6'⟩

theorem cellsFirsts_walk {w : World} (A : Option Addr) (len cap : Nat) (l : List UInt8) (hr : RB w A len l) (hc : len ≤ cap) (hm : cap ≤ 9223372036854775807) (hl : cap ≤ 140737488351232) :
    Calls Try.prog 4 #[.slice A len cap] w fun e w' => e = .returned (.bool true) ∧ Below w.heap.size w w' := by
  cases hf : first l with
  | none => exact cellsFirsts_none A len cap l hr hc hm hl hf
  | some p =>
    obtain ⟨z, k⟩ := p
    obtain ⟨h1, h2, h3, h4, h5⟩ := first_some hf
    exact cellsFirsts_some A len cap l hr hc hm hl z k hf ⟨h4, h5⟩ h1 (by rw [← hr.1]; exact h2) h3

namespace cellsFirstsDone
open Go.ChangeShapes Go.WideShapes Go.ChangeAt
set_option maxRecDepth 100000 in
theorem lifted (os : Os) (started : os.Started) (H : Type) (enc : TypeId × Value → H) :
    ReturnsInHanded {} Try.checked os 4 .any (Rows.cellsFirstsSpec.pre6 enc Try.prog Try.f4 Rows.cellsFirstsRow.domain false) (Rows.cellsFirstsSpec.post enc Try.prog Try.f4 false true false false) := by
  refine returnsInHanded_of_change_sized (C := Try.checked) own started (by kernel_rfl) Try.func4
    (ChangeSpec.witness6 (enc := enc) (C := Try.checked) false ⟨#[], #[Value.slice none 0 0], []⟩ 8 (by kernel_rfl) (by kernel_rfl) (by kernel_rfl) (by kernel_rfl)) ?_
  intro W base args ds gs before hval0 hW hcnd hsz0 _
  have hsz : (DataW.weightsEach Try.prog (Try.f4.params.toList ++ Rows.cellsFirstsSpec.plain.varTypes Try.prog) (ds ++ gs)).all (· ≤ reachBytes) = true := hsz0
  clear hsz0
  have hval : ∀ (j : Nat) t v, Try.f4.params[j]? = some t → args[j]? = some v → Value.okWide Try.prog W .any base t v := hval0
  have hW' := hW
  obtain ⟨p, q, hA0, hV, rfl, hfz, hnd⟩ := hW
  have hA : DataW.TrodAll enc Try.prog W 0 (fun _ => true) true Try.f4.params.toList args.toList ds p := hA0
  rw [Try.params4] at hA hval hsz
  obtain ⟨v0, vs0, d0, ds0, p0, q0, hargs, rfl, rfl, h0, r0⟩ := trodAll_cons hA
  obtain ⟨rfl, rfl, rfl⟩ := trodAll_nil r0
  obtain rfl : args = #[v0] := by cases args; simp_all
  obtain ⟨rfl, rfl⟩ := trodVars_none hV
  obtain ⟨a0, len0, cap0, rfl⟩ := okWide_slice Try.underlying22 (hval 0 22 v0 rfl rfl)
  have k0 := h0
  have lt0 : ∀ x ∈ p0, x.block < W.heap.size := by obtain ⟨m, hm⟩ := k0; exact DataW.trod_lt m _ _ _ hm
  obtain ⟨z0, hr0, hc0, hm0, hd0⟩ := bytes_open h0
  have hl0 : cap0 ≤ 140737488351232 := by
    rcases hd0 with ⟨_, h⟩ | ⟨es, sp, rfl, h⟩
    · omega
    · have := sized_slice hsz (j := 0) (t := 22) (e := 5) rfl rfl Try.underlying22
      rw [bytes_u8] at this
      simp only [reachBytes] at this
      omega
  clear hA0 hval0
  refine (cellsFirsts_walk (w := W) a0 len0 cap0 z0 hr0 hc0 hm0 hl0).mono fun e W' ⟨he, bel⟩ => ?_
  subst he
  exact ⟨_, rfl, _, _, _, [], _, [], hW', trodAll_mk1 (shut_bool Try.underlying4 _), (trodAll_cons_mk (Below.trod laidOut (by kernel_rfl) (of_decide_eq_true (by kernel_rfl)) k0 bel lt0) trodAll_mk0), rfl, bel.frame _, fun h => by cases h⟩

theorem over : Rows.cellsFirstsRow.holds Try.pinned (OpenSpec.ofChange Rows.cellsFirstsSpec) :=
  OpenClaim.holds_of_wide 4 Try.f4 rfl rfl rfl rfl rfl rfl rfl ⟨rfl, rfl, rfl, rfl, rfl⟩ rfl rfl rfl rfl rfl (by kernel_rfl) Try.func4 (by kernel_rfl)
    (of_decide_eq_true (by kernel_rfl)) (by unfold Func.isWrapper; first | (rw [if_pos (by decide +kernel)]; kernel_rfl) | (rw [if_neg (by decide +kernel)]; exact ⟨rfl, rfl⟩))
    (fun os started H enc _ => lifted os started H enc)

/-- The statement. -/
theorem proved : Rows.CellsFirstsSaid := over
end cellsFirstsDone
end Go.Proofs.Ytdelbddgaekkaaa
