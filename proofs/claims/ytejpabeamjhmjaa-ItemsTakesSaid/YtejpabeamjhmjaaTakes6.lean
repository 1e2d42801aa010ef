/- 'ItemsTakes' returns true for every input: the row of this law, proved. No condition. -/
import Derived.Test.YtejpabeamjhmjaaCodeI
import Derived.ProofKit
import Derived.OpenShut
import Derived.ShutString
import Derived.ChangeOld
import Derived.SizedLaws
namespace Go.Proofs.Ytejpabeamjhmjaa
open Go.RowKit
set_option linter.unusedVariables false
set_option linter.unusedSimpArgs false
theorem itStep_len (p : List It × Option (List UInt8)) : ((itStep p).2.getD []).length ≤ (p.2.getD []).length := Nat.le_trans (tnum_len _ _ _) (ttext_len _ _)
theorem itIter_stlen (st : Option (List UInt8)) : ∀ k, ((itIter st k).2.getD []).length ≤ (st.getD []).length
  | 0 => Nat.le_refl _
  | k + 1 => Nat.le_trans (itStep_len _) (itIter_stlen st k)
theorem takeL_len (st : Option (List UInt8)) : ((takeL st).2.getD []).length ≤ (st.getD []).length := by
  unfold takeL
  split
  · exact Nat.le_trans (itIter_stlen _ _) (tnum_len _ _ _)
  · simp
set_option maxRecDepth 100000 in
set_option maxHeartbeats 6400000 in
theorem itemsTakes_walk {w : World} (a0 : Option Addr) (len0 cap0 : Nat) (z0 : List UInt8) (hr0 : RB w a0 len0 z0) (hc0 : len0 ≤ cap0) (hm0 : cap0 ≤ 9223372036854775807) (hl0 : cap0 ≤ 140737488351232) :
    Calls Try.prog 6 #[.slice a0 len0 cap0] w fun e w' => e = .returned (.bool true) ∧ Below w.heap.size w w' := by
  have hb0 := below_same' w
  have hln := hr0.1
  subst hln
  obtain ⟨tl, ts, hT⟩ : ∃ l st, takeL (some z0) = (l, st) := ⟨_, _, rfl⟩
  go_enter Try.func6, Try.ntmps6
  go_wp2_with fail
  refine (take_any a0 z0.length cap0 z0 w hr0 (by omega)).mono ?_
  rintro e w1 ⟨g, A1, c1, rfl, hg1, ht1, hb1, hA1⟩
  have hz1 := hb1.size
  have hgw := ht1.blk.lt
  have hx2 : TK 47 (w1.alloc (.cells #[.slice a0 z0.length cap0, .bool false] 47)) w1.heap.size a0 cap0 z0 false :=
    ⟨Blk.new _ _ _, (hr0.below hb1).alloc _, ⟨hc0, hm0⟩, fun hp ad ha => by have := hr0.addr_lt ha hp; omega⟩
  have ha2 : Below w1.heap.size w1 (w1.alloc (.cells #[.slice a0 z0.length cap0, .bool false] 47)) := (Below.refl _ _).alloc (Nat.le_refl _) _
  have ht2 := TK.below ht1 ha2
  have hb2 := hb1.trans (ha2.mono hz1)
  go_wp2_with fail
  refine (lives_any _).mono ?_
  rintro e w3 ⟨rfl, hx3⟩
  have hb3 := hb2.trans (hx3.mono hb2.size)
  have ht3 := TK.below ht2 hx3
  have hq3 := hx2.below hx3
  have hz3 := hx3.size
  rw [World.size_alloc] at hz3
  have hx1lt : ∀ ad, A1 = some ad → 0 < ((some z0).getD []).length → ad.block < w1.heap.size := fun ad ha hp => ht1.rd.addr_lt ha hp
  clear ht1 ht2 hx2
  go_wp2_with fail
  refine (itake_any w3 g A1 c1 (some z0) ht3).mono ?_
  rintro e w4 ⟨v4, A4, c4, rfl, hO4, ht4, hk4, hs4⟩
  rw [hT] at hO4 ht4
  dsimp only at hO4 ht4
  have hb4 := hb3.trans (hk4.below (B := w.heap.size) (by omega) (fun k hk e => by omega))
  have hq4 := hq3.kept' hk4 (by omega) (fun hp ad ha e => by have := hr0.addr_lt ha hp; omega)
  have hz4 := hk4.size
  go_wp2_with fail
  refine (rread_any w4 w1.heap.size a0 cap0 z0 false hq4).mono ?_
  rintro e w5 ⟨v5, ok, A5, c5, l5, bad5, lr, rfl, hO5, hq5, hk5, hs5, hl5, hyes, hno⟩
  rw [show rst z0 false = some z0 from rfl, hT] at hyes hno
  have hb5 := hb4.trans (hk5.below (B := w.heap.size) (by omega) (fun k hk e => by omega))
  have hO45 := hO4.kept hk5 (fun gg hg e => by have := (hO4.lt gg hg).1; omega)
  have ht5 : PT w5 g A4 c4 ts := TK.kept' ht4 hk5 (by omega) (fun hp ad ha e => by
    obtain ⟨a1, h1, e1⟩ := hs4 ad ha
    have hlen := takeL_len (some z0)
    rw [hT] at hlen
    have := ht3.rd.addr_lt h1 (by simp at hlen ⊢; omega)
    have h6 := hA1 a1 h1
    have := hx1lt a1 h1 (by simp at hlen ⊢; omega)
    omega)
  cases ok with
  | false =>
    have hno' := hno rfl
    dsimp only at hno'
    subst hno'
    have htl : tl = [] := by have := takeL_none (st := some z0) (by rw [hT]); rw [hT] at this; exact this
    subst htl
    obtain ⟨A6, c6, rfl, _, _, _, _⟩ := hO45.form
    go_wp2_with fail
    refine (tleft_any w5 g A4 c4 none ht5).mono ?_
    rintro e w6 ⟨rfl, rfl⟩
    go_wp2_with fail
    refine (tdone_any w5 g A4 c4 none ht5).mono ?_
    rintro e w6 ⟨rfl, rfl⟩
    rw [show tdoneN none = 10 from rfl]
    go_wp2
    go_ret
    exact ⟨by simp, hb5⟩
  | true =>
    obtain ⟨hy1, rfl⟩ := hyes rfl
    simp only [Prod.mk.injEq] at hy1
    obtain ⟨rfl, rfl⟩ := hy1
    have hcell := hq5.blk.cell 0
    simp at hcell
    obtain ⟨A6, c6, rfl, _, _, hi6, _⟩ := hO45.form
    obtain ⟨A7, c7, rfl, _, _, hi7, _⟩ := hO5.form
    have hlt16 : tl.length ≤ 16 := by have := (takeL_some hT).1; exact (mayL_okI this).1
    go_wp2_with fail
    refine wp_region_held_drew (S := (fun w' => w'.cell? ⟨w1.heap.size, 0, none⟩ = some (.slice A5 l5.length c5))) (by kernel_rfl) hcell (fun hHeld => ?_)
    refine wpAnyH_take (i := 0) (oi := ?oi0) (v := ?v0) ?hi0 (by kernel_rfl) (by kernel_rfl) (by kernel_rfl) ?hq0 (Or.inl ⟨?hw0, ?hy0⟩) (by assumption) ?rest0
    case hi0 => (simp only [List.getElem?_toArray, List.getElem?_cons_succ, List.getElem?_cons_zero]; rfl)
    case hq0 => exact fun _ _ _ h => h
    case hw0 => rfl
    case hy0 => (intro w hSw; (try dsimp only at hSw); go_simp <;> with_reducible rfl)
    try simp only [Act.put, List.setIfInBounds_toArray, List.set_cons_zero, List.set_cons_succ]
    refine wpAnyH_take (i := 1) (oi := ?oi1) (v := ?v1) ?hi1 (by kernel_rfl) (by kernel_rfl) (by kernel_rfl) ?hq1 (Or.inl ⟨?hw1, ?hy1⟩) (by assumption) ?rest1
    case hi1 => (simp only [List.getElem?_toArray, List.getElem?_cons_succ, List.getElem?_cons_zero]; rfl)
    case hq1 => exact fun _ _ _ h => h
    case hw1 => rfl
    case hy1 => (intro w hSw; (try dsimp only at hSw); go_simp <;> with_reducible rfl)
    try simp only [Act.put, List.setIfInBounds_toArray, List.set_cons_zero, List.set_cons_succ]
    refine wpAnyH_ready (rs := [2]) (by kernel_rfl) (by simp) ?_
    refine AllReadyH.cons (o := ?o2) ?hi2 (fun K hK => ?st2) AllReadyH.nil
    case hi2 => (simp only [List.getElem?_toArray, List.getElem?_cons_succ, List.getElem?_cons_zero]; rfl)
    go_simp
    have hsame := same_b A6 A7 tl.length c6 tl.length c7 tl tl _ hi6.drew hi7.drew (by omega)
    rw [show decide (tl = tl) = true from decide_eq_true rfl] at hsame
    refine hsame.mono ?_
    rintro e w6 ⟨rfl, hx6⟩
    have hb6 := (Below.drew hb5).trans (hx6.mono hb5.size)
    have ht6 := TK.below (TK.drewN ht5 1) hx6
    have hq6 := (TK.drewN hq5 1).below hx6
    have hcell6 := hq6.blk.cell 0
    simp at hcell6
    go_wp2_with fail
    refine hK.out _ _ hcell6 (fun hHeld2 => ?_)
    clear hK K hHeld
    have hHeld := hHeld2
    clear hHeld2
    try simp only [Act.put, List.setIfInBounds_toArray, List.set_cons_zero, List.set_cons_succ]
    refine wpAnyH_take (i := 3) (oi := ?oi3) (v := ?v3) ?hi3 (by kernel_rfl) (by kernel_rfl) (by kernel_rfl) ?hq3 (Or.inl ⟨?hw3, ?hy3⟩) (by assumption) ?rest3
    case hi3 => (simp only [List.getElem?_toArray, List.getElem?_cons_succ, List.getElem?_cons_zero]; rfl)
    case hq3 => exact fun _ _ _ h => h
    case hw3 => rfl
    case hy3 => (intro w hSw; (try dsimp only at hSw); go_simp <;> with_reducible rfl)
    try simp only [Act.put, List.setIfInBounds_toArray, List.set_cons_zero, List.set_cons_succ]
    refine wpAnyH_take (i := 4) (oi := ?oi4) (v := ?v4) ?hi4 (by kernel_rfl) (by kernel_rfl) (by kernel_rfl) ?hq4 (Or.inl ⟨?hw4, ?hy4⟩) (by assumption) ?rest4
    case hi4 => (simp only [List.getElem?_toArray, List.getElem?_cons_succ, List.getElem?_cons_zero]; rfl)
    case hq4 => exact fun _ _ _ h => h
    case hw4 => rfl
    case hy4 => (intro w hSw; (try dsimp only at hSw); go_simp <;> with_reducible rfl)
    try simp only [Act.put, List.setIfInBounds_toArray, List.set_cons_zero, List.set_cons_succ]
    refine wpAnyH_take (i := 6) (oi := ?oi6) (v := ?v6) ?hi6 (by kernel_rfl) (by kernel_rfl) (by kernel_rfl) ?hq6 (Or.inl ⟨?hw6, ?hy6⟩) (by assumption) ?rest6
    case hi6 => (simp only [List.getElem?_toArray, List.getElem?_cons_succ, List.getElem?_cons_zero]; rfl)
    case hq6 => exact fun _ _ _ h => h
    case hw6 => rfl
    case hy6 => (intro w hSw; (try dsimp only at hSw); go_simp <;> with_reducible rfl)
    try simp only [Act.put, List.setIfInBounds_toArray, List.set_cons_zero, List.set_cons_succ]
    refine wpAnyH_take (i := 7) (oi := ?oi7) (v := ?v7) ?hi7 (by kernel_rfl) (by kernel_rfl) (by kernel_rfl) ?hq7 (Or.inl ⟨?hw7, ?hy7⟩) (by assumption) ?rest7
    case hi7 => (simp only [List.getElem?_toArray, List.getElem?_cons_succ, List.getElem?_cons_zero]; rfl)
    case hq7 => exact fun _ _ _ h => h
    case hw7 => rfl
    case hy7 => (intro w hSw; (try dsimp only at hSw); go_simp <;> with_reducible rfl)
    try simp only [Act.put, List.setIfInBounds_toArray, List.set_cons_zero, List.set_cons_succ]
    refine wpAnyH_take (i := 8) (oi := ?oi8) (v := ?v8) ?hi8 (by kernel_rfl) (by kernel_rfl) (by kernel_rfl) ?hq8 (Or.inl ⟨?hw8, ?hy8⟩) (by assumption) ?rest8
    case hi8 => (simp only [List.getElem?_toArray, List.getElem?_cons_succ, List.getElem?_cons_zero]; rfl)
    case hq8 => exact fun _ _ _ h => h
    case hw8 => rfl
    case hy8 => (intro w hSw; (try dsimp only at hSw); go_simp <;> with_reducible rfl)
    try simp only [Act.put, List.setIfInBounds_toArray, List.set_cons_zero, List.set_cons_succ]
    refine wpAnyH_take (i := 9) (oi := ?oi9) (v := ?v9) ?hi9 (by kernel_rfl) (by kernel_rfl) (by kernel_rfl) ?hq9 (Or.inl ⟨?hw9, ?hy9⟩) (by assumption) ?rest9
    case hi9 => (simp only [List.getElem?_toArray, List.getElem?_cons_succ, List.getElem?_cons_zero]; rfl)
    case hq9 => exact fun _ _ _ h => h
    case hw9 => rfl
    case hy9 => (intro w hSw; (try dsimp only at hSw); go_simp <;> with_reducible rfl)
    try simp only [Act.put, List.setIfInBounds_toArray, List.set_cons_zero, List.set_cons_succ]
    refine wpAnyH_take (i := 10) (oi := ?oi10) (v := ?v10) ?hi10 (by kernel_rfl) (by kernel_rfl) (by kernel_rfl) ?hq10 (Or.inl ⟨?hw10, ?hy10⟩) (by assumption) ?rest10
    case hi10 => (simp only [List.getElem?_toArray, List.getElem?_cons_succ, List.getElem?_cons_zero]; rfl)
    case hq10 => exact fun _ _ _ h => h
    case hw10 => rfl
    case hy10 => (intro w hSw; (try dsimp only at hSw); go_simp <;> with_reducible rfl)
    try simp only [Act.put, List.setIfInBounds_toArray, List.set_cons_zero, List.set_cons_succ]
    refine wpAnyH_ready (rs := [5]) (by kernel_rfl) (by simp) ?_
    refine AllReadyH.cons (o := ?o5) ?hi5 (fun K hK => ?st5) AllReadyH.nil
    case hi5 => (simp only [List.getElem?_toArray, List.getElem?_cons_succ, List.getElem?_cons_zero]; rfl)
    go_simp
    refine (tleft_any w6 g A4 c4 _ ht6).mono ?_
    rintro e w7 ⟨rfl, rfl⟩
    go_wp2_with fail
    refine hK.out _ _ hcell6 (fun hHeld2 => ?_)
    clear hK K hHeld
    have hHeld := hHeld2
    clear hHeld2
    try simp only [Act.put, List.setIfInBounds_toArray, List.set_cons_zero, List.set_cons_succ]
    refine wpAnyH_take (i := 11) (oi := ?oi11) (v := ?v11) ?hi11 (by kernel_rfl) (by kernel_rfl) (by kernel_rfl) ?hq11 (Or.inl ⟨?hw11, ?hy11⟩) (by assumption) ?rest11
    case hi11 => (simp only [List.getElem?_toArray, List.getElem?_cons_succ, List.getElem?_cons_zero]; rfl)
    case hq11 => exact fun _ _ _ h => h
    case hw11 => rfl
    case hy11 => (intro w hSw; (try dsimp only at hSw); go_simp <;> with_reducible rfl)
    try simp only [Act.put, List.setIfInBounds_toArray, List.set_cons_zero, List.set_cons_succ]
    refine wpAnyH_take (i := 12) (oi := ?oi12) (v := ?v12) ?hi12 (by kernel_rfl) (by kernel_rfl) (by kernel_rfl) ?hq12 (Or.inl ⟨?hw12, ?hy12⟩) (by assumption) ?rest12
    case hi12 => (simp only [List.getElem?_toArray, List.getElem?_cons_succ, List.getElem?_cons_zero]; rfl)
    case hq12 => exact fun _ _ _ h => h
    case hw12 => rfl
    case hy12 => (intro w hSw; (try dsimp only at hSw); go_simp <;> with_reducible rfl)
    try simp only [Act.put, List.setIfInBounds_toArray, List.set_cons_zero, List.set_cons_succ]
    refine wpAnyH_take (i := 13) (oi := ?oi13) (v := ?v13) ?hi13 (by kernel_rfl) (by kernel_rfl) (by kernel_rfl) ?hq13 (Or.inl ⟨?hw13, ?hy13⟩) (by assumption) ?rest13
    case hi13 => (simp only [List.getElem?_toArray, List.getElem?_cons_succ, List.getElem?_cons_zero]; rfl)
    case hq13 => exact fun _ _ _ h => h
    case hw13 => rfl
    case hy13 => (intro w hSw; (try dsimp only at hSw); go_simp <;> with_reducible rfl)
    try simp only [Act.put, List.setIfInBounds_toArray, List.set_cons_zero, List.set_cons_succ]
    refine wpAnyH_done (by kernel_rfl) ?_ _
    go_wp2
    go_ret
    exact ⟨by simp, hb6⟩

namespace itemsTakesDone
open Go.ChangeShapes Go.WideShapes Go.ChangeAt
set_option maxRecDepth 100000 in
theorem lifted (os : Os) (started : os.Started) (H : Type) (enc : TypeId × Value → H) :
    ReturnsInHanded {} Try.checked os 6 .any (Rows.itemsTakesSpec.pre6 enc Try.prog Try.f6 Rows.itemsTakesRow.domain false) (Rows.itemsTakesSpec.post enc Try.prog Try.f6 false true false false) := by
  refine returnsInHanded_of_change_sized (C := Try.checked) own started (by kernel_rfl) Try.func6
    (ChangeSpec.witness6 (enc := enc) (C := Try.checked) false ⟨#[], #[Value.slice none 0 0], []⟩ 8 (by kernel_rfl) (by kernel_rfl) (by kernel_rfl) (by kernel_rfl)) ?_
  intro W base args ds gs before hval0 hW hcnd hsz0 _
  have hsz : (DataW.weightsEach Try.prog (Try.f6.params.toList ++ Rows.itemsTakesSpec.plain.varTypes Try.prog) (ds ++ gs)).all (· ≤ reachBytes) = true := hsz0
  clear hsz0
  have hval : ∀ (j : Nat) t v, Try.f6.params[j]? = some t → args[j]? = some v → Value.okWide Try.prog W .any base t v := hval0
  have hW' := hW
  obtain ⟨p, q, hA0, hV, rfl, hfz, hnd⟩ := hW
  have hA : DataW.TrodAll enc Try.prog W 0 (fun _ => true) true Try.f6.params.toList args.toList ds p := hA0
  rw [Try.params6] at hA hval hsz
  obtain ⟨v0, vs0, d0, ds0, p0, q0, hargs, rfl, rfl, h0, r0⟩ := trodAll_cons hA
  obtain ⟨rfl, rfl, rfl⟩ := trodAll_nil r0
  obtain rfl : args = #[v0] := by cases args; simp_all
  obtain ⟨rfl, rfl⟩ := trodVars_none hV
  obtain ⟨a0, len0, cap0, rfl⟩ := okWide_slice Try.underlying35 (hval 0 35 v0 rfl rfl)
  have k0 := h0
  have lt0 : ∀ x ∈ p0, x.block < W.heap.size := by obtain ⟨m, hm⟩ := k0; exact DataW.trod_lt m _ _ _ hm
  obtain ⟨z0, hr0, hc0, hm0, hd0⟩ := bytes_open h0
  have hl0 : cap0 ≤ 140737488351232 := by
    rcases hd0 with ⟨_, h⟩ | ⟨es, sp, rfl, h⟩
    · omega
    · have := sized_slice hsz (j := 0) (t := 35) (e := 5) rfl rfl Try.underlying35
      rw [bytes_u8] at this
      simp only [reachBytes] at this
      omega
  clear hA0 hval0
  refine (itemsTakes_walk (w := W) a0 len0 cap0 z0 hr0 hc0 hm0 hl0).mono fun e W' ⟨he, bel⟩ => ?_
  subst he
  exact ⟨_, rfl, _, _, _, [], _, [], hW', trodAll_mk1 (shut_bool Try.underlying4 _), (trodAll_cons_mk (Below.trod laidOut (by kernel_rfl) (of_decide_eq_true (by kernel_rfl)) k0 bel lt0) trodAll_mk0), rfl, bel.frame _, fun h => by cases h⟩

theorem over : Rows.itemsTakesRow.holds Try.pinned (OpenSpec.ofChange Rows.itemsTakesSpec) :=
  OpenClaim.holds_of_wide 6 Try.f6 rfl rfl rfl rfl rfl rfl rfl ⟨rfl, rfl, rfl, rfl, rfl⟩ rfl rfl rfl rfl rfl (by kernel_rfl) Try.func6 (by kernel_rfl)
    (of_decide_eq_true (by kernel_rfl)) (by unfold Func.isWrapper; first | (rw [if_pos (by decide +kernel)]; kernel_rfl) | (rw [if_neg (by decide +kernel)]; exact ⟨rfl, rfl⟩))
    (fun os started H enc _ => lifted os started H enc)

/-- The statement. -/
theorem proved : Rows.ItemsTakesSaid := over
end itemsTakesDone
end Go.Proofs.Ytejpabeamjhmjaa
