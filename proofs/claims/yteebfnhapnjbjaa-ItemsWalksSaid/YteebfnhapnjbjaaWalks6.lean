/- 'ItemsWalks' returns true for every input: the row of this law, proved. No condition. -/
import Derived.Test.YteebfnhapnjbjaaWalk6
import Derived.ProofKit
import Derived.OpenShut
import Derived.ShutString
import Derived.ChangeOld
import Derived.SizedLaws
namespace Go.Proofs.Yteebfnhapnjbjaa
open Go.RowKit
set_option linter.unusedVariables false
set_option linter.unusedSimpArgs false
theorem elem_item : Try.prog.elem 22 = 28 := by simp [Program.elem, Try.underlying22]
theorem under_items : Try.prog.underlying 22 = some (.slice (Try.prog.elem 22)) := by rw [elem_item]; exact Try.underlying22
theorem run_toI (w : World) (A : Option Addr) (n cap : Nat) (h : Int) (h0 : 0 ≤ h) (h2 : h ≤ cap) :
    (Instr.slice 22 (.slice A n cap) none (some (.int .i64 h)) none).run Try.prog w = .ok (.slice A h.toNat cap) w := by
  rw [run_slice_h w 22 A n cap under_items .i64 h h0 h2, elem_item, Try.sizeOf28]
  have hs : sliced A 0 h.toNat cap 2 = .slice A h.toNat cap := by
    unfold sliced
    by_cases hc : 0 = cap
    · subst hc
      simp
    · cases A with
      | none => simp
      | some ad => simp [Addr.add]
  simp [Result.andThen, hs]
theorem IL.take {w : World} {A : Option Addr} {n : Nat} {l : List It} (h : IL w A n l) (k : Nat) (hk : k ≤ n) : IL w A k (l.take k) :=
  ⟨by rw [List.length_take, h.len]; omega, fun j x hx => by
    have hj : j < k := by
      have := (List.getElem?_eq_some_iff.1 hx).1
      rw [List.length_take] at this
      omega
    rw [List.getElem?_take_of_lt hj] at hx
    exact h.at_ j x hx⟩
theorem walkL_all (l : List It) : walkL l (-1) = l := by
  unfold walkL
  rw [decide_eq_false (by omega)]
theorem walkL_some (l : List It) (m : Int) : ∃ k, walkL l m = l.take k ∧ k ≤ l.length ∧ (k = l.length ∨ (k : Int) = m) := by
  unfold walkL
  by_cases h : 1 ≤ m ∧ m ≤ (l.length : Int)
  · rw [decide_eq_true h]
    exact ⟨m.toNat, rfl, by omega, .inr (by omega)⟩
  · rw [decide_eq_false h]
    exact ⟨l.length, (List.take_length).symm, Nat.le_refl _, .inl rfl⟩
theorem same_self (A A' : Option Addr) (n c n' c' : Nat) (l : List It) (w : World) (hl : IL w A n l) (hl' : IL w A' n' l) (hn : n ≤ 9223372036854775807) :
    Calls Try.prog 14 #[.slice A n c, .slice A' n' c'] w fun e w' => e = .returned (.bool true) ∧ Below w.heap.size w w' :=
  (same_b A A' n c n' c' l l w hl hl' hn).mono fun e w' ⟨h, q⟩ => ⟨by rw [h, decide_eq_true rfl], q⟩
set_option maxRecDepth 100000 in
set_option maxHeartbeats 6400000 in
theorem itemsWalks_walk {w : World} (a0 : Option Addr) (len0 cap0 : Nat) (z0 : List It) (hr0 : IL w a0 len0 z0) (hw0 : WL z0) (hc0 : len0 ≤ cap0) (hm0 : cap0 ≤ 9223372036854775807) (hl0 : cap0 * 24 ≤ 140737488351232) (a1 : Int) (w1 : (Lit.int .i64 a1).wf = true) :
    Calls Try.prog 9 #[.slice a0 len0 cap0, .int .i64 a1] w fun e w' => e = .returned (.bool true) ∧ Below w.heap.size w w' := by
  have hb0 := below_same' w
  clear w1
  obtain ⟨K, hwk, hK, hor⟩ := walkL_some z0 a1
  rw [hr0.len] at hK hor
  have hKl : (z0.take K).length = K := by rw [List.length_take, hr0.len]; omega
  have hrt := fun W : World => run_toI W a0 len0 cap0 (K : Int) (by omega) (by omega)
  simp only [Int.toNat_natCast] at hrt
  have hgt : decide ((len0 : Int) < (K : Int)) = false := decide_eq_false (by omega)
  have hgn : decide (len0 < K) = false := decide_eq_false (by omega)
  by_cases hKe : K = len0
  · subst hKe
    clear hor hgt hgn
    go_enter Try.func9, Try.ntmps9
    go_wp2_with fail
    refine (walk_any a0 K cap0 z0 (-1) _ (hr0.below hb0) (by omega)).mono ?_
    rintro e w1 ⟨vx, rfl, hox, hx1⟩
    have hb1 := hb0.trans (hx1.mono hb0.size)
    rw [walkL_all] at hox
    obtain ⟨Mx, mcx, hvx, hlcx, hcmx, hilx, _⟩ := hox.form
    rw [hr0.len] at hvx hilx hlcx
    subst hvx
    clear hox hcmx hlcx
    go_wp2_with fail
    refine (walk_any a0 K cap0 z0 a1 _ (hr0.below hb1) (by omega)).mono ?_
    rintro e w2 ⟨vy, rfl, hoy, hx2⟩
    have hb2 := hb1.trans (hx2.mono hb1.size)
    rw [hwk] at hoy
    obtain ⟨My, mcy, hvy, hlcy, hcmy, hily, _⟩ := hoy.form
    rw [hKl] at hvy hily hlcy
    subst hvy
    clear hoy hcmy hlcy
    have hilx2 := hilx.below hx2
    go_wp2_with fail
    refine (lives_any _).mono ?_
    rintro e w3 ⟨rfl, hx3⟩
    have hb3 := hb2.trans (hx3.mono hb2.size)
    have hilx3 := hilx2.below hx3
    have hily3 := hily.below hx3
    go_wp2_with fail
    refine (same_self Mx a0 K mcx K cap0 z0 _ hilx3 (hr0.below hb3) (by omega)).mono ?_
    rintro e w4 ⟨rfl, hx4⟩
    have hb4 := hb3.trans (hx4.mono hb3.size)
    have hily4 := hily3.below hx4
    go_wp2_with fail
    refine (same_self My a0 K mcy K cap0 (z0.take K) _ hily4 ((hr0.below hb4).take K hK) (by omega)).mono ?_
    rintro e w5 ⟨rfl, hx5⟩
    have hb5 := hb4.trans (hx5.mono hb4.size)
    go_wp2
    go_ret
    exact ⟨rfl, hb5⟩
  · have hq1 : ((K : Int) == (len0 : Int)) = false := beq_eq_false_iff_ne.2 (by omega)
    have hq2 : ((K : Int) == a1) = true := beq_iff_eq.2 (hor.resolve_left hKe)
    clear hor hKe
    go_enter Try.func9, Try.ntmps9
    go_wp2_with fail
    refine (walk_any a0 len0 cap0 z0 (-1) _ (hr0.below hb0) (by omega)).mono ?_
    rintro e w1 ⟨vx, rfl, hox, hx1⟩
    have hb1 := hb0.trans (hx1.mono hb0.size)
    rw [walkL_all] at hox
    obtain ⟨Mx, mcx, hvx, hlcx, hcmx, hilx, _⟩ := hox.form
    rw [hr0.len] at hvx hilx hlcx
    subst hvx
    clear hox hcmx hlcx
    go_wp2_with fail
    refine (walk_any a0 len0 cap0 z0 a1 _ (hr0.below hb1) (by omega)).mono ?_
    rintro e w2 ⟨vy, rfl, hoy, hx2⟩
    have hb2 := hb1.trans (hx2.mono hb1.size)
    rw [hwk] at hoy
    obtain ⟨My, mcy, hvy, hlcy, hcmy, hily, _⟩ := hoy.form
    rw [hKl] at hvy hily hlcy
    subst hvy
    clear hoy hcmy hlcy
    have hilx2 := hilx.below hx2
    go_wp2_with fail
    refine (lives_any _).mono ?_
    rintro e w3 ⟨rfl, hx3⟩
    have hb3 := hb2.trans (hx3.mono hb2.size)
    have hilx3 := hilx2.below hx3
    have hily3 := hily.below hx3
    go_wp2_with fail
    refine (same_self Mx a0 len0 mcx len0 cap0 z0 _ hilx3 (hr0.below hb3) (by omega)).mono ?_
    rintro e w4 ⟨rfl, hx4⟩
    have hb4 := hb3.trans (hx4.mono hb3.size)
    have hily4 := hily3.below hx4
    go_wp2_with fail
    refine (same_self My a0 K mcy K cap0 (z0.take K) _ hily4 ((hr0.below hb4).take K hK) (by omega)).mono ?_
    rintro e w5 ⟨rfl, hx5⟩
    have hb5 := hb4.trans (hx5.mono hb4.size)
    go_wp2
    go_ret
    exact ⟨rfl, hb5⟩

namespace itemsWalksDone
open Go.ChangeShapes Go.WideShapes Go.ChangeAt
set_option maxRecDepth 100000 in
theorem lifted (os : Os) (started : os.Started) (H : Type) (enc : TypeId × Value → H) :
    ReturnsInHanded {} Try.checked os 9 .any (Rows.itemsWalksSpec.pre6 enc Try.prog Try.f9 Rows.itemsWalksRow.domain false) (Rows.itemsWalksSpec.post enc Try.prog Try.f9 false true false false) := by
  refine returnsInHanded_of_change_sized (C := Try.checked) own started (by kernel_rfl) Try.func9
    (ChangeSpec.witness6 (enc := enc) (C := Try.checked) false ⟨#[], #[Value.slice none 0 0, Value.int .i64 0], []⟩ 8 (by kernel_rfl) (by kernel_rfl) (by kernel_rfl) (by kernel_rfl)) ?_
  intro W base args ds gs before hval0 hW hcnd hsz0 _
  have hsz : (DataW.weightsEach Try.prog (Try.f9.params.toList ++ Rows.itemsWalksSpec.plain.varTypes Try.prog) (ds ++ gs)).all (· ≤ reachBytes) = true := hsz0
  clear hsz0
  have hval : ∀ (j : Nat) t v, Try.f9.params[j]? = some t → args[j]? = some v → Value.okWide Try.prog W .any base t v := hval0
  have hW' := hW
  obtain ⟨p, q, hA0, hV, rfl, hfz, hnd⟩ := hW
  have hA : DataW.TrodAll enc Try.prog W 0 (fun _ => true) true Try.f9.params.toList args.toList ds p := hA0
  rw [Try.params9] at hA hval hsz
  obtain ⟨v0, vs0, d0, ds0, p0, q0, hargs, rfl, rfl, h0, r0⟩ := trodAll_cons hA
  obtain ⟨v1, vs1, d1, ds1, p1, q1, rfl, rfl, rfl, h1, r1⟩ := trodAll_cons r0
  obtain ⟨rfl, rfl, rfl⟩ := trodAll_nil r1
  obtain rfl : args = #[v0, v1] := by cases args; simp_all
  obtain ⟨rfl, rfl⟩ := trodVars_none hV
  obtain ⟨a0, len0, cap0, rfl⟩ := okWide_slice Try.underlying22 (hval 0 22 v0 rfl rfl)
  have k0 := h0
  have lt0 : ∀ x ∈ p0, x.block < W.heap.size := by obtain ⟨m, hm⟩ := k0; exact DataW.trod_lt m _ _ _ hm
  obtain ⟨z0, hr0, hw0, hc0, hm0, hd0⟩ := items_open h0
  have hl0 : cap0 * 24 ≤ 140737488351232 := by
    rcases hd0 with ⟨_, h⟩ | ⟨es, sp, rfl, h⟩
    · omega
    · have := sized_slice hsz (j := 0) (t := 22) (e := 28) rfl rfl Try.underlying22
      rw [bytes_item] at this
      simp only [reachBytes] at this
      omega
  obtain ⟨a1, rfl, rfl, rfl, w1⟩ := open_int Try.underlying3 (hval 1 3 v1 rfl rfl) h1
  clear hA0 hval0
  refine (itemsWalks_walk (w := W) a0 len0 cap0 z0 hr0 hw0 hc0 hm0 hl0 a1 w1).mono fun e W' ⟨he, bel⟩ => ?_
  subst he
  exact ⟨_, rfl, _, _, _, [], _, [], hW', trodAll_mk1 (shut_bool Try.underlying4 _), (trodAll_cons_mk (Below.trod laidOut (by kernel_rfl) (of_decide_eq_true (by kernel_rfl)) k0 bel lt0) (trodAll_cons_mk (shut_int Try.underlying3 w1) trodAll_mk0)), rfl, bel.frame _, fun h => by cases h⟩

theorem over : Rows.itemsWalksRow.holds Try.pinned (OpenSpec.ofChange Rows.itemsWalksSpec) :=
  OpenClaim.holds_of_wide 9 Try.f9 rfl rfl rfl rfl rfl rfl rfl ⟨rfl, rfl, rfl, rfl, rfl⟩ rfl rfl rfl rfl rfl (by kernel_rfl) Try.func9 (by kernel_rfl)
    (of_decide_eq_true (by kernel_rfl)) (by unfold Func.isWrapper; first | (rw [if_pos (by decide +kernel)]; kernel_rfl) | (rw [if_neg (by decide +kernel)]; exact ⟨rfl, rfl⟩))
    (fun os started H enc _ => lifted os started H enc)

/-- The statement. -/
theorem proved : Rows.ItemsWalksSaid := over
end itemsWalksDone
end Go.Proofs.Yteebfnhapnjbjaa
