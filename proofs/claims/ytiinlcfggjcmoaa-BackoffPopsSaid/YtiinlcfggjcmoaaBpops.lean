/- 'BackoffPops' returns true for every input: the row of this law, proved. No condition. -/
import Derived.Test.YtiinlcfggjcmoaaTmB
import Derived.ProofKit
import Derived.OpenShut
import Derived.ShutString
import Derived.ChangeOld
import Derived.SizedLaws
namespace Go.Proofs.Ytiinlcfggjcmoaa
open Go.RowKit
set_option linter.unusedVariables false
set_option linter.unusedSimpArgs false
open Go.Maps Go.Sort
def WfT (x : List Tm) : Prop := ∀ t ∈ x, (Lit.int .i64 t.1).wf = true
theorem WfT.set {x : List Tm} (h : WfT x) (k a : Int) (hk : (Lit.int .i64 k).wf = true) : WfT (setT x k a) := by
  intro t ht
  rcases (mem_insT _ _ _).1 ht with rfl | ht
  · exact hk
  · exact h t (mem_dropT.1 ht).1
theorem pop_none {now : Int} : ∀ {y : List Tm}, dueP now y = [] → popP y now = ((0, false), y)
  | [], _ => rfl
  | t :: l, h => by
    refine popP_late ?_
    rw [dueP] at h
    by_cases hl : t.2 ≤ now
    · rw [if_pos hl] at h; cases h
    · omega
theorem pop_some {now k : Int} {r : List Int} : ∀ {y : List Tm}, dueP now y = k :: r → ∃ l, popP y now = ((k, true), l) ∧ dueP now l = r ∧ y.length = l.length + 1 ∧ ∀ t ∈ l, t ∈ y
  | [], h => by cases h
  | t :: l, h => by
    rw [dueP] at h
    by_cases hl : t.2 ≤ now
    · rw [if_pos hl] at h
      injection h with h1 h2
      subst h1
      exact ⟨l, popP_due (by omega), h2, rfl, fun t ht => List.mem_cons_of_mem _ ht⟩
    · rw [if_neg hl] at h; cases h
set_option maxRecDepth 100000 in
set_option maxHeartbeats 3200000 in
theorem backoffPops_walk {w : World} (A : Option Addr) (n c : Nat) (f : Nat → OpV) (ho : OPS w A n f) (hc : n ≤ c) (hm : c ≤ 9223372036854775807) (now : Int) (hnow : (Lit.int .i64 now).wf = true) :
    Calls Try.prog 6 #[.slice A n c, .int .i64 now] w fun e w' => e = .returned (.bool true) ∧ RowKit.Below w.heap.size w w' := by
  go_enter Try.func6, Try.ntmps6
  go_wp2_with fail
  refine (tnew_any _).mono ?_
  rintro e w1 ⟨p, bm, rfl, hT1, hp, hbm, hb1⟩
  go_wp2_with fail
  refine (lives_any _).mono ?_
  rintro e w2 ⟨rfl, hx⟩
  have hb2 := hb1.trans (hx.mono hb1.size)
  have hT2 := hT1.below hx
  have hw2 : WfT [] := fun t h => by cases h
  clear hb1 hx hT1
  go_wp2_with fail
  go_loopw [6] (fun s6 wr => ∃ (k : Nat) (x : List Tm), s6 = .int .i64 (k : Int) ∧ k ≤ n ∧ k ≤ 200 ∧ TM wr p bm k x ∧ WfT x ∧ RowKit.Below w.heap.size w wr) (fun s6 _ => n - (intOf s6).toNat)
  case atStart => exact ⟨0, [], by go_num, by omega, by omega, hT2, hw2, hb2⟩
  case round =>
    obtain ⟨k, x, rfl, hk, hk2, hT, hwx, hb⟩ := hrel
    clear hT2 hw2 hb2
    rcases (show (k < n ∧ k < 200) ∨ ¬ k < n ∨ (k < n ∧ ¬ k < 200) by omega) with ⟨hlt, h200⟩ | hlt | ⟨hlt, h200⟩
    · have hlz : (k : Int) < (n : Int) := by omega
      have hlz2 : (k : Int) < 200 := by omega
      obtain ⟨b, off, rfl, hbl, hat⟩ := ho (by omega)
      obtain ⟨c0, c1, c2, hwi, hwn⟩ := (hat k hlt).below hb hbl
      generalize f k = o at c0 c1 c2 hwi hwn
      obtain ⟨ok, oi, on⟩ := o
      simp only at c0 c1 c2 hwi hwn
      have hblr : b < wr.heap.size := Nat.lt_of_lt_of_le hbl hb.size
      go_wp2_with fail
      refine wp_region_held_drew (S := (fun w' => w'.cell? ⟨b, off + k * 3 + 1, none⟩ = some (.int .i64 oi) ∧ w'.cell? ⟨b, off + k * 3 + 2, none⟩ = some (.int .i64 on))) (by kernel_rfl) ⟨c1, c2⟩ (fun hHeld => ?_)
      refine wpAnyH_take (i := 0) (oi := ?oi0) (v := ?v0) ?hi0 (by kernel_rfl) (by kernel_rfl) (by kernel_rfl) ?hq0 (Or.inl ⟨?hw0, ?hy0⟩) (by assumption) ?rest0
      case hi0 => (simp only [List.getElem?_toArray, List.getElem?_cons_succ, List.getElem?_cons_zero]; rfl)
      case hq0 => exact fun _ _ _ h => h
      case hw0 => rfl
      case hy0 => (intro w hSw; (try dsimp only at hSw); go_simp <;> with_reducible rfl)
      try simp only [Act.put, List.setIfInBounds_toArray, List.set_cons_zero, List.set_cons_succ]
      refine wpAnyH_take (i := 1) (oi := ?oi1) (v := ?v1) ?hi1 (by kernel_rfl) (by kernel_rfl) (by kernel_rfl) ?hq1 (Or.inl ⟨?hw1, ?hy1⟩) (by assumption) ?rest1
      case hi1 => (simp only [List.getElem?_toArray, List.getElem?_cons_succ, List.getElem?_cons_zero]; rfl)
      case hq1 => exact fun _ _ _ h => h
      case hw1 => rfl
      case hy1 => (intro w hSw; (try dsimp only at hSw); go_simp <;> with_reducible rfl)
      try simp only [Act.put, List.setIfInBounds_toArray, List.set_cons_zero, List.set_cons_succ]
      refine wpAnyH_take (i := 2) (oi := ?oi2) (v := ?v2) ?hi2 (by kernel_rfl) (by kernel_rfl) (by kernel_rfl) ?hq2 (Or.inl ⟨?hw2, ?hy2⟩) (by assumption) ?rest2
      case hi2 => (simp only [List.getElem?_toArray, List.getElem?_cons_succ, List.getElem?_cons_zero]; rfl)
      case hq2 => exact fun _ _ _ h => h
      case hw2 => rfl
      case hy2 => (intro w hSw; (try dsimp only at hSw); go_simp <;> with_reducible rfl)
      try simp only [Act.put, List.setIfInBounds_toArray, List.set_cons_zero, List.set_cons_succ]
      refine wpAnyH_take (i := 3) (oi := ?oi3) (v := ?v3) ?hi3 (by kernel_rfl) (by kernel_rfl) (by kernel_rfl) ?hq3 (Or.inl ⟨?hw3, ?hy3⟩) (by assumption) ?rest3
      case hi3 => (simp only [List.getElem?_toArray, List.getElem?_cons_succ, List.getElem?_cons_zero]; rfl)
      case hq3 => exact fun _ _ _ h => h
      case hw3 => rfl
      case hy3 => (intro w hSw; (try dsimp only at hSw); go_simp <;> with_reducible rfl)
      try simp only [Act.put, List.setIfInBounds_toArray, List.set_cons_zero, List.set_cons_succ]
      refine wpAnyH_take (i := 4) (oi := ?oi4) (v := ?v4) ?hi4 (by kernel_rfl) (by kernel_rfl) (by kernel_rfl) ?hq4 (Or.inl ⟨?hw4, ?hy4⟩) (by assumption) ?rest4
      case hi4 => (simp only [List.getElem?_toArray, List.getElem?_cons_succ, List.getElem?_cons_zero]; rfl)
      case hq4 => exact fun _ _ _ h => h
      case hw4 => rfl
      case hy4 => (intro w hSw; (try dsimp only at hSw); go_simp <;> with_reducible rfl)
      try simp only [Act.put, List.setIfInBounds_toArray, List.set_cons_zero, List.set_cons_succ]
      refine wpAnyH_take (i := 5) (oi := ?oi5) (v := ?v5) ?hi5 (by kernel_rfl) (by kernel_rfl) (by kernel_rfl) ?hq5 (Or.inl ⟨?hw5, ?hy5⟩) (by assumption) ?rest5
      case hi5 => (simp only [List.getElem?_toArray, List.getElem?_cons_succ, List.getElem?_cons_zero]; rfl)
      case hq5 => exact fun _ _ _ h => h
      case hw5 => rfl
      case hy5 => (intro w hSw; (try dsimp only at hSw); go_simp <;> with_reducible rfl)
      try simp only [Act.put, List.setIfInBounds_toArray, List.set_cons_zero, List.set_cons_succ]
      refine wpAnyH_take (i := 6) (oi := ?oi6) (v := ?v6) ?hi6 (by kernel_rfl) (by kernel_rfl) (by kernel_rfl) ?hq6 (Or.inl ⟨?hw6, ?hy6⟩) (by assumption) ?rest6
      case hi6 => (simp only [List.getElem?_toArray, List.getElem?_cons_succ, List.getElem?_cons_zero]; rfl)
      case hq6 => exact fun _ _ _ h => h
      case hw6 => rfl
      case hy6 => (intro w hSw; (try dsimp only at hSw); go_simp <;> with_reducible rfl)
      try simp only [Act.put, List.setIfInBounds_toArray, List.set_cons_zero, List.set_cons_succ]
      refine wpAnyH_take (i := 7) (oi := ?oi7) (v := ?v7) ?hi7 (by kernel_rfl) (by kernel_rfl) (by kernel_rfl) ?hq7 (Or.inl ⟨?hw7, ?hy7⟩) (by assumption) ?rest7
      case hi7 => (simp only [List.getElem?_toArray, List.getElem?_cons_succ, List.getElem?_cons_zero]; rfl)
      case hq7 => exact fun _ _ _ h => h
      case hw7 => rfl
      case hy7 => (intro w hSw; (try dsimp only at hSw); go_simp <;> with_reducible rfl)
      try simp only [Act.put, List.setIfInBounds_toArray, List.set_cons_zero, List.set_cons_succ]
      refine wpAnyH_take (i := 8) (oi := ?oi8) (v := ?v8) ?hi8 (by kernel_rfl) (by kernel_rfl) (by kernel_rfl) ?hq8 (Or.inl ⟨?hw8, ?hy8⟩) (by assumption) ?rest8
      case hi8 => (simp only [List.getElem?_toArray, List.getElem?_cons_succ, List.getElem?_cons_zero]; rfl)
      case hq8 => exact fun _ _ _ h => h
      case hw8 => rfl
      case hy8 => (intro w hSw; (try dsimp only at hSw); go_simp <;> with_reducible rfl)
      try simp only [Act.put, List.setIfInBounds_toArray, List.set_cons_zero, List.set_cons_succ]
      refine wpAnyH_take (i := 9) (oi := ?oi9) (v := ?v9) ?hi9 (by kernel_rfl) (by kernel_rfl) (by kernel_rfl) ?hq9 (Or.inl ⟨?hw9, ?hy9⟩) (by assumption) ?rest9
      case hi9 => (simp only [List.getElem?_toArray, List.getElem?_cons_succ, List.getElem?_cons_zero]; rfl)
      case hq9 => exact fun _ _ _ h => h
      case hw9 => rfl
      case hy9 => (intro w hSw; (try dsimp only at hSw); go_simp <;> with_reducible rfl)
      try simp only [Act.put, List.setIfInBounds_toArray, List.set_cons_zero, List.set_cons_succ]
      refine wpAnyH_take (i := 10) (oi := ?oi10) (v := ?v10) ?hi10 (by kernel_rfl) (by kernel_rfl) (by kernel_rfl) ?hq10 (Or.inl ⟨?hw10, ?hy10⟩) (by assumption) ?rest10
      case hi10 => (simp only [List.getElem?_toArray, List.getElem?_cons_succ, List.getElem?_cons_zero]; rfl)
      case hq10 => exact fun _ _ _ h => h
      case hw10 => rfl
      case hy10 => (intro w hSw; (try dsimp only at hSw); go_simp <;> with_reducible rfl)
      try simp only [Act.put, List.setIfInBounds_toArray, List.set_cons_zero, List.set_cons_succ]
      refine wpAnyH_ready (rs := [11]) (by kernel_rfl) (by simp) ?_
      refine AllReadyH.cons (o := ?o11) ?hi11 (fun K hK => ?st11) AllReadyH.nil
      case hi11 => (simp only [List.getElem?_toArray, List.getElem?_cons_succ, List.getElem?_cons_zero]; rfl)
      go_simp
      refine (tset_any oi on hT.drew hwi hwn (by omega)).mono ?_
      rintro e w3 ⟨rfl, hT3, hk3⟩
      have hk3' : Keep (fun i => i = bm) wr w3 := ((Keep.refl (fun i => i = bm) wr).drew).trans hk3 (fun i _ h => h)
      have d1 := hk3'.cell c1 (by dsimp only; omega)
      have d2 := hk3'.cell c2 (by dsimp only; omega)
      have hb3 := hb.trans (hk3'.bel hb.size hbm)
      have hw3 := hwx.set oi on hwi
      clear hT c0 c1 c2 hk3 hk3' hb hwx
      go_wp2_with fail
      refine hK.out _ _ ⟨d1, d2⟩ (fun hHeld2 => ?_)
      clear hK K hHeld
      have hHeld := hHeld2
      clear hHeld2
      try simp only [Act.put, List.setIfInBounds_toArray, List.set_cons_zero, List.set_cons_succ]
      refine wpAnyH_done (by kernel_rfl) ?_ _
      go_wp2
      go_roundw
      case rel => exact ⟨k + 1, _, by go_num, by omega, by omega, hT3, hw3, hb3⟩
      case measure => simp [intOf]; omega
    all_goals
      first
      | have hlz : ¬ (k : Int) < (n : Int) := by omega
      | (have hlz : (k : Int) < (n : Int) := by omega
         have hlz2 : ¬ (k : Int) < 200 := by omega)
      have hxk := hT.size
      go_wp2_with fail
      refine (due_any now hT (by omega)).mono ?_
      rintro e w4 ⟨v, rfl, hO, hx⟩
      have hb4 := hb.trans (hx.mono hb.size)
      have hT4 := hT.below hx
      have hbt := hT.lt.2
      have hdl := due_len (now := now) x
      obtain ⟨ds, hds⟩ : ∃ ds, dueP now x = ds := ⟨_, rfl⟩
      rw [hds] at hO hdl
      obtain ⟨m, hm'⟩ : ∃ m, ds.length = m := ⟨_, rfl⟩
      obtain ⟨A2, c2, rfl, hcl, hcm, _⟩ := hO.form
      rw [hm'] at hO hcl hdl ⊢
      obtain ⟨X, hX⟩ : ∃ X, x.length = X := ⟨_, rfl⟩
      have hlen := tlen_any hT4
      rw [hX] at hlen hxk hdl
      have hmax : c2 ≤ 9223372036854775807 := by unfold maxLen at hcm; omega
      have hmz : (m : Int) ≤ 9223372036854775807 := by omega
      go_wp2_with fail
      refine hlen.mono ?_
      rintro e w' ⟨rfl, hww⟩
      subst w'
      clear hlen hT hb hx
      go_wp2_with fail
      go_loopw [9, 10, 11] (fun s9 s10 s11 wq => ∃ (j : Nat) (y : List Tm), s9 = .int .i64 (j : Int) ∧ j ≤ m ∧ TM wq p bm k y ∧ WfT y ∧ dueP now y = ds.drop j ∧ y.length + j = X ∧ OI wr.heap.size wq (.slice A2 m c2) ds ∧ RowKit.Below w.heap.size w wq) (fun s9 _ _ _ => m - (intOf s9).toNat)
      case atStart => exact ⟨0, x, by go_num, by omega, hT4, hwx, hds, hX, hO, hb4⟩
      case round =>
        obtain ⟨j, y, rfl, hj, hT, hwy, hdy, hyX, hO2, hb⟩ := hrel
        clear hT4 hwx hds hX hO hb4
        by_cases hjm : j < m
        · have hjz : (j : Int) < (m : Int) := by omega
          obtain ⟨_, _, he, _, _, hir, hbase⟩ := hO2.form
          injection he with he1 he2 he3
          subst he1
          rw [hm'] at hir
          obtain ⟨b2, off2, d, rfl, hd, hcell⟩ := hir.place hjm
          obtain ⟨hb2a, hb2b, _⟩ := hbase _ rfl
          dsimp only at hb2a hb2b
          rw [List.drop_eq_getElem_cons (by omega)] at hdy
          have hd2 : ds[j]'(by omega) = d := by rw [List.getElem?_eq_getElem (by omega)] at hd; exact Option.some.inj hd
          rw [hd2] at hdy
          obtain ⟨l, hpl, hdl2, hyl, hmem⟩ := pop_some hdy
          have hpop := tpop_any now hT hwy
          unfold PopPost at hpop
          rw [hpl] at hpop
          dsimp only at hpop
          clear he2 he3 hbase hir
          go_wp2_with fail
          refine hpop.mono ?_
          rintro e w5 ⟨rfl, hT5, hk5⟩
          have hb5 := hb.trans (hk5.bel hb.size hbm)
          have hO5 := hO2.kept hk5 (fun g hg e => by have := (hO2.lt g hg).1; omega)
          have hcell5 := hk5.cell hcell (by dsimp only; omega)
          have hw5 : WfT l := fun t ht => hwy t (hmem t ht)
          clear hpop hT hk5 hb hO2 hcell hwy
          go_wp2
          go_roundw
          case rel => exact ⟨j + 1, l, by go_num, by omega, hT5, hw5, hdl2, by omega, hO5, hb5⟩
          case measure => simp [intOf]; omega
        · have hjz : ¬ (j : Int) < (m : Int) := by omega
          rw [List.drop_eq_nil_of_le (by omega)] at hdy
          have hpop := tpop_any now hT hwy
          unfold PopPost at hpop
          rw [pop_none hdy] at hpop
          dsimp only at hpop
          have hyl : (y.length : Int) = (X : Int) - (m : Int) := by omega
          go_wp2_with fail
          refine hpop.mono ?_
          rintro e w5 ⟨rfl, hT5, hk5⟩
          have hb5 := hb.trans (hk5.bel hb.size hbm)
          clear hpop hT hk5 hb hO2
          have hdue := due_any now hT5 (by omega)
          rw [hdy] at hdue
          go_wp2_with fail
          refine hdue.mono ?_
          rintro e w6 ⟨v, rfl, hO6, hx6⟩
          obtain ⟨A6, c6, rfl, _⟩ := hO6.form
          have hb6 := hb5.trans (hx6.mono hb5.size)
          have hlen := tlen_any (hT5.below hx6)
          rw [hyl] at hlen
          go_wp2_with fail
          refine hlen.mono ?_
          rintro e w' ⟨rfl, hww⟩
          subst w'
          go_wp2
          go_ret
          exact ⟨by simp, hb6⟩

namespace backoffPopsDone
open Go.ChangeShapes Go.WideShapes Go.ChangeAt
set_option maxRecDepth 100000 in
theorem lifted (os : Os) (started : os.Started) (H : Type) (enc : TypeId × Value → H) :
    ReturnsInHanded {} Try.checked os 6 .any (Rows.backoffPopsSpec.pre6 enc Try.prog Try.f6 Rows.backoffPopsRow.domain false) (Rows.backoffPopsSpec.post enc Try.prog Try.f6 false true false false) := by
  refine returnsInHanded_of_change_sized (C := Try.checked) own started (by kernel_rfl) Try.func6
    (ChangeSpec.witness6 (enc := enc) (C := Try.checked) false ⟨#[], #[Value.slice none 0 0, Value.int .i64 0], []⟩ 8 (by kernel_rfl) (by kernel_rfl) (by kernel_rfl) (by kernel_rfl)) ?_
  intro W base args ds gs before hval0 hW hcnd hsz0 _
  have hsz : (DataW.weightsEach Try.prog (Try.f6.params.toList ++ Rows.backoffPopsSpec.plain.varTypes Try.prog) (ds ++ gs)).all (· ≤ reachBytes) = true := hsz0
  clear hsz0
  have hval : ∀ (j : Nat) t v, Try.f6.params[j]? = some t → args[j]? = some v → Value.okWide Try.prog W .any base t v := hval0
  have hW' := hW
  obtain ⟨p, q, hA0, hV, rfl, hfz, hnd⟩ := hW
  have hA : DataW.TrodAll enc Try.prog W 0 (fun _ => true) true Try.f6.params.toList args.toList ds p := hA0
  rw [Try.params6] at hA hval hsz
  obtain ⟨v0, vs0, d0, ds0, p0, q0, hargs, rfl, rfl, h0, r0⟩ := trodAll_cons hA
  obtain ⟨v1, vs1, d1, ds1, p1, q1, rfl, rfl, rfl, h1, r1⟩ := trodAll_cons r0
  obtain ⟨rfl, rfl, rfl⟩ := trodAll_nil r1
  obtain rfl : args = #[v0, v1] := by cases args; simp_all
  obtain ⟨rfl, rfl⟩ := trodVars_none hV
  obtain ⟨a0, len0, cap0, rfl⟩ := okWide_slice Try.underlying27 (hval 0 27 v0 rfl rfl)
  have k0 := h0
  have lt0 : ∀ x ∈ p0, x.block < W.heap.size := by obtain ⟨m, hm⟩ := k0; exact DataW.trod_lt m _ _ _ hm
  obtain ⟨f0, ho0, hc0, hm0⟩ := ops_open h0
  obtain ⟨a1, rfl, rfl, rfl, w1⟩ := open_int Try.underlying3 (hval 1 3 v1 rfl rfl) h1
  clear hA0 hval0
  refine (backoffPops_walk (w := W) a0 len0 cap0 f0 ho0 hc0 hm0 a1 w1).mono fun e W' ⟨he, bel⟩ => ?_
  subst he
  exact ⟨_, rfl, _, _, _, [], _, [], hW', trodAll_mk1 (shut_bool Try.underlying4 _), (trodAll_cons_mk (Below.trod laidOut (by kernel_rfl) (of_decide_eq_true (by kernel_rfl)) k0 bel lt0) (trodAll_cons_mk (shut_int Try.underlying3 w1) trodAll_mk0)), rfl, bel.frame _, fun h => by cases h⟩

theorem over : Rows.backoffPopsRow.holds Try.pinned (OpenSpec.ofChange Rows.backoffPopsSpec) :=
  OpenClaim.holds_of_wide 6 Try.f6 rfl rfl rfl rfl rfl rfl rfl ⟨rfl, rfl, rfl, rfl, rfl⟩ rfl rfl rfl rfl rfl (by kernel_rfl) Try.func6 (by kernel_rfl)
    (of_decide_eq_true (by kernel_rfl)) (by unfold Func.isWrapper; first | (rw [if_pos (by decide +kernel)]; kernel_rfl) | (rw [if_neg (by decide +kernel)]; exact ⟨rfl, rfl⟩))
    (fun os started H enc _ => lifted os started H enc)

/-- The statement. -/
theorem proved : Rows.BackoffPopsSaid := over
end backoffPopsDone
end Go.Proofs.Ytiinlcfggjcmoaa
