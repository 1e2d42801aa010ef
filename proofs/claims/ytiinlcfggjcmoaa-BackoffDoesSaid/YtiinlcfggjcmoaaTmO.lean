/- Pop, First of timers; of nil ones. No condition but that keys and times are ints. -/
import Derived.Test.YtiinlcfggjcmoaaTmE
namespace Go.Proofs.Ytiinlcfggjcmoaa
open Go.RowKit Go.Maps Go.Sort
set_option linter.unusedVariables false
set_option linter.unusedSimpArgs false

theorem run_range_nil (W : World) : (Instr.range 51 (.map none)).run Try.prog W = .ok (.pointer (some ⟨W.heap.size, 0, none⟩)) (W.alloc (.mapIter none 0 #[] 0)) := by
  simp [Instr.range, run_underlying Try.underlying51, Result.andThen]
theorem run_get_iter {W : World} {l : Nat} (h : W.heap[l]? = some (.mapIter none 0 #[] 0)) : (getObj l).run Try.prog W = .ok (.mapIter none 0 #[] 0) W := by simp [getObj, Sem.run, h]
theorem run_next_nil (W : World) (n : Nat) (hn : W.heap.size = n) : (Instr.next (.pointer (some ⟨n, 0, none⟩)) false 0).run Try.prog (W.alloc (.mapIter none 0 #[] 0)) = .ok (.tuple #[.bool false]) (W.alloc (.mapIter none 0 #[] 0)) := by
  subst hn
  have h := heap_alloc_new W (.mapIter none 0 #[] 0)
  have hg := run_get_iter h
  unfold Instr.next
  simp only [Sem.run_bind, hg, Result.andThen_ok]
  rfl
set_option maxRecDepth 100000 in
set_option maxHeartbeats 1600000 in
theorem early_nil (w : World) :
    Calls Try.prog 25 #[.pointer none] w fun e w' => e = .returned (.tuple #[.agg #[.int .i64 0, .int .i64 0], .bool false]) ∧ RowKit.Below w.heap.size w w' := by
  go_enter Try.func25, Try.ntmps25
  go_wp2_with fail
  refine (tall_nil _).mono ?_
  rintro e w' ⟨rfl, hww⟩
  subst w'
  have hr := run_range_nil ((w.alloc (.cells #[.int .i64 0, .int .i64 0] 56)).alloc (.cells #[.int .i64 0, .int .i64 0] 56))
  have hn := run_next_nil ((w.alloc (.cells #[.int .i64 0, .int .i64 0] 56)).alloc (.cells #[.int .i64 0, .int .i64 0] 56)) (w.heap.size + 2) (by simp)
  rw [show ((w.alloc (.cells #[.int .i64 0, .int .i64 0] 56)).alloc (.cells #[.int .i64 0, .int .i64 0] 56)).heap.size = w.heap.size + 2 by simp] at hr
  go_wp2
  refine wp_loop_rounds 2 ?_
  rw [rounds_succ]
  go_wp2
  refine bodyPost_ret (v := .tuple #[.agg #[.int .i64 0, .int .i64 0], .bool false]) (by simp [results, Try.results25, go_sem]) rfl ?_
  exact ⟨rfl, (((RowKit.Below.refl _ _).alloc (Nat.le_refl _) _).alloc (by simp) _).alloc (by simp; omega) _⟩
theorem early_hd {x : List Tm} : earlyP x = match x with | [] => ((0, 0), false) | t :: _ => (t, true) := by cases x <;> rfl
/-- What is popped, what is left. -/
def popP (x : List Tm) (now : Int) : (Int × Bool) × List Tm := match x with
  | [] => ((0, false), [])
  | t :: l => if now < t.2 then ((0, false), t :: l) else ((t.1, true), l)
theorem drop_head {t : Tm} {l : List Tm} (h : OrdT (t :: l)) : dropT (t :: l) t.1 = l := by
  have hk := h.keys
  rw [List.map_cons, List.nodup_cons] at hk
  unfold dropT
  rw [List.filter_cons]
  simp only [decide_true, Bool.not_true, Bool.false_eq_true, if_false]
  rw [List.filter_eq_self]
  intro y hy
  have : y.1 ≠ t.1 := fun e => hk.1 (by rw [← e]; exact List.mem_map_of_mem (f := (·.1)) hy)
  simp [this]
set_option maxRecDepth 100000 in
set_option maxHeartbeats 1600000 in
theorem tfirst_any {w : World} {p b N : Nat} {x : List Tm} (h : TM w p b N x) : Calls Try.prog 20 #[.pointer (some ⟨p, 0, none⟩)] w fun e w' => e = .returned (.tuple #[.int .i64 (earlyP x).1.2, .bool (earlyP x).2]) ∧ RowKit.Below w.heap.size w w' := by
  have key := early_any h
  unfold EarlyPost at key
  generalize earlyP x = q at key ⊢
  obtain ⟨⟨k, a⟩, fd⟩ := q
  dsimp only at key ⊢
  go_enter Try.func20, Try.ntmps20
  go_wp2_with fail
  refine key.mono ?_
  rintro e w1 ⟨rfl, hb⟩
  go_wp2
  go_ret2
  exact ⟨rfl, hb.alloc hb.size _⟩
theorem tfirst_nil (w : World) : Calls Try.prog 20 #[.pointer none] w fun e w' => e = .returned (.tuple #[.int .i64 0, .bool false]) ∧ RowKit.Below w.heap.size w w' := by
  go_enter Try.func20, Try.ntmps20
  go_wp2_with fail
  refine (early_nil _).mono ?_
  rintro e w1 ⟨rfl, hb⟩
  go_wp2
  go_ret2
  exact ⟨rfl, hb.alloc hb.size _⟩
theorem tpop_nil (now : Int) (w : World) : Calls Try.prog 18 #[.pointer none, .int .i64 now] w fun e w' => e = .returned (.tuple #[.int .i64 0, .bool false]) ∧ RowKit.Below w.heap.size w w' := by
  go_enter Try.func18, Try.ntmps18
  go_wp2_with fail
  refine (early_nil _).mono ?_
  rintro e w1 ⟨rfl, hb⟩
  go_wp2
  go_ret2
  exact ⟨rfl, hb.alloc hb.size _⟩
def PopPost (w : World) (p b N : Nat) (x : List Tm) (now : Int) (e : Ending) (w' : World) : Prop := e = .returned (.tuple #[.int .i64 (popP x now).1.1, .bool (popP x now).1.2]) ∧ TM w' p b N (popP x now).2 ∧ Keep (fun i => i = b) w w'
theorem popP_nil (now : Int) : popP [] now = ((0, false), []) := rfl
theorem popP_late {t : Tm} {l : List Tm} {now : Int} (h : now < t.2) : popP (t :: l) now = ((0, false), t :: l) := by simp [popP, h]
theorem popP_due {t : Tm} {l : List Tm} {now : Int} (h : ¬ now < t.2) : popP (t :: l) now = ((t.1, true), l) := by simp [popP, h]
set_option maxRecDepth 100000 in
set_option maxHeartbeats 1600000 in
theorem tpop_any {w : World} {p b N : Nat} {x : List Tm} (now : Int) (h : TM w p b N x) (hwf : ∀ t ∈ x, (Lit.int .i64 t.1).wf = true) : Calls Try.prog 18 #[.pointer (some ⟨p, 0, none⟩), .int .i64 now] w (PopPost w p b N x now) := by
  have key := early_any h
  unfold EarlyPost at key
  have hbl := h.lt
  cases x with
  | nil =>
    unfold PopPost
    rw [popP_nil]
    dsimp only [earlyP] at key ⊢
    go_enter Try.func18, Try.ntmps18
    go_wp2_with fail
    refine key.mono ?_
    rintro e w1 ⟨rfl, hb⟩
    have hb2 := hb.alloc hb.size (.cells #[.int .i64 0, .int .i64 0] 56)
    go_wp2
    go_ret2
    exact ⟨rfl, h.below hb2, (Keep.of_below hb2).mono fun k hk e => absurd hk (Nat.not_lt.2 e)⟩
  | cons t l =>
    obtain ⟨k, a⟩ := t
    by_cases hlt : now < a
    · unfold PopPost
      rw [popP_late hlt]
      dsimp only [earlyP] at key ⊢
      go_enter Try.func18, Try.ntmps18
      go_wp2_with fail
      refine key.mono ?_
      rintro e w1 ⟨rfl, hb⟩
      have hb2 := hb.alloc hb.size (.cells #[.int .i64 k, .int .i64 a] 56)
      go_wp2
      go_ret2
      exact ⟨rfl, h.below hb2, (Keep.of_below hb2).mono fun k hk e => absurd hk (Nat.not_lt.2 e)⟩
    · unfold PopPost
      rw [popP_due hlt]
      have hdr := drop_head h.ord
      dsimp only [earlyP] at key hdr ⊢
      have hwk := hwf _ (List.mem_cons_self)
      dsimp only at hwk
      have HDR := Lib.hid hdr
      clear hdr hwf
      go_enter Try.func18, Try.ntmps18
      go_wp2_with fail
      refine key.mono ?_
      rintro e w1 ⟨rfl, hb⟩
      have hb2 := hb.alloc hb.size (.cells #[.int .i64 k, .int .i64 a] 56)
      have h2 := h.below hb2
      have hn2 := Blk.new w1 56 #[.int .i64 k, .int .i64 a]
      clear key
      go_wp2_with fail
      generalize w1.alloc (.cells #[.int .i64 k, .int .i64 a] 56) = w2 at *
      obtain ⟨D, hm, hd⟩ := h2.mp
      have hzw := hb.size
      have c0 := h2.drew.pc.cell 0
      have c1 := hn2.drew.cell 0
      simp at c0 c1
      obtain ⟨w3, hrun, hm3, ht3⟩ := (ownsMap_kept hm ((Keep.refl (fun _ => False) w2).drew) id).drop kI Try.underlying51 (keyI hwk) 0
      have k3 : Keep (fun i => i = b) w2.drew w3 := (Keep.of_grown ht3.grown).mono fun i _ e => (Option.some.inj e).symm
      have hp3 := h2.pc.drew.kept k3 h2.ne
      have hn3 := hn2.drew.kept k3 (by omega)
      have hd3 := hd.del h2.ord k
      refine wp_region_held_drew (S := (fun w' => w'.cell? ⟨p, 0, none⟩ = some (.map (some b)) ∧ w'.cell? ⟨w1.heap.size, 0, none⟩ = some (.int .i64 k))) (by kernel_rfl) ⟨c0, c1⟩ (fun hHeld => ?_)
      refine wpAnyH_take (i := 0) (oi := ?oi0) (v := ?v0) ?hi0 (by kernel_rfl) (by kernel_rfl) (by kernel_rfl) ?hq0 (Or.inl ⟨?hw0, ?hy0⟩) (by assumption) ?rest0
      case hi0 => (simp only [List.getElem?_toArray, List.getElem?_cons_succ, List.getElem?_cons_zero]; rfl)
      case hq0 => exact fun _ _ _ h => h
      case hw0 => rfl
      case hy0 => (intro w hSw; (try dsimp only at hSw); go_simp <;> with_reducible rfl)
      try simp only [Act.put, List.setIfInBounds_toArray, List.set_cons_zero, List.set_cons_succ]
      refine wpAnyH_take (i := 1) (oi := ?oi1) (v := ?v1) ?hi1 (by kernel_rfl) (by kernel_rfl) (by kernel_rfl) ?hq1 (Or.inl ⟨?hw1, ?hy1⟩) (by assumption) ?rest1
      case hi1 => (simp only [List.getElem?_toArray, List.getElem?_cons_succ, List.getElem?_cons_zero]; rfl)
      case hq1 => exact fun _ _ _ h => h
      case hw1 => rfl
      case hy1 => (intro w hSw; (try dsimp only at hSw); go_simp <;> with_reducible rfl)
      try simp only [Act.put, List.setIfInBounds_toArray, List.set_cons_zero, List.set_cons_succ]
      refine wpAnyH_take (i := 2) (oi := ?oi2) (v := ?v2) ?hi2 (by kernel_rfl) (by kernel_rfl) (by kernel_rfl) ?hq2 (Or.inl ⟨?hw2, ?hy2⟩) (by assumption) ?rest2
      case hi2 => (simp only [List.getElem?_toArray, List.getElem?_cons_succ, List.getElem?_cons_zero]; rfl)
      case hq2 => exact fun _ _ _ h => h
      case hw2 => rfl
      case hy2 => (intro w hSw; (try dsimp only at hSw); go_simp <;> with_reducible rfl)
      try simp only [Act.put, List.setIfInBounds_toArray, List.set_cons_zero, List.set_cons_succ]
      refine wpAnyH_take (i := 3) (oi := ?oi3) (v := ?v3) ?hi3 (by kernel_rfl) (by kernel_rfl) (by kernel_rfl) ?hq3 (Or.inl ⟨?hw3, ?hy3⟩) (by assumption) ?rest3
      case hi3 => (simp only [List.getElem?_toArray, List.getElem?_cons_succ, List.getElem?_cons_zero]; rfl)
      case hq3 => exact fun _ _ _ h => h
      case hw3 => rfl
      case hy3 => (intro w hSw; (try dsimp only at hSw); go_simp <;> with_reducible rfl)
      try simp only [Act.put, List.setIfInBounds_toArray, List.set_cons_zero, List.set_cons_succ]
      refine wpAnyH_take (i := 4) (oi := ?oi4) (v := ?v4) ?hi4 (by kernel_rfl) (by kernel_rfl) (by kernel_rfl) ?hq4 (Or.inl ⟨?hw4, ?hy4⟩) (by assumption) ?rest4
      case hi4 => (simp only [List.getElem?_toArray, List.getElem?_cons_succ, List.getElem?_cons_zero]; rfl)
      case hq4 => exact fun _ _ _ h => h
      case hw4 => rfl
      case hy4 => (intro w hSw; (try dsimp only at hSw); go_simp <;> with_reducible rfl)
      try simp only [Act.put, List.setIfInBounds_toArray, List.set_cons_zero, List.set_cons_succ]
      refine wpAnyH_take (i := 5) (oi := ?oi5) (v := ?v5) ?hi5 (by kernel_rfl) (by kernel_rfl) (by kernel_rfl) ?hq5 (Or.inl ⟨?hw5, ?hy5⟩) (by assumption) ?rest5
      case hi5 => (simp only [List.getElem?_toArray, List.getElem?_cons_succ, List.getElem?_cons_zero]; rfl)
      case hq5 => exact fun _ _ _ h => h
      case hw5 => rfl
      case hy5 => (intro w hSw; (try dsimp only at hSw); go_simp <;> with_reducible rfl)
      try simp only [Act.put, List.setIfInBounds_toArray, List.set_cons_zero, List.set_cons_succ]
      refine wpAnyH_ready (rs := [6]) (by kernel_rfl) (by simp) ?_
      refine AllReadyH.cons (o := ?o6) ?hi6 (fun K hK => ?st6) AllReadyH.nil
      case hi6 => (simp only [List.getElem?_toArray, List.getElem?_cons_succ, List.getElem?_cons_zero]; rfl)
      go_simp
      have u0 := hp3.cell 0
      have u1 := hn3.cell 0
      simp at u0 u1
      refine hK.out _ _ ⟨u0, u1⟩ (fun hHeld2 => ?_)
      clear hK K hHeld
      have hHeld := hHeld2
      clear hHeld2
      try simp only [Act.put, List.setIfInBounds_toArray, List.set_cons_zero, List.set_cons_succ]
      refine wpAnyH_done (by kernel_rfl) ?_ _
      have u0 := hn3.cell 0
      simp at u0
      have k03 : Keep (fun i => i = b) w w3 := ((Keep.of_below hb2).mono fun k hk e => absurd hk (Nat.not_lt.2 e)).drew.trans k3 (fun i hi e => e)
      clear hrun
      go_wp2
      go_ret2
      refine ⟨rfl, ?_, k03⟩
      have hfin : TM w3 p b N (dropT ((k, a) :: l) k) := ⟨hp3, ⟨_, hm3, hd3⟩, h2.ne, h2.ord.drop k⟩
      rw [HDR.out] at hfin
      exact hfin
end Go.Proofs.Ytiinlcfggjcmoaa
