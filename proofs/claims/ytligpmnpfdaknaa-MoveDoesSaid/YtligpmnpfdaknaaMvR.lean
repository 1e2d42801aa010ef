/- Moves: the three iterators of a nil Moves give nothing. -/
import Derived.Test.YtligpmnpfdaknaaMvK
namespace Go.Proofs.Ytligpmnpfdaknaa
open Go.RowKit Go.Maps Go.Shelf Go.Sort
set_option linter.unusedVariables false
set_option linter.unusedSimpArgs false

theorem grown_below {w w' : World} (h : RowKit.Below w.heap.size w w') : w.grownBy w' none := ⟨h.os, h.tape, h.output, h.size, fun k hk _ => h.block k hk⟩
theorem bel_putD {n₀ D : Nat} {w W : World} (h : RowKit.Below n₀ w W) (hn : n₀ ≤ D) (hD : W.heap[D]? = some (.deferred (some []))) : RowKit.Below n₀ w (W.putObj D (.deferred none)) :=
  h.trans ((RowKit.Below.refl n₀ W).grown (grownBy_putObj' W D _) (by have := (Array.getElem?_eq_some_iff.1 hD).1; omega) (fun k e => by cases e; omega))
set_option maxRecDepth 100000 in
set_option maxHeartbeats 1600000 in
theorem krise_nil_goes (B : Nat) (w : World) (hB : B < w.heap.size) (hc : w.cell? ⟨B, 0, none⟩ = some (.map none)) :
    SeqStopsK (α := Empty) Fence.wide 8 Try.prog 56 #[.pointer (some ⟨B, 0, none⟩)] (fun x => x.elim) (RowKit.Below w.heap.size) (fun _ => True) (fun _ => False) 0 w := fun l J Jx W hW hJ _ hY h0 => by
  have hc' := (hW.cell (p := ⟨B, 0, none⟩) hB).trans hc
  have hso := sortedI_nil W
  refine callsIn_of_wp Try.func56 rfl trivial ?_ rfl
  simp only [Try.ntmps56, List.size_toArray, List.length_cons, List.length_nil, Nat.reduceAdd, Nat.reduceSub, Array.replicate_succ, Array.replicate_zero, List.push_toArray, List.append_toArray, List.nil_append, List.cons_append]
  gi_wp2_with (first | (refine ⟨trivial, ?_⟩; gi_at_call 58; refine (callsIn_wide.2 (keysI_any none W)).mono ?_; rintro e w1 ⟨rfl, rfl⟩) | (refine ⟨trivial, ?_⟩; gi_at_call 57; refine (callsIn_wide.2 hso).mono ?_; rintro e w2 ⟨rfl, hb⟩))
  have hb0 := ((Below.refl W.heap.size W).alloc (Nat.le_refl _) (.cells #[.map none] 59)).trans (hb.mono (by simp))
  have hJ2 := hJ _ _ _ none h0 (grown_below hb0) (fun r e => by cases e)
  clear hso h0 hc hc' hb hb0
  gi_loopw [9] (fun i wr => i = .int .i64 0 ∧ J [] wr) (fun i _ => 0)
  case atStart => exact ⟨rfl, hJ2⟩
  case round =>
    obtain ⟨rfl, hJs⟩ := hrel
    gi_wp2
    go_end0
    exact ⟨⟨_, rfl⟩, .inl ⟨[], trivial, hJs⟩⟩
set_option maxRecDepth 100000 in
set_option maxHeartbeats 1600000 in
theorem kmap_nil_goes (B : Nat) (w : World) (hB : B < w.heap.size) (hc : w.cell? ⟨B, 0, none⟩ = some (.map none)) :
    SeqStopsK (α := Empty) Fence.wide 8 Try.prog 51 #[.pointer (some ⟨B, 0, none⟩)] (fun x => x.elim) (RowKit.Below w.heap.size) (fun _ => True) (fun _ => False) 0 w := fun l J Jx W hW hJ _ hY h0 => by
  have hc' := (hW.cell (p := ⟨B, 0, none⟩) hB).trans hc
  have hBW : B < W.heap.size := by have := hW.size; omega
  refine callsIn_wide.2 ((callsIn_wide (n := 9)).1 ?_)
  refine callsIn_of_wp_marks Try.func51 rfl trivial ?_ rfl
  simp only [Try.ntmps51, List.size_toArray, List.length_cons, List.length_nil, Nat.reduceAdd, Nat.reduceSub, Array.replicate_succ, Array.replicate_zero, List.push_toArray, List.append_toArray, List.nil_append, List.cons_append]
  have hc2 := cell_old (.cells #[.func (.yield l) #[] #[]] 85) hc'
  have hb2 := (Below.refl W.heap.size W).alloc (Nat.le_refl _) (.cells #[.func (.yield l) #[] #[]] 85)
  generalize hW2 : W.alloc (.cells #[.func (.yield l) #[] #[]] 85) = W2 at hc2 hb2
  gi_wp2_with (refine ⟨trivial, ?_⟩; gi_at_call 52; refine (callsIn_wide.2 (krising_make none W2)).mono ?_; rintro e w2 ⟨rfl, rfl⟩)
  have hI := (cell_new_a W2 (.map none) 59).1
  have hb3 := hb2.alloc hb2.size (.cells #[.map none] 59)
  refine range_none (by first | rfl | simp [go_sem]) (enters_of Try.func56 (by kernel_rfl) rfl) (krise_nil_goes W2.heap.size _ (by simp) hI) ?_
  intro D Wd hD hb hDf
  have hb4 := hb3.trans (hb.mono hb3.size)
  have hz2 : W.heap.size ≤ D := by have := hb3.size; omega
  have hb5 := bel_putD hb4 hz2 hDf
  have hJ2 := hJ _ _ _ none h0 (grown_below hb5) (fun r e => by cases e)
  gi_wp2
  refine ⟨by simp, .inl ⟨_, _, rfl, run_takeDeferred hDf, ?_⟩⟩
  exact ⟨_, results_none rfl _ _ _, ⟨_, rfl⟩, .inl ⟨[], trivial, hJ2⟩⟩
set_option maxRecDepth 100000 in
set_option maxHeartbeats 1600000 in
theorem pall_nil_goes (B : Nat) (w : World) (hB : B < w.heap.size) (hc : w.cell? ⟨B, 0, none⟩ = some (.pointer none)) :
    SeqStopsK (α := Empty) Fence.wide 8 Try.prog 37 #[.pointer (some ⟨B, 0, none⟩)] (fun x => x.elim) (RowKit.Below w.heap.size) (fun _ => True) (fun _ => False) 0 w := fun l J Jx W hW hJ _ hY h0 => by
  have hc' := (hW.cell (p := ⟨B, 0, none⟩) hB).trans hc
  have hBW : B < W.heap.size := by have := hW.size; omega
  refine callsIn_wide.2 ((callsIn_wide (n := 9)).1 ?_)
  refine callsIn_of_wp_marks Try.func37 rfl trivial ?_ rfl
  simp only [Try.ntmps37, List.size_toArray, List.length_cons, List.length_nil, Nat.reduceAdd, Nat.reduceSub, Array.replicate_succ, Array.replicate_zero, List.push_toArray, List.append_toArray, List.nil_append, List.cons_append]
  have hc2 := cell_old (.cells #[.func (.yield l) #[] #[]] 74) hc'
  have hb2 := (Below.refl W.heap.size W).alloc (Nat.le_refl _) (.cells #[.func (.yield l) #[] #[]] 74)
  generalize hW2 : W.alloc (.cells #[.func (.yield l) #[] #[]] 74) = W2 at hc2 hb2
  gi_wp2_with (refine ⟨trivial, ?_⟩; gi_at_call 34; refine (callsIn_wide.2 (prising_nil W2)).mono ?_; rintro e w2 ⟨rfl, rfl⟩)
  have hI := (cell_new_a W2 (.map none) 79).1
  have hb3 := hb2.alloc hb2.size (.cells #[.map none] 79)
  refine range_none (by first | rfl | simp [go_sem]) (enters_of Try.func51 (by kernel_rfl) rfl) (kmap_nil_goes W2.heap.size _ (by simp) hI) ?_
  intro D Wd hD hb hDf
  have hb4 := hb3.trans (hb.mono hb3.size)
  have hz2 : W.heap.size ≤ D := by have := hb3.size; omega
  have hb5 := bel_putD hb4 hz2 hDf
  have hJ2 := hJ _ _ _ none h0 (grown_below hb5) (fun r e => by cases e)
  gi_wp2
  refine ⟨by simp, .inl ⟨_, _, rfl, run_takeDeferred hDf, ?_⟩⟩
  exact ⟨_, results_none rfl _ _ _, ⟨_, rfl⟩, .inl ⟨[], trivial, hJ2⟩⟩
end Go.Proofs.Ytligpmnpfdaknaa
