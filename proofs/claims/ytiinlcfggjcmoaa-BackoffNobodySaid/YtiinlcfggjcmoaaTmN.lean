/- Nil timers: none to go over, none due. No condition. -/
import Derived.Test.YtiinlcfggjcmoaaTmL
namespace Go.Proofs.Ytiinlcfggjcmoaa
open Go.RowKit Go.Maps Go.Sort Go.Shelf
set_option linter.unusedVariables false
set_option linter.unusedSimpArgs false
attribute [local go_sem] Oper.semAt_some

set_option maxRecDepth 100000 in
set_option maxHeartbeats 1600000 in
theorem titer_nil_goes (B : Nat) (w : World) (hB : B < w.heap.size) (hc : w.cell? ⟨B, 0, none⟩ = some (.pointer none)) :
    SeqStopsK (α := Empty) Fence.wide 8 Try.prog 26 #[.pointer (some ⟨B, 0, none⟩)] (fun x => x.elim) (RowKit.Below w.heap.size) (fun _ => True) (fun _ => False) 0 w := fun l J Jx W hW hJ _ hY h0 => by
  have hc' := (hW.cell (p := ⟨B, 0, none⟩) hB).trans hc
  have hso := sorted_nil W
  refine callsIn_of_wp Try.func26 rfl trivial ?_ rfl
  simp only [Try.ntmps26, List.size_toArray, List.length_cons, List.length_nil, Nat.reduceAdd, Nat.reduceSub, Array.replicate_succ, Array.replicate_zero, List.push_toArray, List.append_toArray, List.nil_append, List.cons_append]
  gi_wp2_with (refine ⟨trivial, ?_⟩; gi_at_call 27; refine (callsIn_wide.2 hso).mono ?_; rintro e w2 ⟨rfl, hb⟩)
  have hJ2 := hJ _ _ _ none h0 (grown_below hb) (fun r e => by cases e)
  clear hso h0 hc hc' hb
  gi_loopw [8] (fun i wr => i = .int .i64 0 ∧ J [] wr) (fun i _ => 0)
  case atStart => exact ⟨rfl, hJ2⟩
  case round =>
    obtain ⟨rfl, hJs⟩ := hrel
    gi_wp2
    go_end0
    exact ⟨⟨_, rfl⟩, .inl ⟨[], trivial, hJs⟩⟩

set_option maxRecDepth 100000 in
set_option maxHeartbeats 3200000 in
theorem due_nil {w : World} (now : Int) :
    Calls Try.prog 19 #[.pointer none, .int .i64 now] w fun e w' => e = .returned (.slice none 0 0) ∧ RowKit.Below w.heap.size w w' := by
  refine (callsIn_wide (n := 9)).1 ?_
  refine callsIn_of_wp_marks Try.func19 rfl trivial ?_ rfl
  simp only [Try.ntmps19, List.size_toArray, List.length_cons, List.length_nil, Nat.reduceAdd, Nat.reduceSub, Array.replicate_succ, Array.replicate_zero, List.push_toArray, List.append_toArray, List.nil_append, List.cons_append]
  gi_wp2_with (refine ⟨trivial, ?_⟩; gi_at_call 23; refine (callsIn_wide.2 (iall_make none _)).mono ?_; rintro e w2 ⟨rfl, rfl⟩)
  have e1 := ((Blk.new w 3 #[.int .i64 now]).alloc (.cells #[.slice none 0 0] 41)).alloc (.cells #[.pointer none] 28)
  have e2 := (Blk.new (w.alloc (.cells #[.int .i64 now] 3)) 41 #[.slice none 0 0]).alloc (.cells #[.pointer none] 28)
  have e3 := Blk.new ((w.alloc (.cells #[.int .i64 now] 3)).alloc (.cells #[.slice none 0 0] 41)) 28 #[.pointer none]
  rw [World.size_alloc] at e2
  rw [World.size_alloc, World.size_alloc] at e3
  have hb3 := (((RowKit.Below.refl w.heap.size w).alloc (Nat.le_refl _) (.cells #[.int .i64 now] 3)).alloc (by simp) (.cells #[.slice none 0 0] 41)).alloc (by simp; omega) (.cells #[.pointer none] 28)
  have hz3 : (((w.alloc (.cells #[.int .i64 now] 3)).alloc (.cells #[.slice none 0 0] 41)).alloc (.cells #[.pointer none] 28)).heap.size = w.heap.size + 3 := by simp
  generalize hW : ((w.alloc (.cells #[.int .i64 now] 3)).alloc (.cells #[.slice none 0 0] 41)).alloc (.cells #[.pointer none] 28) = W0 at *
  have b0 := e3.cell 0
  simp at b0
  clear hW
  refine range_none (by first | rfl | simp [go_sem]) (enters_of Try.func26 (by kernel_rfl) rfl) (titer_nil_goes (w.heap.size + 1 + 1) _ (by omega) b0) ?_
  intro D W hD hb hDf
  have l0 := (e2.kept (Keep.of_below hb) (by omega)).cell 0
  simp at l0
  have hb4 := hb3.trans (hb.mono (by omega))
  gi_wp2
  refine ⟨by simp, .inl ⟨_, _, rfl, run_takeDeferred hDf, ?_⟩⟩
  exact ⟨_, by simp [results, Try.results19, go_sem], rfl, bel_putD hb4 (by omega) hDf⟩
end Go.Proofs.Ytiinlcfggjcmoaa
