/- Goods gone over; stocks that are nil. No condition but sizes. -/
import Derived.Test.YtipmamgmcipbfaaGdM
namespace Go.Proofs.Ytipmamgmcipbfaa
open Go.RowKit Go.Maps Go.Shelf Go.Sort
set_option linter.unusedVariables false
set_option linter.unusedSimpArgs false
attribute [local go_sem] Oper.semAt_some

set_option maxRecDepth 100000 in
set_option maxHeartbeats 3200000 in
theorem gds_gives (Y : TypeId → Prop) (hYs : ¬ Y 9) (hYm : ¬ Y 81) (hYn : ¬ Y 80) (hYf : ¬ Y 108) (hYb : ¬ Y 85) (B : Nat) (A : Option Addr) (n c : Nat) (l : List Sk) (S : Nat → Prop) (w : World) (hS : ∀ k, S k → k < w.heap.size) (hc : w.cell? ⟨B, 0, none⟩ = some (.slice A n c))
    (hv : VL w A n (l.map Sk.v)) (hs : ∀ x ∈ l, SP w x) (hks : ∀ x ∈ l, x.ks.Nodup ∧ x.ks.length ≤ 64 ∧ ∀ g ∈ x.ks, g.length ≤ maxLen) (hn : n ≤ 1000) (hkl : (knownL l).length ≤ 1048576) :
    SeqT Y 37 #[.pointer (some ⟨B, 0, none⟩)] (fun x : List UInt8 => #[.string ⟨x.toArray⟩]) (sortU (knownL l)) S w := fun z J Jx W hW hl0 hlW hJ hJx hY h0 => by
  have hc' := (hW.cell (World.block_lt_of_cell? _ _ hc)).trans hc
  have hkw : ∀ g ∈ knownL l, g.length ≤ maxLen := fun g hg => by
    obtain ⟨x, hx, hgx⟩ := (mem_knownL l g).1 hg
    exact (hks x hx).2.2 g hgx
  have hzW := hW.size
  obtain ⟨L, hL⟩ : ∃ L, sortU (knownL l) = L := ⟨_, rfl⟩
  rw [hL] at hY ⊢
  have hb2 := (Below.refl W.heap.size W).alloc (Nat.le_refl _) (.cells #[.func (.yield z) #[] #[]] 85)
  have hc2 := cell_old (.cells #[.func (.yield z) #[] #[]] 85) hc'
  have hbx := Blk.new W 85 #[.func (.yield z) #[] #[]]
  have hWb := hW.trans (hb2.mono hW.size)
  have hkn := known_any A n c l _ (hv.below hWb) (fun x hx => (hs x hx).below hWb) hks hn
  refine callsIn_wide.2 ((callsIn_wide (n := 9)).1 ?_)
  refine callsIn_of_wp_marks Try.func37 rfl trivial ?_ rfl
  simp only [Try.ntmps37, List.size_toArray, List.length_cons, List.length_nil, Nat.reduceAdd, Nat.reduceSub, Array.replicate_succ, Array.replicate_zero, List.push_toArray, List.append_toArray, List.nil_append, List.cons_append]
  generalize hW2 : W.alloc (.cells #[.func (.yield z) #[] #[]] 85) = W2 at hc2 hb2 hbx hkn
  have hz2 : W2.heap.size = W.heap.size + 1 := by rw [← hW2]; simp
  gi_wp2_with (first | (refine ⟨trivial, ?_⟩; gi_at_call 34; refine (callsIn_wide.2 hkn).mono ?_; rintro e w1 ⟨b, N, V, rfl, hml, hbb, hbx1⟩) | (refine ⟨trivial, ?_⟩; gi_at_call 35; refine (callsIn_wide.2 (mmap_make (some b) w1)).mono ?_; rintro e w2 ⟨rfl, rfl⟩))
  have hz1 := hbx1.size
  have hb3 := hb2.trans (hbx1.mono hb2.size)
  have hb4 := hb3.alloc hb3.size (.cells #[.map (some b)] 81)
  have hbx3 := (hbx.kept (Keep.of_below hbx1) (by have := hbx.lt; omega)).alloc (.cells #[.map (some b)] 81)
  have hml3 := hml.below ((Below.refl _ w1).alloc (Nat.le_refl _) (.cells #[.map (some b)] 81))
  have hBk := Blk.new w1 81 #[.map (some b)]
  have hJ3 := hJ _ _ _ none h0 (grown_below hb4) (fun r e => by cases e)
  have hz3 : (w1.alloc (.cells #[.map (some b)] 81)).heap.size = w1.heap.size + 1 := by simp
  obtain ⟨D0, hown, hD0⟩ := hml3.mp
  have hbl := hml3.lt
  obtain ⟨w3, hw3⟩ : ∃ w3, w1.alloc (.cells #[.map (some b)] 81) = w3 := ⟨_, rfl⟩
  rw [hw3] at hb4 hbx3 hml3 hBk hJ3 hz3 hown hbl ⊢
  have hseq := mmap_gives Y hYs hYm hYn hYf w1.heap.size b N D0 V (knownL l) (fun k => S k ∨ k = z) w3 (fun k h => h.elim (fun h => by have := hS k h; omega) (fun h => by omega)) hBk hown hD0 hkl hkw (fun h => h.elim (fun h => by have := hS _ h; omega) (fun e => by omega)) (fun h => h.elim (fun h => by have := hS _ h; omega) (fun e => by omega))
  have hnx : ¬ (S W.heap.size ∨ W.heap.size = z) := fun h => h.elim (fun h => by have := hS _ h; omega) (fun e => by omega)
  rw [hL] at hseq
  clear hW2 hw3 hc2 hbx hb2 hc' h0 hL hkn hml hown hD0 hb3 hbx1
  refine range_ownT (a := _) (w := w3) (w0 := w3) (gf := 55) (lb := #[.pointer (some ⟨w1.heap.size, 0, none⟩)]) (by first | rfl | simp [go_sem]) (enters_of Try.func55 (by kernel_rfl) rfl) hseq (Below.refl _ _) (fun k h => h.elim (fun h => by have := hS k h; omega) (fun h => by omega)) (fun _ => rfl)
    (fun pre W' => J pre W' ∧ Blk W' W.heap.size 85 #[.func (.yield z) #[] #[]]) (fun c pre W' => c = .ret ∧ Jx pre W') ?hI ?hIx ⟨hJ3, hbx3⟩ ?round ?done ?stop
  case hI => exact fun s A A' row h hg hr => ⟨ownFrom_mono hJ (by omega) s A A' row h.1 hg hr, h.2.row3 hg hr⟩
  case hIx => exact fun c s A A' row h hg hr => ⟨h.1, ownFrom_mono hJx (by omega) s A A' row h.2 hg hr⟩
  case round =>
    apply Exists.intro
    constructor
    · intro l' x W' K hK
      gi_wp2
      exact hK
    · rintro l' pre x W' hpre hz ⟨hJ', hX'⟩
      have c2 := hX'.cell 0
      simp only [List.getElem?_toArray, List.getElem?_cons_zero] at c2
      obtain ⟨⟨fn, tmps, assign, body, hy, hR⟩, -⟩ : YieldAt (Fence.wide.inRound l') 6 Try.prog z #[.string ⟨x.toArray⟩] W' _ ∧ True := ⟨yieldAny 6 (hY pre x W' hpre (by omega) hJ'), trivial⟩
      gi_wp2
      refine hR.mono ?_
      rintro e W6 ⟨hk6, ⟨rfl, hJ6⟩ | ⟨rfl, hJx6⟩⟩
      · gi_wp2
        exact ⟨hk6, hJ6, hk6.blk hX' hnx hYb⟩
      · gi_wp2
        exact ⟨hk6, rfl, hJx6⟩
  case done =>
    intro D W' hD8 ⟨hJ', hX'⟩ hDf
    gi_wp2
    refine ⟨by simp, .inl ⟨_, _, rfl, run_takeDeferred hDf, ?_⟩⟩
    exact ⟨_, results_none rfl _ _ _, ⟨_, rfl⟩, .inl (hJ.putObj _ hJ' (by omega) hDf rfl)⟩
  case stop =>
    rintro D c pre W' hD8 hpre ⟨rfl, hJx'⟩ hDf
    gi_wp2
    refine ⟨by simp, .inl ⟨_, _, rfl, run_takeDeferred hDf, ?_⟩⟩
    exact ⟨_, results_none rfl _ _ _, ⟨_, rfl⟩, .inr ⟨pre, hpre, hJx.putObj _ hJx' (by omega) hDf rfl⟩⟩
/-- Stocks that are nil. -/
def nilL (n : Nat) : List Sk := List.replicate n ⟨.pointer none, fun _ => row0, []⟩
theorem nilL_sp (n : Nat) (w : World) : ∀ x ∈ nilL n, SP w x := fun x hx => by
  rw [List.eq_of_mem_replicate hx]
  exact .inl ⟨rfl, rfl, rfl⟩
theorem nilL_ks (n : Nat) : ∀ x ∈ nilL n, x.ks.Nodup ∧ x.ks.length ≤ 64 ∧ ∀ g ∈ x.ks, g.length ≤ maxLen := fun x hx => by
  rw [List.eq_of_mem_replicate hx]
  exact ⟨List.nodup_nil, by simp, fun g hg => by simp at hg⟩
theorem nilL_known (n : Nat) : knownL (nilL n) = [] := by
  rw [List.eq_nil_iff_forall_not_mem]
  intro g hg
  obtain ⟨x, hx, h⟩ := (mem_knownL _ g).1 hg
  rw [List.eq_of_mem_replicate hx] at h
  simp at h
theorem nilL_sort (n : Nat) : sortU (knownL (nilL n)) = [] := by
  rw [nilL_known]
  unfold sortU
  simp
theorem add_zero : addR row0 row0 = row0 := by
  have : wrap64 ((0 : Int) + 0) = 0 := by decide +kernel
  unfold addR row0
  simp only [this]
theorem nilL_sum (n : Nat) (g : List UInt8) : sumR ((nilL n).map fun x => x.f g) = row0 := by
  unfold nilL
  rw [List.map_replicate]
  show sumR (List.replicate n row0) = row0
  induction n with
  | zero => rfl
  | succ n ih => rw [List.replicate_succ', sumR_snoc, ih, add_zero]
theorem nilL_v (n : Nat) : (nilL n).map Sk.v = List.replicate n (.pointer none) := by
  unfold nilL
  rw [List.map_replicate]
theorem run_make_nils (w : World) (base n : Nat) (hb : base ≤ w.heap.size) (hn : n ≤ 100) :
    ∃ w', (Instr.makeSlice 23 (.int .i64 (n : Int)) (.int .i64 (n : Int))).run Try.prog w = .ok (.slice (some ⟨w.heap.size, 0, none⟩) n n) w' ∧ PO base w' (.slice (some ⟨w.heap.size, 0, none⟩) n n) ((nilL n).map Sk.v) ∧ Below w.heap.size w w' := by
  obtain ⟨i, hi, hz, hs, hb1⟩ := info_parts ptr_info
  obtain ⟨w', h1, h2, h3⟩ := run_make_full (P := Try.prog) w base 23 48 i (.pointer none) 1 Try.underlying23 hi hz hs .i64 .i64 n (by rw [hb1]; omega) (by simp only [maxLen]; omega) hb
  refine ⟨w', h1, ?_, ((Keep.of_grown h3).below (Nat.le_refl _) fun k _ h => by cases h)⟩
  have e : (madeCells (Value.pointer none).cells (n * 1)).toList = (nilL n).map Sk.v := by
    rw [nilL_v]
    apply List.ext_getElem?
    intro i
    by_cases hi : i < n
    · simp [madeCells, hi, Value.cells, Nat.mod_one]
    · simp [madeCells, hi, Nat.not_lt.1 hi]
  rw [e] at h2
  unfold PO
  rw [List.length_map, show (nilL n).length = n from by simp [nilL]]
  exact h2
set_option maxRecDepth 100000 in
theorem levD_same (d : Nat) (x0 x1 x2 x3 : Int) (W : World) : (Op.equalIn (d + 3) 29 (.agg #[.int .i64 x0, .int .i64 x1, .int .i64 x2, .int .i64 x3]) (.agg #[.int .i64 x0, .int .i64 x1, .int .i64 x2, .int .i64 x3])).run Try.prog W = .ok true W := by
  have hS : Try.prog.underlying 29 = some (.struct (Try.prog.fieldsOf 29)) := by kernel_rfl
  have hp : Try.prog.stoodInHeld 29 = false := by kernel_rfl
  have u3 := Try.underlying3
  have a3 := Try.isAgg3
  have z3 := Try.sizeOf3
  rw [run_equalIn_agg W (d + 2) _ _ _ hS hp]
  simp only [Program.fieldsOf, Try.underlying29]
  go_simp
set_option maxRecDepth 100000 in
theorem floD_same (d : Nat) (x4 x5 x6 x7 x8 x9 x10 : Int) (W : World) : (Op.equalIn (d + 3) 31 (.agg #[.int .i64 x4, .int .i64 x5, .int .i64 x6, .int .i64 x7, .int .i64 x8, .int .i64 x9, .int .i64 x10]) (.agg #[.int .i64 x4, .int .i64 x5, .int .i64 x6, .int .i64 x7, .int .i64 x8, .int .i64 x9, .int .i64 x10])).run Try.prog W = .ok true W := by
  have hS : Try.prog.underlying 31 = some (.struct (Try.prog.fieldsOf 31)) := by kernel_rfl
  have hp : Try.prog.stoodInHeld 31 = false := by kernel_rfl
  have u3 := Try.underlying3
  have a3 := Try.isAgg3
  have z3 := Try.sizeOf3
  rw [run_equalIn_agg W (d + 2) _ _ _ hS hp]
  simp only [Program.fieldsOf, Try.underlying31]
  go_simp
set_option maxRecDepth 100000 in
theorem tot_same (g : List UInt8) (x0 x1 x2 x3 x4 x5 x6 x7 x8 x9 x10 x11 : Int) (W : World) : (binOp .eql 33 (.agg #[.string ⟨g.toArray⟩, .int .i64 x0, .int .i64 x1, .int .i64 x2, .int .i64 x3, .int .i64 x4, .int .i64 x5, .int .i64 x6, .int .i64 x7, .int .i64 x8, .int .i64 x9, .int .i64 x10, .int .i64 x11]) (.agg #[.string ⟨g.toArray⟩, .int .i64 x0, .int .i64 x1, .int .i64 x2, .int .i64 x3, .int .i64 x4, .int .i64 x5, .int .i64 x6, .int .i64 x7, .int .i64 x8, .int .i64 x9, .int .i64 x10, .int .i64 x11])).run Try.prog W = .ok (.bool true) W := by
  have hS : Try.prog.underlying 33 = some (.struct (Try.prog.fieldsOf 33)) := by kernel_rfl
  have hp : Try.prog.stoodInHeld 33 = false := by kernel_rfl
  have u3 := Try.underlying3
  have a3 := Try.isAgg3
  have z3 := Try.sizeOf3
  have u9 := Try.underlying9
  have a9 := Try.isAgg9
  have z9 := Try.sizeOf9
  have a4 := Try.isAgg29
  have z4 := Try.sizeOf29
  have a5 := Try.isAgg31
  have z5 := Try.sizeOf31
  rw [run_eql_struct, show (10000 : Nat) = 9996 + 3 + 1 from rfl]
  generalize 9996 = d
  rw [run_equalIn_agg W (d + 3) _ _ _ hS hp]
  clear hS hp
  simp only [Program.fieldsOf, Try.underlying33]
  have e1 := levD_same d x0 x1 x2 x3 W
  have e2 := floD_same d x4 x5 x6 x7 x8 x9 x10 W
  go_simp
theorem tot_guard : Try.prog.eqGuardType Try.prog.depth 33 = false := by kernel_rfl
end Go.Proofs.Ytipmamgmcipbfaa
