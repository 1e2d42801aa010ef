/- Moves: going over a map by its keys in order, each with what it has. No condition but the map's size. -/
import Derived.Test.YtligpmnpfdaknaaMvP
namespace Go.Proofs.Ytligpmnpfdaknaa
open Go.RowKit Go.Maps Go.Shelf Go.Sort
set_option linter.unusedVariables false
set_option linter.unusedSimpArgs false
attribute [local go_sem] Oper.semAt_some

theorem look_kmap {w : World} {b N : Nat} {D : DataW Value} {f : Int → Rec} {ks : List Int} (hm : w.ownsMap Try.prog 3 rR b N D) (hD : PM D f ks) {k : Int} (hk : (Lit.int .i64 k).wf = true) :
    (Instr.lookup 79 (.map (some b)) (.int .i64 k) false).run Try.prog w = .ok (f k).v w := by
  obtain ⟨v, ps, hrun, hv⟩ := hm.lookup (int_keyed Try.underlying3) Try.underlying79 (zero_rec w) (show rR rec0.v = some (.held rec0.v, []) from rfl) (keyI hk)
  rw [hD.val k] at hv
  generalize (f k).v = u at hv ⊢
  have e : some ((DataW.held v : DataW Value), ([] : List MemPlace)) = some (DataW.held u, ps) := hv
  simp only [Option.some.injEq, Prod.mk.injEq, DataW.held.injEq] at e
  obtain ⟨rfl, _⟩ := e
  exact hrun
theorem cell_put {w : World} {D : Nat} {o o' : Obj} {p : Addr} {u : Value} (hD : w.heap[D]? = some o) (hp : p.block ≠ D) (h : w.cell? p = some u) : (w.putObj D o').cell? p = some u :=
  (World.cell?_of_block (World.putObj_heap_other hp)).trans h
set_option maxRecDepth 100000 in
set_option maxHeartbeats 3200000 in
theorem kmap_gives (B mb N : Nat) (D0 : DataW Value) (f : Int → Rec) (ks : List Int) (S : Nat → Prop) (w : World) (hS : ∀ k, S k → k < w.heap.size) (hc : w.cell? ⟨B, 0, none⟩ = some (.map (some mb))) (hown : w.ownsMap Try.prog 3 rR mb N D0) (hD : PM D0 f ks) (hN : ks.length ≤ 1048576) (hSB : ¬ S B) (hSm : ¬ S mb) :
    SeqO 51 #[.pointer (some ⟨B, 0, none⟩)] (fun x : Int => #[.int .i64 x, (f x).v]) (sortI (intKeys D0)) S w := fun l J Jx W hW hl0 hlW hJ hJx hY h0 => by
  have hwf : ∀ x ∈ sortI (intKeys D0), (Lit.int .i64 x).wf = true := fun x hx => intKeys_wf hown Try.underlying3 x ((List.mem_mergeSort).1 hx)
  have hBw := World.block_lt_of_cell? _ _ hc
  have hmw := hown.lt
  dsimp only at hBw
  have hc' := (hW.cell hBw).trans hc
  have hown' := ownsMap_kept hown (Keep.of_below hW) (by omega)
  have hzW := hW.size
  have hN0 : Go.Maps.size D0 ≤ 1048576 := by rw [hD.sz]; exact hN
  obtain ⟨L, hL⟩ : ∃ L, sortI (intKeys D0) = L := ⟨_, rfl⟩
  rw [hL] at hY hwf ⊢
  refine callsIn_wide.2 ((callsIn_wide (n := 9)).1 ?_)
  refine callsIn_of_wp_marks Try.func51 rfl trivial ?_ rfl
  simp only [Try.ntmps51, List.size_toArray, List.length_cons, List.length_nil, Nat.reduceAdd, Nat.reduceSub, Array.replicate_succ, Array.replicate_zero, List.push_toArray, List.append_toArray, List.nil_append, List.cons_append]
  have hc2 := cell_old (.cells #[.func (.yield l) #[] #[]] 85) hc'
  have hbx := Blk.new W 85 #[.func (.yield l) #[] #[]]
  have hm2 := hown'.alloc (.cells #[.func (.yield l) #[] #[]] 85)
  have hb2 := (Below.refl W.heap.size W).alloc (Nat.le_refl _) (.cells #[.func (.yield l) #[] #[]] 85)
  generalize hW2 : W.alloc (.cells #[.func (.yield l) #[] #[]] 85) = W2 at hc2 hb2 hbx hm2
  have hz2 : W2.heap.size = W.heap.size + 1 := by rw [← hW2]; simp
  gi_wp2_with (refine ⟨trivial, ?_⟩; gi_at_call 52; refine (callsIn_wide.2 (krising_make (some mb) W2)).mono ?_; rintro e w2 ⟨rfl, rfl⟩)
  have hI := (cell_new_a W2 (.map (some mb)) 59).1
  have hb3 := hb2.alloc hb2.size (.cells #[.map (some mb)] 59)
  have hc3 := cell_old (.cells #[.map (some mb)] 59) hc2
  have hbx3 := hbx.alloc (.cells #[.map (some mb)] 59)
  have hm3 := hm2.alloc (.cells #[.map (some mb)] 59)
  have hz3 : (W2.alloc (.cells #[.map (some mb)] 59)).heap.size = W.heap.size + 2 := by simp [hz2]
  have hJ3 := hJ _ _ _ none h0 (grown_below hb3) (fun r e => by cases e)
  have hkr := krise_gives W2.heap.size mb N D0 (fun k => S k ∨ k = l) (W2.alloc (.cells #[.map (some mb)] 59)) (fun k h => h.elim (fun h => by have := hS k h; omega) (fun h => by omega)) hI hm3 hN0
  rw [hL] at hkr
  obtain ⟨W3, hW3⟩ : ∃ W3, W2.alloc (.cells #[.map (some mb)] 59) = W3 := ⟨_, rfl⟩
  rw [hW3] at hI hb3 hc3 hbx3 hm3 hz3 hJ3 hkr ⊢
  have hbc := hbx3.cell 0
  simp only [List.getElem?_toArray, List.getElem?_cons_zero] at hbc
  have hnB : ¬ (S B ∨ B = l) := fun h => h.elim hSB (fun e => by omega)
  have hnm : ¬ (S mb ∨ mb = l) := fun h => h.elim hSm (fun e => by omega)
  have hnx : ¬ (S W.heap.size ∨ W.heap.size = l) := fun h => h.elim (fun h => by have := hS _ h; omega) (fun e => by omega)
  have hz8 : W2.heap.size < W3.heap.size := by omega
  clear hW2 hW3 hc2 hbx hm2 hb2 hc' hown' h0 hL hbx3
  refine range_own (a := _) (w := W3) (w0 := W3) (gf := 56) (lb := #[.pointer (some ⟨W2.heap.size, 0, none⟩)]) (by first | rfl | simp [go_sem]) (enters_of Try.func56 (by kernel_rfl) rfl) hkr (Below.refl _ _) (fun k h => h.elim (fun h => by have := hS k h; omega) (fun h => by omega)) (fun _ => rfl)
    (fun pre W' => J pre W' ∧ KX W3.heap.size (fun k => S k ∨ k = l) W3 W') (fun c pre W' => c = .ret ∧ Jx pre W') ?hI ?hIx ⟨hJ3, KX.refl _ _ _⟩ ?round ?done ?stop
  case hI => exact fun s A A' row h hg hr => ⟨ownFrom_mono hJ (by omega) s A A' row h.1 hg hr, kx_own (β := List Int) _ W3 s A A' row h.2 hg hr⟩
  case hIx => exact fun c s A A' row h hg hr => ⟨h.1, ownFrom_mono hJx (by omega) s A A' row h.2 hg hr⟩
  case round =>
    apply Exists.intro
    constructor
    · intro l' x W' K hK
      gi_wp2
      exact hK
    · rintro l' pre x W' hpre hz ⟨hJ', hkx⟩
      have hx : x ∈ L := hpre.subset (by simp)
      have c1 := hkx.cell (p := ⟨B, 0, none⟩) (by dsimp only; omega) hnB hc3
      have c2 := hkx.cell (p := ⟨W.heap.size, 0, none⟩) (by dsimp only; omega) hnx hbc
      have hlk := look_kmap (ownsMap_kx hm3 hkx (by omega) hnm) hD (hwf x hx)
      obtain ⟨⟨fn, tmps, assign, body, hy, hR⟩, -⟩ : YieldAt (Fence.wide.inRound l') 6 Try.prog l #[.int .i64 x, (f x).v] W' _ ∧ True := ⟨yieldAny 6 (hY pre x W' hpre (by omega) hJ'), trivial⟩
      obtain ⟨u, hu⟩ : ∃ u, (f x).v = u := ⟨_, rfl⟩
      rw [hu] at hy hlk
      clear hu
      gi_wp2
      refine hR.mono ?_
      rintro e W6 ⟨hk6, ⟨rfl, hJ6⟩ | ⟨rfl, hJx6⟩⟩
      · gi_wp2
        exact ⟨hk6, hJ6, hkx.kx' hk6⟩
      · gi_wp2
        exact ⟨hk6, rfl, hJx6⟩
  case done =>
    intro D W' hD8 ⟨hJ', hkx⟩ hDf
    gi_wp2
    refine ⟨by simp, .inl ⟨_, _, rfl, run_takeDeferred hDf, ?_⟩⟩
    exact ⟨_, results_none rfl _ _ _, ⟨_, rfl⟩, .inl (hJ.putObj _ hJ' (by omega) hDf rfl)⟩
  case stop =>
    rintro D c pre W' hD8 hpre ⟨rfl, hJx'⟩ hDf
    gi_wp2
    refine ⟨by simp, .inl ⟨_, _, rfl, run_takeDeferred hDf, ?_⟩⟩
    exact ⟨_, results_none rfl _ _ _, ⟨_, rfl⟩, .inr ⟨pre, hpre, hJx.putObj _ hJx' (by omega) hDf rfl⟩⟩
end Go.Proofs.Ytligpmnpfdaknaa
