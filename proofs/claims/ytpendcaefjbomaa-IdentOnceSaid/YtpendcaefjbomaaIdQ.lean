/- Identities: going over a map of requests while entries of it go. No condition but the map's size. -/
import Derived.Test.YtpendcaefjbomaaIdP
namespace Go.Proofs.Ytpendcaefjbomaa
open Go.RowKit Go.Maps Go.Shelf Go.Sort
set_option linter.unusedVariables false
set_option linter.unusedSimpArgs false
attribute [local go_sem] Oper.semAt_some

/-- An iterator that gives the list L, as values that hang on the memory, to rounds that keep all but S. -/
def SeqP {α : Type} (gf : Nat) (lb : Array Value) (Enc : α → Array Value → World → Prop) (L : List α) (S : Nat → Prop) (P : World → Prop) (w0 : World) : Prop :=
  ∀ (l : Nat) (J Jx : List α → World → Prop) (W : World), Below w0.heap.size w0 W → w0.heap.size ≤ l → l < W.heap.size → OwnFrom W.heap.size J → OwnFrom W.heap.size Jx → (∀ pre W1, J pre W1 → P W1) →
    (∀ pre x args W1, pre ++ [x] <+: L → W.heap.size ≤ W1.heap.size → J pre W1 → Enc x args W1 → YieldAt Fence.wide 7 Try.prog l args W1 fun e W' =>
      Keep (fun k => S k ∨ k = l) W1 W' ∧ ((e = .returned (.bool true) ∧ J (pre ++ [x]) W') ∨ (e = .returned (.bool false) ∧ Jx (pre ++ [x]) W'))) →
    J [] W →
    CallsIn Fence.wide 8 Try.prog gf (#[.func (.yield l) #[] #[]] ++ lb) W fun e W' => (∃ v, e = .returned v) ∧ (J L W' ∨ ∃ pre, pre <+: L ∧ Jx pre W')
theorem range_ownP {α : Type} {g : Operand} {ps : Array Tmp} {assign body : Code} {Q : Exit → Act → World → Prop} {a : Act} {w w0 : World} {gf : Nat} {lb : Array Value} {Enc : α → Array Value → World → Prop} {L : List α} {S : Nat → Prop} {P : World → Prop}
    (hg : a.eval g = .func (.func gf) #[] lb) (eg : ∀ args w, (callFunc gf args).run Try.prog w = .ok (.enter gf args) w)
    (hseq : SeqP gf lb Enc L S P w0) (hb0 : Below w0.heap.size w0 w) (hS : ∀ k, S k → k < w.heap.size) (hps : ∀ x args W, Enc x args W → args.size = ps.size)
    (I : List α → World → Prop) (Ix : Code → List α → World → Prop) (hI : OwnFrom w.heap.size I) (hIx : ∀ c, OwnFrom w.heap.size (Ix c)) (h0 : I [] w) (hPI : ∀ pre W, I pre W → P W)
    (hround : ∃ Ax : α → Act → World → Prop, (∀ x a', OwnFrom w.heap.size (fun (_ : Unit) W => Ax x a' W)) ∧
      (∀ (l : Nat) (pre : List α) (x : α) (args : Array Value) (W : World) (K : Act → World → Prop), pre ++ [x] <+: L → w.heap.size ≤ W.heap.size → I pre W → Enc x args W → (∀ a' W', Keep S W W' → I pre W' → Ax x a' W' → K a' W') →
      assign.wpIn (Fence.wide.inRound l) 7 Try.prog (Exit.then K (fun _ _ _ => False)) { tmps := (ps.zip args).foldl (fun t (p, v) => t.setIfInBounds p v) a.tmps, defers := [] } W) ∧
      (∀ (l : Nat) (pre : List α) (x : α) (a' : Act) (W : World), pre ++ [x] <+: L → w.heap.size ≤ W.heap.size → I pre W → Ax x a' W → body.wpIn (Fence.wide.inRound l) 7 Try.prog (postO S I Ix (pre ++ [x]) W) a' W))
    (hdone : ∀ (D : Nat) (W : World), w.heap.size ≤ D → I L W → W.heap[D]? = some (.deferred (some [])) → Q .normal { a with defers := { target := .collected D, args := #[] } :: a.defers } W)
    (hstop : ∀ (D : Nat) (c : Code) (pre : List α) (W : World), w.heap.size ≤ D → pre <+: L → Ix c pre W → W.heap[D]? = some (.deferred (some [])) → c.wpIn Fence.wide 9 Try.prog Q { a with defers := { target := .collected D, args := #[] } :: a.defers } W) :
    (Code.rangeFunc g ps assign body).wpIn Fence.wide 9 Try.prog Q a w := by
  obtain ⟨Ax, hAx, hassign, hbody⟩ := hround
  refine wpIn_rangeFunc fun fn hfn => ?_
  obtain ⟨r0, hr0⟩ : ∃ r0 : Loop, r0 = { state := .ready, pending := none, fn, tmps := a.tmps, params := ps, assign, body, defers := w.heap.size } := ⟨_, rfl⟩
  obtain ⟨W1, hW1⟩ : ∃ W1, W1 = (w.alloc (.deferred (some []))).alloc (.loop r0) := ⟨_, rfl⟩
  obtain ⟨l, hl⟩ : ∃ l, l = w.heap.size + 1 := ⟨_, rfl⟩
  have hz1 : W1.heap.size = w.heap.size + 2 := by rw [hW1]; simp
  have hD1 : W1.heap[w.heap.size]? = some (.deferred (some [])) := by
    rw [hW1]; exact (Below.heap_alloc _ _ _ (by simp)).trans (World.alloc_heap_new w _)
  have hL1 : W1.heap[l]? = some (.loop r0) := by
    rw [hW1, hl]; have := World.alloc_heap_new (w.alloc (.deferred (some []))) (.loop r0); rwa [World.size_alloc] at this
  have hb1 : Below w0.heap.size w0 W1 := by
    rw [hW1]; exact hb0.trans ((((Below.refl _ w).alloc (Nat.le_refl _) _).alloc (by simp) _).mono hb0.size)
  have hI1 : I [] W1 := by rw [hW1]; exact hI.alloc _ (hI.alloc _ h0)
  refine ⟨l, [{ target := .collected w.heap.size, args := #[] }], W1, { target := .fn (.func gf) lb, args := #[.func (.yield l) #[] #[]] }, W1, gf, #[.func (.yield l) #[] #[]] ++ lb, W1, ?_, ?_, fun _ _ => trivial, ?_, fun _ => by decide, ?_⟩
  · have := run_enterLoop_outer (P := Try.prog) (w := w) fn a.tmps ps assign body
    rw [hW1, hl, hr0]
    exact this
  · simp only [resolve, hg]
    simp [go_sem]
  · simp [invoke, go_sem, eg]
  have hlD : l ≠ w.heap.size := by omega
  refine (hseq l (fun pre W => I pre W ∧ W.heap[l]? = some (.loop r0) ∧ W.heap[w.heap.size]? = some (.deferred (some [])))
    (fun pre W => ∃ c, Ix c pre W ∧ W.heap[l]? = some (.loop { r0 with state := .done, pending := some c }) ∧ W.heap[w.heap.size]? = some (.deferred (some [])))
    W1 hb1 (by have := hb0.size; omega) (by omega) ?_ ?_ (fun pre W h => hPI pre W h.1) ?_ ⟨hI1, hL1, hD1⟩).mono ?_
  · intro s A A' row hs hgr hr
    exact ⟨ownFrom_mono hI (by omega) s A A' row hs.1 hgr hr, ownFrom_at (β := List α) (show l < W1.heap.size by omega) _ s A A' row hs.2.1 hgr hr, ownFrom_at (β := List α) (show w.heap.size < W1.heap.size by omega) _ s A A' row hs.2.2 hgr hr⟩
  · intro s A A' row hs hgr hr
    obtain ⟨c, h1, h2, h3⟩ := hs
    exact ⟨c, ownFrom_mono (hIx c) (by omega) s A A' row h1 hgr hr, ownFrom_at (β := List α) (show l < W1.heap.size by omega) _ s A A' row h2 hgr hr, ownFrom_at (β := List α) (show w.heap.size < W1.heap.size by omega) _ s A A' row h3 hgr hr⟩
  · -- a round
    rintro pre x args W hpre hzW ⟨hi, hl1, hd1⟩ hen
    have hy := run_yield (P := Try.prog) (args := args) hl1 (by rw [hr0]; exact hps x args W hen)
    obtain ⟨rb, hrb⟩ : ∃ rb : Loop, rb = { r0 with state := .busy } := ⟨_, rfl⟩
    have hlW0 : l < W.heap.size := (Array.getElem?_eq_some_iff.1 hl1).1
    rw [hr0] at hy
    refine ⟨fn, _, assign, body, hy, roundIn_of_wpIn hfn (hassign l pre x args W _ hpre (by omega) hi hen (fun a' W0 hk0 hi0 hax0 => ?_))⟩
    have hl0 : W0.heap[l]? = some (.loop r0) := (hk0.block l hlW0 (fun e => by have := hS l e; omega)).trans hl1
    have hd0 : W0.heap[w.heap.size]? = some (.deferred (some [])) := (hk0.block _ (by omega) (fun e => by have := hS _ e; omega)).trans hd1
    have hlW : l < W0.heap.size := (Array.getElem?_eq_some_iff.1 hl0).1
    have hl2 : (W0.putObj l (.loop rb)).heap[l]? = some (.loop rb) := World.putObj_heap_same hlW
    have hd2 : (W0.putObj l (.loop rb)).heap[w.heap.size]? = some (.deferred (some [])) := (World.putObj_heap_other (fun e => hlD e.symm)).trans hd0
    have hi2 : I pre (W0.putObj l (.loop rb)) := hI.putObj _ hi0 (by omega) hl0 rfl
    have hax2 : Ax x a' (W0.putObj l (.loop rb)) := (hAx x a').putObj (s := ()) _ hax0 (by omega) hl0 rfl
    have hk2 : Keep (fun k => S k ∨ k = l) W (W0.putObj l (.loop rb)) := (hk0.mono (T := fun k => S k ∨ k = l) (fun _ _ e => .inl e)).putObj (.inr rfl) _
    refine ⟨_, run_beginRound hl0 (by rw [hr0]), ?_⟩
    rw [← hrb]
    refine wpIn_mono (hbody l pre x a' _ hpre (by simp [World.putObj]; omega) hi2 hax2) ?_
    have fin : ∀ (jump : Option Code) (W3 : World), Keep S (W0.putObj l (.loop rb)) W3 → ∀ r3 : Loop, r3 = { r0 with state := if jump.isNone then .ready else .done, pending := jump } →
        (Instr.endRound l jump).run Try.prog W3 = .ok (.bool jump.isNone) (W3.putObj l (.loop r3)) ∧ W3.heap[l]? = some (.loop rb) ∧ (W3.putObj l (.loop r3)).heap[l]? = some (.loop r3) ∧
        (W3.putObj l (.loop r3)).heap[w.heap.size]? = some (.deferred (some [])) ∧ Keep (fun k => S k ∨ k = l) W (W3.putObj l (.loop r3)) := fun jump W3 hk3 r3 h3 => by
      have hzP : (W0.putObj l (.loop rb)).heap.size = W0.heap.size := by simp [World.putObj]
      have q1 : W3.heap[l]? = some (.loop rb) := (hk3.block l (by omega) (fun e => by have := hS l e; omega)).trans hl2
      have q2 : W3.heap[w.heap.size]? = some (.deferred (some [])) := (hk3.block _ (by omega) (fun e => by have := hS _ e; omega)).trans hd2
      refine ⟨?_, q1, World.putObj_heap_same (Array.getElem?_eq_some_iff.1 q1).1, (World.putObj_heap_other (fun e => hlD e.symm)).trans q2, ((hk2.trans (hk3.mono (T := fun k => S k ∨ k = l) (fun _ _ e => .inl e)) (fun _ _ e => e)).putObj (.inr rfl) _)⟩
      rw [h3]
      have := run_endRound (P := Try.prog) jump q1
      rw [hrb] at this
      exact this
    rintro e a3 W3 hp
    cases e with
    | normal =>
      obtain ⟨hk3, hi3⟩ := hp
      obtain ⟨e1, e2, e3, e4, e5⟩ := fin none W3 hk3 r0 (by rw [hr0]; rfl)
      exact ⟨_, _, e1, e5, .inl ⟨rfl, hI.putObj _ hi3 (by omega) e2 rfl, e3, e4⟩⟩
    | ret =>
      obtain ⟨hk3, hi3⟩ := hp
      obtain ⟨e1, e2, e3, e4, e5⟩ := fin (some .ret) W3 hk3 _ rfl
      exact ⟨_, _, e1, e5, .inr ⟨rfl, .ret, (hIx _).putObj _ hi3 (by omega) e2 rfl, e3, e4⟩⟩
    | exit id =>
      obtain ⟨hk3, hi3⟩ := hp
      obtain ⟨e1, e2, e3, e4, e5⟩ := fin (some (.exit id)) W3 hk3 _ rfl
      exact ⟨_, _, e1, e5, .inr ⟨rfl, .exit id, (hIx _).putObj _ hi3 (by omega) e2 rfl, e3, e4⟩⟩
    | goto t =>
      obtain ⟨hk3, hi3⟩ := hp
      obtain ⟨e1, e2, e3, e4, e5⟩ := fin (some (.goto t)) W3 hk3 _ rfl
      exact ⟨_, _, e1, e5, .inr ⟨rfl, .goto t, (hIx _).putObj _ hi3 (by omega) e2 rfl, e3, e4⟩⟩
    | panic ch => exact hp.elim
    | outgrown => exact hp.elim
  · -- behind it
    rintro e W2 ⟨⟨v, rfl⟩, ⟨hi, hl2, hd2⟩ | ⟨pre, hpre, c, hi, hl2, hd2⟩⟩
    · have he : (Instr.endLoop l).run Try.prog W2 = .ok none (W2.putObj l (.loop { r0 with state := .exhausted })) := by
        have := run_endLoop (P := Try.prog) hl2 (by rw [hr0]; simp)
        rw [this, hr0]
      exact ⟨none, _, he, hdone _ _ (Nat.le_refl _) (hI.putObj _ hi (by omega) hl2 rfl) ((World.putObj_heap_other (fun e => hlD e.symm)).trans hd2)⟩
    · have he := run_endLoop (P := Try.prog) hl2 (by simp)
      exact ⟨some c, _, he, hstop _ c pre _ (Nat.le_refl _) hpre ((hIx c).putObj _ hi (by omega) hl2 rfl) ((World.putObj_heap_other (fun e => hlD e.symm)).trans hd2)⟩
set_option maxRecDepth 100000 in
set_option maxHeartbeats 3200000 in
theorem kmap_givesP (B mb N : Nat) (D0 : DataW Value) (f : Int → Rq) (ks : List Int) (S : Nat → Prop) (w : World) (hS : ∀ k, S k → k < w.heap.size) (hc : w.cell? ⟨B, 0, none⟩ = some (.map (some mb))) (hown : w.ownsMap Try.prog 3 rR mb N D0) (hD : PM rq0.v D0 (fun j => (f j).v) ks) (hN : ks.length ≤ 1048576) (hSB : ¬ S B) :
    SeqP 52 #[.pointer (some ⟨B, 0, none⟩)] (fun (x : Int) args _ => ∃ u, args = #[.int .i64 x, u]) (sortI (intKeys D0)) S (fun W => ∃ N f ks, MO rq0.v W mb N f ks) w := fun l J Jx W hW hl0 hlW hJ hJx hJP hY h0 => by
  have hwf : ∀ x ∈ sortI (intKeys D0), (Lit.int .i64 x).wf = true := fun x hx => intKeys_wf hown Try.underlying3 x ((List.mem_mergeSort).1 hx)
  have hBw := World.block_lt_of_cell? _ _ hc
  have hmw := hown.lt
  dsimp only at hBw
  have hc' := (hW.cell hBw).trans hc
  have hown' := ownsMap_kept hown (Keep.of_below hW) (by omega)
  have hzW := hW.size
  have hN0 : Go.Maps.size D0 ≤ 1048576 := by rw [hD.sz]; exact hN
  obtain ⟨L, hL⟩ : ∃ L, sortI (intKeys D0) = L := ⟨_, rfl⟩
  rw [hL] at hY hwf ⊢
  refine callsIn_wide.2 ((callsIn_wide (n := 9)).1 ?_)
  refine callsIn_of_wp_marks Try.func52 rfl trivial ?_ rfl
  simp only [Try.ntmps52, List.size_toArray, List.length_cons, List.length_nil, Nat.reduceAdd, Nat.reduceSub, Array.replicate_succ, Array.replicate_zero, List.push_toArray, List.append_toArray, List.nil_append, List.cons_append]
  have hc2 := cell_old (.cells #[.func (.yield l) #[] #[]] 111) hc'
  have hbx := Blk.new W 111 #[.func (.yield l) #[] #[]]
  have hm2 := hown'.alloc (.cells #[.func (.yield l) #[] #[]] 111)
  have hb2 := (Below.refl W.heap.size W).alloc (Nat.le_refl _) (.cells #[.func (.yield l) #[] #[]] 111)
  generalize hW2 : W.alloc (.cells #[.func (.yield l) #[] #[]] 111) = W2 at hc2 hb2 hbx hm2
  have hz2 : W2.heap.size = W.heap.size + 1 := by rw [← hW2]; simp
  gi_wp2_with (refine ⟨trivial, ?_⟩; gi_at_call 53; refine (callsIn_wide.2 (krising_make (some mb) W2)).mono ?_; rintro e w2 ⟨rfl, rfl⟩)
  have hI := (cell_new_a W2 (.map (some mb)) 65).1
  have hb3 := hb2.alloc hb2.size (.cells #[.map (some mb)] 65)
  have hc3 := cell_old (.cells #[.map (some mb)] 65) hc2
  have hbx3 := hbx.alloc (.cells #[.map (some mb)] 65)
  have hm3 := hm2.alloc (.cells #[.map (some mb)] 65)
  have hz3 : (W2.alloc (.cells #[.map (some mb)] 65)).heap.size = W.heap.size + 2 := by simp [hz2]
  have hJ3 := hJ _ _ _ none h0 (grown_below hb3) (fun r e => by cases e)
  have hkr := krise_gives W2.heap.size mb N D0 (fun k => S k ∨ k = l) (W2.alloc (.cells #[.map (some mb)] 65)) (fun k h => h.elim (fun h => by have := hS k h; omega) (fun h => by omega)) hI hm3 hN0
  rw [hL] at hkr
  obtain ⟨W3, hW3⟩ : ∃ W3, W2.alloc (.cells #[.map (some mb)] 65) = W3 := ⟨_, rfl⟩
  rw [hW3] at hI hb3 hc3 hbx3 hm3 hz3 hJ3 hkr ⊢
  have hbc := hbx3.cell 0
  simp only [List.getElem?_toArray, List.getElem?_cons_zero] at hbc
  have hnB : ¬ (S B ∨ B = l) := fun h => h.elim hSB (fun e => by omega)
  have hnx : ¬ (S W.heap.size ∨ W.heap.size = l) := fun h => h.elim (fun h => by have := hS _ h; omega) (fun e => by omega)
  have hz8 : W2.heap.size < W3.heap.size := by omega
  clear hW2 hW3 hc2 hbx hm2 hb2 hc' hown' h0 hL hbx3
  refine range_own (a := _) (w := W3) (w0 := W3) (gf := 68) (lb := #[.pointer (some ⟨W2.heap.size, 0, none⟩)]) (by first | rfl | simp [go_sem]) (enters_of Try.func68 (by kernel_rfl) rfl) hkr (Below.refl _ _) (fun k h => h.elim (fun h => by have := hS k h; omega) (fun h => by omega)) (fun _ => rfl)
    (fun pre W' => J pre W' ∧ KX W3.heap.size (fun k => S k ∨ k = l) W3 W') (fun c pre W' => c = .ret ∧ Jx pre W') ?hI ?hIx ⟨hJ3, KX.refl _ _ _⟩ ?round ?done ?stop
  case hI => exact fun s A A' row h hg hr => ⟨ownFrom_mono hJ (by omega) s A A' row h.1 hg hr, kx_own (β := List Int) _ W3 s A A' row h.2 hg hr⟩
  case hIx => exact fun c s A A' row h hg hr => ⟨h.1, ownFrom_mono hJx (by omega) s A A' row h.2 hg hr⟩
  case round =>
    apply Exists.intro
    constructor
    · intro l' x W' K hK
      gi_wp2
      exact hK
    · rintro l' pre x W' hpre hz ⟨hJ', hkx⟩
      have hx : x ∈ L := hpre.subset (by simp)
      have c1 := hkx.cell (p := ⟨B, 0, none⟩) (by dsimp only; omega) hnB hc3
      have c2 := hkx.cell (p := ⟨W.heap.size, 0, none⟩) (by dsimp only; omega) hnx hbc
      obtain ⟨N9, f9, ks9, hM9⟩ := hJP _ _ hJ'
      have hlk := hM9.look1 Try.underlying66 (zero_rq _) (hwf x hx)
      obtain ⟨⟨fn, tmps, assign, body, hy, hR⟩, -⟩ : YieldAt (Fence.wide.inRound l') 6 Try.prog l #[.int .i64 x, f9 x] W' _ ∧ True := ⟨yieldAny 6 (hY pre x _ W' hpre (by omega) hJ' ⟨_, rfl⟩), trivial⟩
      obtain ⟨u, hu⟩ : ∃ u, f9 x = u := ⟨_, rfl⟩
      rw [hu] at hy hlk
      clear hu
      gi_wp2
      refine hR.mono ?_
      rintro e W6 ⟨hk6, ⟨rfl, hJ6⟩ | ⟨rfl, hJx6⟩⟩
      · gi_wp2
        exact ⟨hk6, hJ6, hkx.kx' hk6⟩
      · gi_wp2
        exact ⟨hk6, rfl, hJx6⟩
  case done =>
    intro D W' hD8 ⟨hJ', hkx⟩ hDf
    gi_wp2
    refine ⟨by simp, .inl ⟨_, _, rfl, run_takeDeferred hDf, ?_⟩⟩
    exact ⟨_, results_none rfl _ _ _, ⟨_, rfl⟩, .inl (hJ.putObj _ hJ' (by omega) hDf rfl)⟩
  case stop =>
    rintro D c pre W' hD8 hpre ⟨rfl, hJx'⟩ hDf
    gi_wp2
    refine ⟨by simp, .inl ⟨_, _, rfl, run_takeDeferred hDf, ?_⟩⟩
    exact ⟨_, results_none rfl _ _ _, ⟨_, rfl⟩, .inr ⟨pre, hpre, hJx.putObj _ hJx' (by omega) hDf rfl⟩⟩
end Go.Proofs.Ytpendcaefjbomaa
