/- As Rio: iterators whose values hang on the memory. No condition. -/
import Derived.Test.YtfpcnenohidfpaaGreatRio
namespace Go.Proofs.YtfpcnenohidfpaaGreat
open Go.RowKit Go.Shelf
set_option linter.unusedVariables false

/-- An iterator that gives the list L, as values that hang on the memory, to rounds that keep all but S. -/
def SeqE {α : Type} (gf : Nat) (lb : Array Value) (Enc : α → Array Value → World → Prop) (L : List α) (S : Nat → Prop) (w0 : World) : Prop :=
  ∀ (l : Nat) (J Jx : List α → World → Prop) (W : World), Below w0.heap.size w0 W → w0.heap.size ≤ l → l < W.heap.size → OwnFrom W.heap.size J → OwnFrom W.heap.size Jx →
    (∀ pre x args W1, pre ++ [x] <+: L → W.heap.size ≤ W1.heap.size → J pre W1 → Enc x args W1 → YieldAt Fence.wide 7 Tryz.prog l args W1 fun e W' =>
      Keep (fun k => S k ∨ k = l) W1 W' ∧ ((e = .returned (.bool true) ∧ J (pre ++ [x]) W') ∨ (e = .returned (.bool false) ∧ Jx (pre ++ [x]) W'))) →
    J [] W →
    CallsIn Fence.wide 8 Tryz.prog gf (#[.func (.yield l) #[] #[]] ++ lb) W fun e W' => (∃ v, e = .returned v) ∧ (J L W' ∨ ∃ pre, pre <+: L ∧ Jx pre W')
theorem range_ownE {α : Type} {g : Operand} {ps : Array Tmp} {assign body : Code} {Q : Exit → Act → World → Prop} {a : Act} {w w0 : World} {gf : Nat} {lb : Array Value} {Enc : α → Array Value → World → Prop} {L : List α} {S : Nat → Prop}
    (hg : a.eval g = .func (.func gf) #[] lb) (eg : ∀ args w, (callFunc gf args).run Tryz.prog w = .ok (.enter gf args) w)
    (hseq : SeqE gf lb Enc L S w0) (hb0 : Below w0.heap.size w0 w) (hS : ∀ k, S k → k < w.heap.size) (hps : ∀ x args W, Enc x args W → args.size = ps.size)
    (I : List α → World → Prop) (Ix : Code → List α → World → Prop) (hI : OwnFrom w.heap.size I) (hIx : ∀ c, OwnFrom w.heap.size (Ix c)) (h0 : I [] w)
    (hround : ∃ Ax : α → Act → World → Prop, (∀ x a', OwnFrom w.heap.size (fun (_ : Unit) W => Ax x a' W)) ∧
      (∀ (l : Nat) (pre : List α) (x : α) (args : Array Value) (W : World) (K : Act → World → Prop), pre ++ [x] <+: L → w.heap.size ≤ W.heap.size → I pre W → Enc x args W → (∀ a' W', Keep S W W' → I pre W' → Ax x a' W' → K a' W') →
      assign.wpIn (Fence.wide.inRound l) 7 Tryz.prog (Exit.then K (fun _ _ _ => False)) { tmps := (ps.zip args).foldl (fun t (p, v) => t.setIfInBounds p v) a.tmps, defers := [] } W) ∧
      (∀ (l : Nat) (pre : List α) (x : α) (a' : Act) (W : World), pre ++ [x] <+: L → w.heap.size ≤ W.heap.size → I pre W → Ax x a' W → body.wpIn (Fence.wide.inRound l) 7 Tryz.prog (postO S I Ix (pre ++ [x]) W) a' W))
    (hdone : ∀ (D : Nat) (W : World), w.heap.size ≤ D → I L W → W.heap[D]? = some (.deferred (some [])) → Q .normal { a with defers := { target := .collected D, args := #[] } :: a.defers } W)
    (hstop : ∀ (D : Nat) (c : Code) (pre : List α) (W : World), w.heap.size ≤ D → pre <+: L → Ix c pre W → W.heap[D]? = some (.deferred (some [])) → c.wpIn Fence.wide 9 Tryz.prog Q { a with defers := { target := .collected D, args := #[] } :: a.defers } W) :
    (Code.rangeFunc g ps assign body).wpIn Fence.wide 9 Tryz.prog Q a w := by
  obtain ⟨Ax, hAx, hassign, hbody⟩ := hround
  refine wpIn_rangeFunc fun fn hfn => ?_
  obtain ⟨r0, hr0⟩ : ∃ r0 : Loop, r0 = { state := .ready, pending := none, fn, tmps := a.tmps, params := ps, assign, body, defers := w.heap.size } := ⟨_, rfl⟩
  obtain ⟨W1, hW1⟩ : ∃ W1, W1 = (w.alloc (.deferred (some []))).alloc (.loop r0) := ⟨_, rfl⟩
  obtain ⟨l, hl⟩ : ∃ l, l = w.heap.size + 1 := ⟨_, rfl⟩
  have hz1 : W1.heap.size = w.heap.size + 2 := by rw [hW1]; simp
  have hD1 : W1.heap[w.heap.size]? = some (.deferred (some [])) := by
    rw [hW1]; exact (Below.heap_alloc _ _ _ (by simp)).trans (World.alloc_heap_new w _)
  have hL1 : W1.heap[l]? = some (.loop r0) := by
    rw [hW1, hl]; have := World.alloc_heap_new (w.alloc (.deferred (some []))) (.loop r0); rwa [World.size_alloc] at this
  have hb1 : Below w0.heap.size w0 W1 := by
    rw [hW1]; exact hb0.trans ((((Below.refl _ w).alloc (Nat.le_refl _) _).alloc (by simp) _).mono hb0.size)
  have hI1 : I [] W1 := by rw [hW1]; exact hI.alloc _ (hI.alloc _ h0)
  refine ⟨l, [{ target := .collected w.heap.size, args := #[] }], W1, { target := .fn (.func gf) lb, args := #[.func (.yield l) #[] #[]] }, W1, gf, #[.func (.yield l) #[] #[]] ++ lb, W1, ?_, ?_, fun _ _ => trivial, ?_, fun _ => by decide, ?_⟩
  · have := run_enterLoop_outer (P := Tryz.prog) (w := w) fn a.tmps ps assign body
    rw [hW1, hl, hr0]
    exact this
  · simp only [resolve, hg]
    simp [go_sem]
  · simp [invoke, go_sem, eg]
  have hlD : l ≠ w.heap.size := by omega
  refine (hseq l (fun pre W => I pre W ∧ W.heap[l]? = some (.loop r0) ∧ W.heap[w.heap.size]? = some (.deferred (some [])))
    (fun pre W => ∃ c, Ix c pre W ∧ W.heap[l]? = some (.loop { r0 with state := .done, pending := some c }) ∧ W.heap[w.heap.size]? = some (.deferred (some [])))
    W1 hb1 (by have := hb0.size; omega) (by omega) ?_ ?_ ?_ ⟨hI1, hL1, hD1⟩).mono ?_
  · intro s A A' row hs hgr hr
    exact ⟨ownFrom_mono hI (by omega) s A A' row hs.1 hgr hr, ownFrom_at (β := List α) (show l < W1.heap.size by omega) _ s A A' row hs.2.1 hgr hr, ownFrom_at (β := List α) (show w.heap.size < W1.heap.size by omega) _ s A A' row hs.2.2 hgr hr⟩
  · intro s A A' row hs hgr hr
    obtain ⟨c, h1, h2, h3⟩ := hs
    exact ⟨c, ownFrom_mono (hIx c) (by omega) s A A' row h1 hgr hr, ownFrom_at (β := List α) (show l < W1.heap.size by omega) _ s A A' row h2 hgr hr, ownFrom_at (β := List α) (show w.heap.size < W1.heap.size by omega) _ s A A' row h3 hgr hr⟩
  · -- a round
    rintro pre x args W hpre hzW ⟨hi, hl1, hd1⟩ hen
    have hy := run_yield (P := Tryz.prog) (args := args) hl1 (by rw [hr0]; exact hps x args W hen)
    obtain ⟨rb, hrb⟩ : ∃ rb : Loop, rb = { r0 with state := .busy } := ⟨_, rfl⟩
    have hlW0 : l < W.heap.size := (Array.getElem?_eq_some_iff.1 hl1).1
    rw [hr0] at hy
    refine ⟨fn, _, assign, body, hy, roundIn_of_wpIn hfn (hassign l pre x args W _ hpre (by omega) hi hen (fun a' W0 hk0 hi0 hax0 => ?_))⟩
    have hl0 : W0.heap[l]? = some (.loop r0) := (hk0.block l hlW0 (fun e => by have := hS l e; omega)).trans hl1
    have hd0 : W0.heap[w.heap.size]? = some (.deferred (some [])) := (hk0.block _ (by omega) (fun e => by have := hS _ e; omega)).trans hd1
    have hlW : l < W0.heap.size := (Array.getElem?_eq_some_iff.1 hl0).1
    have hl2 : (W0.putObj l (.loop rb)).heap[l]? = some (.loop rb) := World.putObj_heap_same hlW
    have hd2 : (W0.putObj l (.loop rb)).heap[w.heap.size]? = some (.deferred (some [])) := (World.putObj_heap_other (fun e => hlD e.symm)).trans hd0
    have hi2 : I pre (W0.putObj l (.loop rb)) := hI.putObj _ hi0 (by omega) hl0 rfl
    have hax2 : Ax x a' (W0.putObj l (.loop rb)) := (hAx x a').putObj (s := ()) _ hax0 (by omega) hl0 rfl
    have hk2 : Keep (fun k => S k ∨ k = l) W (W0.putObj l (.loop rb)) := (hk0.mono (T := fun k => S k ∨ k = l) (fun _ _ e => .inl e)).putObj (.inr rfl) _
    refine ⟨_, run_beginRound hl0 (by rw [hr0]), ?_⟩
    rw [← hrb]
    refine wpIn_mono (hbody l pre x a' _ hpre (by simp [World.putObj]; omega) hi2 hax2) ?_
    have fin : ∀ (jump : Option Code) (W3 : World), Keep S (W0.putObj l (.loop rb)) W3 → ∀ r3 : Loop, r3 = { r0 with state := if jump.isNone then .ready else .done, pending := jump } →
        (Instr.endRound l jump).run Tryz.prog W3 = .ok (.bool jump.isNone) (W3.putObj l (.loop r3)) ∧ W3.heap[l]? = some (.loop rb) ∧ (W3.putObj l (.loop r3)).heap[l]? = some (.loop r3) ∧
        (W3.putObj l (.loop r3)).heap[w.heap.size]? = some (.deferred (some [])) ∧ Keep (fun k => S k ∨ k = l) W (W3.putObj l (.loop r3)) := fun jump W3 hk3 r3 h3 => by
      have hzP : (W0.putObj l (.loop rb)).heap.size = W0.heap.size := by simp [World.putObj]
      have q1 : W3.heap[l]? = some (.loop rb) := (hk3.block l (by omega) (fun e => by have := hS l e; omega)).trans hl2
      have q2 : W3.heap[w.heap.size]? = some (.deferred (some [])) := (hk3.block _ (by omega) (fun e => by have := hS _ e; omega)).trans hd2
      refine ⟨?_, q1, World.putObj_heap_same (Array.getElem?_eq_some_iff.1 q1).1, (World.putObj_heap_other (fun e => hlD e.symm)).trans q2, ((hk2.trans (hk3.mono (T := fun k => S k ∨ k = l) (fun _ _ e => .inl e)) (fun _ _ e => e)).putObj (.inr rfl) _)⟩
      rw [h3]
      have := run_endRound (P := Tryz.prog) jump q1
      rw [hrb] at this
      exact this
    rintro e a3 W3 hp
    cases e with
    | normal =>
      obtain ⟨hk3, hi3⟩ := hp
      obtain ⟨e1, e2, e3, e4, e5⟩ := fin none W3 hk3 r0 (by rw [hr0]; rfl)
      exact ⟨_, _, e1, e5, .inl ⟨rfl, hI.putObj _ hi3 (by omega) e2 rfl, e3, e4⟩⟩
    | ret =>
      obtain ⟨hk3, hi3⟩ := hp
      obtain ⟨e1, e2, e3, e4, e5⟩ := fin (some .ret) W3 hk3 _ rfl
      exact ⟨_, _, e1, e5, .inr ⟨rfl, .ret, (hIx _).putObj _ hi3 (by omega) e2 rfl, e3, e4⟩⟩
    | exit id =>
      obtain ⟨hk3, hi3⟩ := hp
      obtain ⟨e1, e2, e3, e4, e5⟩ := fin (some (.exit id)) W3 hk3 _ rfl
      exact ⟨_, _, e1, e5, .inr ⟨rfl, .exit id, (hIx _).putObj _ hi3 (by omega) e2 rfl, e3, e4⟩⟩
    | goto t =>
      obtain ⟨hk3, hi3⟩ := hp
      obtain ⟨e1, e2, e3, e4, e5⟩ := fin (some (.goto t)) W3 hk3 _ rfl
      exact ⟨_, _, e1, e5, .inr ⟨rfl, .goto t, (hIx _).putObj _ hi3 (by omega) e2 rfl, e3, e4⟩⟩
    | panic ch => exact hp.elim
    | outgrown => exact hp.elim
  · -- behind it
    rintro e W2 ⟨⟨v, rfl⟩, ⟨hi, hl2, hd2⟩ | ⟨pre, hpre, c, hi, hl2, hd2⟩⟩
    · have he : (Instr.endLoop l).run Tryz.prog W2 = .ok none (W2.putObj l (.loop { r0 with state := .exhausted })) := by
        have := run_endLoop (P := Tryz.prog) hl2 (by rw [hr0]; simp)
        rw [this, hr0]
      exact ⟨none, _, he, hdone _ _ (Nat.le_refl _) (hI.putObj _ hi (by omega) hl2 rfl) ((World.putObj_heap_other (fun e => hlD e.symm)).trans hd2)⟩
    · have he := run_endLoop (P := Tryz.prog) hl2 (by simp)
      exact ⟨some c, _, he, hstop _ c pre _ (Nat.le_refl _) hpre ((hIx c).putObj _ hi (by omega) hl2 rfl) ((World.putObj_heap_other (fun e => hlD e.symm)).trans hd2)⟩
end Go.Proofs.YtfpcnenohidfpaaGreat
