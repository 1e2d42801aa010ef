/- As Rio, where a round may besides write blocks of some types (Y): what it makes may grow from round to round. No condition. -/
import Derived.Test.YtfpcnenohidfpaaGreatRio
namespace Go.Proofs.YtfpcnenohidfpaaGreat
open Go.RowKit Go.Shelf
set_option linter.unusedVariables false

/-- All is kept but what is in S, and cells of the types Y. -/
structure KP (Y : TypeId → Prop) (S : Nat → Prop) (w w' : World) : Prop where
  os : w'.os = w.os
  tape : w'.tape = w.tape
  output : w'.output = w.output
  size : w.heap.size ≤ w'.heap.size
  block : ∀ k, k < w.heap.size → ¬ S k → (∀ cs t fr, w.heap[k]? = some (.cells cs t fr) → ¬ Y t) → w'.heap[k]? = w.heap[k]?
theorem KP.refl (Y : TypeId → Prop) (S : Nat → Prop) (w : World) : KP Y S w w := ⟨rfl, rfl, rfl, Nat.le_refl _, fun _ _ _ _ => rfl⟩
theorem KP.mono {Y : TypeId → Prop} {S T : Nat → Prop} {w w' : World} (h : KP Y S w w') (hs : ∀ k, k < w.heap.size → S k → T k) : KP Y T w w' :=
  ⟨h.os, h.tape, h.output, h.size, fun k hk hn hy => h.block k hk (fun hs' => hn (hs k hk hs')) hy⟩
theorem KP.trans {Y : TypeId → Prop} {S T : Nat → Prop} {a b c : World} (h : KP Y S a b) (k : KP Y T b c) (hs : ∀ i, i < a.heap.size → T i → S i) : KP Y S a c :=
  ⟨k.os.trans h.os, k.tape.trans h.tape, k.output.trans h.output, Nat.le_trans h.size k.size, fun i hi hn hy => by
    have e := h.block i hi hn hy
    exact (k.block i (Nat.lt_of_lt_of_le hi h.size) (fun ht => hn (hs i hi ht)) (by rw [e]; exact hy)).trans e⟩
theorem Keep.kp {Y : TypeId → Prop} {S T : Nat → Prop} {w w' : World} (h : Keep S w w') (hs : ∀ k, k < w.heap.size → S k → T k ∨ ∃ cs t fr, w.heap[k]? = some (.cells cs t fr) ∧ Y t) : KP Y T w w' :=
  ⟨h.os, h.tape, h.output, h.size, fun k hk hn hy => h.block k hk fun hS => by
    rcases hs k hk hS with h1 | ⟨cs, t, fr, h1, h2⟩
    · exact hn h1
    · exact hy cs t fr h1 h2⟩
theorem KP.putObj {Y : TypeId → Prop} {S : Nat → Prop} {a w : World} (h : KP Y S a w) {l : Nat} (hl : S l) (o : Obj) : KP Y S a (w.putObj l o) :=
  ⟨h.os, h.tape, h.output, by simpa [World.putObj] using h.size, fun k hk hn hy => (World.putObj_heap_other (fun e => hn (by subst e; exact hl))).trans (h.block k hk hn hy)⟩
theorem KP.keep {Y : TypeId → Prop} {S : Nat → Prop} {w w' : World} (h : KP Y S w w') : Keep (fun k => S k ∨ ∃ cs t fr, w.heap[k]? = some (.cells cs t fr) ∧ Y t) w w' :=
  ⟨h.os, h.tape, h.output, h.size, fun k hk hn => h.block k hk (fun e => hn (.inl e)) fun cs t fr h1 h2 => hn (.inr ⟨cs, t, fr, h1, h2⟩)⟩
theorem noCells {W : World} {l : Nat} {o : Obj} {Y : TypeId → Prop} (h : W.heap[l]? = some o) (ho : o.isCells = false := by rfl) : ∀ cs t fr, W.heap[l]? = some (.cells cs t fr) → ¬ Y t := fun cs t fr e => by
  rw [h] at e
  cases e
  cases ho
/-- An iterator that gives the list L to rounds that keep all but S. -/
def SeqT (Y : TypeId → Prop) {α : Type} (gf : Nat) (lb : Array Value) (encs : α → Array Value) (L : List α) (S : Nat → Prop) (w0 : World) : Prop :=
  ∀ (l : Nat) (J Jx : List α → World → Prop) (W : World), Below w0.heap.size w0 W → w0.heap.size ≤ l → l < W.heap.size → OwnFrom W.heap.size J → OwnFrom W.heap.size Jx →
    (∀ pre x W1, pre ++ [x] <+: L → W.heap.size ≤ W1.heap.size → J pre W1 → YieldAt Fence.wide 7 Tryz.prog l (encs x) W1 fun e W' =>
      KP Y (fun k => S k ∨ k = l) W1 W' ∧ ((e = .returned (.bool true) ∧ J (pre ++ [x]) W') ∨ (e = .returned (.bool false) ∧ Jx (pre ++ [x]) W'))) →
    J [] W →
    CallsIn Fence.wide 8 Tryz.prog gf (#[.func (.yield l) #[] #[]] ++ lb) W fun e W' => (∃ v, e = .returned v) ∧ (J L W' ∨ ∃ pre, pre <+: L ∧ Jx pre W')
/-- How a round's body may be left. -/
def postT (Y : TypeId → Prop) {α : Type} (S : Nat → Prop) (I : List α → World → Prop) (Ix : Code → List α → World → Prop) (xs : List α) (W : World) : Exit → Act → World → Prop
  | .normal, _, W' => KP Y S W W' ∧ I xs W'
  | .ret, _, W' => KP Y S W W' ∧ Ix .ret xs W'
  | .exit id, _, W' => KP Y S W W' ∧ Ix (.exit id) xs W'
  | .goto t, _, W' => KP Y S W W' ∧ Ix (.goto t) xs W'
  | .panic _, _, _ => False
  | .outgrown, _, _ => False
theorem range_ownTA {Y : TypeId → Prop} {α : Type} {g : Operand} {ps : Array Tmp} {assign body : Code} {Q : Exit → Act → World → Prop} {a : Act} {w w0 : World} {gf : Nat} {lb : Array Value} {encs : α → Array Value} {L : List α} {S : Nat → Prop}
    (hg : a.eval g = .func (.func gf) #[] lb) (eg : ∀ args w, (callFunc gf args).run Tryz.prog w = .ok (.enter gf args) w)
    (hseq : SeqT Y gf lb encs L S w0) (hb0 : Below w0.heap.size w0 w) (hS : ∀ k, S k → k < w.heap.size) (hps : ∀ x, (encs x).size = ps.size)
    (I : List α → World → Prop) (Ix : Code → List α → World → Prop) (hI : OwnFrom w.heap.size I) (hIx : ∀ c, OwnFrom w.heap.size (Ix c)) (h0 : I [] w)
    (hround : ∃ Ax : α → Act → World → Prop, (∀ x a', OwnFrom w.heap.size (fun (_ : Unit) W => Ax x a' W)) ∧
      (∀ (l : Nat) (pre : List α) (x : α) (W : World) (K : Act → World → Prop), pre ++ [x] <+: L → w.heap.size ≤ W.heap.size → I pre W → (∀ a' W', KP Y S W W' → I pre W' → Ax x a' W' → K a' W') →
      assign.wpIn (Fence.wide.inRound l) 7 Tryz.prog (Exit.then K (fun _ _ _ => False)) { tmps := (ps.zip (encs x)).foldl (fun t (p, v) => t.setIfInBounds p v) a.tmps, defers := [] } W) ∧
      (∀ (l : Nat) (pre : List α) (x : α) (a' : Act) (W : World), pre ++ [x] <+: L → w.heap.size ≤ W.heap.size → I pre W → Ax x a' W → body.wpIn (Fence.wide.inRound l) 7 Tryz.prog (postT Y S I Ix (pre ++ [x]) W) a' W))
    (hdone : ∀ (D : Nat) (W : World), w.heap.size ≤ D → I L W → W.heap[D]? = some (.deferred (some [])) → Q .normal { a with defers := { target := .collected D, args := #[] } :: a.defers } W)
    (hstop : ∀ (D : Nat) (c : Code) (pre : List α) (W : World), w.heap.size ≤ D → pre <+: L → Ix c pre W → W.heap[D]? = some (.deferred (some [])) → c.wpIn Fence.wide 9 Tryz.prog Q { a with defers := { target := .collected D, args := #[] } :: a.defers } W) :
    (Code.rangeFunc g ps assign body).wpIn Fence.wide 9 Tryz.prog Q a w := by
  obtain ⟨Ax, hAx, hassign, hbody⟩ := hround
  refine wpIn_rangeFunc fun fn hfn => ?_
  obtain ⟨r0, hr0⟩ : ∃ r0 : Loop, r0 = { state := .ready, pending := none, fn, tmps := a.tmps, params := ps, assign, body, defers := w.heap.size } := ⟨_, rfl⟩
  obtain ⟨W1, hW1⟩ : ∃ W1, W1 = (w.alloc (.deferred (some []))).alloc (.loop r0) := ⟨_, rfl⟩
  obtain ⟨l, hl⟩ : ∃ l, l = w.heap.size + 1 := ⟨_, rfl⟩
  have hz1 : W1.heap.size = w.heap.size + 2 := by rw [hW1]; simp
  have hD1 : W1.heap[w.heap.size]? = some (.deferred (some [])) := by
    rw [hW1]; exact (Below.heap_alloc _ _ _ (by simp)).trans (World.alloc_heap_new w _)
  have hL1 : W1.heap[l]? = some (.loop r0) := by
    rw [hW1, hl]; have := World.alloc_heap_new (w.alloc (.deferred (some []))) (.loop r0); rwa [World.size_alloc] at this
  have hb1 : Below w0.heap.size w0 W1 := by
    rw [hW1]; exact hb0.trans ((((Below.refl _ w).alloc (Nat.le_refl _) _).alloc (by simp) _).mono hb0.size)
  have hI1 : I [] W1 := by rw [hW1]; exact hI.alloc _ (hI.alloc _ h0)
  refine ⟨l, [{ target := .collected w.heap.size, args := #[] }], W1, { target := .fn (.func gf) lb, args := #[.func (.yield l) #[] #[]] }, W1, gf, #[.func (.yield l) #[] #[]] ++ lb, W1, ?_, ?_, fun _ _ => trivial, ?_, fun _ => by decide, ?_⟩
  · have := run_enterLoop_outer (P := Tryz.prog) (w := w) fn a.tmps ps assign body
    rw [hW1, hl, hr0]
    exact this
  · simp only [resolve, hg]
    simp [go_sem]
  · simp [invoke, go_sem, eg]
  have hlD : l ≠ w.heap.size := by omega
  refine (hseq l (fun pre W => I pre W ∧ W.heap[l]? = some (.loop r0) ∧ W.heap[w.heap.size]? = some (.deferred (some [])))
    (fun pre W => ∃ c, Ix c pre W ∧ W.heap[l]? = some (.loop { r0 with state := .done, pending := some c }) ∧ W.heap[w.heap.size]? = some (.deferred (some [])))
    W1 hb1 (by have := hb0.size; omega) (by omega) ?_ ?_ ?_ ⟨hI1, hL1, hD1⟩).mono ?_
  · intro s A A' row hs hgr hr
    exact ⟨ownFrom_mono hI (by omega) s A A' row hs.1 hgr hr, ownFrom_at (β := List α) (show l < W1.heap.size by omega) _ s A A' row hs.2.1 hgr hr, ownFrom_at (β := List α) (show w.heap.size < W1.heap.size by omega) _ s A A' row hs.2.2 hgr hr⟩
  · intro s A A' row hs hgr hr
    obtain ⟨c, h1, h2, h3⟩ := hs
    exact ⟨c, ownFrom_mono (hIx c) (by omega) s A A' row h1 hgr hr, ownFrom_at (β := List α) (show l < W1.heap.size by omega) _ s A A' row h2 hgr hr, ownFrom_at (β := List α) (show w.heap.size < W1.heap.size by omega) _ s A A' row h3 hgr hr⟩
  · -- a round
    rintro pre x W hpre hzW ⟨hi, hl1, hd1⟩
    have hy := run_yield (P := Tryz.prog) (args := encs x) hl1 (by rw [hr0]; exact hps x)
    obtain ⟨rb, hrb⟩ : ∃ rb : Loop, rb = { r0 with state := .busy } := ⟨_, rfl⟩
    have hlW0 : l < W.heap.size := (Array.getElem?_eq_some_iff.1 hl1).1
    rw [hr0] at hy
    refine ⟨fn, _, assign, body, hy, roundIn_of_wpIn hfn (hassign l pre x W _ hpre (by omega) hi (fun a' W0 hk0 hi0 hax0 => ?_))⟩
    have hl0 : W0.heap[l]? = some (.loop r0) := (hk0.block l hlW0 (fun e => by have := hS l e; omega) (noCells hl1)).trans hl1
    have hd0 : W0.heap[w.heap.size]? = some (.deferred (some [])) := (hk0.block _ (by omega) (fun e => by have := hS _ e; omega) (noCells hd1)).trans hd1
    have hlW : l < W0.heap.size := (Array.getElem?_eq_some_iff.1 hl0).1
    have hl2 : (W0.putObj l (.loop rb)).heap[l]? = some (.loop rb) := World.putObj_heap_same hlW
    have hd2 : (W0.putObj l (.loop rb)).heap[w.heap.size]? = some (.deferred (some [])) := (World.putObj_heap_other (fun e => hlD e.symm)).trans hd0
    have hi2 : I pre (W0.putObj l (.loop rb)) := hI.putObj _ hi0 (by omega) hl0 rfl
    have hax2 : Ax x a' (W0.putObj l (.loop rb)) := (hAx x a').putObj (s := ()) _ hax0 (by omega) hl0 rfl
    have hk2 : KP Y (fun k => S k ∨ k = l) W (W0.putObj l (.loop rb)) := (hk0.mono (T := fun k => S k ∨ k = l) (fun _ _ e => .inl e)).putObj (.inr rfl) _
    refine ⟨_, run_beginRound hl0 (by rw [hr0]), ?_⟩
    rw [← hrb]
    refine wpIn_mono (hbody l pre x a' _ hpre (by simp [World.putObj]; omega) hi2 hax2) ?_
    have fin : ∀ (jump : Option Code) (W3 : World), KP Y S (W0.putObj l (.loop rb)) W3 → ∀ r3 : Loop, r3 = { r0 with state := if jump.isNone then .ready else .done, pending := jump } →
        (Instr.endRound l jump).run Tryz.prog W3 = .ok (.bool jump.isNone) (W3.putObj l (.loop r3)) ∧ W3.heap[l]? = some (.loop rb) ∧ (W3.putObj l (.loop r3)).heap[l]? = some (.loop r3) ∧
        (W3.putObj l (.loop r3)).heap[w.heap.size]? = some (.deferred (some [])) ∧ KP Y (fun k => S k ∨ k = l) W (W3.putObj l (.loop r3)) := fun jump W3 hk3 r3 h3 => by
      have hzP : (W0.putObj l (.loop rb)).heap.size = W0.heap.size := by simp [World.putObj]
      have q1 : W3.heap[l]? = some (.loop rb) := (hk3.block l (by omega) (fun e => by have := hS l e; omega) (noCells hl2)).trans hl2
      have q2 : W3.heap[w.heap.size]? = some (.deferred (some [])) := (hk3.block _ (by omega) (fun e => by have := hS _ e; omega) (noCells hd2)).trans hd2
      refine ⟨?_, q1, World.putObj_heap_same (Array.getElem?_eq_some_iff.1 q1).1, (World.putObj_heap_other (fun e => hlD e.symm)).trans q2, ((hk2.trans (hk3.mono (T := fun k => S k ∨ k = l) (fun _ _ e => .inl e)) (fun _ _ e => e)).putObj (.inr rfl) _)⟩
      rw [h3]
      have := run_endRound (P := Tryz.prog) jump q1
      rw [hrb] at this
      exact this
    rintro e a3 W3 hp
    cases e with
    | normal =>
      obtain ⟨hk3, hi3⟩ := hp
      obtain ⟨e1, e2, e3, e4, e5⟩ := fin none W3 hk3 r0 (by rw [hr0]; rfl)
      exact ⟨_, _, e1, e5, .inl ⟨rfl, hI.putObj _ hi3 (by omega) e2 rfl, e3, e4⟩⟩
    | ret =>
      obtain ⟨hk3, hi3⟩ := hp
      obtain ⟨e1, e2, e3, e4, e5⟩ := fin (some .ret) W3 hk3 _ rfl
      exact ⟨_, _, e1, e5, .inr ⟨rfl, .ret, (hIx _).putObj _ hi3 (by omega) e2 rfl, e3, e4⟩⟩
    | exit id =>
      obtain ⟨hk3, hi3⟩ := hp
      obtain ⟨e1, e2, e3, e4, e5⟩ := fin (some (.exit id)) W3 hk3 _ rfl
      exact ⟨_, _, e1, e5, .inr ⟨rfl, .exit id, (hIx _).putObj _ hi3 (by omega) e2 rfl, e3, e4⟩⟩
    | goto t =>
      obtain ⟨hk3, hi3⟩ := hp
      obtain ⟨e1, e2, e3, e4, e5⟩ := fin (some (.goto t)) W3 hk3 _ rfl
      exact ⟨_, _, e1, e5, .inr ⟨rfl, .goto t, (hIx _).putObj _ hi3 (by omega) e2 rfl, e3, e4⟩⟩
    | panic ch => exact hp.elim
    | outgrown => exact hp.elim
  · -- behind it
    rintro e W2 ⟨⟨v, rfl⟩, ⟨hi, hl2, hd2⟩ | ⟨pre, hpre, c, hi, hl2, hd2⟩⟩
    · have he : (Instr.endLoop l).run Tryz.prog W2 = .ok none (W2.putObj l (.loop { r0 with state := .exhausted })) := by
        have := run_endLoop (P := Tryz.prog) hl2 (by rw [hr0]; simp)
        rw [this, hr0]
      exact ⟨none, _, he, hdone _ _ (Nat.le_refl _) (hI.putObj _ hi (by omega) hl2 rfl) ((World.putObj_heap_other (fun e => hlD e.symm)).trans hd2)⟩
    · have he := run_endLoop (P := Tryz.prog) hl2 (by simp)
      exact ⟨some c, _, he, hstop _ c pre _ (Nat.le_refl _) hpre ((hIx c).putObj _ hi (by omega) hl2 rfl) ((World.putObj_heap_other (fun e => hlD e.symm)).trans hd2)⟩
theorem range_ownT {Y : TypeId → Prop} {α : Type} {g : Operand} {ps : Array Tmp} {assign body : Code} {Q : Exit → Act → World → Prop} {a : Act} {w w0 : World} {gf : Nat} {lb : Array Value} {encs : α → Array Value} {L : List α} {S : Nat → Prop}
    (hg : a.eval g = .func (.func gf) #[] lb) (eg : ∀ args w, (callFunc gf args).run Tryz.prog w = .ok (.enter gf args) w)
    (hseq : SeqT Y gf lb encs L S w0) (hb0 : Below w0.heap.size w0 w) (hS : ∀ k, S k → k < w.heap.size) (hps : ∀ x, (encs x).size = ps.size)
    (I : List α → World → Prop) (Ix : Code → List α → World → Prop) (hI : OwnFrom w.heap.size I) (hIx : ∀ c, OwnFrom w.heap.size (Ix c)) (h0 : I [] w)
    (hround : ∃ a₁ : α → Act, (∀ (l : Nat) (x : α) (W : World) (K : Act → World → Prop), K (a₁ x) W →
      assign.wpIn (Fence.wide.inRound l) 7 Tryz.prog (Exit.then K (fun _ _ _ => False)) { tmps := (ps.zip (encs x)).foldl (fun t (p, v) => t.setIfInBounds p v) a.tmps, defers := [] } W) ∧
      (∀ (l : Nat) (pre : List α) (x : α) (W : World), pre ++ [x] <+: L → w.heap.size ≤ W.heap.size → I pre W → body.wpIn (Fence.wide.inRound l) 7 Tryz.prog (postT Y S I Ix (pre ++ [x]) W) (a₁ x) W))
    (hdone : ∀ (D : Nat) (W : World), w.heap.size ≤ D → I L W → W.heap[D]? = some (.deferred (some [])) → Q .normal { a with defers := { target := .collected D, args := #[] } :: a.defers } W)
    (hstop : ∀ (D : Nat) (c : Code) (pre : List α) (W : World), w.heap.size ≤ D → pre <+: L → Ix c pre W → W.heap[D]? = some (.deferred (some [])) → c.wpIn Fence.wide 9 Tryz.prog Q { a with defers := { target := .collected D, args := #[] } :: a.defers } W) :
    (Code.rangeFunc g ps assign body).wpIn Fence.wide 9 Tryz.prog Q a w := by
  obtain ⟨a₁, hassign, hbody⟩ := hround
  refine range_ownTA hg eg hseq hb0 hS hps I Ix hI hIx h0 ⟨fun x a' _ => a' = a₁ x, fun x a' _ _ _ _ h _ _ => h, fun l pre x W K _ _ hi hK => hassign l x W K (hK _ _ (KP.refl _ _ _) hi rfl), fun l pre x a' W hpre hz hi h => ?_⟩ hdone hstop
  subst h
  exact hbody l pre x W hpre hz hi
theorem range_ownTB {Y : TypeId → Prop} {α : Type} {g : Operand} {ps : Array Tmp} {assign body : Code} {Q : Exit → Act → World → Prop} {a : Act} {w w0 : World} {gf : Nat} {lb : Array Value} {encs : α → Array Value} {L : List α} {S : Nat → Prop}
    (hg : a.eval g = .func (.func gf) #[] lb) (eg : ∀ args w, (callFunc gf args).run Tryz.prog w = .ok (.enter gf args) w)
    (hseq : SeqT Y gf lb encs L S w0) (hb0 : Below w0.heap.size w0 w) (hS : ∀ k, S k → k < w.heap.size) (hps : ∀ x, (encs x).size = ps.size)
    (I : List α → World → Prop) (Ix : Code → List α → World → Prop) (hI : OwnFrom w.heap.size I) (hIx : ∀ c, OwnFrom w.heap.size (Ix c)) (h0 : I [] w)
    (T : TypeId) (cs : α → Array Value)
    (hround : ∃ mk : Nat → α → Act, (∀ (l : Nat) (pre : List α) (x : α) (W : World) (K : Act → World → Prop), pre ++ [x] <+: L → w.heap.size ≤ W.heap.size → I pre W → (∀ Bx W', KP Y S W W' → I pre W' → w.heap.size ≤ Bx → Blk W' Bx T (cs x) → K (mk Bx x) W') →
      assign.wpIn (Fence.wide.inRound l) 7 Tryz.prog (Exit.then K (fun _ _ _ => False)) { tmps := (ps.zip (encs x)).foldl (fun t (p, v) => t.setIfInBounds p v) a.tmps, defers := [] } W) ∧
      (∀ (l : Nat) (pre : List α) (x : α) (Bx : Nat) (W : World), pre ++ [x] <+: L → w.heap.size ≤ W.heap.size → I pre W → w.heap.size ≤ Bx → Blk W Bx T (cs x) → body.wpIn (Fence.wide.inRound l) 7 Tryz.prog (postT Y S I Ix (pre ++ [x]) W) (mk Bx x) W))
    (hdone : ∀ (D : Nat) (W : World), w.heap.size ≤ D → I L W → W.heap[D]? = some (.deferred (some [])) → Q .normal { a with defers := { target := .collected D, args := #[] } :: a.defers } W)
    (hstop : ∀ (D : Nat) (c : Code) (pre : List α) (W : World), w.heap.size ≤ D → pre <+: L → Ix c pre W → W.heap[D]? = some (.deferred (some [])) → c.wpIn Fence.wide 9 Tryz.prog Q { a with defers := { target := .collected D, args := #[] } :: a.defers } W) :
    (Code.rangeFunc g ps assign body).wpIn Fence.wide 9 Tryz.prog Q a w := by
  obtain ⟨mk, hassign, hbody⟩ := hround
  refine range_ownTA hg eg hseq hb0 hS hps I Ix hI hIx h0 ⟨fun x a' W => ∃ Bx, w.heap.size ≤ Bx ∧ Blk W Bx T (cs x) ∧ a' = mk Bx x, fun x a' s A A' row hs hgr hr => ?_, fun l pre x W K hpre hz hi hK => hassign l pre x W K hpre hz hi fun Bx W' h1 h2 h3 h4 => hK _ _ h1 h2 ⟨Bx, h3, h4, rfl⟩, fun l pre x a' W hpre hz hi h => ?_⟩ hdone hstop
  · obtain ⟨Bx, h1, h2, h3⟩ := hs
    refine ⟨Bx, h1, (hgr.block Bx h2.lt (fun e => ?_)).trans h2, h3⟩
    obtain ⟨o, ho, hc⟩ := (hr Bx e.symm).2
    rw [show A.heap[Bx]? = _ from h2] at ho
    cases ho
    cases hc
  · obtain ⟨Bx, h1, h2, rfl⟩ := h
    exact hbody l pre x Bx W hpre hz hi h1 h2
end Go.Proofs.YtfpcnenohidfpaaGreat
