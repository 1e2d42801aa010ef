/- Going over an iterator of this program, as a law of the plain walk: what the body owes, what is known behind the loop. No condition. -/
import Derived.RangeFuncNested
import Derived.Deep.RegionHeld
import Derived.OrdersIn
import Derived.RangeFuncBound
import Derived.RangeFuncCalls
import Derived.RangeFuncLeaves
import Derived.Shelf.Abstract
import Derived.Shelf.RegionOpen
import Derived.OwnWalkIn
import Derived.TacticsInMore
import Derived.LoopNIn
import Derived.LoopIn
import Derived.Test.YtfpcnenohidfpaaGreatBase
namespace Go.Proofs.YtfpcnenohidfpaaGreat
open Go.RowKit Go.Shelf
set_option linter.unusedVariables false

/-- What was there below n₀ and is not in S lies as it lay. -/
structure KX (n₀ : Nat) (S : Nat → Prop) (w w' : World) : Prop where
  size : w.heap.size ≤ w'.heap.size
  block : ∀ k, k < n₀ → ¬ S k → w'.heap[k]? = w.heap[k]?
theorem KX.refl (n₀ : Nat) (S : Nat → Prop) (w : World) : KX n₀ S w w := ⟨Nat.le_refl _, fun _ _ _ => rfl⟩
theorem KX.trans {n₀ : Nat} {S : Nat → Prop} {a b c : World} (h : KX n₀ S a b) (k : KX n₀ S b c) : KX n₀ S a c :=
  ⟨Nat.le_trans h.size k.size, fun i hi hs => (k.block i hi hs).trans (h.block i hi hs)⟩
theorem KX.put {n₀ : Nat} {S : Nat → Prop} {w : World} (hn : n₀ ≤ w.heap.size) (W : World) (l : Nat) (o o' : Obj) (hl : w.heap.size ≤ l) (h : W.heap[l]? = some o) (_ : o.isCells = false) (_ : o.isWalk = false) : KX n₀ S W (W.putObj l o') :=
  ⟨by simp [World.putObj], fun k hk _ => (grownBy_putObj' W l o').block k (by have := (Array.getElem?_eq_some_iff.1 h).1; omega) (fun e => by cases e; omega)⟩
theorem KX.cell {n₀ : Nat} {S : Nat → Prop} {w w' : World} (h : KX n₀ S w w') {p : Addr} (hp : p.block < n₀) (hs : ¬ S p.block) {u : Value} (hc : w.cell? p = some u) : w'.cell? p = some u :=
  (World.cell?_of_block (w := w) (h.block p.block hp hs)).trans hc
theorem Keep.kx {S T : Nat → Prop} {w w' : World} {n₀ : Nat} (h : Keep S w w') (hn : n₀ ≤ w.heap.size) (hs : ∀ k, k < n₀ → S k → T k) : KX n₀ T w w' :=
  ⟨h.size, fun k hk ht => h.block k (by omega) fun e => ht (hs k hk e)⟩
theorem KX.of_below {w w' : World} {n₀ : Nat} {S : Nat → Prop} (h : Below n₀ w w') : KX n₀ S w w' := ⟨h.size, fun k hk _ => h.block k hk⟩

/-- A store into cells, and new blocks, leave the loop's own records. -/
theorem Keep.from {S : Nat → Prop} {w w' : World} {B : Nat} (h : Keep S w w') (hs : ∀ k, k < w.heap.size → B ≤ k → S k → ∃ o : Obj, w.heap[k]? = some o ∧ o.isCells = true) : KeepsFrom B w w' :=
  ⟨h.size, fun k o hB hk ho => by
    have hlt := (Array.getElem?_eq_some_iff.1 hk).1
    refine (h.block k hlt fun e => ?_).trans hk
    obtain ⟨o', h1, h2⟩ := hs k hlt hB e
    rw [hk] at h1
    cases h1
    rw [ho] at h2
    cases h2⟩
theorem Keep.from_below {w w' : World} {B : Nat} (h : Below w.heap.size w w') : KeepsFrom B w w' :=
  ⟨h.size, fun k o hB hk ho => (h.block k (Array.getElem?_eq_some_iff.1 hk).1).trans hk⟩

/-- What the loop's book-keeping does to the world, as a 'Keep'. -/
theorem keep_row {A B : World} {row : Option Nat} (hg : A.grownBy B row) : Keep (fun k => row = some k) A B := Keep.of_grown hg
theorem row_not {A : World} {row : Option Nat} {b : Nat} {n : Nat} (hr : ∀ r, row = some r → n ≤ r ∧ ∃ o : Obj, A.heap[r]? = some o ∧ o.isCells = false) {o : Obj} (h : A.heap[b]? = some o) (ho : o.isCells = true) : ¬ row = some b := by
  intro e
  obtain ⟨_, o', h1, h2⟩ := hr b e
  rw [h] at h1
  cases h1
  rw [ho] at h2
  cases h2
theorem row_not_cell {A : World} {row : Option Nat} {p : Addr} {n : Nat} (hr : ∀ r, row = some r → n ≤ r ∧ ∃ o : Obj, A.heap[r]? = some o ∧ o.isCells = false) {u : Value} (h : A.cell? p = some u) : ¬ row = some p.block := by
  obtain ⟨o, h1, h2⟩ := cells_of_cell h
  exact row_not hr h1 h2
theorem row_not_lt {A : World} {row : Option Nat} {b n : Nat} (hr : ∀ r, row = some r → n ≤ r ∧ ∃ o : Obj, A.heap[r]? = some o ∧ o.isCells = false) (h : b < n) : ¬ row = some b := by
  intro e
  have := (hr b e).1
  omega

/-- An iterator's contract at the fence that asks nothing, at any depth. -/
abbrev Goes {α : Type} (g : Nat) (lb : Array Value) (encs : α → Array Value) (Kp : World → World → Prop) (S Sp : List α → Prop) (N : Nat) (w : World) : Prop :=
  SeqStopsK Fence.wide 7 Tryz.prog g lb encs Kp S Sp N w
/-- A loop over an iterator that gives nothing. -/
theorem range_none {g : Operand} {ps : Array Tmp} {assign body : Code} {Q : Exit → Act → World → Prop} {a : Act} {w : World} {gf : Nat} {lb : Array Value}
    (hg : a.eval g = .func (.func gf) #[] lb) (eg : ∀ args w, (callFunc gf args).run Tryz.prog w = .ok (.enter gf args) w)
    (hgo : SeqStopsK (α := Empty) Fence.wide 8 Tryz.prog gf lb (fun x => x.elim) (Below w.heap.size) (fun _ => True) (fun _ => False) 0 w)
    (hQ : ∀ (D : Nat) (W : World), w.heap.size ≤ D → Below w.heap.size w W → W.heap[D]? = some (.deferred (some [])) → Q .normal { a with defers := { target := .collected D, args := #[] } :: a.defers } W) :
    (Code.rangeFunc g ps assign body).wpIn Fence.wide 9 Tryz.prog Q a w := by
  refine wpIn_rangeFunc_ownF (n := 9) rfl (by omega) hg trivial eg hgo belowK_t (belowK_b (Nat.le_refl _)) (Below.refl _ _) (fun x => x.elim)
    (fun _ W => Below w.heap.size w W) (fun _ _ _ => False) (ownFrom_below (Nat.le_refl _) (Nat.le_refl _)) (fun _ _ _ _ _ hs _ _ => hs) (Below.refl _ _) (fun x => x.elim)
    (fun l x W K hK => x.elim) (fun l pre x W => x.elim) (fun D xs W hD _ hI hK => hQ D W hD hI hK) (fun D c pre W _ hs => hs.elim)

/-- A piece of the code that is not left but at its end, walked plainly. -/
theorem wpIn_sure {P : Program} {n : Nat} {c : Code} {K : Act → World → Prop} {Q : Exit → Act → World → Prop} {a : Act} {w : World} (h : c.wp P (Exit.then K (fun _ _ _ => False)) a w) : c.wpIn Fence.wide n P (Exit.then K Q) a w :=
  wpIn_wide.2 (wp_mono h fun e a w h => by cases e <;> first | exact h | exact h.elim)

/-- What is walked plainly stands within a round of a loop over a function, for one operation that is no 'defer'. -/
theorem op_in_round {P : Program} {o : Oper} {a : Act} {w : World} {K : Act → World → Prop} {Q : Exit → Act → World → Prop} (l n : Nat) (hd : ∀ c, o.op ≠ .defer c) (h : o.wp P a w K Q) : o.wpIn (Fence.wide.inRound l) n P a w K Q := by
  refine ⟨fun _ _ => trivial, ?_⟩
  rw [Oper.semAt_plain _ _ _ hd]
  unfold Oper.wp at h
  cases hr : (execOp a.eval o).run P w with
  | ok nx w' =>
    rw [hr] at h
    cases nx with
    | value v => exact h
    | skip => exact h
    | defer d => exact h
    | enter f args => exact ⟨fun h => by simp [Fence.wide, Fence.inRound] at h, CallsIn.inRound l (callsIn_wide.2 h)⟩
    | row r args => exact ⟨fun h => by simp [Fence.wide, Fence.inRound] at h, fun c cs _ => let ⟨v, w', r, s⟩ := h c cs; ⟨v, w', r, stepsIn_wide.2 s⟩⟩
    | _ => exact h.elim
  | halt st w' =>
    rw [hr] at h
    cases st <;> exact h
def notDefer (o : Oper) : Bool := match o.op with | .defer _ => false | _ => true
theorem notDefer_spec {ops : Array Oper} (h : ops.all notDefer = true) {i : Nat} {o : Oper} (ho : ops[i]? = some o) : ∀ c, o.op ≠ .defer c := by
  intro c hc
  obtain ⟨hi, rfl⟩ := Array.getElem?_eq_some_iff.1 ho
  have := Array.all_eq_true.1 h i hi
  simp [notDefer, hc] at this
theorem any_in_round {P : Program} {md : Region.Mode} {ops : Array Oper} {K : Act → World → Prop} (l n : Nat) (hd : ops.all notDefer = true) : ∀ (fuel : Nat) (listed : Array Bool) (a : Act) (w : World),
    wpAny P md ops (Exit.then K (fun _ _ _ => False)) fuel listed a w → wpAnyIn (Fence.wide.inRound l) n P md ops (Exit.then K (fun _ _ _ => False)) fuel listed a w
  | 0, _, _, _, h => h
  | fuel + 1, listed, a, w, h => ⟨h.1, fun i hi => by
      have h2 := h.2 i hi
      unfold wpOp at h2
      unfold wpOpIn
      cases ho : ops[i]? with
      | none =>
        rw [ho] at h2
        exact any_in_round l n hd fuel _ _ _ h2
      | some o =>
        rw [ho] at h2
        simp only at h2 ⊢
        split
        · rename_i hw
          rw [if_pos hw] at h2
          rcases h2 with h2 | ⟨_, _, _, hf⟩
          · exact Oper.wpIn_mono (fun a w h => any_in_round l n hd fuel _ a w h) (op_in_round l n (notDefer_spec hd ho) h2)
          · exact hf.elim
        · rename_i hw
          rw [if_neg hw] at h2
          exact ⟨fun _ _ => trivial, any_in_round l n hd fuel _ _ _ h2⟩⟩
/-- A region that draws its order, in a round, walked plainly. -/
theorem draws_in_round {P : Program} {id : Nat} {ops : Array Oper} {Q : Exit → Act → World → Prop} {S : World → Prop} {a : Act} {w : World} (l n : Nat) (hm : P.follows .mixedOrders = true) (hd : ops.all notDefer = true) (hS : S w.drew)
    (h : S w.drew → wpAnyH P .any ops (Exit.then (fun a w => Q .normal a w) (fun _ _ _ => False)) S ops.size (Array.replicate ops.size false) a w.drew) : (Code.region id ops true).wpIn (Fence.wide.inRound l) n P Q a w :=
  wpIn_mono (wpIn_region_any hm (any_in_round l n hd _ _ _ _ (wpAny_of_held _ _ _ _ (h hS)))) fun e a w h => by cases e <;> first | exact h | exact h.elim

/-- Lists, from the end. -/
theorem snoc_ind {α : Type} {P : List α → Prop} (h0 : P []) (h1 : ∀ l x, P l → P (l ++ [x])) (l : List α) : P l := by
  have : ∀ r : List α, P r.reverse := fun r => by
    induction r with
    | nil => exact h0
    | cons x r ih =>
      rw [List.reverse_cons]
      exact h1 _ x ih
  simpa using this l.reverse
theorem fm_congr {α β : Type} {f g : α → Option β} : ∀ {l : List α}, (∀ x ∈ l, f x = g x) → l.filterMap f = l.filterMap g
  | [], _ => rfl
  | x :: l, h => by
    rw [List.filterMap_cons, List.filterMap_cons, h x (by simp), fm_congr (l := l) fun y hy => h y (by simp [hy])]

theorem cell_set_other {w : World} {a b : Addr} (h : b.block ≠ a.block) (u : Value) : (w.setCell a u).cell? b = w.cell? b := World.cell?_of_block (Below.heap_setCell w a u b.block h)
theorem below_same' (w : World) : Below w.heap.size w w := Below.refl _ _
end Go.Proofs.YtfpcnenohidfpaaGreat
