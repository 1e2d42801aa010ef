/- What an object may write; bytes that were made. No condition. -/
import Derived.Test.YtfpcnenohidfpaaGreatTaker
namespace Go.Proofs.YtfpcnenohidfpaaGreat
open Go.RowKit
set_option linter.unusedVariables false

/-- From w, where an object may write F, the world has come to w', where it may write F': old blocks or new ones. -/
structure Foot (F : Nat → Prop) (w : World) (F' : Nat → Prop) (w' : World) : Prop where
  keep : Keep F w w'
  grow : ∀ i, F' i → F i ∨ w.heap.size ≤ i
theorem Foot.trans {F F' F'' : Nat → Prop} {w w' w'' : World} (h : Foot F w F' w') (k : Foot F' w' F'' w'') : Foot F w F'' w'' :=
  ⟨h.keep.trans k.keep fun i hi hf => (h.grow i hf).elim id fun hn => absurd hn (by omega), fun i hi => (k.grow i hi).elim (h.grow i) fun hn => .inr (Nat.le_trans h.keep.size hn)⟩
theorem Foot.refl (F : Nat → Prop) (w : World) : Foot F w F w := ⟨Keep.refl _ _, fun _ h => .inl h⟩
theorem Foot.of_below {F : Nat → Prop} {w w' : World} (h : Below w.heap.size w w') : Foot F w F w' :=
  ⟨⟨h.os, h.tape, h.output, h.size, fun i hi _ => h.block i hi⟩, fun _ h => .inl h⟩
theorem Foot.below {F F' : Nat → Prop} {w w' : World} {B : Nat} (h : Foot F w F' w') (hB : B ≤ w.heap.size) (hf : ∀ i, F i → B ≤ i) : Below B w w' :=
  h.keep.below hB fun i hi hF => by have := hf i hF; omega

theorem MK.alloc_ {base : Nat} {w : World} {g : Nat} {v : Value} {st : Option (List UInt8)} (h : MK base w g v st) (o : Obj) : MK base (w.alloc o) g v st :=
  h.kept ((Keep.refl (fun _ => False) w).alloc o) fun _ _ => id

theorem RB.addr_lt {w : World} {A : Option Addr} {n : Nat} {l : List UInt8} (h : RB w A n l) {ad : Addr} (ha : A = some ad) (hn : 0 < n) : ad.block < w.heap.size := by
  obtain ⟨b, off, e, hb, _⟩ := h.addr hn
  rw [e] at ha
  cases ha
  exact hb

theorem RB.made (w : World) (cs : Array Value) (t : TypeId) (l : List UInt8) (h : cs = (l.map bv).toArray) : RB (w.alloc (.cells cs t)) (some ⟨w.heap.size, 0, none⟩) l.length l := by
  subst h
  refine ⟨rfl, fun _ => ⟨_, _, rfl, fun j y hy => ?_⟩⟩
  rw [World.cell?_alloc_at _ _ _ _ rfl]
  simp [hy]

theorem RB.below {w w' : World} {A : Option Addr} {n : Nat} {l : List UInt8} (h : RB w A n l) (hb : Below w.heap.size w w') : RB w' A n l :=
  ⟨h.1, fun hn => by
    obtain ⟨b, off, e, hc⟩ := h.2 hn
    exact ⟨b, off, e, fun j x hx => (hb.cell (World.block_lt_of_cell? _ _ (hc j x hx))).trans (hc j x hx)⟩⟩


end Go.Proofs.YtfpcnenohidfpaaGreat
