/- A backlog in memory: New, all, Out, Len, Place, Back, and of nil ones. No condition but that it lies in memory. -/
import Derived.Test.YtnkekjaljhpmjaaBkI
namespace Go.Proofs.Ytnkekjaljhpmjaa
open Go.RowKit
set_option linter.unusedVariables false
set_option linter.unusedSimpArgs false

/-- A backlog: its block, its rows' slice. -/
structure BV (F : Nat → Prop) (w : World) (p : Nat) (v : Value) (l : List Wt) (o : Int) : Prop where
  pc : Blk w p 58 #[v, .int .i64 o]
  own : WO 0 w v l
  ne : v.ownBlock ≠ some p
  fp : F p
  fv : ∀ g, v.ownBlock = some g → F g
/-- A backlog whose blocks are in F. -/
def BK (F : Nat → Prop) (w : World) (p : Nat) (l : List Wt) (o : Int) : Prop := ∃ v, BV F w p v l o
section
variable {F G : Nat → Prop} {w w' : World} {p : Nat} {v : Value} {l : List Wt} {o : Int}
theorem BV.kept {S : Nat → Prop} (h : BV F w p v l o) (k : Keep S w w') (hs : ∀ g, F g → ¬ S g) : BV F w' p v l o :=
  ⟨h.pc.kept k (hs p h.fp), h.own.kept k fun g hg => hs g (h.fv g hg), h.ne, h.fp, h.fv⟩
theorem BV.lt (h : BV F w p v l o) : p < w.heap.size ∧ ∀ g, v.ownBlock = some g → g < w.heap.size := ⟨h.pc.lt, fun g hg => (h.own.lt g hg).2⟩
theorem BV.below (h : BV F w p v l o) (k : Below w.heap.size w w') : BV F w' p v l o :=
  ⟨h.pc.kept (Keep.of_below k) (Nat.not_le.2 h.lt.1), h.own.below k, h.ne, h.fp, h.fv⟩
theorem BV.alloc (h : BV F w p v l o) (ob : Obj) : BV F (w.alloc ob) p v l o := h.below ((Below.refl _ w).alloc (Nat.le_refl _) ob)
theorem BV.drew (h : BV F w p v l o) : BV F w.drew p v l o := ⟨h.pc, h.own, h.ne, h.fp, h.fv⟩
theorem BV.mono (h : BV F w p v l o) (hF : ∀ k, k < w.heap.size → F k → G k) : BV G w p v l o := ⟨h.pc, h.own, h.ne, hF p h.lt.1 h.fp, fun g hg => hF g (h.lt.2 g hg) (h.fv g hg)⟩
theorem BV.fields (h : BV F w p v l o) : w.cell? ⟨p, 0, none⟩ = some v ∧ w.cell? ⟨p, 1, none⟩ = some (.int .i64 o) := by
  have h0 := h.pc.cell 0
  have h1 := h.pc.cell 1
  simp at h0 h1
  exact ⟨h0, h1⟩
theorem BK.kept {S : Nat → Prop} (h : BK F w p l o) (k : Keep S w w') (hs : ∀ g, F g → ¬ S g) : BK F w' p l o := h.imp fun _ h => h.kept k hs
theorem BK.below (h : BK F w p l o) (k : Below w.heap.size w w') : BK F w' p l o := h.imp fun _ h => h.below k
theorem BK.alloc (h : BK F w p l o) (ob : Obj) : BK F (w.alloc ob) p l o := h.imp fun _ h => h.alloc ob
theorem BK.drew (h : BK F w p l o) : BK F w.drew p l o := h.imp fun _ h => h.drew
theorem BK.mono (h : BK F w p l o) (hF : ∀ k, k < w.heap.size → F k → G k) : BK G w p l o := h.imp fun _ h => h.mono hF
theorem BK.lt (h : BK F w p l o) : p < w.heap.size := by obtain ⟨v, h⟩ := h; exact h.lt.1
end
theorem bnew_any (w : World) : Calls Try.prog 10 #[] w fun e w' => e = .returned (.pointer (some ⟨w.heap.size, 0, none⟩)) ∧ BK (fun k => w.heap.size ≤ k) w' w.heap.size [] 0 ∧ Below w.heap.size w w' := by
  go_enter Try.func10, Try.ntmps10
  go_wp2
  go_ret
  exact ⟨rfl, ⟨_, Blk.new w _ _, WO.nil _ _, by simp [Value.ownBlock], Nat.le_refl _, fun g hg => by cases hg⟩, (Below.refl w.heap.size w).alloc (Nat.le_refl _) _⟩
section
variable {F : Nat → Prop} {w : World} {p : Nat} {v : Value} {l : List Wt} {o : Int}
theorem ball_any (h : BV F w p v l o) : Calls Try.prog 33 #[.pointer (some ⟨p, 0, none⟩)] w fun e w' => e = .returned v ∧ w' = w := by
  obtain ⟨h0, h1⟩ := h.fields
  go_enter Try.func33, Try.ntmps33
  go_wp2
  go_ret
  exact ⟨rfl, rfl⟩
theorem bout_any (h : BK F w p l o) : Calls Try.prog 26 #[.pointer (some ⟨p, 0, none⟩)] w fun e w' => e = .returned (.int .i64 o) ∧ w' = w := by
  obtain ⟨v, h⟩ := h
  obtain ⟨h0, h1⟩ := h.fields
  go_enter Try.func26, Try.ntmps26
  go_wp2
  go_ret
  exact ⟨rfl, rfl⟩
end
theorem ball_nil (w : World) : Calls Try.prog 33 #[.pointer none] w fun e w' => e = .returned (.slice none 0 0) ∧ w' = w := by
  go_enter Try.func33, Try.ntmps33
  go_wp2
  go_ret
  exact ⟨rfl, rfl⟩
theorem bout_nil (w : World) : Calls Try.prog 26 #[.pointer none] w fun e w' => e = .returned (.int .i64 0) ∧ w' = w := by
  go_enter Try.func26, Try.ntmps26
  go_wp2
  go_ret
  exact ⟨rfl, rfl⟩
theorem blen_nil (w : World) : Calls Try.prog 27 #[.pointer none] w fun e w' => e = .returned (.int .i64 0) ∧ w' = w := by
  go_enter Try.func27, Try.ntmps27
  go_wp2_with fail
  refine (ball_nil _).mono ?_
  rintro e w' ⟨rfl, rfl⟩
  go_wp2
  go_ret
  exact ⟨rfl, rfl⟩
theorem blen_any {F : Nat → Prop} {w : World} {p : Nat} {l : List Wt} {o : Int} (h : BK F w p l o) : Calls Try.prog 27 #[.pointer (some ⟨p, 0, none⟩)] w fun e w' => e = .returned (.int .i64 (l.length : Nat)) ∧ w' = w := by
  obtain ⟨v, h⟩ := h
  have ha := ball_any h
  obtain ⟨A, c, rfl, _⟩ := h.own.form
  go_enter Try.func27, Try.ntmps27
  go_wp2_with fail
  refine ha.mono ?_
  rintro e w' ⟨rfl, rfl⟩
  go_wp2
  go_ret
  exact ⟨rfl, rfl⟩
theorem bplace_nil (k : Int) (w : World) : Calls Try.prog 23 #[.pointer none, .int .i64 k] w fun e w' => e = .returned (.int .i64 (-1)) ∧ Below w.heap.size w w' := by
  have hq := Blk.new w 3 #[.int .i64 k]
  have hi := indexP_any none 0 0 [] w.heap.size k _ (WR.nil _ _) (by omega) hq
  go_enter Try.func23, Try.ntmps23
  go_wp2_with fail
  refine (ball_nil _).mono ?_
  rintro e w' ⟨rfl, rfl⟩
  go_wp2_with fail
  refine hi.mono ?_
  rintro e w' ⟨rfl, hb⟩
  have hb2 := ((Below.refl w.heap.size w).alloc (Nat.le_refl _) (.cells #[.int .i64 k] 3)).trans (hb.mono (by simp))
  clear hb hi
  go_wp2
  go_ret
  exact ⟨rfl, hb2⟩
theorem bplace_any {F : Nat → Prop} {w : World} {p : Nat} {l : List Wt} {o : Int} (k : Int) (h : BK F w p l o) (hl : l.length ≤ 1048576) : Calls Try.prog 23 #[.pointer (some ⟨p, 0, none⟩), .int .i64 k] w fun e w' => e = .returned (.int .i64 (placeW l k)) ∧ Below w.heap.size w w' := by
  obtain ⟨v, h⟩ := h
  have hq := Blk.new w 3 #[.int .i64 k]
  have h1 := h.alloc (.cells #[.int .i64 k] 3)
  have ha := ball_any h1
  obtain ⟨A, c, rfl, _⟩ := h.own.form
  have hi := indexP_any A l.length c l w.heap.size k _ h1.own.wr (by omega) hq
  clear h h1
  go_enter Try.func23, Try.ntmps23
  go_wp2_with fail
  refine ha.mono ?_
  rintro e w' ⟨rfl, rfl⟩
  go_wp2_with fail
  refine hi.mono ?_
  rintro e w' ⟨rfl, hb⟩
  have hb2 := ((Below.refl w.heap.size w).alloc (Nat.le_refl _) (.cells #[.int .i64 k] 3)).trans (hb.mono (by simp))
  clear hb hi ha
  go_wp2
  go_ret
  exact ⟨rfl, hb2⟩
end Go.Proofs.Ytnkekjaljhpmjaa
