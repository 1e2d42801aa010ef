/- over: going over a list's items, as a law of the loop. No condition but that the list lies where the body doesn't write. -/
import Derived.Test.YtpendcaefjbomaaIt
import Derived.Sort.Walk0
import Derived.Laws.StructEq
namespace Go.Proofs.Ytpendcaefjbomaa
open Go.RowKit Go.Maps Go.Shelf
set_option linter.unusedVariables false
set_option linter.unusedSimpArgs false
attribute [local go_sem] Oper.semAt_some

/-- One of the list's items. -/
abbrev Of1 (l : List It) := { x : It // x ∈ l }
theorem attach_take (l : List It) (k : Nat) (hk : k < l.length) : ∃ x : Of1 l, l[k]? = some x.1 ∧ l.attach.take (k + 1) = l.attach.take k ++ [x] := by
  have hk' : k < l.attach.length := by simpa using hk
  refine ⟨l.attach[k], by simp [List.getElem?_eq_getElem hk], ?_⟩
  rw [List.take_add_one, List.getElem?_eq_getElem hk']
  rfl

theorem unattach_snoc {l : List It} (pre : List (Of1 l)) (x : Of1 l) : (pre ++ [x]).map Subtype.val = pre.map Subtype.val ++ [x.1] := by simp

theorem cell_new_a (W : World) (v : Value) (t : TypeId) : (W.alloc (.cells #[v] t)).cell? ⟨W.heap.size, 0, none⟩ = some v ∧ (W.alloc (.cells #[v] t)).frozen? ⟨W.heap.size, 0, none⟩ = false :=
  ⟨(Blk.new W t #[v]).cell 0, (Blk.new W t #[v]).frozen 0⟩
theorem cell_old {W : World} {p : Addr} {v : Value} (o : Obj) (h : W.cell? p = some v) : (W.alloc o).cell? p = some v := (World.cell?_of_block (Below.heap_alloc W o p.block (World.block_lt_of_cell? _ _ h))).trans h
theorem frozen_old {W : World} {p : Addr} {v : Value} (o : Obj) (h : W.cell? p = some v) (hf : W.frozen? p = false) : (W.alloc o).frozen? p = false := (World.frozen?_of_block (Below.heap_alloc W o p.block (World.block_lt_of_cell? _ _ h))).trans hf
/-- One cell: what it holds; it may be written. -/
structure CL (W : World) (b : Nat) (v : Value) : Prop where
  at_ : W.cell? ⟨b, 0, none⟩ = some v
  fz : W.frozen? ⟨b, 0, none⟩ = false
theorem CL.new (W : World) (v : Value) (t : TypeId) : CL (W.alloc (.cells #[v] t)) W.heap.size v := ⟨(cell_new_a W v t).1, (cell_new_a W v t).2⟩
theorem CL.alloc {W : World} {b : Nat} {v : Value} (h : CL W b v) (o : Obj) : CL (W.alloc o) b v := ⟨cell_old o h.at_, frozen_old o h.at_ h.fz⟩
theorem CL.lt {W : World} {b : Nat} {v : Value} (h : CL W b v) : b < W.heap.size := World.block_lt_of_cell? _ _ h.at_
theorem CL.below {W W' : World} {b : Nat} {v : Value} (h : CL W b v) (k : Below W.heap.size W W') : CL W' b v := ⟨(k.cell (p := ⟨b, 0, none⟩) h.lt).trans h.at_, (k.frozen (p := ⟨b, 0, none⟩) h.lt).trans h.fz⟩
theorem CL.kept {S : Nat → Prop} {W W' : World} {b : Nat} {v : Value} (h : CL W b v) (k : Keep S W W') (hs : ¬ S b) : CL W' b v :=
  ⟨k.cell (p := ⟨b, 0, none⟩) h.at_ hs, (World.frozen?_of_block (k.block b h.lt hs)).trans h.fz⟩
theorem CL.row {W W' : World} {b : Nat} {v : Value} {row : Option Nat} {n : Nat} (h : CL W b v) (hg : W.grownBy W' row) (hr : ∀ r, row = some r → n ≤ r ∧ ∃ o : Obj, W.heap[r]? = some o ∧ o.isCells = false) : CL W' b v :=
  h.kept (Keep.of_grown hg) (row_not_cell hr h.at_)
theorem CL.set_ {W : World} {b : Nat} {v : Value} (h : CL W b v) (u : Value) : CL (W.setCell ⟨b, 0, none⟩ u) b u := ⟨World.cell?_setCell_same' _ _ _ (by rw [h.at_]; rfl), by rw [World.frozen?_setCell]; exact h.fz⟩
theorem CL.other {W : World} {b c : Nat} {v : Value} (h : CL W b v) (hne : b ≠ c) (i : Nat) (u : Value) : CL (W.setCell ⟨c, i, none⟩ u) b v := ⟨(cell_set_other (by exact hne) u).trans h.at_, by rw [World.frozen?_setCell]; exact h.fz⟩
theorem CL.drew {W : World} {b : Nat} {v : Value} (h : CL W b v) : CL W.drew b v := ⟨h.at_, h.fz⟩
theorem CL.drewN {W : World} {b : Nat} {v : Value} (h : CL W b v) (k : Nat) : CL (W.drewN k) b v := ⟨h.at_, h.fz⟩
theorem CL.iter {W : World} {b : Nat} {v : Value} (h : CL W b v) (D : Nat) (o o' : Obj) (hD : W.heap[D]? = some o) (ho : o.isCells = false) : CL (W.putObj D o') b v :=
  h.kept (Keep.of_grown (grownBy_putObj' W D o')) (by intro e; cases e; obtain ⟨x, h1, h2⟩ := cells_of_cell h.at_; rw [hD] at h1; cases h1; rw [ho] at h2; cases h2)
theorem below_row {n₀ B : Nat} {w A A' : World} {row : Option Nat} (h : Below n₀ w A) (hg : A.grownBy A' row) (hn : n₀ ≤ A.heap.size) (hB : n₀ ≤ B) (hr : ∀ r, row = some r → B ≤ r ∧ ∃ o : Obj, A.heap[r]? = some o ∧ o.isCells = false) : Below n₀ w A' :=
  h.grown hg hn fun k e => Nat.le_trans hB (hr k e).1
theorem below_putD {n₀ D : Nat} {w W : World} (h : Below n₀ w W) (hn : n₀ ≤ D) (hD : W.heap[D]? = some (.deferred (some []))) : Below n₀ w (W.putObj D (.deferred none)) :=
  h.trans ((Below.refl n₀ W).grown (grownBy_putObj' W D _) (by have := (Array.getElem?_eq_some_iff.1 hD).1; omega) (fun k e => by cases e; omega))
theorem str_toList (l : List UInt8) : ByteArray.toList ⟨l.toArray⟩ = l := by rw [ByteArray.toList_eq]
theorem str_le (a b : List UInt8) : (Op.bytesLess (ByteArray.toList ⟨a.toArray⟩) (ByteArray.toList ⟨b.toArray⟩) || ByteArray.toList ⟨a.toArray⟩ == ByteArray.toList ⟨b.toArray⟩) = decide (a ≤ b) := by
  rw [str_toList, str_toList, bytesLess_eq]
  by_cases h : a = b
  · subst h
    simp
  · by_cases h2 : a < b
    · simp [h2, List.le_of_lt h2]
    · have h3 : ¬ a ≤ b := fun h4 => h (List.le_antisymm h4 (List.not_lt.1 h2))
      simp [h, h2, h3]
theorem str_lt (a b : List UInt8) : Op.bytesLess (ByteArray.toList ⟨a.toArray⟩) (ByteArray.toList ⟨b.toArray⟩) = decide (a < b) := by rw [str_toList, str_toList, bytesLess_eq]
theorem str_eq (a b : List UInt8) : ((⟨a.toArray⟩ : ByteArray) == ⟨b.toArray⟩) = decide (a = b) := by
  rw [beq_toListBytes, str_toList, str_toList]
  by_cases h : a = b <;> simp [h]
theorem run_str_leq (t : TypeId) (a b : List UInt8) (c : Bool) (hc : decide (a ≤ b) = c) (W : World) : (binOp .leq t (.string ⟨a.toArray⟩) (.string ⟨b.toArray⟩)).run Try.prog W = .ok (.bool c) W := by
  have h := str_le a b
  rw [hc, str_toList, str_toList] at h
  simp [binOp, Op.stringOp, h]
theorem run_str_geq (t : TypeId) (a b : List UInt8) (c : Bool) (hc : decide (b ≤ a) = c) (W : World) : (binOp .geq t (.string ⟨a.toArray⟩) (.string ⟨b.toArray⟩)).run Try.prog W = .ok (.bool c) W := by
  have h := str_lt a b
  rw [str_toList, str_toList] at h
  have e : (!decide (a < b)) = c := by
    rw [← hc]
    by_cases h1 : a < b
    · have h2 : ¬ b ≤ a := fun h2 => List.not_lt.2 h2 h1
      simp [h1, h2]
    · have h2 : b ≤ a := List.not_lt.1 h1
      simp [h1, h2]
  simp [binOp, Op.stringOp, h, ← e]
/-- The end of a function whose loop laid a block for deferred calls: nothing is deferred. -/
theorem take_def {P : Program} {W : World} {D : Nat} (h : W.heap[D]? = some (.deferred (some []))) : ∃ o, W.heap[D]? = some o ∧ o.isCells = false := ⟨_, h, rfl⟩
end Go.Proofs.Ytpendcaefjbomaa
