/- Many cells of a block that are stored or loaded at once: the block is spoken of whole. No condition. -/
import Derived.Test.YtefgcknnnglkpaaMaQ
import Derived.Deep.MidRow
namespace Go.Proofs.Ytefgcknnnglkpaa
open Go.RowKit Go.Maps Go.Shelf
set_option linter.unusedVariables false
set_option linter.unusedSimpArgs false

theorem blk_setCells {B : Nat} {t : TypeId} (vs : List Value) : ∀ (i : Nat) (W : World) (cs : Array Value), Blk W B t cs → i + vs.length ≤ cs.size →
    Blk (W.setCells B i vs) B t (cs.toList.take i ++ vs ++ cs.toList.drop (i + vs.length)).toArray ∧ Keep (fun k => k = B) W (W.setCells B i vs) := by
  induction vs with
  | nil =>
    intro i W cs h hs
    refine ⟨?_, Keep.refl _ _⟩
    have e : (cs.toList.take i ++ [] ++ cs.toList.drop (i + 0)).toArray = cs := by simp
    rw [List.length_nil, e]
    exact h
  | cons v r ih =>
    intro i W cs h hs
    rw [List.length_cons] at hs
    obtain ⟨hb, hk⟩ := ih (i + 1) _ _ (h.set_ i v) (by rw [Array.size_setIfInBounds]; omega)
    refine ⟨?_, (((Keep.refl (fun k => k = B) W).setCell (p := ⟨B, i, none⟩) (fun _ => rfl) v)).trans hk (fun _ _ e => e)⟩
    have e : (cs.setIfInBounds i v).toList.take (i + 1) ++ r ++ (cs.setIfInBounds i v).toList.drop (i + 1 + r.length) = cs.toList.take i ++ v :: r ++ cs.toList.drop (i + (v :: r).length) := by
      have hl : i < cs.toList.length := by simp; omega
      rw [Array.toList_setIfInBounds, List.take_add_one, List.getElem?_set_self hl, List.take_set_of_le (Nat.le_refl _), List.drop_set_of_lt (by omega), List.length_cons, show i + (r.length + 1) = i + 1 + r.length by omega]
      simp
    rw [← e]
    exact hb
theorem Blk.there {W : World} {B : Nat} {t : TypeId} {cs : Array Value} (h : Blk W B t cs) (i n : Nat) (hn : i + n ≤ cs.size) : W.there B i n := fun j hj => by
  rw [h.cell, h.frozen, Array.getElem?_eq_getElem (show i + j < cs.size by omega)]
  exact ⟨rfl, rfl⟩
theorem Blk.range {W : World} {B : Nat} {t : TypeId} {cs : Array Value} (h : Blk W B t cs) : W.rangeAt B 0 cs.toList := fun j v hv => by
  rw [h.cell, ← hv]
  simp
/-- A store of a whole value to the cells from i on. -/
theorem wpStoreM {W : World} {ops : Array Oper} {rest : List Oper} {o : Oper} {a : Act} {Q : Exit → Act → World → Prop} {B : Nat} {t : TypeId} {cs : Array Value} (ty : TypeId) (i : Nat) (cells : Array Value) (hgd : o.guard = none) (x y : Operand) (ho : o.op = .store ty x y)
    (hx : a.eval x = .pointer (some ⟨B, i, none⟩)) (hy : a.eval y = .agg cells) (hb : Blk W B t cs) (hn : i + cells.size ≤ cs.size) (hi : (Try.prog.info? ty).map (·.size) = some cells.size) (h1 : cells.toList.all (·.oneCell') = true)
    (h : ∀ W', Blk W' B t (cs.toList.take i ++ cells.toList ++ cs.toList.drop (i + cells.toList.length)).toArray → Keep (fun k => k = B) W W' → wpList Try.prog ops Q rest (a.put o.dst undef) W') : wpList Try.prog ops Q (o :: rest) a W := by
  obtain ⟨h2, h3⟩ := blk_setCells cells.toList i W cs hb (by simpa using hn)
  exact wpList_store_mid hgd ty x y ho B i cells hx hy (hb.there i _ hn) hi (by rw [← Array.all_toList]; exact h1) (h _ h2 h3)
/-- A load of a whole block. -/
theorem wpLoadM {W : World} {ops : Array Oper} {rest : List Oper} {o : Oper} {a : Act} {Q : Exit → Act → World → Prop} {B : Nat} {t : TypeId} {cs : Array Value} (ty : TypeId) (hgd : Region.wanted o (yielded ops a.tmps) = true) (x : Operand) (ho : o.op = .load ty x)
    (hx : a.eval x = .pointer (some ⟨B, 0, none⟩)) (hb : Blk W B t cs) (d : TypeDesc) (hu : Try.prog.underlying ty = some d) (hd : d.isRow = true) (hi : (Try.prog.info? ty).map (·.size) = some cs.size)
    (h : wpList Try.prog ops Q rest (a.put o.dst (.agg cs)) W) : wpList Try.prog ops Q (o :: rest) a W := by
  have h2 := wp_load_mid (P := Try.prog) (op := o) (a := a) (w := W) (K := fun a' w' => wpList Try.prog ops Q rest a' w') (Q := Q) ty x ho B 0 hx cs.toList d hb.range hu hd (by rw [hi]; simp) (by simpa using h)
  unfold wpList
  rw [if_pos hgd]
  exact .inl h2
theorem mail_info : (Try.prog.info? 29).map (·.size) = some 16 := by kernel_rfl
theorem ask_info9 : (Try.prog.info? 24).map (·.size) = some 9 := by kernel_rfl
end Go.Proofs.Ytefgcknnnglkpaa
