/- Rows of lists that lie below a block. No condition. -/
import Derived.Test.YtkofaobdpmbcaaaPlR
namespace Go.Proofs.Ytkofaobdpmbcaaa
open Go.RowKit Go.Maps Go.Shelf
set_option linter.unusedVariables false
set_option linter.unusedSimpArgs false

/-- The value v owns a row of slices that read as the lists ls, which lie below block B. -/
def OM (B base : Nat) (w : World) (v : Value) (ls : List (List It)) : Prop :=
  ∃ vs : List Value, w.ownsRow base 26 1 v vs.length vs ∧ vs.length = ls.length ∧ ∀ (i : Nat) (l : List It), ls[i]? = some l → ∃ Ai ci, vs[i]? = some (.slice Ai l.length ci) ∧ IL w Ai l.length l ∧ l.length ≤ ci ∧ ci ≤ 9223372036854775807 ∧ WL l ∧ ∀ ad, Ai = some ad → 0 < l.length → ad.block < B
section
variable {B base : Nat} {w w' : World} {v : Value} {ls : List (List It)}
theorem OM.nil (B base : Nat) (w : World) : OM B base w (.slice none 0 0) [] := ⟨[], World.ownsRow_nil _ _ _ _, rfl, fun i l h => by simp at h⟩
theorem OM.lt (h : OM B base w v ls) : ∀ k, v.ownBlock = some k → base ≤ k ∧ k < w.heap.size := by
  obtain ⟨vs, hv, _⟩ := h
  exact World.ownsRow.lt hv
theorem OM.kept {S : Nat → Prop} (h : OM B base w v ls) (k : Keep S w w') (hs : ∀ g, v.ownBlock = some g → ¬ S g) (hB : ∀ g, g < B → ¬ S g) : OM B base w' v ls := by
  obtain ⟨vs, hv, hl, he⟩ := h
  refine ⟨vs, ⟨hv.1, ?_⟩, hl, fun i l hi => ?_⟩
  · rcases hv.2 with hn | ⟨g, cap, cur, rfl, hb, hgg, rest⟩
    · exact .inl hn
    · exact .inr ⟨g, cap, cur, rfl, hb, (k.block g (Array.getElem?_eq_some_iff.1 hgg).1 (hs g rfl)).trans hgg, rest⟩
  · obtain ⟨Ai, ci, h1, h2, h3, h4, h5, h6⟩ := he i l hi
    exact ⟨Ai, ci, h1, h2.kept k fun ad ha hp => hB _ (h6 ad ha hp), h3, h4, h5, h6⟩
theorem OM.alloc (h : OM B base w v ls) (o : Obj) : OM B base (w.alloc o) v ls := h.kept ((Keep.refl (fun _ => False) w).alloc o) (fun _ _ => id) (fun _ _ => id)
theorem OM.below (h : OM B base w v ls) (k : Below w.heap.size w w') (hB : B ≤ w.heap.size) : OM B base w' v ls := h.kept (Keep.of_below k) (fun g hg => by have := (h.lt g hg).2; omega) (fun g hg => by omega)
theorem OM.ol (h : OM B base w v ls) (hB : B ≤ base) : OL base w v ls := by
  have hlt := h.lt
  obtain ⟨vs, hv, hl, he⟩ := h
  refine ⟨vs, hv, hl, fun i l hi => ?_⟩
  obtain ⟨Ai, ci, h1, h2, h3, h4, h5, h6⟩ := he i l hi
  exact ⟨Ai, ci, h1, h2, h3, h4, h5, fun ad ha hp e => by have := h6 ad ha hp; have := (hlt _ e).1; omega⟩
/-- A row of ints lies in another block. -/
theorem OM.neJ (h : OM B base w v ls) {b2 : Nat} {x : Value} {l : List Int} (hx : OJ b2 w x l) {g : Nat} (hv : v.ownBlock = some g) : x.ownBlock ≠ some g := by
  obtain ⟨vs, hv', _⟩ := h
  rcases hv'.2 with ⟨rfl, _⟩ | ⟨g1, cap, cur, rfl, _, hgg, _⟩
  · simp [Value.ownBlock] at hv
  · have e : g1 = g := by simpa [Value.ownBlock] using hv
    subst e
    rcases hx.2 with ⟨rfl, _⟩ | ⟨g2, cap2, cur2, rfl, _, hg2, _⟩
    · simp [Value.ownBlock]
    · intro he
      have e : g2 = g1 := by simpa [Value.ownBlock] using he
      subst e
      rw [hgg] at hg2
      injection hg2 with h1
      injection h1 with _ h3
      exact absurd h3 (by decide)
end
section
variable {w : World} {ops : Array Oper} {rest : List Oper} {o : Oper} {a : Act} {Q : Exit → Act → World → Prop}
/-- append(v, x): the slice x stands in a new block of one. -/
theorem wpAppM1 (hgd : o.guard = none) (s x : Operand) (ho : o.op = .call { callee := .builtin .append, args := #[s, x], argTypes := #[27, 27] })
    (B base : Nat) (v : Value) (ls : List (List It)) (hs : a.eval s = v) (hown : OM B base w v ls) (g : Nat) (c : Nat) (l : List It) (Ai : Option Addr) (ci : Nat) (hx : a.eval x = .slice (some ⟨g, 0, none⟩) 1 c) (hc : w.cell? ⟨g, 0, none⟩ = some (.slice Ai l.length ci))
    (hil : IL w Ai l.length l) (hlc : l.length ≤ ci) (hci : ci ≤ 9223372036854775807) (hwl : WL l) (hne : ∀ ad, Ai = some ad → 0 < l.length → ad.block < B) (hB : B ≤ base)
    (hn : ls.length + 1 ≤ 1099511627776) (hbase : base ≤ w.heap.size)
    (h : ∀ v' w', OM B base w' v' (ls ++ [l]) → Keep (fun k => v.ownBlock = some k) w w' → wpList Try.prog ops Q rest (a.put o.dst v') w') : wpList Try.prog ops Q (o :: rest) a w := by
  refine wpList_plain hgd fun K hK => ?_
  have hlt := hown.lt
  obtain ⟨i, hi, hz, hs', hb⟩ := info_parts il_info
  obtain ⟨vs, hv, hl, he⟩ := hown
  obtain ⟨v', w', hrun, h2, h3, _, h5⟩ := run_append_own_at (P := Try.prog) w base 27 o.type 26 i (.slice none 0 0) 1 24 Try.underlying27 hi hz hs' hb rfl (by decide) v vs.length vs hv ⟨g, 0, none⟩ 1 c [.slice Ai l.length ci]
    rfl (fun j u hu => by
      match j, hu with
      | 0, hu =>
        simp at hu
        subst hu
        simpa [Addr.add] using hc) (by intro u hu; simp at hu; subst hu; rfl) (by simp only [maxLen]; omega) (by omega) hbase
  have hk := Keep.of_grown h3
  have hown' : OM B base w' v' (ls ++ [l]) := by
    refine ⟨vs ++ [.slice Ai l.length ci], ?_, by rw [List.length_append, List.length_append, hl]; rfl, fun j u hu => ?_⟩
    · show w'.ownsRow base 26 1 v' (vs ++ [Value.slice Ai l.length ci]).length (vs ++ [Value.slice Ai l.length ci])
      rw [List.length_append]
      exact h2
    · by_cases hj : j < ls.length
      · rw [List.getElem?_append_left hj] at hu
        obtain ⟨Ai', ci', g1, g2, g3, g4, g5, g6⟩ := he j u hu
        exact ⟨Ai', ci', by rw [List.getElem?_append_left (by omega)]; exact g1, g2.kept hk fun ad ha hp e => by have := g6 ad ha hp; have := (hlt _ e).1; omega, g3, g4, g5, g6⟩
      · rw [List.getElem?_append_right (by omega)] at hu
        have hj0 : j = ls.length := by
          have := (List.getElem?_eq_some_iff.1 hu).1
          simp at this
          omega
        subst hj0
        simp at hu
        subst hu
        exact ⟨Ai, ci, by rw [← hl]; simp, hil.kept hk fun ad ha hp e => by have := hne ad ha hp; have := (hlt _ e).1; omega, hlc, hci, hwl, hne⟩
  unfold Oper.wp execOp
  simp only [ho, resolve, invoke, builtin, Sem.run_bind, Sem.run_pure, Result.andThen_ok, List.map_toArray, List.map_cons, List.map_nil, hs, hx, hrun]
  exact hK _ _ (h v' w' hown' hk)
end
end Go.Proofs.Ytkofaobdpmbcaaa
