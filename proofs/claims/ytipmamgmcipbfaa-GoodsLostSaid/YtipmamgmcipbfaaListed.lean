/- listed: what a map of sums has, in order. No condition but the map's size. -/
import Derived.Test.YtipmamgmcipbfaaKeys
import Derived.StringKeys
namespace Go.Proofs.Ytipmamgmcipbfaa
open Go.RowKit Go.Maps Go.Shelf Go.Sort
set_option linter.unusedVariables false
set_option linter.unusedSimpArgs false

theorem IL.one (w : World) (s : List UInt8) (q : Int) (t : TypeId) : IL (w.alloc (.cells #[.string ⟨s.toArray⟩, .int .i64 q] t)) (some ⟨w.heap.size, 0, none⟩) 1 [(s, q)] := by
  have hB := Blk.new w t #[.string ⟨s.toArray⟩, .int .i64 q]
  refine ⟨rfl, fun j x hx => ?_⟩
  match j, hx with
  | 0, hx =>
    simp at hx
    subst hx
    exact ⟨_, 0, rfl, hB.cell 0, hB.cell 1⟩
section
variable {w : World} {ops : Array Oper} {rest : List Oper} {o : Oper} {a : Act} {Q : Exit → Act → World → Prop}
theorem wpAppI (hgd : o.guard = none) (s x : Operand) (ho : o.op = .call { callee := .builtin .append, args := #[s, x], argTypes := #[50, 50] })
    (base : Nat) (v : Value) (l : List It) (hs : a.eval s = v) (hown : OI base w v l) (A : Option Addr) (m c : Nat) (news : List It) (hx : a.eval x = .slice A m c) (hr : IL w A m news) (hmn : A = none → m = 0)
    (hn : (l.length + m) * 24 ≤ 140737488355328) (hbase : base ≤ w.heap.size)
    (h : ∀ v' w', OI base w' v' (l ++ news) → Keep (fun k => v.ownBlock = some k) w w' → (v'.ownBlock = v.ownBlock ∨ v'.ownBlock = some w.heap.size) → wpList Try.prog ops Q rest (a.put o.dst v') w') : wpList Try.prog ops Q (o :: rest) a w := by
  refine wpList_plain hgd fun K hK => ?_
  obtain ⟨v', w', hrun, h2, h3, h4⟩ := run_appI w base o.type v l hown A m c news hr hmn hn hbase
  unfold Oper.wp execOp
  simp only [ho, resolve, invoke, builtin, Sem.run_bind, Sem.run_pure, Result.andThen_ok, List.map_toArray, List.map_cons, List.map_nil, hs, hx, hrun]
  exact hK _ _ (h v' w' h2 h3 h4)
end
theorem KS.of {base : Nat} {w : World} {v : Value} {ks : List (List UInt8)} (h : w.ownsRow base 9 1 v ks.length (ks.map encStr)) : KS w v ks ∧ ∃ A cap, v = .slice A ks.length cap ∧ ∀ g, v.ownBlock = some g → base ≤ g := by
  rcases h.2 with ⟨rfl, h0⟩ | ⟨g, cap, cur, rfl, hb, rest⟩
  · exact ⟨⟨h.1, .inl ⟨rfl, h0⟩⟩, none, 0, by rw [h0], fun g hg => by simp [Value.ownBlock] at hg⟩
  · exact ⟨⟨h.1, .inr ⟨g, cap, cur, rfl, by omega, rest⟩⟩, _, cap, rfl, fun g' hg => by simp [Value.ownBlock] at hg; omega⟩
theorem keyS (s : List UInt8) (h : s.length ≤ maxLen) : keyOf Try.prog 9 (.string ⟨s.toArray⟩) = some (.string s) := by
  have := WideMaps.keyOf_string_mk (P := Try.prog) (s := ⟨s.toArray⟩) Try.underlying9 (by rw [str_size]; exact h)
  simpa using this
theorem listedL_take (ks : List (List UInt8)) (f : List UInt8 → Int) (k : Nat) (s : List UInt8) (h : ks[k]? = some s) : listedL (ks.take (k + 1)) f = if f s = 0 then listedL (ks.take k) f else listedL (ks.take k) f ++ [(s, f s)] := by
  rw [List.take_add_one, h]
  exact listedL_snoc _ _ _
theorem ownsMap_below' {H : Type} {P : Program} {k : TypeId} {R : Value → Option (DataW H × List MemPlace)} {w w' : World} {b n : Nat} {D : DataW H} (h : w.ownsMap P k R b n D) (hb : Below w.heap.size w w') : w'.ownsMap P k R b n D := by
  obtain ⟨es, clock, h1, Ft, hs, hD⟩ := h
  exact ⟨es, clock, (hb.block b (Array.getElem?_eq_some_iff.1 h1).1).trans h1, Ft, hs, hD⟩
theorem listedL_len (ks : List (List UInt8)) (f : List UInt8 → Int) : (listedL ks f).length ≤ ks.length := List.length_filterMap_le _ _

end Go.Proofs.Ytipmamgmcipbfaa
