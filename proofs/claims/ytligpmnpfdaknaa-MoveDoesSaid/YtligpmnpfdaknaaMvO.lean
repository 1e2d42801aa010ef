/- Moves: what a look at a record answers; Len; the calls on nil. No condition but that they lie in memory. -/
import Derived.Test.YtligpmnpfdaknaaMvM
namespace Go.Proofs.Ytligpmnpfdaknaa
open Go.RowKit Go.Maps Go.Shelf Go.Sort
set_option linter.unusedVariables false
set_option linter.unusedSimpArgs false

abbrev recZ : Value := .agg #[.int .i64 0, .int .i64 0, .int .i64 0, .slice none 0 0, .bool false]
theorem rec0_v : rec0.v = recZ := rfl
theorem zero_rec (w : World) : (zeroValue 42).run Try.prog w = .ok rec0.v w := by kernel_rfl
theorem keyI {k : Int} (hk : (Lit.int .i64 k).wf = true) : keyOf Try.prog 3 (.int .i64 k) = some (.int .i64 k) := keyOf_int_mk Try.underlying3 hk
/-- A look, with whether it is there. -/
theorem PS.look {F : Nat → Prop} {w : World} {p b N : Nat} {f : Int → Rec} {ks : List Int} (h : PS F w p b N f ks) {k : Int} (hk : (Lit.int .i64 k).wf = true) :
    (Instr.lookup 59 (.map (some b)) (.int .i64 k) true).run Try.prog w = .ok (.tuple #[(f k).v, .bool (decide (k ∈ ks))]) w := by
  obtain ⟨D, hm, hD⟩ := h.mp
  obtain ⟨v, ps, hrun, hv⟩ := hm.look_ok (int_keyed Try.underlying3) Try.underlying59 (zero_rec w) (show rR rec0.v = some (.held rec0.v, []) from rfl) (keyI hk)
  rw [hD.val k] at hv
  generalize (f k).v = u at hv ⊢
  have e : some ((DataW.held v : DataW Value), ([] : List MemPlace)) = some (DataW.held u, ps) := hv
  simp only [Option.some.injEq, Prod.mk.injEq, DataW.held.injEq] at e
  obtain ⟨rfl, _⟩ := e
  rw [hD.has_ k] at hrun
  exact hrun
theorem PS.look1 {F : Nat → Prop} {w : World} {p b N : Nat} {f : Int → Rec} {ks : List Int} (h : PS F w p b N f ks) {k : Int} (hk : (Lit.int .i64 k).wf = true) :
    (Instr.lookup 59 (.map (some b)) (.int .i64 k) false).run Try.prog w = .ok (f k).v w := by
  obtain ⟨D, hm, hD⟩ := h.mp
  obtain ⟨v, ps, hrun, hv⟩ := hm.lookup (int_keyed Try.underlying3) Try.underlying59 (zero_rec w) (show rR rec0.v = some (.held rec0.v, []) from rfl) (keyI hk)
  rw [hD.val k] at hv
  generalize (f k).v = u at hv ⊢
  have e : some ((DataW.held v : DataW Value), ([] : List MemPlace)) = some (DataW.held u, ps) := hv
  simp only [Option.some.injEq, Prod.mk.injEq, DataW.held.injEq] at e
  obtain ⟨rfl, _⟩ := e
  exact hrun
theorem look_nilR (w : World) {k : Int} (hk : (Lit.int .i64 k).wf = true) :
    (Instr.lookup 59 (.map none) (.int .i64 k) true).run Try.prog w = .ok (.tuple #[recZ, .bool false]) w := by
  have := Maps.look_nil (P := Try.prog) (w := w) true (int_keyed Try.underlying3) Try.underlying59 (zero_rec w) (keyI hk)
  simpa [rec0_v] using this
theorem look_nil1 (w : World) {k : Int} (hk : (Lit.int .i64 k).wf = true) :
    (Instr.lookup 59 (.map none) (.int .i64 k) false).run Try.prog w = .ok recZ w := by
  have := Maps.look_nil (P := Try.prog) (w := w) false (int_keyed Try.underlying3) Try.underlying59 (zero_rec w) (keyI hk)
  simpa [rec0_v] using this
/-- A record replaced, or a new one. -/
theorem PS.upd {F : Nat → Prop} {w : World} {p b N : Nat} {f : Int → Rec} {ks : List Int} (h : PS F w p b N f ks) (hN : N < maxLen) {k : Int} (hk : (Lit.int .i64 k).wf = true) (r : Rec) (hr : RcOK F p b w r) :
    ∃ w', (Instr.mapUpdate 59 (.map (some b)) (.int .i64 k) r.v).run Try.prog w = .ok () w' ∧ PS F w' p b (N + 1) (fun i => if i = k then r else f i) (addK ks k) ∧ Keep (fun i => i = b) w w' := by
  obtain ⟨D, hm, hD⟩ := h.mp
  obtain ⟨w', hrun, hm', hg⟩ := hm.update (int_keyed Try.underlying3) Try.underlying59 hN (keyI hk) (show rR r.v = some (.held r.v, []) from rfl)
  have kk : Keep (fun i => i = b) w w' := (Keep.of_grown hg).mono fun i _ e => (Option.some.inj e).symm
  refine ⟨w', hrun, ⟨h.pc.kept kk h.ne, ⟨_, hm', hD.put k r⟩, h.ne, h.fp, fun i hi => ?_, fun i hi => ?_⟩, kk⟩
  · have hik : i ≠ k := fun e => hi (mem_addK.2 (.inr e))
    rw [if_neg hik]
    exact h.no i fun hm => hi (mem_addK.2 (.inl hm))
  · by_cases e : i = k
    · rw [if_pos e]
      exact hr.kept kk fun g _ _ h3 e3 => h3 e3
    · rw [if_neg e]
      exact (h.ok i ((mem_addK.1 hi).resolve_right e)).kept kk fun g _ _ h3 e3 => h3 e3
end Go.Proofs.Ytligpmnpfdaknaa
