/- Small words for lists of goods that are put and taken. No condition. -/
import Derived.Test.YtpfkhalomnfcfaaMayI
import Derived.Lib.AppendZeros
import Derived.Lib.SliceRun
namespace Go.Proofs.Ytpfkhalomnfcfaa
open Go.RowKit Go.Maps Go.Shelf
set_option linter.unusedVariables false
set_option linter.unusedSimpArgs false

theorem IL.one (w : World) (s : List UInt8) (q : Int) (t : TypeId) : IL (w.alloc (.cells #[.string ⟨s.toArray⟩, .int .i64 q] t)) (some ⟨w.heap.size, 0, none⟩) 1 [(s, q)] := by
  have hB := Blk.new w t #[.string ⟨s.toArray⟩, .int .i64 q]
  refine ⟨rfl, fun j x hx => ?_⟩
  match j, hx with
  | 0, hx =>
    simp at hx
    subst hx
    exact ⟨_, 0, rfl, hB.cell 0, hB.cell 1⟩
section
variable {w : World} {ops : Array Oper} {rest : List Oper} {o : Oper} {a : Act} {Q : Exit → Act → World → Prop}
theorem wpAppI (hgd : o.guard = none) (s x : Operand) (ho : o.op = .call { callee := .builtin .append, args := #[s, x], argTypes := #[22, 22] })
    (base : Nat) (v : Value) (l : List It) (hs : a.eval s = v) (hown : OI base w v l) (A : Option Addr) (m c : Nat) (news : List It) (hx : a.eval x = .slice A m c) (hr : IL w A m news) (hmn : A = none → m = 0)
    (hn : (l.length + m) * 24 ≤ 140737488355328) (hbase : base ≤ w.heap.size)
    (h : ∀ v' w', OI base w' v' (l ++ news) → Keep (fun k => v.ownBlock = some k) w w' → (v'.ownBlock = v.ownBlock ∨ v'.ownBlock = some w.heap.size) → wpList Try.prog ops Q rest (a.put o.dst v') w') : wpList Try.prog ops Q (o :: rest) a w := by
  refine wpList_plain hgd fun K hK => ?_
  obtain ⟨v', w', hrun, h2, h3, h4⟩ := run_appI w base o.type v l hown A m c news hr hmn hn hbase
  unfold Oper.wp execOp
  simp only [ho, resolve, invoke, builtin, Sem.run_bind, Sem.run_pure, Result.andThen_ok, List.map_toArray, List.map_cons, List.map_nil, hs, hx, hrun]
  exact hK _ _ (h v' w' h2 h3 h4)
end
theorem OI.putD {base : Nat} {W : World} {v : Value} {l : List It} {D : Nat} (h : OI base W v l) (hD : W.heap[D]? = some (.deferred (some []))) : OI base (W.putObj D (.deferred none)) v l :=
  h.kept (Keep.of_grown (grownBy_putObj' W D _)) fun g hg e => by
    cases e
    obtain ⟨o, h1, h2⟩ := h.blk D hg
    rw [hD] at h1
    cases h1
    cases h2
theorem IL.row {W W' : World} {A : Option Addr} {n : Nat} {l : List It} {row : Option Nat} {B : Nat} (h : IL W A n l) (hg : W.grownBy W' row) (hA : ∀ ad, A = some ad → 0 < n → ad.block < B) (hr : ∀ r, row = some r → B ≤ r ∧ ∃ o : Obj, W.heap[r]? = some o ∧ o.isCells = false) : IL W' A n l :=
  h.kept (Keep.of_grown hg) fun ad h1 h2 e => by have := (hr _ e).1; have := hA ad h1 h2; omega
/-- .. of lists that may be; else nothing. -/
def ifMay (b : Bool) (l : List It) : List It := match b with | true => l | false => []
/-- What is left. -/
def leftL (f : It → Int) (l : List It) : List It := l.filterMap fun x => if f x = 0 then none else some (x.1, f x)
theorem rising_pairwise : ∀ (l : List It) (last : List UInt8), mayFrom last l = true → (l.map (·.1)).Pairwise (fun a b => a < b) ∧ ∀ g ∈ l.map (·.1), last < g
  | [], _, _ => ⟨List.Pairwise.nil, fun g h => by simp at h⟩
  | x :: l, last, h => by
    rw [mayFrom, Bool.and_eq_true] at h
    obtain ⟨h1, h2⟩ := rising_pairwise l x.1 h.2
    have hx : last < x.1 := by
      have := h.1
      simp [okAt] at this
      exact this.1.1.2
    refine ⟨List.pairwise_cons.2 ⟨h2, h1⟩, fun g hg => ?_⟩
    rw [List.map_cons, List.mem_cons] at hg
    rcases hg with rfl | hg
    · exact hx
    · exact List.lt_trans hx (h2 g hg)
theorem mayL_from {l : List It} (h : mayL l = true) : l.length ≤ 16 ∧ mayFrom [] l = true := by simpa [mayL] using h
theorem wf_mk {a : Int} (h0 : -9223372036854775808 ≤ a) (h1 : a ≤ 9223372036854775807) : (Lit.int .i64 a).wf = true := by
  simpa [Lit.wf, IntKind.min, IntKind.max, IntKind.signed, IntKind.bits] using And.intro h0 h1
theorem heap_row {W W' : World} {row : Option Nat} {D B : Nat} {o : Obj} (h : W.heap[D]? = some o) (hg : W.grownBy W' row) (hD : D < B) (hr : ∀ r, row = some r → B ≤ r ∧ ∃ o : Obj, W.heap[r]? = some o ∧ o.isCells = false) : W'.heap[D]? = some o :=
  (hg.block D (Array.getElem?_eq_some_iff.1 h).1 fun e => by have := (hr _ e.symm).1; omega).trans h
theorem OI.set_ {base : Nat} {W : World} {v : Value} {l : List It} (h : OI base W v l) {b : Nat} (hb : b < base) (i : Nat) (u : Value) : OI base (W.setCell ⟨b, i, none⟩ u) v l :=
  h.kept ((Keep.refl (fun k => k = b) W).setCell (p := ⟨b, i, none⟩) (fun _ => rfl) u) fun g hg e => by have := (h.lt g hg).1; omega

theorem IL.none_zero {w : World} {A : Option Addr} {n : Nat} {l : List It} (h : IL w A n l) (ha : A = none) : n = 0 := by
  rcases Nat.eq_zero_or_pos n with h0 | h0
  · exact h0
  · obtain ⟨b, off, x, e, _⟩ := h.place h0
    rw [ha] at e
    cases e
theorem OI.made (base : Nat) (w : World) (hb : base ≤ w.heap.size) : OI base (w.alloc (.cells #[] 46)) (.slice (some ⟨w.heap.size, 0, none⟩) 0 0) [] :=
  ⟨rfl, .inr ⟨w.heap.size, 0, #[], rfl, hb, heap_alloc_new w _, Nat.le_refl _, by simp [maxLen], rfl, rfl⟩⟩

theorem own_lt {v : Value} {b n c : Nat} (hv : v = .slice (some ⟨b, 0, none⟩) n c) : ∀ k, k < b → ¬ v.ownBlock = some k := by
  subst hv
  intro k hk e
  have e' : b = k := by simpa [Value.ownBlock] using e
  omega
/-- Goods are texts, numbers are ints. -/
def WL (l : List It) : Prop := ∀ x ∈ l, x.1.length ≤ maxLen ∧ (Lit.int .i64 x.2).wf = true
theorem wf_of {a : Int} (h : (Lit.int .i64 a).wf = true) : -9223372036854775808 ≤ a ∧ a ≤ 9223372036854775807 := by
  simpa [Lit.wf, IntKind.min, IntKind.max, IntKind.signed, IntKind.bits] using h
theorem wrap64_in (a : Int) : -9223372036854775808 ≤ wrap64 a ∧ wrap64 a ≤ 9223372036854775807 := by
  unfold wrap64
  omega
theorem WL.sa {l : List It} (h : WL l) : ∀ x ∈ l, x.1.length ≤ maxLen := fun x hx => (h x hx).1
theorem IL.two (w : World) (s1 s2 : List UInt8) (q1 q2 : Int) (t : TypeId) : IL (w.alloc (.cells #[.string ⟨s1.toArray⟩, .int .i64 q1, .string ⟨s2.toArray⟩, .int .i64 q2] t)) (some ⟨w.heap.size, 0, none⟩) 2 [(s1, q1), (s2, q2)] := by
  have hB := Blk.new w t #[.string ⟨s1.toArray⟩, .int .i64 q1, .string ⟨s2.toArray⟩, .int .i64 q2]
  refine ⟨rfl, fun j x hx => ?_⟩
  match j, hx with
  | 0, hx =>
    simp at hx
    subst hx
    exact ⟨_, 0, rfl, hB.cell 0, hB.cell 1⟩
  | 1, hx =>
    simp at hx
    subst hx
    exact ⟨_, 0, rfl, hB.cell 2, hB.cell 3⟩
theorem IL.N0 {w : World} {A : Option Addr} {n : Nat} {x : It} {l : List It} (h : IL w A n (x :: l)) : ∃ b off, A = some ⟨b, off, none⟩ ∧ w.cell? ⟨b, off + 1, none⟩ = some (.int .i64 x.2) := by
  obtain ⟨b, off, e, _, h2⟩ := h.at_ 0 x rfl
  exact ⟨b, off, e, by simpa using h2⟩
end Go.Proofs.Ytpfkhalomnfcfaa
