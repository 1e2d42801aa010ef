/- Lists of byte slices that a call owns. No condition. -/
import Derived.Test.YtebgoaiinjmbiaaLaw
namespace Go.Proofs.Ytebgoaiinjmbiaa
open Go.RowKit
set_option linter.unusedVariables false
set_option linter.unusedSimpArgs false

theorem OB.formN {base N : Nat} {w : World} {v : Value} {l : List UInt8} (h : OB base w v l) (hn : l.length = N) : ∃ A cap, v = .slice A N cap ∧ N ≤ cap ∧ cap ≤ maxLen ∧ RB w A N l ∧ ∀ ad, A = some ad → base ≤ ad.block ∧ ad.block < w.heap.size ∧ v.ownBlock = some ad.block := by
  subst hn
  exact h.form
theorem bb_info : (Try.prog.info? 23).map (fun i => (i.zero, i.size, i.bytes)) = some (some (.slice none 0 0), 1, 24) := by kernel_rfl

/-- The value v owns a row of the slices vs. -/
def VB (base : Nat) (w : World) (v : Value) (vs : List Value) : Prop := w.ownsRow base 23 1 v vs.length vs
/-- The value v owns a row of slices that own the lists ls. -/
def LB (base : Nat) (w : World) (v : Value) (ls : List (List UInt8)) : Prop :=
  ∃ vs : List Value, VB base w v vs ∧ vs.length = ls.length ∧ ∀ (i : Nat) (l : List UInt8), ls[i]? = some l → ∃ x, vs[i]? = some x ∧ OB base w x l
section
variable {base : Nat} {w w' : World} {v : Value} {vs : List Value} {ls : List (List UInt8)}
theorem VB.kept {S : Nat → Prop} (h : VB base w v vs) (k : Keep S w w') (hs : ∀ g, v.ownBlock = some g → ¬ S g) : VB base w' v vs := by
  refine ⟨h.1, ?_⟩
  rcases h.2 with hn | ⟨g, cap, cur, rfl, hb, hgg, rest⟩
  · exact .inl hn
  · refine .inr ⟨g, cap, cur, rfl, hb, ?_, rest⟩
    rw [k.block g (Array.getElem?_eq_some_iff.1 hgg).1 (hs g rfl)]
    exact hgg
theorem VB.lt (h : VB base w v vs) : ∀ k, v.ownBlock = some k → base ≤ k ∧ k < w.heap.size := World.ownsRow.lt h
theorem VB.ne (h : VB base w v vs) {x : Value} {l : List UInt8} (hx : OB base w x l) {g : Nat} (hv : v.ownBlock = some g) : x.ownBlock ≠ some g := by
  rcases h.2 with ⟨rfl, _⟩ | ⟨g1, cap, cur, rfl, _, hgg, _⟩
  · simp [Value.ownBlock] at hv
  · have e : g1 = g := by simpa [Value.ownBlock] using hv
    subst e
    rcases hx.2 with ⟨rfl, _⟩ | ⟨g2, cap2, cur2, rfl, _, hg2, _⟩
    · simp [Value.ownBlock]
    · intro he
      have e : g2 = g1 := by simpa [Value.ownBlock] using he
      subst e
      rw [hgg] at hg2
      injection hg2 with h1
      injection h1 with _ h3
      exact absurd h3 (by decide)
theorem LB.nil (base : Nat) (w : World) : LB base w (.slice none 0 0) [] := ⟨[], World.ownsRow_nil _ _ _ _, rfl, fun i l h => by simp at h⟩
theorem LB.kept {S : Nat → Prop} (h : LB base w v ls) (k : Keep S w w') (hs : ∀ g, base ≤ g → g < w.heap.size → ¬ S g) : LB base w' v ls := by
  obtain ⟨vs, hv, hl, he⟩ := h
  refine ⟨vs, hv.kept k fun g hg => hs g (hv.lt g hg).1 (hv.lt g hg).2, hl, fun i l hi => ?_⟩
  obtain ⟨x, hx, ho⟩ := he i l hi
  exact ⟨x, hx, ho.kept k fun g hg => hs g (ho.lt g hg).1 (ho.lt g hg).2⟩
theorem LB.lt (h : LB base w v ls) : ∀ k, v.ownBlock = some k → base ≤ k ∧ k < w.heap.size := by
  obtain ⟨vs, hv, _⟩ := h
  exact hv.lt
theorem LB.alloc_ (h : LB base w v ls) (o : Obj) : LB base (w.alloc o) v ls := h.kept ((Keep.refl (fun _ => False) w).alloc o) fun _ _ _ h => h
theorem LB.form (h : LB base w v ls) : ∃ A cap, v = .slice A ls.length cap ∧ ls.length ≤ cap ∧ ∀ (i : Nat) (l : List UInt8), ls[i]? = some l → ∃ b off x, A = some ⟨b, off, none⟩ ∧ w.cell? ⟨b, off + i, none⟩ = some x ∧ OB base w x l := by
  obtain ⟨vs, hv, hl, he⟩ := h
  rcases hv.2 with ⟨rfl, h0⟩ | ⟨g, cap, cur, rfl, hb, hh, hlc, hm, hs, ht⟩
  · have : ls = [] := List.eq_nil_of_length_eq_zero (by omega)
    subst this
    exact ⟨none, 0, rfl, Nat.le_refl _, fun i l h => by simp at h⟩
  · refine ⟨some ⟨g, 0, none⟩, cap, by rw [hl], by omega, fun i l hi => ?_⟩
    obtain ⟨x, hx, ho⟩ := he i l hi
    have hj := World.ownsRow.cells hv (g := g) rfl i x hx
    rw [Addr.add_lit] at hj
    exact ⟨g, 0, x, rfl, hj, ho⟩
end

/-- append(v, x): x a slice that owns its bytes. -/
theorem run_app_one (w : World) (base : Nat) (ty : TypeId) (v x : Value) (l : List UInt8) (ls : List (List UInt8)) (hown : LB base w v ls) (ad : Addr) (hc : w.cell? ad = some x) (ho : OB base w x l) (hx1 : x.oneCell' = true)
    (hn : ls.length < 1099511627776) (hbase : base ≤ w.heap.size) :
    ∃ v' w', (Builtin.append_ #[22, 22] ty #[v, .slice (some ad) 1 1]).run Try.prog w = .ok v' w' ∧ LB base w' v' (ls ++ [l]) ∧ Keep (fun k => v.ownBlock = some k) w w' := by
  obtain ⟨i, hi, hz, hs, hb⟩ := info_parts bb_info
  obtain ⟨vs, hv, hl, he⟩ := hown
  obtain ⟨v', w', hrun, h2, h3, _, h5⟩ := run_append_own_at (P := Try.prog) w base 22 ty 23 i (.slice none 0 0) 1 24 Try.underlying22 hi hz hs hb rfl (by decide) v vs.length vs hv ad 1 1 [x]
    rfl (fun j u hu => by
      match j, hu with
      | 0, hu =>
        simp at hu
        subst hu
        simpa [Addr.add] using hc) (by simpa using hx1) (by simp only [maxLen]; omega) (by omega) hbase
  have hk := Keep.of_grown h3
  refine ⟨v', w', hrun, ⟨vs ++ [x], ?_, by simp [hl], fun j u hu => ?_⟩, hk⟩
  · show w'.ownsRow base 23 1 v' (vs ++ [x]).length (vs ++ [x])
    rw [List.length_append]
    exact h2
  · by_cases hj : j < ls.length
    · rw [List.getElem?_append_left hj] at hu
      obtain ⟨y, hy, hoy⟩ := he j u hu
      exact ⟨y, by rw [List.getElem?_append_left (by omega)]; exact hy, hoy.kept hk fun g hg hv2 => hv.ne hoy hv2 hg⟩
    · rw [List.getElem?_append_right (by omega)] at hu
      have : j = ls.length := by
        have := (List.getElem?_eq_some_iff.1 hu).1
        simp at this
        omega
      subst this
      simp at hu
      subst hu
      exact ⟨x, by rw [← hl]; simp, ho.kept hk fun g hg hv2 => hv.ne ho hv2 hg⟩

section
variable {w : World} {ops : Array Oper} {rest : List Oper} {o : Oper} {a : Act} {Q : Exit → Act → World → Prop}
theorem wpAppOne (hgd : o.guard = none) (s x : Operand) (ho : o.op = .call { callee := .builtin .append, args := #[s, x], argTypes := #[22, 22] })
    (base : Nat) (v y : Value) (l : List UInt8) (ls : List (List UInt8)) (hs : a.eval s = v) (hown : LB base w v ls) (ad : Addr) (hx : a.eval x = .slice (some ad) 1 1) (hc : w.cell? ad = some y) (hoy : OB base w y l) (hy1 : y.oneCell' = true)
    (hn : ls.length < 1099511627776) (hbase : base ≤ w.heap.size)
    (h : ∀ v' w', LB base w' v' (ls ++ [l]) → Keep (fun k => v.ownBlock = some k) w w' → wpList Try.prog ops Q rest (a.put o.dst v') w') : wpList Try.prog ops Q (o :: rest) a w := by
  refine wpList_plain hgd fun K hK => ?_
  obtain ⟨v', w', hrun, h2, h3⟩ := run_app_one w base o.type v y l ls hown ad hc hoy hy1 hn hbase
  unfold Oper.wp execOp
  simp only [ho, resolve, invoke, builtin, Sem.run_bind, Sem.run_pure, Result.andThen_ok, List.map_toArray, List.map_cons, List.map_nil, hs, hx, hrun]
  exact hK _ _ (h v' w' h2 h3)
end
theorem OB.one_cell {base : Nat} {w : World} {v : Value} {l : List UInt8} (h : OB base w v l) : v.oneCell' = true := by
  obtain ⟨A, cap, rfl, _⟩ := h.form
  rfl


/-- The same as one operation of a region. -/
theorem wp_app_one {w : World} {o : Oper} {a : Act} {K : Act → World → Prop} {Q : Exit → Act → World → Prop} (s x : Operand) (ho : o.op = .call { callee := .builtin .append, args := #[s, x], argTypes := #[22, 22] })
    (base : Nat) (v y : Value) (l : List UInt8) (ls : List (List UInt8)) (hs : a.eval s = v) (hown : LB base w v ls) (ad : Addr) (hx : a.eval x = .slice (some ad) 1 1) (hc : w.cell? ad = some y) (hoy : OB base w y l) (hy1 : y.oneCell' = true)
    (hn : ls.length < 1099511627776) (hbase : base ≤ w.heap.size)
    (h : ∀ v' w', LB base w' v' (ls ++ [l]) → Keep (fun k => v.ownBlock = some k) w w' → K (a.put o.dst v') w') : o.wp Try.prog a w K Q := by
  obtain ⟨v', w', hrun, h2, h3⟩ := run_app_one w base o.type v y l ls hown ad hc hoy hy1 hn hbase
  unfold Oper.wp execOp
  simp only [ho, resolve, invoke, builtin, Sem.run_bind, Sem.run_pure, Result.andThen_ok, List.map_toArray, List.map_cons, List.map_nil, hs, hx, hrun]
  exact h v' w' h2 h3
theorem Keep.past {w w1 w' : World} {S : Nat → Prop} (h : Below w.heap.size w w1) (k : Keep S w1 w') (hs : ∀ i, i < w.heap.size → ¬ S i) : Below w.heap.size w w' :=
  h.trans (k.below h.size hs)
end Go.Proofs.Ytebgoaiinjmbiaa
