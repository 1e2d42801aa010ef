/- append of ints to a slice of ints that the call itself owns. -/
import Derived.Test.YtfpcnenohidfpaaGreatCnt
import Derived.Maps.AppendAt
namespace Go.Proofs.YtfpcnenohidfpaaGreat
open Go.RowKit Cnt
set_option linter.unusedVariables false

/-- The value v owns the ints l. -/
def OJ (base : Nat) (w : World) (v : Value) (l : List Int) : Prop := w.ownsRow base 3 1 v l.length (l.map (Value.int .i64))
theorem iv_one (l : List Int) : ∀ u ∈ l.map (Value.int .i64), u.oneCell' = true := by
  intro u hu
  obtain ⟨b, _, rfl⟩ := List.mem_map.1 hu
  rfl
section
variable {base : Nat} {w w' : World} {v : Value} {l : List Int}
theorem OJ.nil (base : Nat) (w : World) : OJ base w (.slice none 0 0) [] := World.ownsRow_nil _ _ _ _
theorem OJ.form (h : OJ base w v l) : ∃ A cap, v = .slice A l.length cap ∧ l.length ≤ cap ∧ cap ≤ maxLen ∧ IR w A l.length l ∧ ∀ ad, A = some ad → base ≤ ad.block ∧ ad.block < w.heap.size ∧ v.ownBlock = some ad.block := by
  rcases h.2 with ⟨rfl, h0⟩ | ⟨g, cap, cur, rfl, hb, hh, hl, hm, hs, ht⟩
  · have : l = [] := List.eq_nil_of_length_eq_zero h0
    subst this
    exact ⟨none, 0, rfl, Nat.le_refl _, by simp [maxLen], IR.nil _ _, fun _ h => by cases h⟩
  · refine ⟨_, cap, rfl, hl, hm, ⟨rfl, fun j x hx => ⟨g, 0, rfl, ?_⟩⟩, fun ad had => ?_⟩
    · have hj := World.ownsRow.cells h (g := g) rfl j (Value.int .i64 x) (by rw [List.getElem?_map, hx]; rfl)
      rwa [Addr.add_lit] at hj
    · cases had
      exact ⟨hb, (Array.getElem?_eq_some_iff.1 hh).1, rfl⟩
theorem OJ.kept {S : Nat → Prop} (h : OJ base w v l) (k : Keep S w w') (hs : ∀ g, v.ownBlock = some g → ¬ S g) : OJ base w' v l := by
  refine ⟨h.1, ?_⟩
  rcases h.2 with hn | ⟨g, cap, cur, rfl, hb, hgg, rest⟩
  · exact .inl hn
  · refine .inr ⟨g, cap, cur, rfl, hb, ?_, rest⟩
    rw [k.block g (Array.getElem?_eq_some_iff.1 hgg).1 (hs g rfl)]
    exact hgg
theorem OJ.alloc (h : OJ base w v l) (o : Obj) : OJ base (w.alloc o) v l := h.kept ((Keep.refl (fun _ => False) w).alloc o) fun _ _ => id
theorem OJ.lt (h : OJ base w v l) : ∀ k, v.ownBlock = some k → base ≤ k ∧ k < w.heap.size := World.ownsRow.lt h
end
theorem OJ.built (base : Nat) (w : World) (l : List Int) (hb : base ≤ w.heap.size) (hl : l.length ≤ maxLen) :
    OJ base (w.alloc (.cells (l.map (Value.int .i64)).toArray 3)) (.slice (some ⟨w.heap.size, 0, none⟩) l.length l.length) l :=
  ⟨by simp, .inr ⟨w.heap.size, _, _, rfl, hb, heap_alloc_new w _, Nat.le_refl _, hl, by simp, by simpa using List.take_of_length_le (l := l.map (Value.int .i64)) (by simp)⟩⟩
theorem int_info0 : (Tryz.prog.info? 3).map (fun i => (i.zero, i.size, i.bytes)) = some (some (.int .i64 0), 1, 8) := by kernel_rfl
theorem run_appJ_nil (w : World) (base : Nat) (ty : TypeId) (v : Value) (l : List Int) (hown : OJ base w v l) (c : Nat) :
    (Builtin.append_ #[90, 90] ty #[v, .slice none 0 c]).run Tryz.prog w = .ok v w := by
  obtain ⟨i, hi, hz, hs, hb⟩ := info_parts int_info0
  rcases hown.2 with ⟨rfl, hn⟩ | ⟨g, cap, cur, rfl, _, _, hnc, _⟩
  · simp [Builtin.append_, run_underlying Tryz.underlying90, sizeOf, typeInfo, hi, Builtin.lenOf, Builtin.firstCells]
  · simp [Builtin.append_, run_underlying Tryz.underlying90, sizeOf, typeInfo, hi, Builtin.lenOf, Builtin.firstCells, hnc, storeCells]
theorem Cnt.IR.none_zero {w : World} {m : Nat} {l : List Int} {A : Option Addr} (h : IR w A m l) : A = none → m = 0 := by
  rintro rfl
  rcases Nat.eq_zero_or_pos m with h0 | h0
  · exact h0
  · obtain ⟨b, off, x, he, _⟩ := h.place h0
    cases he
theorem run_appJ (w : World) (base : Nat) (ty : TypeId) (v : Value) (l : List Int) (hown : OJ base w v l) (A : Option Addr) (m c : Nat) (news : List Int) (hr : IR w A m news)
    (hn : l.length + m ≤ 1099511627776) (hbase : base ≤ w.heap.size) :
    ∃ v' w', (Builtin.append_ #[90, 90] ty #[v, .slice A m c]).run Tryz.prog w = .ok v' w' ∧ OJ base w' v' (l ++ news) ∧ Keep (fun k => v.ownBlock = some k) w w' ∧ (v'.ownBlock = v.ownBlock ∨ v'.ownBlock = some w.heap.size) := by
  obtain ⟨i, hi, hz, hs, hb⟩ := info_parts int_info0
  rcases A with _ | ad
  · have hm := hr.none_zero rfl
    subst hm
    have hnw : news = [] := List.eq_nil_of_length_eq_zero hr.len
    subst hnw
    exact ⟨v, w, run_appJ_nil w base ty v l hown c, by simpa using hown, Keep.refl _ _, .inl rfl⟩
  · have hcells : ∀ j u, (news.map (Value.int .i64))[j]? = some u → w.cell? (ad.add j) = some u := by
      intro j u hu
      rw [List.getElem?_map, Option.map_eq_some_iff] at hu
      obtain ⟨x, hx, rfl⟩ := hu
      obtain ⟨b, off, he, hc⟩ := hr.at_ j x hx
      cases he
      rw [Addr.add_lit]
      exact hc
    obtain ⟨v', w', hrun, h2, h3, _, h5⟩ := run_append_own_at (P := Tryz.prog) w base 90 ty 3 i (.int .i64 0) 1 8 Tryz.underlying90 hi hz hs hb rfl (by decide) v l.length (l.map (Value.int .i64)) hown ad m c (news.map (Value.int .i64))
      (by simpa using hr.len) hcells (iv_one _) (by simp only [maxLen]; omega) (by omega) hbase
    refine ⟨v', w', hrun, ?_, Keep.of_grown h3, h5⟩
    show w'.ownsRow base 3 1 v' (l ++ news).length ((l ++ news).map (Value.int .i64))
    rw [List.length_append, hr.len, List.map_append]
    exact h2

/-- append(v, x..): x a slice that reads as the ints 'news'. -/
theorem wpAppJ {w : World} {ops : Array Oper} {rest : List Oper} {o : Oper} {a : Act} {Q : Exit → Act → World → Prop} (hgd : o.guard = none) (s x : Operand) (ho : o.op = .call { callee := .builtin .append, args := #[s, x], argTypes := #[90, 90] })
    (base : Nat) (v : Value) (l : List Int) (hs : a.eval s = v) (hown : OJ base w v l) (A : Option Addr) (m c : Nat) (news : List Int) (hx : a.eval x = .slice A m c) (hr : IR w A m news)
    (hn : l.length + m ≤ 1099511627776) (hbase : base ≤ w.heap.size)
    (h : ∀ v' w', OJ base w' v' (l ++ news) → Keep (fun k => v.ownBlock = some k) w w' → (v'.ownBlock = v.ownBlock ∨ v'.ownBlock = some w.heap.size) → wpList Tryz.prog ops Q rest (a.put o.dst v') w') : wpList Tryz.prog ops Q (o :: rest) a w := by
  refine wpList_plain hgd fun K hK => ?_
  obtain ⟨v', w', hrun, h2, h3, h4⟩ := run_appJ w base o.type v l hown A m c news hr hn hbase
  unfold Oper.wp execOp
  simp only [ho, resolve, invoke, builtin, Sem.run_bind, Sem.run_pure, Result.andThen_ok, List.map_toArray, List.map_cons, List.map_nil, hs, hx, hrun]
  exact hK _ _ (h v' w' h2 h3 h4)
end Go.Proofs.YtfpcnenohidfpaaGreat
