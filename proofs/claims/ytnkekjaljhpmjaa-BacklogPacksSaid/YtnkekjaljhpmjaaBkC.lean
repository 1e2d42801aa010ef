/- Many rows appended; slices.Clone. No condition but that the rows lie in memory. -/
import Derived.Test.YtnkekjaljhpmjaaBkL
namespace Go.Proofs.Ytnkekjaljhpmjaa
open Go.RowKit
set_option linter.unusedVariables false
set_option linter.unusedSimpArgs false

theorem WR.from {w : World} {A : Option Addr} {n : Nat} {l : List Wt} (h : WR w A n l) (g b : Nat) (hA : A = some ⟨g, b, none⟩) (i : Nat) (hi : i ≤ n) : WR w (some ⟨g, b + i * 2, none⟩) (n - i) (l.drop i) := by
  refine ⟨by rw [List.length_drop, h.len], fun j x hx => ?_⟩
  rw [List.getElem?_drop] at hx
  obtain ⟨b', off, e, h0, h1⟩ := h.at_ _ x hx
  rw [hA] at e
  cases e
  exact ⟨_, _, rfl, by rw [show b + i * 2 + j * 2 = b + (i + j) * 2 by omega]; exact h0, by rw [show b + i * 2 + j * 2 + 1 = b + (i + j) * 2 + 1 by omega]; exact h1⟩
theorem WR.to {w : World} {A : Option Addr} {n : Nat} {l : List Wt} (h : WR w A n l) (i : Nat) (hi : i ≤ n) : WR w A i (l.take i) := by
  refine ⟨by rw [List.length_take, h.len]; omega, fun j x hx => ?_⟩
  rw [List.getElem?_take] at hx
  split at hx
  · exact h.at_ j x hx
  · cases hx
theorem WR.cells_get {w : World} {b off n : Nat} {l : List Wt} (h : WR w (some ⟨b, off, none⟩) n l) (j : Nat) (u : Value) (hu : (l.flatMap Wt.cs)[j]? = some u) : w.cell? ((⟨b, off, none⟩ : Addr).add j) = some u := by
  have hj : j < l.length * 2 := by
    have := (List.getElem?_eq_some_iff.1 hu).1
    rw [WO_len] at this
    exact this
  obtain ⟨q, r, hq, hr⟩ : ∃ q r, j = q * 2 + r ∧ r < 2 := ⟨j / 2, j % 2, by omega, Nat.mod_lt _ (by omega)⟩
  have hql : q < l.length := by omega
  obtain ⟨x, hx⟩ : ∃ x, l[q]? = some x := ⟨_, List.getElem?_eq_getElem hql⟩
  obtain ⟨b', off', e, h0, h1⟩ := h.at_ q x hx
  cases e
  subst hq
  rw [Addr.add_lit]
  match r, hr with
  | 0, _ =>
    rw [WO_get l q x 0 (.int .i64 x.k) hx rfl] at hu
    cases hu
    exact (by rw [show off + (q * 2 + 0) = off + q * 2 by omega]; exact h0)
  | 1, _ =>
    rw [WO_get l q x 1 (.bool x.r) hx rfl] at hu
    cases hu
    exact (by rw [show off + (q * 2 + 1) = off + q * 2 + 1 by omega]; exact h1)
theorem run_appWOn (w : World) (base : Nat) (ty : TypeId) (v : Value) (l : List Wt) (hown : WO base w v l) (A : Option Addr) (m c : Nat) (news : List Wt) (hr : WR w A m news) (hA : A = none ∨ ∃ b off, A = some ⟨b, off, none⟩)
    (hn : (l.length + m) * 16 ≤ 140737488355328) (hbase : base ≤ w.heap.size) :
    ∃ v' w', (Builtin.append_ #[56, 56] ty #[v, .slice A m c]).run Try.prog w = .ok v' w' ∧ WO base w' v' (l ++ news) ∧ Keep (fun k => v.ownBlock = some k) w w' ∧ (v'.ownBlock = v.ownBlock ∨ v'.ownBlock = some w.heap.size) := by
  obtain ⟨i, hi, hz, hs, hb⟩ := info_parts WO_info
  rcases hA with rfl | ⟨b, off, rfl⟩
  · have hm : news = [] := by
      cases news with
      | nil => rfl
      | cons x t =>
        obtain ⟨_, _, e, _⟩ := hr.at_ 0 x rfl
        cases e
    subst hm
    have hm0 : m = 0 := hr.len.symm
    subst hm0
    refine ⟨v, w, ?_, by rw [List.append_nil]; exact hown, Keep.refl _ _, .inl rfl⟩
    rcases hown.2 with ⟨rfl, hn0⟩ | ⟨g, cap, cur, rfl, _, _, hnc, _⟩
    · simp [Builtin.append_, run_underlying Try.underlying56, sizeOf, typeInfo, hi, Builtin.lenOf, Builtin.firstCells]
    · simp [Builtin.append_, run_underlying Try.underlying56, sizeOf, typeInfo, hi, Builtin.lenOf, Builtin.firstCells, hnc, storeCells]
  · obtain ⟨v', w', hrun, h2, h3, _, h5⟩ := run_append_own_at (P := Try.prog) w base 56 ty 60 i (.agg #[.int .i64 0, .bool false]) 2 16 Try.underlying56 hi hz hs hb rfl (by decide) v l.length (l.flatMap Wt.cs) hown ⟨b, off, none⟩ m c (news.flatMap Wt.cs)
      (by rw [WO_len, hr.len]) hr.cells_get (fun u hu => by
        obtain ⟨x, _, hx⟩ := List.mem_flatMap.1 hu
        exact x.cs_one u hx) (by simp only [maxLen]; omega) (by omega) hbase
    refine ⟨v', w', hrun, ?_, Keep.of_grown h3, h5⟩
    show w'.ownsRow base 60 2 v' (l ++ news).length ((l ++ news).flatMap Wt.cs)
    rw [List.length_append, List.flatMap_append, hr.len]
    exact h2
section
variable {w : World} {ops : Array Oper} {rest : List Oper} {o : Oper} {a : Act} {Q : Exit → Act → World → Prop}
theorem wpAppWOn (hgd : o.guard = none) (s x : Operand) (ho : o.op = .call { callee := .builtin .append, args := #[s, x], argTypes := #[56, 56] })
    (base : Nat) (v : Value) (l : List Wt) (hs : a.eval s = v) (hown : WO base w v l) (A : Option Addr) (m c : Nat) (hx : a.eval x = .slice A m c) (news : List Wt) (hr : WR w A m news) (hA : A = none ∨ ∃ b off, A = some ⟨b, off, none⟩)
    (hn : (l.length + m) * 16 ≤ 140737488355328) (hbase : base ≤ w.heap.size)
    (h : ∀ v' w', WO base w' v' (l ++ news) → Keep (fun k => v.ownBlock = some k) w w' → (v'.ownBlock = v.ownBlock ∨ v'.ownBlock = some w.heap.size) → wpList Try.prog ops Q rest (a.put o.dst v') w') : wpList Try.prog ops Q (o :: rest) a w := by
  refine wpList_plain hgd fun K hK => ?_
  obtain ⟨v', w', hrun, h2, h3, h4⟩ := run_appWOn w base o.type v l hown A m c news hr hA hn hbase
  unfold Oper.wp execOp
  simp only [ho, resolve, invoke, builtin, Sem.run_bind, Sem.run_pure, Result.andThen_ok, List.map_toArray, List.map_cons, List.map_nil, hs, hx, hrun]
  exact hK _ _ (h v' w' h2 h3 h4)
end
theorem WO.form0 (w : World) : WO w.heap.size (w.alloc (.cells #[] 60)) (.slice (some ⟨w.heap.size, 0, none⟩) 0 0) [] :=
  ⟨rfl, .inr ⟨w.heap.size, 0, #[], rfl, Nat.le_refl _, heap_alloc_new w _, Nat.le_refl _, by simp [maxLen], rfl, rfl⟩⟩


theorem slice_eqW (d : Nat) (A : Option Addr) (n c : Nat) (W : World) : (Op.equalIn (d + 1) 56 (.slice A n c) (.slice none 0 0)).run Try.prog W = .ok A.isNone W := by
  cases A <;> simp [Op.equalIn, run_underlying Try.underlying56]
theorem slice_nilW (A : Option Addr) (n c : Nat) (W : World) : (binOp .eql 56 (.slice A n c) (.slice none 0 0)).run Try.prog W = .ok (.bool A.isNone) W := by
  have h := slice_eqW 9999 A n c W
  simp only [binOp]
  simp [Op.equal, Op.maxDepth, h]
/-- What slices.Clone answers. -/
def ClonePost (w : World) (n : Nat) (l : List Wt) (e : Ending) (w' : World) : Prop := ∃ A c, e = .returned (.slice A n c) ∧ WO w.heap.size w' (.slice A n c) l ∧ Below w.heap.size w w'
set_option maxRecDepth 100000 in
set_option maxHeartbeats 800000 in
theorem clone_any (A : Option Addr) (n c : Nat) (l : List Wt) (w : World) (h : WO 0 w (.slice A n c) l) (hn : n ≤ 1048576) :
    Calls Try.prog 38 #[.slice A n c] w (ClonePost w n l) := by
  have hlen := h.len.1
  rcases A with _ | ad
  · have hl : l = [] := by
      obtain ⟨B, cap, e, _, _, _, h0, _⟩ := h.form
      cases e
      exact (h0 rfl).1
    subst hl
    have hn0 : n = 0 := hlen.symm
    subst hn0
    go_enter Try.func38, Try.ntmps38
    have hnn := fun W => slice_nilW none 0 c W
    go_wp2
    go_ret
    exact ⟨none, 0, rfl, WO.nil _ _, Below.refl _ _⟩
  · obtain ⟨g, hg⟩ : ∃ g, ad = ⟨g, 0, none⟩ := by
      obtain ⟨B, cap, e, _, _, h0, _, _⟩ := h.form
      cases e
      obtain ⟨b, hb, _⟩ := h0 _ rfl
      exact ⟨b, hb⟩
    subst hg
    have hz := WO.form0 w
    have hr := (h.alloc (.cells #[] 60)).wr
    have hb1 := (Below.refl w.heap.size w).alloc (Nat.le_refl _) (.cells #[] 60)
    have hs1 : w.heap.size ≤ (w.alloc (.cells #[] 60)).heap.size := hb1.size
    go_enter Try.func38, Try.ntmps38
    have hnn := fun W => slice_nilW (some ⟨g, 0, none⟩) n c W
    go_wp2_with (at_builtin; refine wpAppWOn rfl (.tmp 5) (.tmp 6) rfl w.heap.size (.slice (some ⟨w.heap.size, 0, none⟩) 0 0) [] rfl hz (some ⟨g, 0, none⟩) n c rfl l hr (.inr ⟨g, 0, rfl⟩) (by simp; omega) hs1 ?_; intro v5 w5 hO5 hK5 e5; rw [List.nil_append] at hO5; obtain ⟨A5, c5, hv5, hx5⟩ := hO5.form; clear hx5; subst hv5)
    have hb5 := hb1.trans (hK5.below (B := w.heap.size) hs1 (fun i hi e => by simp [Value.ownBlock] at e; omega))
    rw [hlen] at hO5
    clear hK5 e5
    go_ret
    exact ⟨A5, c5, rfl, hO5, hb5⟩
end Go.Proofs.Ytnkekjaljhpmjaa
