/- The document's rows that a slice owns. No condition but the list's length in memory. -/
import Derived.Test.YtfpcnenohidfpaaGreatStlI
import Derived.Test.YtfpcnenohidfpaaGreatRefT
namespace Go.Proofs.YtfpcnenohidfpaaGreat
open Go.RowKit Go.Maps Go.Shelf Go.Sort
set_option linter.unusedVariables false
set_option linter.unusedSimpArgs false

/-- A row of the document's: a good and its numbers. -/
structure GR where
  g : List UInt8
  r : Row
def grz : Value := .agg #[.string ⟨#[]⟩, .int .i64 0, .int .i64 0, .int .i64 0, .int .i64 0, .int .i64 0, .int .i64 0, .int .i64 0, .int .i64 0, .int .i64 0, .int .i64 0, .int .i64 0]
theorem grow_info : (Tryz.prog.info? 59).map (fun i => (i.zero, i.size, i.bytes)) = some (some grz, 12, 104) := by kernel_rfl
/-- A row's cells. -/
def GR.cs (r : GR) : List Value := .string ⟨r.g.toArray⟩ :: r.r.cs
theorem GR.cs_len (r : GR) : r.cs.length = 12 := rfl
theorem GR.cs_one (r : GR) : ∀ u ∈ r.cs, u.oneCell' = true := by
  intro u hu
  simp only [GR.cs, List.mem_cons] at hu
  rcases hu with rfl | hu
  · rfl
  · exact Row.cs_one _ _ hu
/-- The value v owns the rows l. -/
def GO (base : Nat) (w : World) (v : Value) (l : List GR) : Prop := w.ownsRow base 59 12 v l.length (l.flatMap GR.cs)
theorem grows_len (l : List GR) : (l.flatMap GR.cs).length = l.length * 12 := by
  induction l with
  | nil => rfl
  | cons x l ih => rw [List.flatMap_cons, List.length_append, ih, List.length_cons, GR.cs_len]; omega
theorem grows_get : ∀ (l : List GR) (j : Nat) (x : GR) (i : Nat) (c : Value), l[j]? = some x → x.cs[i]? = some c → (l.flatMap GR.cs)[j * 12 + i]? = some c
  | [], j, x, i, c, h, _ => by simp at h
  | y :: l, 0, x, i, c, h, h' => by
    simp at h
    subst h
    have hi := (List.getElem?_eq_some_iff.1 h').1
    rw [List.flatMap_cons, List.getElem?_append_left (by omega), show 0 * 12 + i = i by omega]
    exact h'
  | y :: l, j + 1, x, i, c, h, h' => by
    have := grows_get l j x i c (by simpa using h) h'
    rw [List.flatMap_cons, show (j + 1) * 12 + i = y.cs.length + (j * 12 + i) by rw [GR.cs_len]; omega, List.getElem?_append_right (by omega)]
    simpa using this
section
variable {base : Nat} {w w' : World} {v : Value} {l : List GR}
theorem GO.nil (base : Nat) (w : World) : GO base w (.slice none 0 0) [] := World.ownsRow_nil _ _ _ _
theorem GO.form (h : GO base w v l) : ∃ A cap, v = .slice A l.length cap ∧ l.length ≤ cap ∧ cap ≤ maxLen ∧ ∀ (j : Nat) (x : GR), l[j]? = some x → ∃ b, A = some ⟨b, 0, none⟩ ∧ ∀ i c, x.cs[i]? = some c → w.cell? ⟨b, j * 12 + i, none⟩ = some c := by
  rcases h.2 with ⟨rfl, h0⟩ | ⟨g, cap, cur, rfl, hb, hh, hl, hm, hs, ht⟩
  · have : l = [] := List.eq_nil_of_length_eq_zero h0
    subst this
    exact ⟨none, 0, rfl, Nat.le_refl _, by simp [maxLen], fun j x hx => by simp at hx⟩
  · refine ⟨_, cap, rfl, hl, hm, fun j x hx => ⟨g, rfl, fun i c hc => ?_⟩⟩
    have hj := World.ownsRow.cells h (g := g) rfl _ _ (grows_get l j x i c hx hc)
    rw [Addr.add_lit, Nat.zero_add] at hj
    exact hj
theorem GO.kept {S : Nat → Prop} (h : GO base w v l) (k : Keep S w w') (hs : ∀ g, v.ownBlock = some g → ¬ S g) : GO base w' v l := by
  refine ⟨h.1, ?_⟩
  rcases h.2 with hn | ⟨g, cap, cur, rfl, hb, hgg, rest⟩
  · exact .inl hn
  · refine .inr ⟨g, cap, cur, rfl, hb, ?_, rest⟩
    rw [k.block g (Array.getElem?_eq_some_iff.1 hgg).1 (hs g rfl)]
    exact hgg
theorem GO.lt (h : GO base w v l) : ∀ k, v.ownBlock = some k → base ≤ k ∧ k < w.heap.size := World.ownsRow.lt h
theorem GO.alloc (h : GO base w v l) (o : Obj) : GO base (w.alloc o) v l := h.kept ((Keep.refl (fun _ => False) w).alloc o) fun _ _ => id
theorem GO.drew (h : GO base w v l) : GO base w.drew v l := h
theorem GO.below (h : GO base w v l) (k : Below w.heap.size w w') : GO base w' v l := h.kept (Keep.of_below k) fun g hg => by have := (h.lt g hg).2; omega
theorem GO.mono {b' : Nat} (h : GO base w v l) (hb : b' ≤ base) : GO b' w v l := by
  refine ⟨h.1, ?_⟩
  rcases h.2 with hn | ⟨g, cap, cur, hv, hbb, rest⟩
  · exact .inl hn
  · exact .inr ⟨g, cap, cur, hv, by omega, rest⟩
theorem GO.blk (h : GO base w v l) : ∀ g, v.ownBlock = some g → ∃ o : Obj, w.heap[g]? = some o ∧ o.isCells = true := by
  intro g hg
  rcases h.2 with ⟨rfl, _⟩ | ⟨g', cap, cur, rfl, _, hgg, _⟩
  · simp [Value.ownBlock] at hg
  · simp [Value.ownBlock] at hg
    subst hg
    exact ⟨_, hgg, rfl⟩
end
theorem run_appG (w : World) (base : Nat) (ty : TypeId) (v : Value) (l : List GR) (hown : GO base w v l) (ad : Addr) (x : GR) (hc : ∀ j u, x.cs[j]? = some u → w.cell? (ad.add j) = some u)
    (hn : (l.length + 1) * 104 ≤ 140737488355328) (hbase : base ≤ w.heap.size) :
    ∃ v' w', (Builtin.append_ #[55, 55] ty #[v, .slice (some ad) 1 1]).run Tryz.prog w = .ok v' w' ∧ GO base w' v' (l ++ [x]) ∧ Keep (fun k => v.ownBlock = some k) w w' ∧ (v'.ownBlock = v.ownBlock ∨ v'.ownBlock = some w.heap.size) := by
  obtain ⟨i, hi, hz, hs, hb⟩ := info_parts grow_info
  obtain ⟨v', w', hrun, h2, h3, _, h5⟩ := run_append_own_at (P := Tryz.prog) w base 55 ty 59 i grz 12 104 Tryz.underlying55 hi hz hs hb rfl (by decide) v l.length (l.flatMap GR.cs) hown ad 1 1 x.cs
    (by rw [GR.cs_len]) hc x.cs_one (by simp only [maxLen]; omega) (by omega) hbase
  refine ⟨v', w', hrun, ?_, Keep.of_grown h3, h5⟩
  show w'.ownsRow base 59 12 v' (l ++ [x]).length ((l ++ [x]).flatMap GR.cs)
  rw [List.length_append, List.flatMap_append]
  simpa using h2
end Go.Proofs.YtfpcnenohidfpaaGreat
