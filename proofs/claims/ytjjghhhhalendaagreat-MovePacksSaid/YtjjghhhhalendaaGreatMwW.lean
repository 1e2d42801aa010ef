/- The document's moves: their rows in memory. No condition. -/
import Derived.Test.YtjjghhhhalendaaGreatZg
import Derived.Deep.Slices
namespace Go.Proofs.YtjjghhhhalendaaGreat
open Go.RowKit Go.Shelf
set_option linter.unusedVariables false
set_option linter.unusedSimpArgs false

theorem Rec.cs_len (r : Rec) : r.cs.length = 5 := rfl
theorem Rec.cs_one (r : Rec) : ∀ u ∈ r.cs, u.oneCell' = true := by
  intro u hu
  simp [Rec.cs] at hu
  rcases hu with rfl | rfl | rfl | rfl | rfl <;> rfl
theorem WO_info : (Tryz.prog.info? 59).map (fun i => (i.zero, i.size, i.bytes)) = some (some (.agg #[.int .i64 0, .int .i64 0, .int .i64 0, .slice none 0 0, .bool false]), 5, 56) := by kernel_rfl
/-- The value v owns the rows l. -/
def WO (base : Nat) (w : World) (v : Value) (l : List Rec) : Prop := w.ownsRow base 59 5 v l.length (l.flatMap Rec.cs)
theorem WO_len (l : List Rec) : (l.flatMap Rec.cs).length = l.length * 5 := by
  induction l with
  | nil => rfl
  | cons x l ih => rw [List.flatMap_cons, List.length_append, ih, List.length_cons, Rec.cs_len]; omega
theorem WO_get : ∀ (l : List Rec) (j : Nat) (x : Rec) (i : Nat) (c : Value), l[j]? = some x → x.cs[i]? = some c → (l.flatMap Rec.cs)[j * 5 + i]? = some c
  | [], j, x, i, c, h, _ => by simp at h
  | y :: l, 0, x, i, c, h, h' => by
    simp at h
    subst h
    have hi := (List.getElem?_eq_some_iff.1 h').1
    rw [List.flatMap_cons, List.getElem?_append_left (by omega), show 0 * 5 + i = i by omega]
    exact h'
  | y :: l, j + 1, x, i, c, h, h' => by
    have := WO_get l j x i c (by simpa using h) h'
    rw [List.flatMap_cons, show (j + 1) * 5 + i = y.cs.length + (j * 5 + i) by rw [Rec.cs_len]; omega, List.getElem?_append_right (by omega)]
    simpa using this
section
variable {base : Nat} {w w' : World} {v : Value} {l : List Rec}
theorem WO.nil (base : Nat) (w : World) : WO base w (.slice none 0 0) [] := World.ownsRow_nil _ _ _ _
theorem WO.form (h : WO base w v l) : ∃ A cap, v = .slice A l.length cap ∧ l.length ≤ cap ∧ cap ≤ maxLen ∧ (∀ ad, A = some ad → ∃ b, ad = ⟨b, 0, none⟩ ∧ base ≤ b ∧ b < w.heap.size ∧ v.ownBlock = some b) ∧ (A = none → l = [] ∧ cap = 0) ∧ ∀ (j : Nat) (x : Rec), l[j]? = some x → ∃ b, A = some ⟨b, 0, none⟩ ∧ ∀ i c, x.cs[i]? = some c → w.cell? ⟨b, j * 5 + i, none⟩ = some c := by
  rcases h.2 with ⟨rfl, h0⟩ | ⟨g, cap, cur, rfl, hb, hh, hl, hm, hs, ht⟩
  · have : l = [] := List.eq_nil_of_length_eq_zero h0
    subst this
    exact ⟨none, 0, rfl, Nat.le_refl _, by simp [maxLen], fun ad h => (by cases h), fun _ => ⟨rfl, rfl⟩, fun j x hx => by simp at hx⟩
  · refine ⟨_, cap, rfl, hl, hm, fun ad h => ?_, fun h => (by cases h), fun j x hx => ⟨g, rfl, fun i c hc => ?_⟩⟩
    · cases h
      exact ⟨g, rfl, hb, (Array.getElem?_eq_some_iff.1 hh).1, rfl⟩
    · have hj := World.ownsRow.cells h (g := g) rfl _ _ (WO_get l j x i c hx hc)
      rw [Addr.add_lit, Nat.zero_add] at hj
      exact hj
theorem WO.kept {S : Nat → Prop} (h : WO base w v l) (k : Keep S w w') (hs : ∀ g, v.ownBlock = some g → ¬ S g) : WO base w' v l := by
  refine ⟨h.1, ?_⟩
  rcases h.2 with hn | ⟨g, cap, cur, rfl, hb, hgg, rest⟩
  · exact .inl hn
  · refine .inr ⟨g, cap, cur, rfl, hb, ?_, rest⟩
    rw [k.block g (Array.getElem?_eq_some_iff.1 hgg).1 (hs g rfl)]
    exact hgg
theorem WO.lt (h : WO base w v l) : ∀ k, v.ownBlock = some k → base ≤ k ∧ k < w.heap.size := World.ownsRow.lt h
theorem WO.alloc (h : WO base w v l) (o : Obj) : WO base (w.alloc o) v l := h.kept ((Keep.refl (fun _ => False) w).alloc o) fun _ _ => id
theorem WO.drew (h : WO base w v l) : WO base w.drew v l := h
theorem WO.below (h : WO base w v l) (k : Below w.heap.size w w') : WO base w' v l := h.kept (Keep.of_below k) fun g hg => by have := (h.lt g hg).2; omega
theorem WO.mono {b' : Nat} (h : WO base w v l) (hb : b' ≤ base) : WO b' w v l := by
  refine ⟨h.1, ?_⟩
  rcases h.2 with hn | ⟨g, cap, cur, hv, hbb, rest⟩
  · exact .inl hn
  · exact .inr ⟨g, cap, cur, hv, by omega, rest⟩
theorem WO.blk (h : WO base w v l) : ∀ g, v.ownBlock = some g → ∃ o : Obj, w.heap[g]? = some o ∧ o.isCells = true := by
  intro g hg
  rcases h.2 with ⟨rfl, _⟩ | ⟨g', cap, cur, rfl, _, hgg, _⟩
  · simp [Value.ownBlock] at hg
  · simp [Value.ownBlock] at hg
    subst hg
    exact ⟨_, hgg, rfl⟩
end
theorem WO.fz {base : Nat} {w : World} {v : Value} {l : List Rec} (h : WO base w v l) {g : Nat} (hv : v.ownBlock = some g) (i : Nat) : w.frozen? ⟨g, i, none⟩ = false := by
  rcases h.2 with ⟨rfl, _⟩ | ⟨g', cap, cur, rfl, _, hgg, _⟩
  · simp [Value.ownBlock] at hv
  · simp [Value.ownBlock] at hv
    subst hv
    simp [World.frozen?, hgg]
theorem WO_set : ∀ (l : List Rec) (j : Nat) (x x' : Rec) (i : Nat) (c : Value), l[j]? = some x → x'.cs = x.cs.set i c → i < 5 → (l.flatMap Rec.cs).set (j * 5 + i) c = (l.set j x').flatMap Rec.cs
  | [], j, x, x', i, c, h, _, _ => by simp at h
  | y :: l, 0, x, x', i, c, h, h', hi => by
    simp at h
    subst h
    rw [List.flatMap_cons, List.set_append_left _ _ (by rw [Rec.cs_len]; omega), List.set_cons_zero, List.flatMap_cons, h', show 0 * 5 + i = i by omega]
  | y :: l, j + 1, x, x', i, c, h, h', hi => by
    have := WO_set l j x x' i c (by simpa using h) h' hi
    rw [List.flatMap_cons, show (j + 1) * 5 + i = y.cs.length + (j * 5 + i) by rw [Rec.cs_len]; omega, List.set_append_right _ _ (by omega), List.set_cons_succ, List.flatMap_cons, ← this]
    simp
theorem WO.put {base : Nat} {w : World} {g n cap : Nat} {l : List Rec} (h : WO base w (.slice (some ⟨g, 0, none⟩) n cap) l) (hn : l.length = n) (j i : Nat) (x x' : Rec) (c : Value) (hx : l[j]? = some x) (hx' : x'.cs = x.cs.set i c) (hi : i < 5) :
    WO base (w.setCell ⟨g, j * 5 + i, none⟩ c) (.slice (some ⟨g, 0, none⟩) n cap) (l.set j x') := by
  subst hn
  have := (World.ownsRow.stored h (j * 5 + i) c).1
  show (w.setCell ⟨g, j * 5 + i, none⟩ c).ownsRow base 59 5 _ (l.set j x').length ((l.set j x').flatMap Rec.cs)
  rw [← WO_set l j x x' i c hx hx' hi, List.length_set]
  exact this
theorem run_appWO (w : World) (base : Nat) (ty : TypeId) (v : Value) (l : List Rec) (hown : WO base w v l) (ad : Addr) (x : Rec) (hc : ∀ j u, x.cs[j]? = some u → w.cell? (ad.add j) = some u)
    (hn : (l.length + 1) * 56 ≤ 140737488355328) (hbase : base ≤ w.heap.size) :
    ∃ v' w', (Builtin.append_ #[26, 26] ty #[v, .slice (some ad) 1 1]).run Tryz.prog w = .ok v' w' ∧ WO base w' v' (l ++ [x]) ∧ Keep (fun k => v.ownBlock = some k) w w' ∧ (v'.ownBlock = v.ownBlock ∨ v'.ownBlock = some w.heap.size) := by
  obtain ⟨i, hi, hz, hs, hb⟩ := info_parts WO_info
  obtain ⟨v', w', hrun, h2, h3, _, h5⟩ := run_append_own_at (P := Tryz.prog) w base 26 ty 59 i (.agg #[.int .i64 0, .int .i64 0, .int .i64 0, .slice none 0 0, .bool false]) 5 56 Tryz.underlying26 hi hz hs hb rfl (by decide) v l.length (l.flatMap Rec.cs) hown ad 1 1 x.cs
    (by rw [Rec.cs_len]) hc x.cs_one (by simp only [maxLen]; omega) (by omega) hbase
  refine ⟨v', w', hrun, ?_, Keep.of_grown h3, h5⟩
  show w'.ownsRow base 59 5 v' (l ++ [x]).length ((l ++ [x]).flatMap Rec.cs)
  rw [List.length_append, List.flatMap_append]
  simpa using h2
section
variable {w : World} {ops : Array Oper} {rest : List Oper} {o : Oper} {a : Act} {Q : Exit → Act → World → Prop}
theorem wpAppWO (hgd : o.guard = none) (s x : Operand) (ho : o.op = .call { callee := .builtin .append, args := #[s, x], argTypes := #[26, 26] })
    (base : Nat) (v : Value) (l : List Rec) (hs : a.eval s = v) (hown : WO base w v l) (ad : Addr) (hx : a.eval x = .slice (some ad) 1 1) (y : Rec) (hc : ∀ j u, y.cs[j]? = some u → w.cell? (ad.add j) = some u)
    (hn : (l.length + 1) * 56 ≤ 140737488355328) (hbase : base ≤ w.heap.size)
    (h : ∀ v' w', WO base w' v' (l ++ [y]) → Keep (fun k => v.ownBlock = some k) w w' → (v'.ownBlock = v.ownBlock ∨ v'.ownBlock = some w.heap.size) → wpList Tryz.prog ops Q rest (a.put o.dst v') w') : wpList Tryz.prog ops Q (o :: rest) a w := by
  refine wpList_plain hgd fun K hK => ?_
  obtain ⟨v', w', hrun, h2, h3, h4⟩ := run_appWO w base o.type v l hown ad y hc hn hbase
  unfold Oper.wp execOp
  simp only [ho, resolve, invoke, builtin, Sem.run_bind, Sem.run_pure, Result.andThen_ok, List.map_toArray, List.map_cons, List.map_nil, hs, hx, hrun]
  exact hK _ _ (h v' w' h2 h3 h4)
end

theorem WO.place {base : Nat} {w : World} {A : Option Addr} {n c : Nat} {l : List Rec} (h : WO base w (.slice A n c) l) {k : Nat} (hk : k < n) : ∃ g b, A = some ⟨g, 0, none⟩ ∧ l[k]? = some b ∧ w.cell? ⟨g, k * 5, none⟩ = some (.int .i64 b.m) ∧ w.cell? ⟨g, k * 5 + 1, none⟩ = some (.int .i64 b.f) ∧ w.cell? ⟨g, k * 5 + 2, none⟩ = some (.int .i64 b.t) ∧ w.cell? ⟨g, k * 5 + 3, none⟩ = some (b.l.v) ∧ w.cell? ⟨g, k * 5 + 4, none⟩ = some (.bool b.c) := by
  obtain ⟨B, cap, e, _, _, _, _, h3⟩ := h.form
  injection e with e1 e2 e3
  have hl : k < l.length := by omega
  obtain ⟨g, rfl, hc⟩ := h3 k _ (List.getElem?_eq_getElem hl)
  exact ⟨g, l[k], e1, List.getElem?_eq_getElem hl, hc 0 _ rfl, hc 1 _ rfl, hc 2 _ rfl, hc 3 _ rfl, hc 4 _ rfl⟩
theorem WO.len {base : Nat} {w : World} {A : Option Addr} {n c : Nat} {l : List Rec} (h : WO base w (.slice A n c) l) : l.length = n ∧ n ≤ c := by
  obtain ⟨B, cap, e, h1, _⟩ := h.form
  injection e with e1 e2 e3
  omega
theorem WO.puts {base : Nat} {w : World} {g n c : Nat} {l : List Rec} (h : WO base w (.slice (some ⟨g, 0, none⟩) n c) l) (i : Nat) (hi : i < n) (b : Rec) :
    WO base (((((w.setCell ⟨g, i * 5, none⟩ (.int .i64 b.m)).setCell ⟨g, i * 5 + 1, none⟩ (.int .i64 b.f)).setCell ⟨g, i * 5 + 2, none⟩ (.int .i64 b.t)).setCell ⟨g, i * 5 + 3, none⟩ (b.l.v)).setCell ⟨g, i * 5 + 4, none⟩ (.bool b.c)) (.slice (some ⟨g, 0, none⟩) n c) (l.set i b) ∧
    Keep (fun k => k = g) w (((((w.setCell ⟨g, i * 5, none⟩ (.int .i64 b.m)).setCell ⟨g, i * 5 + 1, none⟩ (.int .i64 b.f)).setCell ⟨g, i * 5 + 2, none⟩ (.int .i64 b.t)).setCell ⟨g, i * 5 + 3, none⟩ (b.l.v)).setCell ⟨g, i * 5 + 4, none⟩ (.bool b.c)) := by
  have hn := h.len.1
  have hx : l[i]? = some (l[i]'(by omega)) := List.getElem?_eq_getElem (by omega)
  obtain ⟨x, hx⟩ : ∃ x, l[i]? = some x := ⟨_, hx⟩
  have s (l' : List Rec) (y : Rec) (hl : i < l'.length) : (l'.set i y)[i]? = some y := by rw [List.getElem?_set_self hl]
  have h0 := h.put hn i 0 x ⟨b.m, x.f, x.t, x.l, x.c⟩ (.int .i64 b.m) hx rfl (by omega)
  have h1 := h0.put (by simpa using hn) i 1 ⟨b.m, x.f, x.t, x.l, x.c⟩ ⟨b.m, b.f, x.t, x.l, x.c⟩ (.int .i64 b.f) (s _ _ (by omega)) rfl (by omega)
  have h2 := h1.put (by simpa using hn) i 2 ⟨b.m, b.f, x.t, x.l, x.c⟩ ⟨b.m, b.f, b.t, x.l, x.c⟩ (.int .i64 b.t) (s _ _ (by simp; omega)) rfl (by omega)
  have h3 := h2.put (by simpa using hn) i 3 ⟨b.m, b.f, b.t, x.l, x.c⟩ ⟨b.m, b.f, b.t, b.l, x.c⟩ (b.l.v) (s _ _ (by simp; omega)) rfl (by omega)
  have h4 := h3.put (by simpa using hn) i 4 ⟨b.m, b.f, b.t, b.l, x.c⟩ b (.bool b.c) (s _ _ (by simp; omega)) rfl (by omega)
  simp only [List.set_set, Nat.add_zero] at h4
  exact ⟨h4, ((((((Keep.refl (fun k => k = g) w).setCell (p := ⟨g, i * 5, none⟩) (fun _ => rfl) _).setCell (p := ⟨g, i * 5 + 1, none⟩) (fun _ => rfl) _).setCell (p := ⟨g, i * 5 + 2, none⟩) (fun _ => rfl) _).setCell (p := ⟨g, i * 5 + 3, none⟩) (fun _ => rfl) _).setCell (p := ⟨g, i * 5 + 4, none⟩) (fun _ => rfl) _)⟩
/-- The first ones of a row. -/
theorem WO.first {base : Nat} {w : World} {g n c : Nat} {l : List Rec} (h : WO base w (.slice (some ⟨g, 0, none⟩) n c) l) (i : Nat) (hi : i ≤ n) : WO base w (.slice (some ⟨g, 0, none⟩) i c) (l.take i) := by
  have hn := h.len.1
  rcases h.2 with ⟨h0, _⟩ | ⟨g', cap, cur, e, hb, hg, hl, hm, hs, ht⟩
  · cases h0
  · injection e with e1 e2 e3
    cases e1
    subst e3
    have hlen : (l.take i).length = i := by rw [List.length_take]; omega
    refine ⟨by rw [WO_len, hlen], .inr ⟨g, c, cur, by rw [hlen], hb, hg, by omega, hm, hs, ?_⟩⟩
    rw [hlen]
    have h1 : (cur.toList.take (l.length * 5)).take (i * 5) = (l.flatMap Rec.cs).take (i * 5) := by rw [ht]
    rw [List.take_take, show min (i * 5) (l.length * 5) = i * 5 by omega] at h1
    rw [h1]
    have h2 : l.flatMap Rec.cs = (l.take i).flatMap Rec.cs ++ (l.drop i).flatMap Rec.cs := by rw [← List.flatMap_append, List.take_append_drop]
    rw [h2, List.take_append_of_le_length (by rw [WO_len, hlen]; omega), List.take_of_length_le (by rw [WO_len, hlen]; omega)]
theorem WO_under : Tryz.prog.underlying 26 = some (.slice 59) := Tryz.underlying26
theorem WO_zero : ∀ w, (zeroValue 59).run Tryz.prog w = .ok (.agg #[.int .i64 0, .int .i64 0, .int .i64 0, .slice none 0 0, .bool false]) w := fun w => by kernel_rfl
theorem run_clearWO (w : World) {base g n c : Nat} {l : List Rec} (h : WO base w (.slice (some ⟨g, 0, none⟩) n c) l) (i m cc : Nat) (hi : i < n) (hm : m = n - i) (ty : TypeId) :
    ∃ w', (Builtin.clear_ #[26] ty #[.slice (some ⟨g, i * 5, none⟩) m cc]).run Tryz.prog w = .ok (.tuple #[]) w' ∧ WO base w' (.slice (some ⟨g, 0, none⟩) i c) (l.take i) ∧ Keep (fun k => k = g) w w' := by
  have hn := h.len
  obtain ⟨q, rfl⟩ : ∃ q, m = q + 1 := ⟨m - 1, by omega⟩
  have hf := h.first i (by omega)
  rcases h.2 with ⟨h0, _⟩ | ⟨g', cap, cur, e, hb, hg, hl, hmx, hs, ht⟩
  · cases h0
  · injection e with e1 e2 e3
    cases e1
    subst e3
    have hone : ∀ v ∈ (Builtin.zeroCells #[Value.int .i64 0, .int .i64 0, .int .i64 0, .slice none 0 0, .bool false] (q + 1)).toList, v.oneCell' = true := by
      intro v hv
      simp [Builtin.zeroCells] at hv
      obtain ⟨a, _, rfl⟩ := hv
      have : a % 5 = 0 ∨ a % 5 = 1 ∨ a % 5 = 2 ∨ a % 5 = 3 ∨ a % 5 = 4 := by omega
      rcases this with e | e | e | e | e <;> rw [e] <;> rfl
    have hlen : (Builtin.zeroCells #[Value.int .i64 0, .int .i64 0, .int .i64 0, .slice none 0 0, .bool false] (q + 1)).toList.length = (q + 1) * 5 := by simp [Builtin.zeroCells]
    have hst := run_storeCells_at Tryz.prog g (i * 5) 59 _ 0 cur w hg (by rw [hlen, hs]; omega) hone
    rw [hlen] at hst
    obtain ⟨Z, hZ⟩ : ∃ Z, (Builtin.zeroCells #[Value.int .i64 0, .int .i64 0, .int .i64 0, .slice none 0 0, .bool false] (q + 1)).toList = Z := ⟨_, rfl⟩
    rw [hZ] at hlen hst
    refine ⟨w.setRow g (cur.toList.take (i * 5 + 0) ++ Z ++ cur.toList.drop (i * 5 + 0 + (q + 1) * 5)).toArray, ?_, ?_, ?_⟩
    · simp only [Builtin.clear_, Sem.run_bind, run_underlying WO_under, Result.andThen_ok, WO_zero, Value.cells, hZ, hst]
      simp [hst, hZ]
    · refine ⟨hf.1, ?_⟩
      rcases hf.2 with ⟨h0, _⟩ | ⟨g', cap, cur', e, hb', hg', hl', hm', hs', ht'⟩
      · cases h0
      · injection e with e1 e2 e3
        cases e1
        subst e3
        rw [hg] at hg'
        injection hg' with hg'
        injection hg' with hg' _ _
        subst hg'
        refine .inr ⟨g, c, _, by rw [← e2], hb', setRow_heap w g cur _ 59 _ hg, hl', hm', ?_, ?_⟩
        · simp [hlen]
          omega
        · have : (l.take i).length = i := by rw [List.length_take]; omega
          rw [this] at ht' ⊢
          rw [← ht']
          simp only [Nat.add_zero]
          rw [List.append_assoc, List.take_append_of_le_length (by simp; omega), List.take_take, Nat.min_self]
    · have hgr : w.grownBy (w.setRow g (cur.toList.take (i * 5 + 0) ++ Z ++ cur.toList.drop (i * 5 + 0 + (q + 1) * 5)).toArray) (some g) := by
        refine ⟨rfl, rfl, rfl, by simp [World.setRow], fun k hk hne => ?_⟩
        have hne' : ¬ g = k := fun e => hne (by rw [e])
        simp only [World.setRow, Array.getElem?_modify, if_neg hne']
      exact (Keep.of_grown hgr).mono fun k _ e => (Option.some.inj e).symm
theorem runWO_from (w : World) (g n c i : Nat) (k : Int) (hk : k = (i : Int)) (hi : i < n) (hc : n ≤ c) :
    (Instr.slice 26 (.slice (some ⟨g, 0, none⟩) n c) (some (.int .i64 k)) none none).run Tryz.prog w = .ok (.slice (some ⟨g, i * 5, none⟩) (n - i) (c - i)) w := by
  subst hk
  have he : Tryz.prog.elem 26 = 59 := by kernel_rfl
  rw [run_slice_l w 26 _ n c (by rw [he]; exact WO_under) .i64 (i : Int) (by omega) (by omega), he, Tryz.sizeOf59]
  simp [Result.andThen, sliced]
  rw [if_neg (by omega)]
  simp [Addr.add]
  intro h
  exact h.symm
theorem runWO_to (w : World) (A : Option Addr) (n c i : Nat) (k : Int) (hk : k = (i : Int)) (hi : i ≤ n) (hc : n ≤ c) :
    (Instr.slice 26 (.slice A n c) none (some (.int .i64 k)) none).run Tryz.prog w = .ok (.slice A i c) w := by
  subst hk
  have he : Tryz.prog.elem 26 = 59 := by kernel_rfl
  rw [run_slice_h w 26 A n c (by rw [he]; exact WO_under) .i64 (i : Int) (by omega) (by omega), he, Tryz.sizeOf59]
  simp [Result.andThen, sliced]
  intro _
  cases A with
  | none => rfl
  | some a => cases a; rfl


/-- The slice value with address A and n elements reads as the rows l. -/
structure WR (w : World) (A : Option Addr) (n : Nat) (l : List Rec) : Prop where
  len : l.length = n
  at_ : ∀ j x, l[j]? = some x → ∃ b off, A = some ⟨b, off, none⟩ ∧ w.cell? ⟨b, off + j * 5, none⟩ = some (.int .i64 x.m) ∧ w.cell? ⟨b, off + j * 5 + 1, none⟩ = some (.int .i64 x.f) ∧ w.cell? ⟨b, off + j * 5 + 2, none⟩ = some (.int .i64 x.t) ∧ w.cell? ⟨b, off + j * 5 + 3, none⟩ = some (x.l.v) ∧ w.cell? ⟨b, off + j * 5 + 4, none⟩ = some (.bool x.c)
theorem WR.nil (w : World) (A : Option Addr) : WR w A 0 [] := ⟨rfl, fun j x h => by simp at h⟩
theorem WR.below {w w' : World} {A : Option Addr} {n : Nat} {l : List Rec} (h : WR w A n l) (k : Below w.heap.size w w') : WR w' A n l :=
  ⟨h.len, fun j x hx => by
    obtain ⟨b, off, e, h0, h1, h2, h3, h4⟩ := h.at_ j x hx
    exact ⟨b, off, e, (k.cell (World.block_lt_of_cell? _ _ h0)).trans h0, (k.cell (World.block_lt_of_cell? _ _ h1)).trans h1, (k.cell (World.block_lt_of_cell? _ _ h2)).trans h2, (k.cell (World.block_lt_of_cell? _ _ h3)).trans h3, (k.cell (World.block_lt_of_cell? _ _ h4)).trans h4⟩⟩
theorem WR.place {w : World} {A : Option Addr} {n : Nat} {l : List Rec} (h : WR w A n l) {k : Nat} (hk : k < n) : ∃ b off x, A = some ⟨b, off, none⟩ ∧ l[k]? = some x ∧ w.cell? ⟨b, off + k * 5, none⟩ = some (.int .i64 x.m) ∧ w.cell? ⟨b, off + k * 5 + 1, none⟩ = some (.int .i64 x.f) ∧ w.cell? ⟨b, off + k * 5 + 2, none⟩ = some (.int .i64 x.t) ∧ w.cell? ⟨b, off + k * 5 + 3, none⟩ = some (x.l.v) ∧ w.cell? ⟨b, off + k * 5 + 4, none⟩ = some (.bool x.c) := by
  have hl : k < l.length := by rw [h.len]; exact hk
  obtain ⟨b, off, e, h0, h1, h2, h3, h4⟩ := h.at_ k _ (List.getElem?_eq_getElem hl)
  exact ⟨b, off, _, e, List.getElem?_eq_getElem hl, h0, h1, h2, h3, h4⟩
theorem WO.wr {base : Nat} {w : World} {A : Option Addr} {n c : Nat} {l : List Rec} (h : WO base w (.slice A n c) l) : WR w A n l := by
  refine ⟨h.len.1, fun j x hx => ?_⟩
  have hj : j < n := by rw [← h.len.1]; exact (List.getElem?_eq_some_iff.1 hx).1
  obtain ⟨g, b, e, hb, h0, h1, h2, h3, h4⟩ := h.place hj
  rw [hx] at hb
  cases hb
  exact ⟨g, 0, e, by rw [Nat.zero_add]; exact h0, by rw [Nat.zero_add]; exact h1, by rw [Nat.zero_add]; exact h2, by rw [Nat.zero_add]; exact h3, by rw [Nat.zero_add]; exact h4⟩
theorem WR.from {w : World} {A : Option Addr} {n : Nat} {l : List Rec} (h : WR w A n l) (g b : Nat) (hA : A = some ⟨g, b, none⟩) (i : Nat) (hi : i ≤ n) : WR w (some ⟨g, b + i * 5, none⟩) (n - i) (l.drop i) := by
  refine ⟨by rw [List.length_drop, h.len], fun j x hx => ?_⟩
  rw [List.getElem?_drop] at hx
  obtain ⟨b', off, e, h0, h1, h2, h3, h4⟩ := h.at_ _ x hx
  rw [hA] at e
  cases e
  exact ⟨_, _, rfl, by rw [show b + i * 5 + j * 5 = b + (i + j) * 5 by omega]; exact h0, by rw [show b + i * 5 + j * 5 + 1 = b + (i + j) * 5 + 1 by omega]; exact h1, by rw [show b + i * 5 + j * 5 + 2 = b + (i + j) * 5 + 2 by omega]; exact h2, by rw [show b + i * 5 + j * 5 + 3 = b + (i + j) * 5 + 3 by omega]; exact h3, by rw [show b + i * 5 + j * 5 + 4 = b + (i + j) * 5 + 4 by omega]; exact h4⟩
theorem WR.to {w : World} {A : Option Addr} {n : Nat} {l : List Rec} (h : WR w A n l) (i : Nat) (hi : i ≤ n) : WR w A i (l.take i) := by
  refine ⟨by rw [List.length_take, h.len]; omega, fun j x hx => ?_⟩
  rw [List.getElem?_take] at hx
  split at hx
  · exact h.at_ j x hx
  · cases hx
theorem WR.cells_get {w : World} {b off n : Nat} {l : List Rec} (h : WR w (some ⟨b, off, none⟩) n l) (j : Nat) (u : Value) (hu : (l.flatMap Rec.cs)[j]? = some u) : w.cell? ((⟨b, off, none⟩ : Addr).add j) = some u := by
  have hj : j < l.length * 5 := by
    have := (List.getElem?_eq_some_iff.1 hu).1
    rw [WO_len] at this
    exact this
  obtain ⟨q, r, hq, hr⟩ : ∃ q r, j = q * 5 + r ∧ r < 5 := ⟨j / 5, j % 5, by omega, Nat.mod_lt _ (by omega)⟩
  have hql : q < l.length := by omega
  obtain ⟨x, hx⟩ : ∃ x, l[q]? = some x := ⟨_, List.getElem?_eq_getElem hql⟩
  obtain ⟨b', off', e, h0, h1, h2, h3, h4⟩ := h.at_ q x hx
  cases e
  subst hq
  rw [Addr.add_lit]
  match r, hr with
  | 0, _ =>
    rw [WO_get l q x 0 (.int .i64 x.m) hx rfl] at hu
    cases hu
    exact (by rw [show off + (q * 5 + 0) = off + q * 5 by omega]; exact h0)
  | 1, _ =>
    rw [WO_get l q x 1 (.int .i64 x.f) hx rfl] at hu
    cases hu
    exact (by rw [show off + (q * 5 + 1) = off + q * 5 + 1 by omega]; exact h1)
  | 2, _ =>
    rw [WO_get l q x 2 (.int .i64 x.t) hx rfl] at hu
    cases hu
    exact (by rw [show off + (q * 5 + 2) = off + q * 5 + 2 by omega]; exact h2)
  | 3, _ =>
    rw [WO_get l q x 3 (x.l.v) hx rfl] at hu
    cases hu
    exact (by rw [show off + (q * 5 + 3) = off + q * 5 + 3 by omega]; exact h3)
  | 4, _ =>
    rw [WO_get l q x 4 (.bool x.c) hx rfl] at hu
    cases hu
    exact (by rw [show off + (q * 5 + 4) = off + q * 5 + 4 by omega]; exact h4)
theorem run_appWOn (w : World) (base : Nat) (ty : TypeId) (v : Value) (l : List Rec) (hown : WO base w v l) (A : Option Addr) (m c : Nat) (news : List Rec) (hr : WR w A m news) (hA : A = none ∨ ∃ b off, A = some ⟨b, off, none⟩)
    (hn : (l.length + m) * 56 ≤ 140737488355328) (hbase : base ≤ w.heap.size) :
    ∃ v' w', (Builtin.append_ #[26, 26] ty #[v, .slice A m c]).run Tryz.prog w = .ok v' w' ∧ WO base w' v' (l ++ news) ∧ Keep (fun k => v.ownBlock = some k) w w' ∧ (v'.ownBlock = v.ownBlock ∨ v'.ownBlock = some w.heap.size) := by
  obtain ⟨i, hi, hz, hs, hb⟩ := info_parts WO_info
  rcases hA with rfl | ⟨b, off, rfl⟩
  · have hm : news = [] := by
      cases news with
      | nil => rfl
      | cons x t =>
        obtain ⟨_, _, e, _⟩ := hr.at_ 0 x rfl
        cases e
    subst hm
    have hm0 : m = 0 := hr.len.symm
    subst hm0
    refine ⟨v, w, ?_, by rw [List.append_nil]; exact hown, Keep.refl _ _, .inl rfl⟩
    rcases hown.2 with ⟨rfl, hn0⟩ | ⟨g, cap, cur, rfl, _, _, hnc, _⟩
    · simp [Builtin.append_, run_underlying Tryz.underlying26, sizeOf, typeInfo, hi, Builtin.lenOf, Builtin.firstCells]
    · simp [Builtin.append_, run_underlying Tryz.underlying26, sizeOf, typeInfo, hi, Builtin.lenOf, Builtin.firstCells, hnc, storeCells]
  · obtain ⟨v', w', hrun, h2, h3, _, h5⟩ := run_append_own_at (P := Tryz.prog) w base 26 ty 59 i (.agg #[.int .i64 0, .int .i64 0, .int .i64 0, .slice none 0 0, .bool false]) 5 56 Tryz.underlying26 hi hz hs hb rfl (by decide) v l.length (l.flatMap Rec.cs) hown ⟨b, off, none⟩ m c (news.flatMap Rec.cs)
      (by rw [WO_len, hr.len]) hr.cells_get (fun u hu => by
        obtain ⟨x, _, hx⟩ := List.mem_flatMap.1 hu
        exact x.cs_one u hx) (by simp only [maxLen]; omega) (by omega) hbase
    refine ⟨v', w', hrun, ?_, Keep.of_grown h3, h5⟩
    show w'.ownsRow base 59 5 v' (l ++ news).length ((l ++ news).flatMap Rec.cs)
    rw [List.length_append, List.flatMap_append, hr.len]
    exact h2
section
variable {w : World} {ops : Array Oper} {rest : List Oper} {o : Oper} {a : Act} {Q : Exit → Act → World → Prop}
theorem wpAppWOn (hgd : o.guard = none) (s x : Operand) (ho : o.op = .call { callee := .builtin .append, args := #[s, x], argTypes := #[26, 26] })
    (base : Nat) (v : Value) (l : List Rec) (hs : a.eval s = v) (hown : WO base w v l) (A : Option Addr) (m c : Nat) (hx : a.eval x = .slice A m c) (news : List Rec) (hr : WR w A m news) (hA : A = none ∨ ∃ b off, A = some ⟨b, off, none⟩)
    (hn : (l.length + m) * 56 ≤ 140737488355328) (hbase : base ≤ w.heap.size)
    (h : ∀ v' w', WO base w' v' (l ++ news) → Keep (fun k => v.ownBlock = some k) w w' → (v'.ownBlock = v.ownBlock ∨ v'.ownBlock = some w.heap.size) → wpList Tryz.prog ops Q rest (a.put o.dst v') w') : wpList Tryz.prog ops Q (o :: rest) a w := by
  refine wpList_plain hgd fun K hK => ?_
  obtain ⟨v', w', hrun, h2, h3, h4⟩ := run_appWOn w base o.type v l hown A m c news hr hA hn hbase
  unfold Oper.wp execOp
  simp only [ho, resolve, invoke, builtin, Sem.run_bind, Sem.run_pure, Result.andThen_ok, List.map_toArray, List.map_cons, List.map_nil, hs, hx, hrun]
  exact hK _ _ (h v' w' h2 h3 h4)
end
theorem WO.form0 (w : World) : WO w.heap.size (w.alloc (.cells #[] 59)) (.slice (some ⟨w.heap.size, 0, none⟩) 0 0) [] :=
  ⟨rfl, .inr ⟨w.heap.size, 0, #[], rfl, Nat.le_refl _, heap_alloc_new w _, Nat.le_refl _, by simp [maxLen], rfl, rfl⟩⟩


/-- The document's moves: their block, their rows' slice. -/
structure QV (F : Nat → Prop) (w : World) (q : Nat) (v : Value) (l : List Rec) : Prop where
  pc : Blk w q 28 #[v]
  own : WO 0 w v l
  ne : v.ownBlock ≠ some q
  fp : F q
  fv : ∀ g, v.ownBlock = some g → F g
def QK (F : Nat → Prop) (w : World) (q : Nat) (l : List Rec) : Prop := ∃ v, QV F w q v l
section
variable {F G : Nat → Prop} {w w' : World} {p : Nat} {v : Value} {l : List Rec}
theorem QV.kept {S : Nat → Prop} (h : QV F w p v l) (k : Keep S w w') (hs : ∀ g, F g → ¬ S g) : QV F w' p v l :=
  ⟨h.pc.kept k (hs p h.fp), h.own.kept k fun g hg => hs g (h.fv g hg), h.ne, h.fp, h.fv⟩
theorem QV.lt (h : QV F w p v l) : p < w.heap.size ∧ ∀ g, v.ownBlock = some g → g < w.heap.size := ⟨h.pc.lt, fun g hg => (h.own.lt g hg).2⟩
theorem QV.below (h : QV F w p v l) (k : Below w.heap.size w w') : QV F w' p v l :=
  ⟨h.pc.kept (Keep.of_below k) (Nat.not_le.2 h.lt.1), h.own.below k, h.ne, h.fp, h.fv⟩
theorem QV.alloc (h : QV F w p v l) (ob : Obj) : QV F (w.alloc ob) p v l := h.below ((Below.refl _ w).alloc (Nat.le_refl _) ob)
theorem QV.drew (h : QV F w p v l) : QV F w.drew p v l := ⟨h.pc, h.own, h.ne, h.fp, h.fv⟩
theorem QV.mono (h : QV F w p v l) (hF : ∀ k, k < w.heap.size → F k → G k) : QV G w p v l := ⟨h.pc, h.own, h.ne, hF p h.lt.1 h.fp, fun g hg => hF g (h.lt.2 g hg) (h.fv g hg)⟩
theorem QV.field (h : QV F w p v l) : w.cell? ⟨p, 0, none⟩ = some v := by
  have h0 := h.pc.cell 0
  simp at h0
  exact h0
theorem QK.kept {S : Nat → Prop} (h : QK F w p l) (k : Keep S w w') (hs : ∀ g, F g → ¬ S g) : QK F w' p l := h.imp fun _ h => h.kept k hs
theorem QK.below (h : QK F w p l) (k : Below w.heap.size w w') : QK F w' p l := h.imp fun _ h => h.below k
theorem QK.alloc (h : QK F w p l) (ob : Obj) : QK F (w.alloc ob) p l := h.imp fun _ h => h.alloc ob
theorem QK.drew (h : QK F w p l) : QK F w.drew p l := h.imp fun _ h => h.drew
theorem QK.mono (h : QK F w p l) (hF : ∀ k, k < w.heap.size → F k → G k) : QK G w p l := h.imp fun _ h => h.mono hF
theorem QK.lt (h : QK F w p l) : p < w.heap.size := by obtain ⟨v, h⟩ := h; exact h.lt.1
end
/-- A slice of rows that is new becomes the moves'. -/
theorem QV.given {F : Nat → Prop} {w W : World} {p : Nat} {A5 : Option Addr} {M c5 : Nat} {l5 : List Rec} (hfp : F p) (hb : Below w.heap.size w W) (hO : WO w.heap.size W (.slice A5 M c5) l5) (hp : p < w.heap.size) {W2 : World} (hpc : Blk W2 p 28 #[.slice A5 M c5]) (k : Keep (fun k => k = p) W W2) :
    QK (fun k => F k ∨ w.heap.size ≤ k) W2 p l5 ∧ Keep F w W2 := by
  have hne : (Value.slice A5 M c5).ownBlock ≠ some p := fun e => by have := (hO.lt p e).1; omega
  exact ⟨⟨_, hpc, (hO.mono (Nat.zero_le _)).kept k (fun g hg e => hne (by rw [hg, e])), hne, .inl hfp, fun g hg => .inr (hO.lt g hg).1⟩,
    ((Keep.of_below hb).mono fun k h1 h2 => by omega).trans k (fun i hi e => by rw [e]; exact hfp)⟩
/-- A move's place. -/
def idxR (l : List Rec) (k : Int) : Nat := l.findIdx fun x => decide (x.m = k)
def placeR (l : List Rec) (k : Int) : Int := if idxR l k < l.length then (idxR l k : Int) else -1
theorem idxR_found {l : List Rec} {k : Int} {j : Nat} {x : Rec} (h : j ≤ idxR l k) (hx : l[j]? = some x) (he : x.m = k) : placeR l k = (j : Int) := by
  obtain ⟨hj, hxe⟩ := List.getElem?_eq_some_iff.1 hx
  have h2 : idxR l k ≤ j := by
    rcases Nat.lt_or_ge j (idxR l k) with hlt | hge
    · have := List.not_of_lt_findIdx hlt
      rw [hxe] at this
      simp [he] at this
    · exact hge
  have e : idxR l k = j := by omega
  unfold placeR
  rw [e, if_pos hj]
theorem idxR_step {l : List Rec} {k : Int} {j : Nat} {x : Rec} (h : j ≤ idxR l k) (hx : l[j]? = some x) (he : x.m ≠ k) : j + 1 ≤ idxR l k := by
  obtain ⟨hj, hxe⟩ := List.getElem?_eq_some_iff.1 hx
  rcases Nat.lt_or_ge j (idxR l k) with hlt | hge
  · exact hlt
  · have e : idxR l k = j := by omega
    have h3 : idxR l k < l.length := by omega
    have := @List.findIdx_getElem Rec (fun x => decide (x.m = k)) l h3
    exfalso
    apply he
    have h4 : decide ((l[idxR l k]'h3).m = k) = true := this
    have h5 : l[idxR l k]'h3 = x := by
      rw [← hxe]
      congr 1
    rw [h5] at h4
    exact of_decide_eq_true h4
theorem idxR_end {l : List Rec} {k : Int} (h : l.length ≤ idxR l k) : placeR l k = -1 := by
  unfold placeR
  rw [if_neg (by omega)]
section
variable {F : Nat → Prop} {w : World} {p : Nat} {l : List Rec}
set_option maxRecDepth 100000 in
set_option maxHeartbeats 800000 in
theorem rfind_any (k : Int) (h : QK F w p l) (hl : l.length ≤ 1048576) : Calls Tryz.prog 29 #[.pointer (some ⟨p, 0, none⟩), .int .i64 k] w fun e w' => e = .returned (.int .i64 (placeR l k)) ∧ w' = w := by
  obtain ⟨v, h⟩ := h
  obtain ⟨A, c, rfl, _⟩ := h.own.form
  obtain ⟨N, hN⟩ : ∃ N, l.length = N := ⟨_, rfl⟩
  rw [hN] at h hl
  have h0 := h.field
  go_enter Tryz.func29, Tryz.ntmps29
  go_wp2
  go_loopw [5] (fun i wr => ∃ j : Nat, i = .int .i64 (j : Int) ∧ j ≤ N ∧ wr = w ∧ Hid (j ≤ idxR l k)) (fun i _ => N - (intOf i).toNat)
  case atStart => exact ⟨0, by go_num, by omega, by first | rfl | trivial, Lib.hid (Nat.zero_le _)⟩
  case round =>
    obtain ⟨j, rfl, hj, rfl, hf⟩ := hrel
    by_cases hlt : j < N
    · have hlz : (j : Int) < (N : Int) := by omega
      have hj0 : (0 : Int) ≤ (j : Int) := by omega
      obtain ⟨g, x, rfl, hx, c0, c1, c2, c3, c4⟩ := h.own.place hlt
      by_cases hk : x.m = k
      · have he : (x.m == k) = true := by simp [hk]
        have HF := Lib.hid (idxR_found hf.out hx hk)
        clear hk hx hf
        go_wp2
        go_ret
        exact ⟨by rw [show placeR l k = (j : Int) from HF.out]; rfl, rfl⟩
      · have he : (x.m == k) = false := beq_eq_false_iff_ne.2 hk
        have HF := Lib.hid (idxR_step hf.out hx hk)
        clear hk hx hf
        go_wp2
        go_roundw
        case measure => simp [intOf]; omega
        case rel => exact ⟨j + 1, by go_num, by omega, by first | rfl | trivial, HF⟩
    · have hlz : ¬ (j : Int) < (N : Int) := by omega
      have HF := Lib.hid (idxR_end (show l.length ≤ idxR l k from by have := hf.out; omega))
      clear hf
      go_wp2
      go_ret
      exact ⟨by rw [show placeR l k = -1 from HF.out]; rfl, rfl⟩
end
end Go.Proofs.YtjjghhhhalendaaGreat
