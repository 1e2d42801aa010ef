/- The document's end: its items in memory. No condition. -/
import Derived.Test.YtfgceplafjbmhaaLkI
import Derived.Test.YtfgceplafjbmhaaWaitC
namespace Go.Proofs.Ytfgceplafjbmhaa
open Go.RowKit
set_option linter.unusedVariables false
set_option linter.unusedSimpArgs false

/-- A slice of bytes, and what it reads as. -/
structure Sl where
  A : Option Addr
  n : Nat
  c : Nat
  t : List UInt8
def Sl.v (s : Sl) : Value := .slice s.A s.n s.c
/-- An item. -/
structure Iv where
  seq : Int
  s : Sl
  tries : Int
  due : Int
/-- Its cells. -/
def Iv.cs (r : Iv) : List Value := [.int .i64 r.seq, r.s.v, .int .i64 r.tries, .int .i64 r.due]
theorem Iv.cs_len (r : Iv) : r.cs.length = 4 := rfl
theorem Iv.cs_one (r : Iv) : ∀ u ∈ r.cs, u.oneCell' = true := by
  intro u hu
  simp [Iv.cs] at hu
  rcases hu with rfl | rfl | rfl | rfl <;> rfl
theorem IO_info : (Try.prog.info? 86).map (fun i => (i.zero, i.size, i.bytes)) = some (some (.agg #[.int .i64 0, .slice none 0 0, .int .i64 0, .int .i64 0]), 4, 48) := by kernel_rfl
/-- The value v owns the rows l. -/
def IO (base : Nat) (w : World) (v : Value) (l : List Iv) : Prop := w.ownsRow base 86 4 v l.length (l.flatMap Iv.cs)
theorem IO_len (l : List Iv) : (l.flatMap Iv.cs).length = l.length * 4 := by
  induction l with
  | nil => rfl
  | cons x l ih => rw [List.flatMap_cons, List.length_append, ih, List.length_cons, Iv.cs_len]; omega
theorem IO_get : ∀ (l : List Iv) (j : Nat) (x : Iv) (i : Nat) (c : Value), l[j]? = some x → x.cs[i]? = some c → (l.flatMap Iv.cs)[j * 4 + i]? = some c
  | [], j, x, i, c, h, _ => by simp at h
  | y :: l, 0, x, i, c, h, h' => by
    simp at h
    subst h
    have hi := (List.getElem?_eq_some_iff.1 h').1
    rw [List.flatMap_cons, List.getElem?_append_left (by omega), show 0 * 4 + i = i by omega]
    exact h'
  | y :: l, j + 1, x, i, c, h, h' => by
    have := IO_get l j x i c (by simpa using h) h'
    rw [List.flatMap_cons, show (j + 1) * 4 + i = y.cs.length + (j * 4 + i) by rw [Iv.cs_len]; omega, List.getElem?_append_right (by omega)]
    simpa using this
section
variable {base : Nat} {w w' : World} {v : Value} {l : List Iv}
theorem IO.nil (base : Nat) (w : World) : IO base w (.slice none 0 0) [] := World.ownsRow_nil _ _ _ _
theorem IO.form (h : IO base w v l) : ∃ A cap, v = .slice A l.length cap ∧ l.length ≤ cap ∧ cap ≤ maxLen ∧ (∀ ad, A = some ad → ∃ b, ad = ⟨b, 0, none⟩ ∧ base ≤ b ∧ b < w.heap.size ∧ v.ownBlock = some b) ∧ (A = none → l = [] ∧ cap = 0) ∧ ∀ (j : Nat) (x : Iv), l[j]? = some x → ∃ b, A = some ⟨b, 0, none⟩ ∧ ∀ i c, x.cs[i]? = some c → w.cell? ⟨b, j * 4 + i, none⟩ = some c := by
  rcases h.2 with ⟨rfl, h0⟩ | ⟨g, cap, cur, rfl, hb, hh, hl, hm, hs, ht⟩
  · have : l = [] := List.eq_nil_of_length_eq_zero h0
    subst this
    exact ⟨none, 0, rfl, Nat.le_refl _, by simp [maxLen], fun ad h => (by cases h), fun _ => ⟨rfl, rfl⟩, fun j x hx => by simp at hx⟩
  · refine ⟨_, cap, rfl, hl, hm, fun ad h => ?_, fun h => (by cases h), fun j x hx => ⟨g, rfl, fun i c hc => ?_⟩⟩
    · cases h
      exact ⟨g, rfl, hb, (Array.getElem?_eq_some_iff.1 hh).1, rfl⟩
    · have hj := World.ownsRow.cells h (g := g) rfl _ _ (IO_get l j x i c hx hc)
      rw [Addr.add_lit, Nat.zero_add] at hj
      exact hj
theorem IO.kept {S : Nat → Prop} (h : IO base w v l) (k : Keep S w w') (hs : ∀ g, v.ownBlock = some g → ¬ S g) : IO base w' v l := by
  refine ⟨h.1, ?_⟩
  rcases h.2 with hn | ⟨g, cap, cur, rfl, hb, hgg, rest⟩
  · exact .inl hn
  · refine .inr ⟨g, cap, cur, rfl, hb, ?_, rest⟩
    rw [k.block g (Array.getElem?_eq_some_iff.1 hgg).1 (hs g rfl)]
    exact hgg
theorem IO.lt (h : IO base w v l) : ∀ k, v.ownBlock = some k → base ≤ k ∧ k < w.heap.size := World.ownsRow.lt h
theorem IO.alloc (h : IO base w v l) (o : Obj) : IO base (w.alloc o) v l := h.kept ((Keep.refl (fun _ => False) w).alloc o) fun _ _ => id
theorem IO.drew (h : IO base w v l) : IO base w.drew v l := h
theorem IO.below (h : IO base w v l) (k : Below w.heap.size w w') : IO base w' v l := h.kept (Keep.of_below k) fun g hg => by have := (h.lt g hg).2; omega
theorem IO.mono {b' : Nat} (h : IO base w v l) (hb : b' ≤ base) : IO b' w v l := by
  refine ⟨h.1, ?_⟩
  rcases h.2 with hn | ⟨g, cap, cur, hv, hbb, rest⟩
  · exact .inl hn
  · exact .inr ⟨g, cap, cur, hv, by omega, rest⟩
theorem IO.blk (h : IO base w v l) : ∀ g, v.ownBlock = some g → ∃ o : Obj, w.heap[g]? = some o ∧ o.isCells = true := by
  intro g hg
  rcases h.2 with ⟨rfl, _⟩ | ⟨g', cap, cur, rfl, _, hgg, _⟩
  · simp [Value.ownBlock] at hg
  · simp [Value.ownBlock] at hg
    subst hg
    exact ⟨_, hgg, rfl⟩
end
theorem IO.fz {base : Nat} {w : World} {v : Value} {l : List Iv} (h : IO base w v l) {g : Nat} (hv : v.ownBlock = some g) (i : Nat) : w.frozen? ⟨g, i, none⟩ = false := by
  rcases h.2 with ⟨rfl, _⟩ | ⟨g', cap, cur, rfl, _, hgg, _⟩
  · simp [Value.ownBlock] at hv
  · simp [Value.ownBlock] at hv
    subst hv
    simp [World.frozen?, hgg]
theorem IO_set : ∀ (l : List Iv) (j : Nat) (x x' : Iv) (i : Nat) (c : Value), l[j]? = some x → x'.cs = x.cs.set i c → i < 4 → (l.flatMap Iv.cs).set (j * 4 + i) c = (l.set j x').flatMap Iv.cs
  | [], j, x, x', i, c, h, _, _ => by simp at h
  | y :: l, 0, x, x', i, c, h, h', hi => by
    simp at h
    subst h
    rw [List.flatMap_cons, List.set_append_left _ _ (by rw [Iv.cs_len]; omega), List.set_cons_zero, List.flatMap_cons, h', show 0 * 4 + i = i by omega]
  | y :: l, j + 1, x, x', i, c, h, h', hi => by
    have := IO_set l j x x' i c (by simpa using h) h' hi
    rw [List.flatMap_cons, show (j + 1) * 4 + i = y.cs.length + (j * 4 + i) by rw [Iv.cs_len]; omega, List.set_append_right _ _ (by omega), List.set_cons_succ, List.flatMap_cons, ← this]
    simp
theorem IO.put {base : Nat} {w : World} {g n cap : Nat} {l : List Iv} (h : IO base w (.slice (some ⟨g, 0, none⟩) n cap) l) (hn : l.length = n) (j i : Nat) (x x' : Iv) (c : Value) (hx : l[j]? = some x) (hx' : x'.cs = x.cs.set i c) (hi : i < 4) :
    IO base (w.setCell ⟨g, j * 4 + i, none⟩ c) (.slice (some ⟨g, 0, none⟩) n cap) (l.set j x') := by
  subst hn
  have := (World.ownsRow.stored h (j * 4 + i) c).1
  show (w.setCell ⟨g, j * 4 + i, none⟩ c).ownsRow base 86 4 _ (l.set j x').length ((l.set j x').flatMap Iv.cs)
  rw [← IO_set l j x x' i c hx hx' hi, List.length_set]
  exact this
theorem run_appIO (w : World) (base : Nat) (ty : TypeId) (v : Value) (l : List Iv) (hown : IO base w v l) (ad : Addr) (x : Iv) (hc : ∀ j u, x.cs[j]? = some u → w.cell? (ad.add j) = some u)
    (hn : (l.length + 1) * 48 ≤ 140737488355328) (hbase : base ≤ w.heap.size) :
    ∃ v' w', (Builtin.append_ #[26, 26] ty #[v, .slice (some ad) 1 1]).run Try.prog w = .ok v' w' ∧ IO base w' v' (l ++ [x]) ∧ Keep (fun k => v.ownBlock = some k) w w' ∧ (v'.ownBlock = v.ownBlock ∨ v'.ownBlock = some w.heap.size) := by
  obtain ⟨i, hi, hz, hs, hb⟩ := info_parts IO_info
  obtain ⟨v', w', hrun, h2, h3, _, h5⟩ := run_append_own_at (P := Try.prog) w base 26 ty 86 i (.agg #[.int .i64 0, .slice none 0 0, .int .i64 0, .int .i64 0]) 4 48 Try.underlying26 hi hz hs hb rfl (by decide) v l.length (l.flatMap Iv.cs) hown ad 1 1 x.cs
    (by rw [Iv.cs_len]) hc x.cs_one (by simp only [maxLen]; omega) (by omega) hbase
  refine ⟨v', w', hrun, ?_, Keep.of_grown h3, h5⟩
  show w'.ownsRow base 86 4 v' (l ++ [x]).length ((l ++ [x]).flatMap Iv.cs)
  rw [List.length_append, List.flatMap_append]
  simpa using h2
section
variable {w : World} {ops : Array Oper} {rest : List Oper} {o : Oper} {a : Act} {Q : Exit → Act → World → Prop}
theorem wpAppIO (hgd : o.guard = none) (s x : Operand) (ho : o.op = .call { callee := .builtin .append, args := #[s, x], argTypes := #[26, 26] })
    (base : Nat) (v : Value) (l : List Iv) (hs : a.eval s = v) (hown : IO base w v l) (ad : Addr) (hx : a.eval x = .slice (some ad) 1 1) (y : Iv) (hc : ∀ j u, y.cs[j]? = some u → w.cell? (ad.add j) = some u)
    (hn : (l.length + 1) * 48 ≤ 140737488355328) (hbase : base ≤ w.heap.size)
    (h : ∀ v' w', IO base w' v' (l ++ [y]) → Keep (fun k => v.ownBlock = some k) w w' → (v'.ownBlock = v.ownBlock ∨ v'.ownBlock = some w.heap.size) → wpList Try.prog ops Q rest (a.put o.dst v') w') : wpList Try.prog ops Q (o :: rest) a w := by
  refine wpList_plain hgd fun K hK => ?_
  obtain ⟨v', w', hrun, h2, h3, h4⟩ := run_appIO w base o.type v l hown ad y hc hn hbase
  unfold Oper.wp execOp
  simp only [ho, resolve, invoke, builtin, Sem.run_bind, Sem.run_pure, Result.andThen_ok, List.map_toArray, List.map_cons, List.map_nil, hs, hx, hrun]
  exact hK _ _ (h v' w' h2 h3 h4)
end

theorem IO.place {base : Nat} {w : World} {A : Option Addr} {n c : Nat} {l : List Iv} (h : IO base w (.slice A n c) l) {k : Nat} (hk : k < n) : ∃ g b, A = some ⟨g, 0, none⟩ ∧ l[k]? = some b ∧ w.cell? ⟨g, k * 4, none⟩ = some (.int .i64 b.seq) ∧ w.cell? ⟨g, k * 4 + 1, none⟩ = some (b.s.v) ∧ w.cell? ⟨g, k * 4 + 2, none⟩ = some (.int .i64 b.tries) ∧ w.cell? ⟨g, k * 4 + 3, none⟩ = some (.int .i64 b.due) := by
  obtain ⟨B, cap, e, _, _, _, _, h3⟩ := h.form
  injection e with e1 e2 e3
  have hl : k < l.length := by omega
  obtain ⟨g, rfl, hc⟩ := h3 k _ (List.getElem?_eq_getElem hl)
  exact ⟨g, l[k], e1, List.getElem?_eq_getElem hl, hc 0 _ rfl, hc 1 _ rfl, hc 2 _ rfl, hc 3 _ rfl⟩
theorem IO.len {base : Nat} {w : World} {A : Option Addr} {n c : Nat} {l : List Iv} (h : IO base w (.slice A n c) l) : l.length = n ∧ n ≤ c := by
  obtain ⟨B, cap, e, h1, _⟩ := h.form
  injection e with e1 e2 e3
  omega
theorem IO.puts {base : Nat} {w : World} {g n c : Nat} {l : List Iv} (h : IO base w (.slice (some ⟨g, 0, none⟩) n c) l) (i : Nat) (hi : i < n) (b : Iv) :
    IO base ((((w.setCell ⟨g, i * 4, none⟩ (.int .i64 b.seq)).setCell ⟨g, i * 4 + 1, none⟩ (b.s.v)).setCell ⟨g, i * 4 + 2, none⟩ (.int .i64 b.tries)).setCell ⟨g, i * 4 + 3, none⟩ (.int .i64 b.due)) (.slice (some ⟨g, 0, none⟩) n c) (l.set i b) ∧
    Keep (fun k => k = g) w ((((w.setCell ⟨g, i * 4, none⟩ (.int .i64 b.seq)).setCell ⟨g, i * 4 + 1, none⟩ (b.s.v)).setCell ⟨g, i * 4 + 2, none⟩ (.int .i64 b.tries)).setCell ⟨g, i * 4 + 3, none⟩ (.int .i64 b.due)) := by
  have hn := h.len.1
  have hx : l[i]? = some (l[i]'(by omega)) := List.getElem?_eq_getElem (by omega)
  obtain ⟨x, hx⟩ : ∃ x, l[i]? = some x := ⟨_, hx⟩
  have s (l' : List Iv) (y : Iv) (hl : i < l'.length) : (l'.set i y)[i]? = some y := by rw [List.getElem?_set_self hl]
  have h0 := h.put hn i 0 x ⟨b.seq, x.s, x.tries, x.due⟩ (.int .i64 b.seq) hx rfl (by omega)
  have h1 := h0.put (by simpa using hn) i 1 ⟨b.seq, x.s, x.tries, x.due⟩ ⟨b.seq, b.s, x.tries, x.due⟩ (b.s.v) (s _ _ (by omega)) rfl (by omega)
  have h2 := h1.put (by simpa using hn) i 2 ⟨b.seq, b.s, x.tries, x.due⟩ ⟨b.seq, b.s, b.tries, x.due⟩ (.int .i64 b.tries) (s _ _ (by simp; omega)) rfl (by omega)
  have h3 := h2.put (by simpa using hn) i 3 ⟨b.seq, b.s, b.tries, x.due⟩ b (.int .i64 b.due) (s _ _ (by simp; omega)) rfl (by omega)
  simp only [List.set_set, Nat.add_zero] at h3
  exact ⟨h3, (((((Keep.refl (fun k => k = g) w).setCell (p := ⟨g, i * 4, none⟩) (fun _ => rfl) _).setCell (p := ⟨g, i * 4 + 1, none⟩) (fun _ => rfl) _).setCell (p := ⟨g, i * 4 + 2, none⟩) (fun _ => rfl) _).setCell (p := ⟨g, i * 4 + 3, none⟩) (fun _ => rfl) _)⟩
/-- The first ones of a row. -/
theorem IO.first {base : Nat} {w : World} {g n c : Nat} {l : List Iv} (h : IO base w (.slice (some ⟨g, 0, none⟩) n c) l) (i : Nat) (hi : i ≤ n) : IO base w (.slice (some ⟨g, 0, none⟩) i c) (l.take i) := by
  have hn := h.len.1
  rcases h.2 with ⟨h0, _⟩ | ⟨g', cap, cur, e, hb, hg, hl, hm, hs, ht⟩
  · cases h0
  · injection e with e1 e2 e3
    cases e1
    subst e3
    have hlen : (l.take i).length = i := by rw [List.length_take]; omega
    refine ⟨by rw [IO_len, hlen], .inr ⟨g, c, cur, by rw [hlen], hb, hg, by omega, hm, hs, ?_⟩⟩
    rw [hlen]
    have h1 : (cur.toList.take (l.length * 4)).take (i * 4) = (l.flatMap Iv.cs).take (i * 4) := by rw [ht]
    rw [List.take_take, show min (i * 4) (l.length * 4) = i * 4 by omega] at h1
    rw [h1]
    have h2 : l.flatMap Iv.cs = (l.take i).flatMap Iv.cs ++ (l.drop i).flatMap Iv.cs := by rw [← List.flatMap_append, List.take_append_drop]
    rw [h2, List.take_append_of_le_length (by rw [IO_len, hlen]; omega), List.take_of_length_le (by rw [IO_len, hlen]; omega)]
theorem IO_under : Try.prog.underlying 26 = some (.slice 86) := Try.underlying26
theorem IO_zero : ∀ w, (zeroValue 86).run Try.prog w = .ok (.agg #[.int .i64 0, .slice none 0 0, .int .i64 0, .int .i64 0]) w := fun w => by kernel_rfl
theorem run_clearIO (w : World) {base g n c : Nat} {l : List Iv} (h : IO base w (.slice (some ⟨g, 0, none⟩) n c) l) (i m cc : Nat) (hi : i < n) (hm : m = n - i) (ty : TypeId) :
    ∃ w', (Builtin.clear_ #[26] ty #[.slice (some ⟨g, i * 4, none⟩) m cc]).run Try.prog w = .ok (.tuple #[]) w' ∧ IO base w' (.slice (some ⟨g, 0, none⟩) i c) (l.take i) ∧ Keep (fun k => k = g) w w' := by
  have hn := h.len
  obtain ⟨q, rfl⟩ : ∃ q, m = q + 1 := ⟨m - 1, by omega⟩
  have hf := h.first i (by omega)
  rcases h.2 with ⟨h0, _⟩ | ⟨g', cap, cur, e, hb, hg, hl, hmx, hs, ht⟩
  · cases h0
  · injection e with e1 e2 e3
    cases e1
    subst e3
    have hone : ∀ v ∈ (Builtin.zeroCells #[Value.int .i64 0, .slice none 0 0, .int .i64 0, .int .i64 0] (q + 1)).toList, v.oneCell' = true := by
      intro v hv
      simp [Builtin.zeroCells] at hv
      obtain ⟨a, _, rfl⟩ := hv
      have : a % 4 = 0 ∨ a % 4 = 1 ∨ a % 4 = 2 ∨ a % 4 = 3 := by omega
      rcases this with e | e | e | e <;> rw [e] <;> rfl
    have hlen : (Builtin.zeroCells #[Value.int .i64 0, .slice none 0 0, .int .i64 0, .int .i64 0] (q + 1)).toList.length = (q + 1) * 4 := by simp [Builtin.zeroCells]
    have hst := run_storeCells_at Try.prog g (i * 4) 86 _ 0 cur w hg (by rw [hlen, hs]; omega) hone
    rw [hlen] at hst
    obtain ⟨Z, hZ⟩ : ∃ Z, (Builtin.zeroCells #[Value.int .i64 0, .slice none 0 0, .int .i64 0, .int .i64 0] (q + 1)).toList = Z := ⟨_, rfl⟩
    rw [hZ] at hlen hst
    refine ⟨w.setRow g (cur.toList.take (i * 4 + 0) ++ Z ++ cur.toList.drop (i * 4 + 0 + (q + 1) * 4)).toArray, ?_, ?_, ?_⟩
    · simp only [Builtin.clear_, Sem.run_bind, run_underlying IO_under, Result.andThen_ok, IO_zero, Value.cells, hZ, hst]
      simp [hst, hZ]
    · refine ⟨hf.1, ?_⟩
      rcases hf.2 with ⟨h0, _⟩ | ⟨g', cap, cur', e, hb', hg', hl', hm', hs', ht'⟩
      · cases h0
      · injection e with e1 e2 e3
        cases e1
        subst e3
        rw [hg] at hg'
        injection hg' with hg'
        injection hg' with hg' _ _
        subst hg'
        refine .inr ⟨g, c, _, by rw [← e2], hb', setRow_heap w g cur _ 86 _ hg, hl', hm', ?_, ?_⟩
        · simp [hlen]
          omega
        · have : (l.take i).length = i := by rw [List.length_take]; omega
          rw [this] at ht' ⊢
          rw [← ht']
          simp only [Nat.add_zero]
          rw [List.append_assoc, List.take_append_of_le_length (by simp; omega), List.take_take, Nat.min_self]
    · have hgr : w.grownBy (w.setRow g (cur.toList.take (i * 4 + 0) ++ Z ++ cur.toList.drop (i * 4 + 0 + (q + 1) * 4)).toArray) (some g) := by
        refine ⟨rfl, rfl, rfl, by simp [World.setRow], fun k hk hne => ?_⟩
        have hne' : ¬ g = k := fun e => hne (by rw [e])
        simp only [World.setRow, Array.getElem?_modify, if_neg hne']
      exact (Keep.of_grown hgr).mono fun k _ e => (Option.some.inj e).symm
theorem runIO_from (w : World) (g n c i : Nat) (k : Int) (hk : k = (i : Int)) (hi : i < n) (hc : n ≤ c) :
    (Instr.slice 26 (.slice (some ⟨g, 0, none⟩) n c) (some (.int .i64 k)) none none).run Try.prog w = .ok (.slice (some ⟨g, i * 4, none⟩) (n - i) (c - i)) w := by
  subst hk
  have he : Try.prog.elem 26 = 86 := by kernel_rfl
  rw [run_slice_l w 26 _ n c (by rw [he]; exact IO_under) .i64 (i : Int) (by omega) (by omega), he, Try.sizeOf86]
  simp [Result.andThen, sliced]
  rw [if_neg (by omega)]
  simp [Addr.add]
  intro h
  exact h.symm
theorem runIO_to (w : World) (A : Option Addr) (n c i : Nat) (k : Int) (hk : k = (i : Int)) (hi : i ≤ n) (hc : n ≤ c) :
    (Instr.slice 26 (.slice A n c) none (some (.int .i64 k)) none).run Try.prog w = .ok (.slice A i c) w := by
  subst hk
  have he : Try.prog.elem 26 = 86 := by kernel_rfl
  rw [run_slice_h w 26 A n c (by rw [he]; exact IO_under) .i64 (i : Int) (by omega) (by omega), he, Try.sizeOf86]
  simp [Result.andThen, sliced]
  intro _
  cases A with
  | none => rfl
  | some a => cases a; rfl


/-- The slice value with address A and n elements reads as the rows l. -/
structure IR (w : World) (A : Option Addr) (n : Nat) (l : List Iv) : Prop where
  len : l.length = n
  at_ : ∀ j x, l[j]? = some x → ∃ b off, A = some ⟨b, off, none⟩ ∧ w.cell? ⟨b, off + j * 4, none⟩ = some (.int .i64 x.seq) ∧ w.cell? ⟨b, off + j * 4 + 1, none⟩ = some (x.s.v) ∧ w.cell? ⟨b, off + j * 4 + 2, none⟩ = some (.int .i64 x.tries) ∧ w.cell? ⟨b, off + j * 4 + 3, none⟩ = some (.int .i64 x.due)
theorem IR.nil (w : World) (A : Option Addr) : IR w A 0 [] := ⟨rfl, fun j x h => by simp at h⟩
theorem IR.below {w w' : World} {A : Option Addr} {n : Nat} {l : List Iv} (h : IR w A n l) (k : Below w.heap.size w w') : IR w' A n l :=
  ⟨h.len, fun j x hx => by
    obtain ⟨b, off, e, h0, h1, h2, h3⟩ := h.at_ j x hx
    exact ⟨b, off, e, (k.cell (World.block_lt_of_cell? _ _ h0)).trans h0, (k.cell (World.block_lt_of_cell? _ _ h1)).trans h1, (k.cell (World.block_lt_of_cell? _ _ h2)).trans h2, (k.cell (World.block_lt_of_cell? _ _ h3)).trans h3⟩⟩
theorem IR.place {w : World} {A : Option Addr} {n : Nat} {l : List Iv} (h : IR w A n l) {k : Nat} (hk : k < n) : ∃ b off x, A = some ⟨b, off, none⟩ ∧ l[k]? = some x ∧ w.cell? ⟨b, off + k * 4, none⟩ = some (.int .i64 x.seq) ∧ w.cell? ⟨b, off + k * 4 + 1, none⟩ = some (x.s.v) ∧ w.cell? ⟨b, off + k * 4 + 2, none⟩ = some (.int .i64 x.tries) ∧ w.cell? ⟨b, off + k * 4 + 3, none⟩ = some (.int .i64 x.due) := by
  have hl : k < l.length := by rw [h.len]; exact hk
  obtain ⟨b, off, e, h0, h1, h2, h3⟩ := h.at_ k _ (List.getElem?_eq_getElem hl)
  exact ⟨b, off, _, e, List.getElem?_eq_getElem hl, h0, h1, h2, h3⟩
theorem IO.wr {base : Nat} {w : World} {A : Option Addr} {n c : Nat} {l : List Iv} (h : IO base w (.slice A n c) l) : IR w A n l := by
  refine ⟨h.len.1, fun j x hx => ?_⟩
  have hj : j < n := by rw [← h.len.1]; exact (List.getElem?_eq_some_iff.1 hx).1
  obtain ⟨g, b, e, hb, h0, h1, h2, h3⟩ := h.place hj
  rw [hx] at hb
  cases hb
  exact ⟨g, 0, e, by rw [Nat.zero_add]; exact h0, by rw [Nat.zero_add]; exact h1, by rw [Nat.zero_add]; exact h2, by rw [Nat.zero_add]; exact h3⟩
theorem IR.from {w : World} {A : Option Addr} {n : Nat} {l : List Iv} (h : IR w A n l) (g b : Nat) (hA : A = some ⟨g, b, none⟩) (i : Nat) (hi : i ≤ n) : IR w (some ⟨g, b + i * 4, none⟩) (n - i) (l.drop i) := by
  refine ⟨by rw [List.length_drop, h.len], fun j x hx => ?_⟩
  rw [List.getElem?_drop] at hx
  obtain ⟨b', off, e, h0, h1, h2, h3⟩ := h.at_ _ x hx
  rw [hA] at e
  cases e
  exact ⟨_, _, rfl, by rw [show b + i * 4 + j * 4 = b + (i + j) * 4 by omega]; exact h0, by rw [show b + i * 4 + j * 4 + 1 = b + (i + j) * 4 + 1 by omega]; exact h1, by rw [show b + i * 4 + j * 4 + 2 = b + (i + j) * 4 + 2 by omega]; exact h2, by rw [show b + i * 4 + j * 4 + 3 = b + (i + j) * 4 + 3 by omega]; exact h3⟩
theorem IR.to {w : World} {A : Option Addr} {n : Nat} {l : List Iv} (h : IR w A n l) (i : Nat) (hi : i ≤ n) : IR w A i (l.take i) := by
  refine ⟨by rw [List.length_take, h.len]; omega, fun j x hx => ?_⟩
  rw [List.getElem?_take] at hx
  split at hx
  · exact h.at_ j x hx
  · cases hx
theorem IR.cells_get {w : World} {b off n : Nat} {l : List Iv} (h : IR w (some ⟨b, off, none⟩) n l) (j : Nat) (u : Value) (hu : (l.flatMap Iv.cs)[j]? = some u) : w.cell? ((⟨b, off, none⟩ : Addr).add j) = some u := by
  have hj : j < l.length * 4 := by
    have := (List.getElem?_eq_some_iff.1 hu).1
    rw [IO_len] at this
    exact this
  obtain ⟨q, r, hq, hr⟩ : ∃ q r, j = q * 4 + r ∧ r < 4 := ⟨j / 4, j % 4, by omega, Nat.mod_lt _ (by omega)⟩
  have hql : q < l.length := by omega
  obtain ⟨x, hx⟩ : ∃ x, l[q]? = some x := ⟨_, List.getElem?_eq_getElem hql⟩
  obtain ⟨b', off', e, h0, h1, h2, h3⟩ := h.at_ q x hx
  cases e
  subst hq
  rw [Addr.add_lit]
  match r, hr with
  | 0, _ =>
    rw [IO_get l q x 0 (.int .i64 x.seq) hx rfl] at hu
    cases hu
    exact (by rw [show off + (q * 4 + 0) = off + q * 4 by omega]; exact h0)
  | 1, _ =>
    rw [IO_get l q x 1 (x.s.v) hx rfl] at hu
    cases hu
    exact (by rw [show off + (q * 4 + 1) = off + q * 4 + 1 by omega]; exact h1)
  | 2, _ =>
    rw [IO_get l q x 2 (.int .i64 x.tries) hx rfl] at hu
    cases hu
    exact (by rw [show off + (q * 4 + 2) = off + q * 4 + 2 by omega]; exact h2)
  | 3, _ =>
    rw [IO_get l q x 3 (.int .i64 x.due) hx rfl] at hu
    cases hu
    exact (by rw [show off + (q * 4 + 3) = off + q * 4 + 3 by omega]; exact h3)
theorem run_appIOn (w : World) (base : Nat) (ty : TypeId) (v : Value) (l : List Iv) (hown : IO base w v l) (A : Option Addr) (m c : Nat) (news : List Iv) (hr : IR w A m news) (hA : A = none ∨ ∃ b off, A = some ⟨b, off, none⟩)
    (hn : (l.length + m) * 48 ≤ 140737488355328) (hbase : base ≤ w.heap.size) :
    ∃ v' w', (Builtin.append_ #[26, 26] ty #[v, .slice A m c]).run Try.prog w = .ok v' w' ∧ IO base w' v' (l ++ news) ∧ Keep (fun k => v.ownBlock = some k) w w' ∧ (v'.ownBlock = v.ownBlock ∨ v'.ownBlock = some w.heap.size) := by
  obtain ⟨i, hi, hz, hs, hb⟩ := info_parts IO_info
  rcases hA with rfl | ⟨b, off, rfl⟩
  · have hm : news = [] := by
      cases news with
      | nil => rfl
      | cons x t =>
        obtain ⟨_, _, e, _⟩ := hr.at_ 0 x rfl
        cases e
    subst hm
    have hm0 : m = 0 := hr.len.symm
    subst hm0
    refine ⟨v, w, ?_, by rw [List.append_nil]; exact hown, Keep.refl _ _, .inl rfl⟩
    rcases hown.2 with ⟨rfl, hn0⟩ | ⟨g, cap, cur, rfl, _, _, hnc, _⟩
    · simp [Builtin.append_, run_underlying Try.underlying26, sizeOf, typeInfo, hi, Builtin.lenOf, Builtin.firstCells]
    · simp [Builtin.append_, run_underlying Try.underlying26, sizeOf, typeInfo, hi, Builtin.lenOf, Builtin.firstCells, hnc, storeCells]
  · obtain ⟨v', w', hrun, h2, h3, _, h5⟩ := run_append_own_at (P := Try.prog) w base 26 ty 86 i (.agg #[.int .i64 0, .slice none 0 0, .int .i64 0, .int .i64 0]) 4 48 Try.underlying26 hi hz hs hb rfl (by decide) v l.length (l.flatMap Iv.cs) hown ⟨b, off, none⟩ m c (news.flatMap Iv.cs)
      (by rw [IO_len, hr.len]) hr.cells_get (fun u hu => by
        obtain ⟨x, _, hx⟩ := List.mem_flatMap.1 hu
        exact x.cs_one u hx) (by simp only [maxLen]; omega) (by omega) hbase
    refine ⟨v', w', hrun, ?_, Keep.of_grown h3, h5⟩
    show w'.ownsRow base 86 4 v' (l ++ news).length ((l ++ news).flatMap Iv.cs)
    rw [List.length_append, List.flatMap_append, hr.len]
    exact h2
section
variable {w : World} {ops : Array Oper} {rest : List Oper} {o : Oper} {a : Act} {Q : Exit → Act → World → Prop}
theorem wpAppIOn (hgd : o.guard = none) (s x : Operand) (ho : o.op = .call { callee := .builtin .append, args := #[s, x], argTypes := #[26, 26] })
    (base : Nat) (v : Value) (l : List Iv) (hs : a.eval s = v) (hown : IO base w v l) (A : Option Addr) (m c : Nat) (hx : a.eval x = .slice A m c) (news : List Iv) (hr : IR w A m news) (hA : A = none ∨ ∃ b off, A = some ⟨b, off, none⟩)
    (hn : (l.length + m) * 48 ≤ 140737488355328) (hbase : base ≤ w.heap.size)
    (h : ∀ v' w', IO base w' v' (l ++ news) → Keep (fun k => v.ownBlock = some k) w w' → (v'.ownBlock = v.ownBlock ∨ v'.ownBlock = some w.heap.size) → wpList Try.prog ops Q rest (a.put o.dst v') w') : wpList Try.prog ops Q (o :: rest) a w := by
  refine wpList_plain hgd fun K hK => ?_
  obtain ⟨v', w', hrun, h2, h3, h4⟩ := run_appIOn w base o.type v l hown A m c news hr hA hn hbase
  unfold Oper.wp execOp
  simp only [ho, resolve, invoke, builtin, Sem.run_bind, Sem.run_pure, Result.andThen_ok, List.map_toArray, List.map_cons, List.map_nil, hs, hx, hrun]
  exact hK _ _ (h v' w' h2 h3 h4)
end
theorem IO.form0 (w : World) : IO w.heap.size (w.alloc (.cells #[] 86)) (.slice (some ⟨w.heap.size, 0, none⟩) 0 0) [] :=
  ⟨rfl, .inr ⟨w.heap.size, 0, #[], rfl, Nat.le_refl _, heap_alloc_new w _, Nat.le_refl _, by simp [maxLen], rfl, rfl⟩⟩


def Iv.b (x : Iv) : Bd := ⟨x.seq, x.s.t, x.tries, x.due⟩
/-- An item's body lies in F, and not in block q. -/
def SB (F : Nat → Prop) (q : Nat) (w : World) (s : Sl) : Prop := RB w s.A s.n s.t ∧ s.n ≤ s.c ∧ s.c ≤ maxLen ∧ (0 < s.n → ∀ ad, s.A = some ad → ad.block ≠ q ∧ F ad.block)
/-- The document's end. -/
structure QE (F : Nat → Prop) (w : World) (q : Nat) (v : Value) (xs : List Iv) (sent mark : Int) : Prop where
  pc : Blk w q 28 #[v, .int .i64 sent, .int .i64 mark]
  own : IO 0 w v xs
  ne : v.ownBlock ≠ some q
  fp : F q
  fv : ∀ g, v.ownBlock = some g → F g
  bod : ∀ x ∈ xs, SB F q w x.s
/-- The document's end with these bodies. -/
def QN (F : Nat → Prop) (w : World) (q : Nat) (l : List Bd) (sent mark : Int) : Prop := ∃ v xs, QE F w q v xs sent mark ∧ xs.map Iv.b = l
section
variable {F G : Nat → Prop} {w w' : World} {q : Nat} {v : Value} {xs : List Iv} {l : List Bd} {sent mark : Int}
theorem SB.kept {S : Nat → Prop} {s : Sl} (h : SB F q w s) (k : Keep S w w') (hs : ∀ g, F g → g ≠ q → ¬ S g) : SB F q w' s :=
  ⟨h.1.kept' k fun hp ad e => hs _ (h.2.2.2 hp ad e).2 (h.2.2.2 hp ad e).1, h.2⟩
theorem SB.below {s : Sl} (h : SB F q w s) (k : Below w.heap.size w w') : SB F q w' s := ⟨h.1.below k, h.2⟩
theorem RB.ltA {A : Option Addr} {n : Nat} {t : List UInt8} (h : RB w A n t) (hn : 0 < n) : ∀ ad, A = some ad → ad.block < w.heap.size := fun ad e => by
  have hl := h.1
  subst hl
  obtain ⟨b, off, e2, hc⟩ := h.2 hn
  rw [e] at e2
  cases e2
  exact World.block_lt_of_cell? _ _ (hc 0 (t[0]'hn) (List.getElem?_eq_getElem hn))
theorem SB.mono {s : Sl} (h : SB F q w s) (hF : ∀ k, k < w.heap.size → F k → G k) : SB G q w s :=
  ⟨h.1, h.2.1, h.2.2.1, fun hp ad e => ⟨(h.2.2.2 hp ad e).1, hF _ (h.1.ltA hp ad e) (h.2.2.2 hp ad e).2⟩⟩
theorem QE.kept {S : Nat → Prop} (h : QE F w q v xs sent mark) (k : Keep S w w') (hs : ∀ g, F g → ¬ S g) : QE F w' q v xs sent mark :=
  ⟨h.pc.kept k (hs q h.fp), h.own.kept k fun g hg => hs g (h.fv g hg), h.ne, h.fp, h.fv, fun x hx => (h.bod x hx).kept k fun g hg _ => hs g hg⟩
theorem QE.lt (h : QE F w q v xs sent mark) : q < w.heap.size ∧ ∀ g, v.ownBlock = some g → g < w.heap.size := ⟨h.pc.lt, fun g hg => (h.own.lt g hg).2⟩
theorem QE.below (h : QE F w q v xs sent mark) (k : Below w.heap.size w w') : QE F w' q v xs sent mark :=
  ⟨h.pc.kept (Keep.of_below k) (Nat.not_le.2 h.lt.1), h.own.below k, h.ne, h.fp, h.fv, fun x hx => (h.bod x hx).below k⟩
theorem QE.drew (h : QE F w q v xs sent mark) : QE F w.drew q v xs sent mark := h.below (Below.refl w.heap.size w).drew
theorem QE.mono (h : QE F w q v xs sent mark) (hF : ∀ k, k < w.heap.size → F k → G k) : QE G w q v xs sent mark :=
  ⟨h.pc, h.own, h.ne, hF q h.lt.1 h.fp, fun g hg => hF g (h.lt.2 g hg) (h.fv g hg), fun x hx => (h.bod x hx).mono hF⟩
theorem QE.fields (h : QE F w q v xs sent mark) : w.cell? ⟨q, 0, none⟩ = some v ∧ w.cell? ⟨q, 1, none⟩ = some (.int .i64 sent) ∧ w.cell? ⟨q, 2, none⟩ = some (.int .i64 mark) := by
  have h0 := h.pc.cell 0
  have h1 := h.pc.cell 1
  have h2 := h.pc.cell 2
  simp at h0 h1 h2
  exact ⟨h0, h1, h2⟩
theorem QN.kept {S : Nat → Prop} (h : QN F w q l sent mark) (k : Keep S w w') (hs : ∀ g, F g → ¬ S g) : QN F w' q l sent mark := by
  obtain ⟨v, xs, h, e⟩ := h
  exact ⟨v, xs, h.kept k hs, e⟩
theorem QN.below (h : QN F w q l sent mark) (k : Below w.heap.size w w') : QN F w' q l sent mark := by
  obtain ⟨v, xs, h, e⟩ := h
  exact ⟨v, xs, h.below k, e⟩
theorem QN.drew (h : QN F w q l sent mark) : QN F w.drew q l sent mark := h.below (Below.refl w.heap.size w).drew
theorem QN.mono (h : QN F w q l sent mark) (hF : ∀ k, k < w.heap.size → F k → G k) : QN G w q l sent mark := by
  obtain ⟨v, xs, h, e⟩ := h
  exact ⟨v, xs, h.mono hF, e⟩
theorem QN.lt (h : QN F w q l sent mark) : q < w.heap.size := by
  obtain ⟨v, xs, h, e⟩ := h
  exact h.lt.1
end
end Go.Proofs.Ytfgceplafjbmhaa
