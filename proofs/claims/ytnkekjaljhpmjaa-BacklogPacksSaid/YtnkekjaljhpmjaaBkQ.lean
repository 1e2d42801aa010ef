/- The document's backlog: its rows in memory, Place, Back. No condition but that it lies in memory. -/
import Derived.Test.YtnkekjaljhpmjaaBkC
namespace Go.Proofs.Ytnkekjaljhpmjaa
open Go.RowKit
set_option linter.unusedVariables false
set_option linter.unusedSimpArgs false

theorem QO_info : (Try.prog.info? 62).map (fun i => (i.zero, i.size, i.bytes)) = some (some (.agg #[.int .i64 0, .bool false]), 2, 16) := by kernel_rfl
/-- The value v owns the rows l. -/
def QO (base : Nat) (w : World) (v : Value) (l : List Wt) : Prop := w.ownsRow base 62 2 v l.length (l.flatMap Wt.cs)
theorem QO_len (l : List Wt) : (l.flatMap Wt.cs).length = l.length * 2 := by
  induction l with
  | nil => rfl
  | cons x l ih => rw [List.flatMap_cons, List.length_append, ih, List.length_cons, Wt.cs_len]; omega
theorem QO_get : ∀ (l : List Wt) (j : Nat) (x : Wt) (i : Nat) (c : Value), l[j]? = some x → x.cs[i]? = some c → (l.flatMap Wt.cs)[j * 2 + i]? = some c
  | [], j, x, i, c, h, _ => by simp at h
  | y :: l, 0, x, i, c, h, h' => by
    simp at h
    subst h
    have hi := (List.getElem?_eq_some_iff.1 h').1
    rw [List.flatMap_cons, List.getElem?_append_left (by omega), show 0 * 2 + i = i by omega]
    exact h'
  | y :: l, j + 1, x, i, c, h, h' => by
    have := QO_get l j x i c (by simpa using h) h'
    rw [List.flatMap_cons, show (j + 1) * 2 + i = y.cs.length + (j * 2 + i) by rw [Wt.cs_len]; omega, List.getElem?_append_right (by omega)]
    simpa using this
section
variable {base : Nat} {w w' : World} {v : Value} {l : List Wt}
theorem QO.nil (base : Nat) (w : World) : QO base w (.slice none 0 0) [] := World.ownsRow_nil _ _ _ _
theorem QO.form (h : QO base w v l) : ∃ A cap, v = .slice A l.length cap ∧ l.length ≤ cap ∧ cap ≤ maxLen ∧ (∀ ad, A = some ad → ∃ b, ad = ⟨b, 0, none⟩ ∧ base ≤ b ∧ b < w.heap.size ∧ v.ownBlock = some b) ∧ (A = none → l = [] ∧ cap = 0) ∧ ∀ (j : Nat) (x : Wt), l[j]? = some x → ∃ b, A = some ⟨b, 0, none⟩ ∧ ∀ i c, x.cs[i]? = some c → w.cell? ⟨b, j * 2 + i, none⟩ = some c := by
  rcases h.2 with ⟨rfl, h0⟩ | ⟨g, cap, cur, rfl, hb, hh, hl, hm, hs, ht⟩
  · have : l = [] := List.eq_nil_of_length_eq_zero h0
    subst this
    exact ⟨none, 0, rfl, Nat.le_refl _, by simp [maxLen], fun ad h => (by cases h), fun _ => ⟨rfl, rfl⟩, fun j x hx => by simp at hx⟩
  · refine ⟨_, cap, rfl, hl, hm, fun ad h => ?_, fun h => (by cases h), fun j x hx => ⟨g, rfl, fun i c hc => ?_⟩⟩
    · cases h
      exact ⟨g, rfl, hb, (Array.getElem?_eq_some_iff.1 hh).1, rfl⟩
    · have hj := World.ownsRow.cells h (g := g) rfl _ _ (QO_get l j x i c hx hc)
      rw [Addr.add_lit, Nat.zero_add] at hj
      exact hj
theorem QO.kept {S : Nat → Prop} (h : QO base w v l) (k : Keep S w w') (hs : ∀ g, v.ownBlock = some g → ¬ S g) : QO base w' v l := by
  refine ⟨h.1, ?_⟩
  rcases h.2 with hn | ⟨g, cap, cur, rfl, hb, hgg, rest⟩
  · exact .inl hn
  · refine .inr ⟨g, cap, cur, rfl, hb, ?_, rest⟩
    rw [k.block g (Array.getElem?_eq_some_iff.1 hgg).1 (hs g rfl)]
    exact hgg
theorem QO.lt (h : QO base w v l) : ∀ k, v.ownBlock = some k → base ≤ k ∧ k < w.heap.size := World.ownsRow.lt h
theorem QO.alloc (h : QO base w v l) (o : Obj) : QO base (w.alloc o) v l := h.kept ((Keep.refl (fun _ => False) w).alloc o) fun _ _ => id
theorem QO.drew (h : QO base w v l) : QO base w.drew v l := h
theorem QO.below (h : QO base w v l) (k : Below w.heap.size w w') : QO base w' v l := h.kept (Keep.of_below k) fun g hg => by have := (h.lt g hg).2; omega
theorem QO.mono {b' : Nat} (h : QO base w v l) (hb : b' ≤ base) : QO b' w v l := by
  refine ⟨h.1, ?_⟩
  rcases h.2 with hn | ⟨g, cap, cur, hv, hbb, rest⟩
  · exact .inl hn
  · exact .inr ⟨g, cap, cur, hv, by omega, rest⟩
theorem QO.blk (h : QO base w v l) : ∀ g, v.ownBlock = some g → ∃ o : Obj, w.heap[g]? = some o ∧ o.isCells = true := by
  intro g hg
  rcases h.2 with ⟨rfl, _⟩ | ⟨g', cap, cur, rfl, _, hgg, _⟩
  · simp [Value.ownBlock] at hg
  · simp [Value.ownBlock] at hg
    subst hg
    exact ⟨_, hgg, rfl⟩
end
theorem QO.fz {base : Nat} {w : World} {v : Value} {l : List Wt} (h : QO base w v l) {g : Nat} (hv : v.ownBlock = some g) (i : Nat) : w.frozen? ⟨g, i, none⟩ = false := by
  rcases h.2 with ⟨rfl, _⟩ | ⟨g', cap, cur, rfl, _, hgg, _⟩
  · simp [Value.ownBlock] at hv
  · simp [Value.ownBlock] at hv
    subst hv
    simp [World.frozen?, hgg]
theorem QO_set : ∀ (l : List Wt) (j : Nat) (x x' : Wt) (i : Nat) (c : Value), l[j]? = some x → x'.cs = x.cs.set i c → i < 2 → (l.flatMap Wt.cs).set (j * 2 + i) c = (l.set j x').flatMap Wt.cs
  | [], j, x, x', i, c, h, _, _ => by simp at h
  | y :: l, 0, x, x', i, c, h, h', hi => by
    simp at h
    subst h
    rw [List.flatMap_cons, List.set_append_left _ _ (by rw [Wt.cs_len]; omega), List.set_cons_zero, List.flatMap_cons, h', show 0 * 2 + i = i by omega]
  | y :: l, j + 1, x, x', i, c, h, h', hi => by
    have := QO_set l j x x' i c (by simpa using h) h' hi
    rw [List.flatMap_cons, show (j + 1) * 2 + i = y.cs.length + (j * 2 + i) by rw [Wt.cs_len]; omega, List.set_append_right _ _ (by omega), List.set_cons_succ, List.flatMap_cons, ← this]
    simp
theorem QO.put {base : Nat} {w : World} {g n cap : Nat} {l : List Wt} (h : QO base w (.slice (some ⟨g, 0, none⟩) n cap) l) (hn : l.length = n) (j i : Nat) (x x' : Wt) (c : Value) (hx : l[j]? = some x) (hx' : x'.cs = x.cs.set i c) (hi : i < 2) :
    QO base (w.setCell ⟨g, j * 2 + i, none⟩ c) (.slice (some ⟨g, 0, none⟩) n cap) (l.set j x') := by
  subst hn
  have := (World.ownsRow.stored h (j * 2 + i) c).1
  show (w.setCell ⟨g, j * 2 + i, none⟩ c).ownsRow base 62 2 _ (l.set j x').length ((l.set j x').flatMap Wt.cs)
  rw [← QO_set l j x x' i c hx hx' hi, List.length_set]
  exact this
theorem run_appQO (w : World) (base : Nat) (ty : TypeId) (v : Value) (l : List Wt) (hown : QO base w v l) (ad : Addr) (x : Wt) (hc : ∀ j u, x.cs[j]? = some u → w.cell? (ad.add j) = some u)
    (hn : (l.length + 1) * 16 ≤ 140737488355328) (hbase : base ≤ w.heap.size) :
    ∃ v' w', (Builtin.append_ #[26, 26] ty #[v, .slice (some ad) 1 1]).run Try.prog w = .ok v' w' ∧ QO base w' v' (l ++ [x]) ∧ Keep (fun k => v.ownBlock = some k) w w' ∧ (v'.ownBlock = v.ownBlock ∨ v'.ownBlock = some w.heap.size) := by
  obtain ⟨i, hi, hz, hs, hb⟩ := info_parts QO_info
  obtain ⟨v', w', hrun, h2, h3, _, h5⟩ := run_append_own_at (P := Try.prog) w base 26 ty 62 i (.agg #[.int .i64 0, .bool false]) 2 16 Try.underlying26 hi hz hs hb rfl (by decide) v l.length (l.flatMap Wt.cs) hown ad 1 1 x.cs
    (by rw [Wt.cs_len]) hc x.cs_one (by simp only [maxLen]; omega) (by omega) hbase
  refine ⟨v', w', hrun, ?_, Keep.of_grown h3, h5⟩
  show w'.ownsRow base 62 2 v' (l ++ [x]).length ((l ++ [x]).flatMap Wt.cs)
  rw [List.length_append, List.flatMap_append]
  simpa using h2
section
variable {w : World} {ops : Array Oper} {rest : List Oper} {o : Oper} {a : Act} {Q : Exit → Act → World → Prop}
theorem wpAppQO (hgd : o.guard = none) (s x : Operand) (ho : o.op = .call { callee := .builtin .append, args := #[s, x], argTypes := #[26, 26] })
    (base : Nat) (v : Value) (l : List Wt) (hs : a.eval s = v) (hown : QO base w v l) (ad : Addr) (hx : a.eval x = .slice (some ad) 1 1) (y : Wt) (hc : ∀ j u, y.cs[j]? = some u → w.cell? (ad.add j) = some u)
    (hn : (l.length + 1) * 16 ≤ 140737488355328) (hbase : base ≤ w.heap.size)
    (h : ∀ v' w', QO base w' v' (l ++ [y]) → Keep (fun k => v.ownBlock = some k) w w' → (v'.ownBlock = v.ownBlock ∨ v'.ownBlock = some w.heap.size) → wpList Try.prog ops Q rest (a.put o.dst v') w') : wpList Try.prog ops Q (o :: rest) a w := by
  refine wpList_plain hgd fun K hK => ?_
  obtain ⟨v', w', hrun, h2, h3, h4⟩ := run_appQO w base o.type v l hown ad y hc hn hbase
  unfold Oper.wp execOp
  simp only [ho, resolve, invoke, builtin, Sem.run_bind, Sem.run_pure, Result.andThen_ok, List.map_toArray, List.map_cons, List.map_nil, hs, hx, hrun]
  exact hK _ _ (h v' w' h2 h3 h4)
end

theorem QO.place {base : Nat} {w : World} {A : Option Addr} {n c : Nat} {l : List Wt} (h : QO base w (.slice A n c) l) {k : Nat} (hk : k < n) : ∃ g b, A = some ⟨g, 0, none⟩ ∧ l[k]? = some b ∧ w.cell? ⟨g, k * 2, none⟩ = some (.int .i64 b.k) ∧ w.cell? ⟨g, k * 2 + 1, none⟩ = some (.bool b.r) := by
  obtain ⟨B, cap, e, _, _, _, _, h3⟩ := h.form
  injection e with e1 e2 e3
  have hl : k < l.length := by omega
  obtain ⟨g, rfl, hc⟩ := h3 k _ (List.getElem?_eq_getElem hl)
  exact ⟨g, l[k], e1, List.getElem?_eq_getElem hl, hc 0 _ rfl, hc 1 _ rfl⟩
theorem QO.len {base : Nat} {w : World} {A : Option Addr} {n c : Nat} {l : List Wt} (h : QO base w (.slice A n c) l) : l.length = n ∧ n ≤ c := by
  obtain ⟨B, cap, e, h1, _⟩ := h.form
  injection e with e1 e2 e3
  omega
theorem QO.puts {base : Nat} {w : World} {g n c : Nat} {l : List Wt} (h : QO base w (.slice (some ⟨g, 0, none⟩) n c) l) (i : Nat) (hi : i < n) (b : Wt) :
    QO base ((w.setCell ⟨g, i * 2, none⟩ (.int .i64 b.k)).setCell ⟨g, i * 2 + 1, none⟩ (.bool b.r)) (.slice (some ⟨g, 0, none⟩) n c) (l.set i b) ∧
    Keep (fun k => k = g) w ((w.setCell ⟨g, i * 2, none⟩ (.int .i64 b.k)).setCell ⟨g, i * 2 + 1, none⟩ (.bool b.r)) := by
  have hn := h.len.1
  have hx : l[i]? = some (l[i]'(by omega)) := List.getElem?_eq_getElem (by omega)
  obtain ⟨x, hx⟩ : ∃ x, l[i]? = some x := ⟨_, hx⟩
  have s (l' : List Wt) (y : Wt) (hl : i < l'.length) : (l'.set i y)[i]? = some y := by rw [List.getElem?_set_self hl]
  have h0 := h.put hn i 0 x ⟨b.k, x.r⟩ (.int .i64 b.k) hx rfl (by omega)
  have h1 := h0.put (by simpa using hn) i 1 ⟨b.k, x.r⟩ b (.bool b.r) (s _ _ (by omega)) rfl (by omega)
  simp only [List.set_set, Nat.add_zero] at h1
  exact ⟨h1, (((Keep.refl (fun k => k = g) w).setCell (p := ⟨g, i * 2, none⟩) (fun _ => rfl) _).setCell (p := ⟨g, i * 2 + 1, none⟩) (fun _ => rfl) _)⟩
/-- The first ones of a row. -/
theorem QO.first {base : Nat} {w : World} {g n c : Nat} {l : List Wt} (h : QO base w (.slice (some ⟨g, 0, none⟩) n c) l) (i : Nat) (hi : i ≤ n) : QO base w (.slice (some ⟨g, 0, none⟩) i c) (l.take i) := by
  have hn := h.len.1
  rcases h.2 with ⟨h0, _⟩ | ⟨g', cap, cur, e, hb, hg, hl, hm, hs, ht⟩
  · cases h0
  · injection e with e1 e2 e3
    cases e1
    subst e3
    have hlen : (l.take i).length = i := by rw [List.length_take]; omega
    refine ⟨by rw [QO_len, hlen], .inr ⟨g, c, cur, by rw [hlen], hb, hg, by omega, hm, hs, ?_⟩⟩
    rw [hlen]
    have h1 : (cur.toList.take (l.length * 2)).take (i * 2) = (l.flatMap Wt.cs).take (i * 2) := by rw [ht]
    rw [List.take_take, show min (i * 2) (l.length * 2) = i * 2 by omega] at h1
    rw [h1]
    have h2 : l.flatMap Wt.cs = (l.take i).flatMap Wt.cs ++ (l.drop i).flatMap Wt.cs := by rw [← List.flatMap_append, List.take_append_drop]
    rw [h2, List.take_append_of_le_length (by rw [QO_len, hlen]; omega), List.take_of_length_le (by rw [QO_len, hlen]; omega)]
theorem QO_under : Try.prog.underlying 26 = some (.slice 62) := Try.underlying26
theorem QO_zero : ∀ w, (zeroValue 62).run Try.prog w = .ok (.agg #[.int .i64 0, .bool false]) w := fun w => by kernel_rfl
theorem run_clearQO (w : World) {base g n c : Nat} {l : List Wt} (h : QO base w (.slice (some ⟨g, 0, none⟩) n c) l) (i m cc : Nat) (hi : i < n) (hm : m = n - i) (ty : TypeId) :
    ∃ w', (Builtin.clear_ #[26] ty #[.slice (some ⟨g, i * 2, none⟩) m cc]).run Try.prog w = .ok (.tuple #[]) w' ∧ QO base w' (.slice (some ⟨g, 0, none⟩) i c) (l.take i) ∧ Keep (fun k => k = g) w w' := by
  have hn := h.len
  obtain ⟨q, rfl⟩ : ∃ q, m = q + 1 := ⟨m - 1, by omega⟩
  have hf := h.first i (by omega)
  rcases h.2 with ⟨h0, _⟩ | ⟨g', cap, cur, e, hb, hg, hl, hmx, hs, ht⟩
  · cases h0
  · injection e with e1 e2 e3
    cases e1
    subst e3
    have hone : ∀ v ∈ (Builtin.zeroCells #[Value.int .i64 0, .bool false] (q + 1)).toList, v.oneCell' = true := by
      intro v hv
      simp [Builtin.zeroCells] at hv
      obtain ⟨a, _, rfl⟩ := hv
      have : a % 2 = 0 ∨ a % 2 = 1 := by omega
      rcases this with e | e <;> rw [e] <;> rfl
    have hlen : (Builtin.zeroCells #[Value.int .i64 0, .bool false] (q + 1)).toList.length = (q + 1) * 2 := by simp [Builtin.zeroCells]
    have hst := run_storeCells_at Try.prog g (i * 2) 62 _ 0 cur w hg (by rw [hlen, hs]; omega) hone
    rw [hlen] at hst
    obtain ⟨Z, hZ⟩ : ∃ Z, (Builtin.zeroCells #[Value.int .i64 0, .bool false] (q + 1)).toList = Z := ⟨_, rfl⟩
    rw [hZ] at hlen hst
    refine ⟨w.setRow g (cur.toList.take (i * 2 + 0) ++ Z ++ cur.toList.drop (i * 2 + 0 + (q + 1) * 2)).toArray, ?_, ?_, ?_⟩
    · simp only [Builtin.clear_, Sem.run_bind, run_underlying QO_under, Result.andThen_ok, QO_zero, Value.cells, hZ, hst]
      simp [hst, hZ]
    · refine ⟨hf.1, ?_⟩
      rcases hf.2 with ⟨h0, _⟩ | ⟨g', cap, cur', e, hb', hg', hl', hm', hs', ht'⟩
      · cases h0
      · injection e with e1 e2 e3
        cases e1
        subst e3
        rw [hg] at hg'
        injection hg' with hg'
        injection hg' with hg' _ _
        subst hg'
        refine .inr ⟨g, c, _, by rw [← e2], hb', setRow_heap w g cur _ 62 _ hg, hl', hm', ?_, ?_⟩
        · simp [hlen]
          omega
        · have : (l.take i).length = i := by rw [List.length_take]; omega
          rw [this] at ht' ⊢
          rw [← ht']
          simp only [Nat.add_zero]
          rw [List.append_assoc, List.take_append_of_le_length (by simp; omega), List.take_take, Nat.min_self]
    · have hgr : w.grownBy (w.setRow g (cur.toList.take (i * 2 + 0) ++ Z ++ cur.toList.drop (i * 2 + 0 + (q + 1) * 2)).toArray) (some g) := by
        refine ⟨rfl, rfl, rfl, by simp [World.setRow], fun k hk hne => ?_⟩
        have hne' : ¬ g = k := fun e => hne (by rw [e])
        simp only [World.setRow, Array.getElem?_modify, if_neg hne']
      exact (Keep.of_grown hgr).mono fun k _ e => (Option.some.inj e).symm
theorem runQO_from (w : World) (g n c i : Nat) (k : Int) (hk : k = (i : Int)) (hi : i < n) (hc : n ≤ c) :
    (Instr.slice 26 (.slice (some ⟨g, 0, none⟩) n c) (some (.int .i64 k)) none none).run Try.prog w = .ok (.slice (some ⟨g, i * 2, none⟩) (n - i) (c - i)) w := by
  subst hk
  have he : Try.prog.elem 26 = 62 := by kernel_rfl
  rw [run_slice_l w 26 _ n c (by rw [he]; exact QO_under) .i64 (i : Int) (by omega) (by omega), he, Try.sizeOf62]
  simp [Result.andThen, sliced]
  rw [if_neg (by omega)]
  simp [Addr.add]
  intro h
  exact h.symm
theorem runQO_to (w : World) (A : Option Addr) (n c i : Nat) (k : Int) (hk : k = (i : Int)) (hi : i ≤ n) (hc : n ≤ c) :
    (Instr.slice 26 (.slice A n c) none (some (.int .i64 k)) none).run Try.prog w = .ok (.slice A i c) w := by
  subst hk
  have he : Try.prog.elem 26 = 62 := by kernel_rfl
  rw [run_slice_h w 26 A n c (by rw [he]; exact QO_under) .i64 (i : Int) (by omega) (by omega), he, Try.sizeOf62]
  simp [Result.andThen, sliced]
  intro _
  cases A with
  | none => rfl
  | some a => cases a; rfl


/-- The slice value with address A and n elements reads as the rows l. -/
structure QR (w : World) (A : Option Addr) (n : Nat) (l : List Wt) : Prop where
  len : l.length = n
  at_ : ∀ j x, l[j]? = some x → ∃ b off, A = some ⟨b, off, none⟩ ∧ w.cell? ⟨b, off + j * 2, none⟩ = some (.int .i64 x.k) ∧ w.cell? ⟨b, off + j * 2 + 1, none⟩ = some (.bool x.r)
theorem QR.nil (w : World) (A : Option Addr) : QR w A 0 [] := ⟨rfl, fun j x h => by simp at h⟩
theorem QR.below {w w' : World} {A : Option Addr} {n : Nat} {l : List Wt} (h : QR w A n l) (k : Below w.heap.size w w') : QR w' A n l :=
  ⟨h.len, fun j x hx => by
    obtain ⟨b, off, e, h0, h1⟩ := h.at_ j x hx
    exact ⟨b, off, e, (k.cell (World.block_lt_of_cell? _ _ h0)).trans h0, (k.cell (World.block_lt_of_cell? _ _ h1)).trans h1⟩⟩
theorem QR.place {w : World} {A : Option Addr} {n : Nat} {l : List Wt} (h : QR w A n l) {k : Nat} (hk : k < n) : ∃ b off x, A = some ⟨b, off, none⟩ ∧ l[k]? = some x ∧ w.cell? ⟨b, off + k * 2, none⟩ = some (.int .i64 x.k) ∧ w.cell? ⟨b, off + k * 2 + 1, none⟩ = some (.bool x.r) := by
  have hl : k < l.length := by rw [h.len]; exact hk
  obtain ⟨b, off, e, h0, h1⟩ := h.at_ k _ (List.getElem?_eq_getElem hl)
  exact ⟨b, off, _, e, List.getElem?_eq_getElem hl, h0, h1⟩
theorem QO.wr {base : Nat} {w : World} {A : Option Addr} {n c : Nat} {l : List Wt} (h : QO base w (.slice A n c) l) : QR w A n l := by
  refine ⟨h.len.1, fun j x hx => ?_⟩
  have hj : j < n := by rw [← h.len.1]; exact (List.getElem?_eq_some_iff.1 hx).1
  obtain ⟨g, b, e, hb, h0, h1⟩ := h.place hj
  rw [hx] at hb
  cases hb
  exact ⟨g, 0, e, by rw [Nat.zero_add]; exact h0, by rw [Nat.zero_add]; exact h1⟩
theorem QR.from {w : World} {A : Option Addr} {n : Nat} {l : List Wt} (h : QR w A n l) (g b : Nat) (hA : A = some ⟨g, b, none⟩) (i : Nat) (hi : i ≤ n) : QR w (some ⟨g, b + i * 2, none⟩) (n - i) (l.drop i) := by
  refine ⟨by rw [List.length_drop, h.len], fun j x hx => ?_⟩
  rw [List.getElem?_drop] at hx
  obtain ⟨b', off, e, h0, h1⟩ := h.at_ _ x hx
  rw [hA] at e
  cases e
  exact ⟨_, _, rfl, by rw [show b + i * 2 + j * 2 = b + (i + j) * 2 by omega]; exact h0, by rw [show b + i * 2 + j * 2 + 1 = b + (i + j) * 2 + 1 by omega]; exact h1⟩
theorem QR.to {w : World} {A : Option Addr} {n : Nat} {l : List Wt} (h : QR w A n l) (i : Nat) (hi : i ≤ n) : QR w A i (l.take i) := by
  refine ⟨by rw [List.length_take, h.len]; omega, fun j x hx => ?_⟩
  rw [List.getElem?_take] at hx
  split at hx
  · exact h.at_ j x hx
  · cases hx
theorem QR.cells_get {w : World} {b off n : Nat} {l : List Wt} (h : QR w (some ⟨b, off, none⟩) n l) (j : Nat) (u : Value) (hu : (l.flatMap Wt.cs)[j]? = some u) : w.cell? ((⟨b, off, none⟩ : Addr).add j) = some u := by
  have hj : j < l.length * 2 := by
    have := (List.getElem?_eq_some_iff.1 hu).1
    rw [QO_len] at this
    exact this
  obtain ⟨q, r, hq, hr⟩ : ∃ q r, j = q * 2 + r ∧ r < 2 := ⟨j / 2, j % 2, by omega, Nat.mod_lt _ (by omega)⟩
  have hql : q < l.length := by omega
  obtain ⟨x, hx⟩ : ∃ x, l[q]? = some x := ⟨_, List.getElem?_eq_getElem hql⟩
  obtain ⟨b', off', e, h0, h1⟩ := h.at_ q x hx
  cases e
  subst hq
  rw [Addr.add_lit]
  match r, hr with
  | 0, _ =>
    rw [QO_get l q x 0 (.int .i64 x.k) hx rfl] at hu
    cases hu
    exact (by rw [show off + (q * 2 + 0) = off + q * 2 by omega]; exact h0)
  | 1, _ =>
    rw [QO_get l q x 1 (.bool x.r) hx rfl] at hu
    cases hu
    exact (by rw [show off + (q * 2 + 1) = off + q * 2 + 1 by omega]; exact h1)
theorem run_appQOn (w : World) (base : Nat) (ty : TypeId) (v : Value) (l : List Wt) (hown : QO base w v l) (A : Option Addr) (m c : Nat) (news : List Wt) (hr : QR w A m news) (hA : A = none ∨ ∃ b off, A = some ⟨b, off, none⟩)
    (hn : (l.length + m) * 16 ≤ 140737488355328) (hbase : base ≤ w.heap.size) :
    ∃ v' w', (Builtin.append_ #[26, 26] ty #[v, .slice A m c]).run Try.prog w = .ok v' w' ∧ QO base w' v' (l ++ news) ∧ Keep (fun k => v.ownBlock = some k) w w' ∧ (v'.ownBlock = v.ownBlock ∨ v'.ownBlock = some w.heap.size) := by
  obtain ⟨i, hi, hz, hs, hb⟩ := info_parts QO_info
  rcases hA with rfl | ⟨b, off, rfl⟩
  · have hm : news = [] := by
      cases news with
      | nil => rfl
      | cons x t =>
        obtain ⟨_, _, e, _⟩ := hr.at_ 0 x rfl
        cases e
    subst hm
    have hm0 : m = 0 := hr.len.symm
    subst hm0
    refine ⟨v, w, ?_, by rw [List.append_nil]; exact hown, Keep.refl _ _, .inl rfl⟩
    rcases hown.2 with ⟨rfl, hn0⟩ | ⟨g, cap, cur, rfl, _, _, hnc, _⟩
    · simp [Builtin.append_, run_underlying Try.underlying26, sizeOf, typeInfo, hi, Builtin.lenOf, Builtin.firstCells]
    · simp [Builtin.append_, run_underlying Try.underlying26, sizeOf, typeInfo, hi, Builtin.lenOf, Builtin.firstCells, hnc, storeCells]
  · obtain ⟨v', w', hrun, h2, h3, _, h5⟩ := run_append_own_at (P := Try.prog) w base 26 ty 62 i (.agg #[.int .i64 0, .bool false]) 2 16 Try.underlying26 hi hz hs hb rfl (by decide) v l.length (l.flatMap Wt.cs) hown ⟨b, off, none⟩ m c (news.flatMap Wt.cs)
      (by rw [QO_len, hr.len]) hr.cells_get (fun u hu => by
        obtain ⟨x, _, hx⟩ := List.mem_flatMap.1 hu
        exact x.cs_one u hx) (by simp only [maxLen]; omega) (by omega) hbase
    refine ⟨v', w', hrun, ?_, Keep.of_grown h3, h5⟩
    show w'.ownsRow base 62 2 v' (l ++ news).length ((l ++ news).flatMap Wt.cs)
    rw [List.length_append, List.flatMap_append, hr.len]
    exact h2
section
variable {w : World} {ops : Array Oper} {rest : List Oper} {o : Oper} {a : Act} {Q : Exit → Act → World → Prop}
theorem wpAppQOn (hgd : o.guard = none) (s x : Operand) (ho : o.op = .call { callee := .builtin .append, args := #[s, x], argTypes := #[26, 26] })
    (base : Nat) (v : Value) (l : List Wt) (hs : a.eval s = v) (hown : QO base w v l) (A : Option Addr) (m c : Nat) (hx : a.eval x = .slice A m c) (news : List Wt) (hr : QR w A m news) (hA : A = none ∨ ∃ b off, A = some ⟨b, off, none⟩)
    (hn : (l.length + m) * 16 ≤ 140737488355328) (hbase : base ≤ w.heap.size)
    (h : ∀ v' w', QO base w' v' (l ++ news) → Keep (fun k => v.ownBlock = some k) w w' → (v'.ownBlock = v.ownBlock ∨ v'.ownBlock = some w.heap.size) → wpList Try.prog ops Q rest (a.put o.dst v') w') : wpList Try.prog ops Q (o :: rest) a w := by
  refine wpList_plain hgd fun K hK => ?_
  obtain ⟨v', w', hrun, h2, h3, h4⟩ := run_appQOn w base o.type v l hown A m c news hr hA hn hbase
  unfold Oper.wp execOp
  simp only [ho, resolve, invoke, builtin, Sem.run_bind, Sem.run_pure, Result.andThen_ok, List.map_toArray, List.map_cons, List.map_nil, hs, hx, hrun]
  exact hK _ _ (h v' w' h2 h3 h4)
end
theorem QO.form0 (w : World) : QO w.heap.size (w.alloc (.cells #[] 62)) (.slice (some ⟨w.heap.size, 0, none⟩) 0 0) [] :=
  ⟨rfl, .inr ⟨w.heap.size, 0, #[], rfl, Nat.le_refl _, heap_alloc_new w _, Nat.le_refl _, by simp [maxLen], rfl, rfl⟩⟩

/-- The document's backlog: its block, its rows' slice. -/
structure QV (F : Nat → Prop) (w : World) (p : Nat) (v : Value) (l : List Wt) (o : Int) : Prop where
  pc : Blk w p 28 #[v, .int .i64 o]
  own : QO 0 w v l
  ne : v.ownBlock ≠ some p
  fp : F p
  fv : ∀ g, v.ownBlock = some g → F g
/-- The document's backlog whose blocks are in F. -/
def QK (F : Nat → Prop) (w : World) (p : Nat) (l : List Wt) (o : Int) : Prop := ∃ v, QV F w p v l o
section
variable {F G : Nat → Prop} {w w' : World} {p : Nat} {v : Value} {l : List Wt} {o : Int}
theorem QV.kept {S : Nat → Prop} (h : QV F w p v l o) (k : Keep S w w') (hs : ∀ g, F g → ¬ S g) : QV F w' p v l o :=
  ⟨h.pc.kept k (hs p h.fp), h.own.kept k fun g hg => hs g (h.fv g hg), h.ne, h.fp, h.fv⟩
theorem QV.lt (h : QV F w p v l o) : p < w.heap.size ∧ ∀ g, v.ownBlock = some g → g < w.heap.size := ⟨h.pc.lt, fun g hg => (h.own.lt g hg).2⟩
theorem QV.below (h : QV F w p v l o) (k : Below w.heap.size w w') : QV F w' p v l o :=
  ⟨h.pc.kept (Keep.of_below k) (Nat.not_le.2 h.lt.1), h.own.below k, h.ne, h.fp, h.fv⟩
theorem QV.alloc (h : QV F w p v l o) (ob : Obj) : QV F (w.alloc ob) p v l o := h.below ((Below.refl _ w).alloc (Nat.le_refl _) ob)
theorem QV.drew (h : QV F w p v l o) : QV F w.drew p v l o := ⟨h.pc, h.own, h.ne, h.fp, h.fv⟩
theorem QV.mono (h : QV F w p v l o) (hF : ∀ k, k < w.heap.size → F k → G k) : QV G w p v l o := ⟨h.pc, h.own, h.ne, hF p h.lt.1 h.fp, fun g hg => hF g (h.lt.2 g hg) (h.fv g hg)⟩
theorem QV.fields (h : QV F w p v l o) : w.cell? ⟨p, 0, none⟩ = some v ∧ w.cell? ⟨p, 1, none⟩ = some (.int .i64 o) := by
  have h0 := h.pc.cell 0
  have h1 := h.pc.cell 1
  simp at h0 h1
  exact ⟨h0, h1⟩
theorem QK.kept {S : Nat → Prop} (h : QK F w p l o) (k : Keep S w w') (hs : ∀ g, F g → ¬ S g) : QK F w' p l o := h.imp fun _ h => h.kept k hs
theorem QK.below (h : QK F w p l o) (k : Below w.heap.size w w') : QK F w' p l o := h.imp fun _ h => h.below k
theorem QK.alloc (h : QK F w p l o) (ob : Obj) : QK F (w.alloc ob) p l o := h.imp fun _ h => h.alloc ob
theorem QK.drew (h : QK F w p l o) : QK F w.drew p l o := h.imp fun _ h => h.drew
theorem QK.mono (h : QK F w p l o) (hF : ∀ k, k < w.heap.size → F k → G k) : QK G w p l o := h.imp fun _ h => h.mono hF
theorem QK.lt (h : QK F w p l o) : p < w.heap.size := by obtain ⟨v, h⟩ := h; exact h.lt.1
end

section
variable {F : Nat → Prop} {w : World} {p : Nat} {l : List Wt} {o : Int}
set_option maxRecDepth 100000 in
set_option maxHeartbeats 800000 in
theorem rplace_any (k : Int) (h : QK F w p l o) (hl : l.length ≤ 1048576) : Calls Try.prog 24 #[.pointer (some ⟨p, 0, none⟩), .int .i64 k] w fun e w' => e = .returned (.int .i64 (placeW l k)) ∧ w' = w := by
  obtain ⟨v, h⟩ := h
  obtain ⟨A, c, rfl, _⟩ := h.own.form
  obtain ⟨N, hN⟩ : ∃ N, l.length = N := ⟨_, rfl⟩
  rw [hN] at h hl
  obtain ⟨h0, h1⟩ := h.fields
  go_enter Try.func24, Try.ntmps24
  go_wp2
  go_loopw [5] (fun i wr => ∃ j : Nat, i = .int .i64 (j : Int) ∧ j ≤ N ∧ wr = w ∧ Hid (j ≤ l.findIdx fun x => decide (x.k = k))) (fun i _ => N - (intOf i).toNat)
  case atStart => exact ⟨0, by go_num, by omega, by first | rfl | trivial, Lib.hid (Nat.zero_le _)⟩
  case round =>
    obtain ⟨j, rfl, hj, rfl, hf⟩ := hrel
    by_cases hlt : j < N
    · have hlz : (j : Int) < (N : Int) := by omega
      have hj0 : (0 : Int) ≤ (j : Int) := by omega
      obtain ⟨g, x, rfl, hx, c0, c1⟩ := h.own.place hlt
      by_cases hk : x.k = k
      · have he : (x.k == k) = true := by simp [hk]
        have HF := Lib.hid (idx_found hf.out hx (by simp [hk]))
        clear hk hx hf
        go_wp2
        go_ret
        exact ⟨by rw [show placeW l k = (j : Int) from HF.out.1]; rfl, rfl⟩
      · have he : (x.k == k) = false := beq_eq_false_iff_ne.2 hk
        have HF := Lib.hid (idx_step hf.out hx (by simp [hk]))
        clear hk hx hf
        go_wp2
        go_roundw
        case measure => simp [intOf]; omega
        case rel => exact ⟨j + 1, by go_num, by omega, by first | rfl | trivial, HF⟩
    · have hlz : ¬ (j : Int) < (N : Int) := by omega
      have HF := Lib.hid (idx_end hf.out (show j = l.length by omega))
      clear hf
      go_wp2
      go_ret
      exact ⟨by rw [show placeW l k = -1 from HF.out]; rfl, rfl⟩
theorem rback_any (k : Int) (h : QK F w p l o) (ho : 0 ≤ o) : Calls Try.prog 21 #[.pointer (some ⟨p, 0, none⟩), .int .i64 k] w fun e w' => e = .returned (.bool (backB o k)) ∧ QK F w' p l (backO o k) ∧ Keep F w w' := by
  obtain ⟨v, h⟩ := h
  obtain ⟨h0, h1⟩ := h.fields
  have hp := h.pc.lt
  have f1 := h.pc.frozen 1
  by_cases hz : o = 0
  · have hB : backB o k = false := by unfold backB; simp; omega
    have hR : backO o k = o := by unfold backO; rw [hB]; rfl
    rw [hB, hR]
    have he : (o == 0) = true := by simp [hz]
    clear hB hR hz ho
    go_enter Try.func21, Try.ntmps21
    go_wp2
    go_ret
    exact ⟨rfl, ⟨v, h⟩, Keep.refl _ _⟩
  · have hez : (o == 0) = false := beq_eq_false_iff_ne.2 hz
    by_cases he : k = o
    · have hB : backB o k = true := by unfold backB; simp [he]; omega
      have hR : backO o k = 0 := by unfold backO; rw [hB]; rfl
      rw [hB, hR]
      clear hB hR hz ho
      have heq : (o == k) = true := by simp [he]
      have heq2 : (o != k) = false := by simp [he]
      have hpc := h.pc.set_ 1 (.int .i64 0)
      simp at hpc
      have kk : Keep (fun k => k = p) w (w.setCell ⟨p, 1, none⟩ (.int .i64 0)) := (Keep.refl (fun k => k = p) w).setCell (p := ⟨p, 1, none⟩) (fun _ => rfl) _
      have h2 : QV F (w.setCell ⟨p, 1, none⟩ (.int .i64 0)) p v l 0 := ⟨hpc, h.own.kept kk (fun g hg e => h.ne (by rw [hg, e])), h.ne, h.fp, h.fv⟩
      have kF : Keep F w (w.setCell ⟨p, 1, none⟩ (.int .i64 0)) := kk.mono fun k _ e => by rw [e]; exact h.fp
      clear he kk hpc h
      go_enter Try.func21, Try.ntmps21
      go_wp2
      go_ret
      exact ⟨rfl, ⟨v, h2⟩, kF⟩
    · have hB : backB o k = false := by unfold backB; simp [he]
      have hR : backO o k = o := by unfold backO; rw [hB]; rfl
      rw [hB, hR]
      clear hB hR hz ho
      have heq : (o == k) = false := beq_eq_false_iff_ne.2 fun e => he e.symm
      have heq2 : (o != k) = true := by simp; exact fun e => he e.symm
      clear he
      go_enter Try.func21, Try.ntmps21
      go_wp2
      go_ret
      exact ⟨rfl, ⟨v, h⟩, Keep.refl _ _⟩
end
end Go.Proofs.Ytnkekjaljhpmjaa
