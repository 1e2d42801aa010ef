/- Bodies and packets in memory: what a slice owns. No condition. -/
import Derived.Test.YtfgceplafjbmhaaLkP
import Derived.Test.YtfgceplafjbmhaaLink
namespace Go.Proofs.Ytfgceplafjbmhaa
open Go.RowKit
set_option linter.unusedVariables false
set_option linter.unusedSimpArgs false

/-- Its cells. -/
def Bd.cs (r : Bd) : List Value := [.int .i64 r.seq, .string ⟨r.text.toArray⟩, .int .i64 r.tries, .int .i64 r.due]
theorem Bd.cs_len (r : Bd) : r.cs.length = 4 := rfl
theorem Bd.cs_one (r : Bd) : ∀ u ∈ r.cs, u.oneCell' = true := by
  intro u hu
  simp [Bd.cs] at hu
  rcases hu with rfl | rfl | rfl | rfl <;> rfl
theorem BO_info : (Try.prog.info? 81).map (fun i => (i.zero, i.size, i.bytes)) = some (some (.agg #[.int .i64 0, .string ⟨#[]⟩, .int .i64 0, .int .i64 0]), 4, 40) := by kernel_rfl
/-- The value v owns the rows l. -/
def BO (base : Nat) (w : World) (v : Value) (l : List Bd) : Prop := w.ownsRow base 81 4 v l.length (l.flatMap Bd.cs)
theorem BO_len (l : List Bd) : (l.flatMap Bd.cs).length = l.length * 4 := by
  induction l with
  | nil => rfl
  | cons x l ih => rw [List.flatMap_cons, List.length_append, ih, List.length_cons, Bd.cs_len]; omega
theorem BO_get : ∀ (l : List Bd) (j : Nat) (x : Bd) (i : Nat) (c : Value), l[j]? = some x → x.cs[i]? = some c → (l.flatMap Bd.cs)[j * 4 + i]? = some c
  | [], j, x, i, c, h, _ => by simp at h
  | y :: l, 0, x, i, c, h, h' => by
    simp at h
    subst h
    have hi := (List.getElem?_eq_some_iff.1 h').1
    rw [List.flatMap_cons, List.getElem?_append_left (by omega), show 0 * 4 + i = i by omega]
    exact h'
  | y :: l, j + 1, x, i, c, h, h' => by
    have := BO_get l j x i c (by simpa using h) h'
    rw [List.flatMap_cons, show (j + 1) * 4 + i = y.cs.length + (j * 4 + i) by rw [Bd.cs_len]; omega, List.getElem?_append_right (by omega)]
    simpa using this
section
variable {base : Nat} {w w' : World} {v : Value} {l : List Bd}
theorem BO.nil (base : Nat) (w : World) : BO base w (.slice none 0 0) [] := World.ownsRow_nil _ _ _ _
theorem BO.form (h : BO base w v l) : ∃ A cap, v = .slice A l.length cap ∧ l.length ≤ cap ∧ cap ≤ maxLen ∧ (∀ ad, A = some ad → ∃ b, ad = ⟨b, 0, none⟩ ∧ base ≤ b ∧ b < w.heap.size ∧ v.ownBlock = some b) ∧ (A = none → l = [] ∧ cap = 0) ∧ ∀ (j : Nat) (x : Bd), l[j]? = some x → ∃ b, A = some ⟨b, 0, none⟩ ∧ ∀ i c, x.cs[i]? = some c → w.cell? ⟨b, j * 4 + i, none⟩ = some c := by
  rcases h.2 with ⟨rfl, h0⟩ | ⟨g, cap, cur, rfl, hb, hh, hl, hm, hs, ht⟩
  · have : l = [] := List.eq_nil_of_length_eq_zero h0
    subst this
    exact ⟨none, 0, rfl, Nat.le_refl _, by simp [maxLen], fun ad h => (by cases h), fun _ => ⟨rfl, rfl⟩, fun j x hx => by simp at hx⟩
  · refine ⟨_, cap, rfl, hl, hm, fun ad h => ?_, fun h => (by cases h), fun j x hx => ⟨g, rfl, fun i c hc => ?_⟩⟩
    · cases h
      exact ⟨g, rfl, hb, (Array.getElem?_eq_some_iff.1 hh).1, rfl⟩
    · have hj := World.ownsRow.cells h (g := g) rfl _ _ (BO_get l j x i c hx hc)
      rw [Addr.add_lit, Nat.zero_add] at hj
      exact hj
theorem BO.kept {S : Nat → Prop} (h : BO base w v l) (k : Keep S w w') (hs : ∀ g, v.ownBlock = some g → ¬ S g) : BO base w' v l := by
  refine ⟨h.1, ?_⟩
  rcases h.2 with hn | ⟨g, cap, cur, rfl, hb, hgg, rest⟩
  · exact .inl hn
  · refine .inr ⟨g, cap, cur, rfl, hb, ?_, rest⟩
    rw [k.block g (Array.getElem?_eq_some_iff.1 hgg).1 (hs g rfl)]
    exact hgg
theorem BO.lt (h : BO base w v l) : ∀ k, v.ownBlock = some k → base ≤ k ∧ k < w.heap.size := World.ownsRow.lt h
theorem BO.alloc (h : BO base w v l) (o : Obj) : BO base (w.alloc o) v l := h.kept ((Keep.refl (fun _ => False) w).alloc o) fun _ _ => id
theorem BO.drew (h : BO base w v l) : BO base w.drew v l := h
theorem BO.below (h : BO base w v l) (k : Below w.heap.size w w') : BO base w' v l := h.kept (Keep.of_below k) fun g hg => by have := (h.lt g hg).2; omega
theorem BO.mono {b' : Nat} (h : BO base w v l) (hb : b' ≤ base) : BO b' w v l := by
  refine ⟨h.1, ?_⟩
  rcases h.2 with hn | ⟨g, cap, cur, hv, hbb, rest⟩
  · exact .inl hn
  · exact .inr ⟨g, cap, cur, hv, by omega, rest⟩
theorem BO.blk (h : BO base w v l) : ∀ g, v.ownBlock = some g → ∃ o : Obj, w.heap[g]? = some o ∧ o.isCells = true := by
  intro g hg
  rcases h.2 with ⟨rfl, _⟩ | ⟨g', cap, cur, rfl, _, hgg, _⟩
  · simp [Value.ownBlock] at hg
  · simp [Value.ownBlock] at hg
    subst hg
    exact ⟨_, hgg, rfl⟩
end
theorem BO.fz {base : Nat} {w : World} {v : Value} {l : List Bd} (h : BO base w v l) {g : Nat} (hv : v.ownBlock = some g) (i : Nat) : w.frozen? ⟨g, i, none⟩ = false := by
  rcases h.2 with ⟨rfl, _⟩ | ⟨g', cap, cur, rfl, _, hgg, _⟩
  · simp [Value.ownBlock] at hv
  · simp [Value.ownBlock] at hv
    subst hv
    simp [World.frozen?, hgg]
theorem BO_set : ∀ (l : List Bd) (j : Nat) (x x' : Bd) (i : Nat) (c : Value), l[j]? = some x → x'.cs = x.cs.set i c → i < 4 → (l.flatMap Bd.cs).set (j * 4 + i) c = (l.set j x').flatMap Bd.cs
  | [], j, x, x', i, c, h, _, _ => by simp at h
  | y :: l, 0, x, x', i, c, h, h', hi => by
    simp at h
    subst h
    rw [List.flatMap_cons, List.set_append_left _ _ (by rw [Bd.cs_len]; omega), List.set_cons_zero, List.flatMap_cons, h', show 0 * 4 + i = i by omega]
  | y :: l, j + 1, x, x', i, c, h, h', hi => by
    have := BO_set l j x x' i c (by simpa using h) h' hi
    rw [List.flatMap_cons, show (j + 1) * 4 + i = y.cs.length + (j * 4 + i) by rw [Bd.cs_len]; omega, List.set_append_right _ _ (by omega), List.set_cons_succ, List.flatMap_cons, ← this]
    simp
theorem BO.put {base : Nat} {w : World} {g n cap : Nat} {l : List Bd} (h : BO base w (.slice (some ⟨g, 0, none⟩) n cap) l) (hn : l.length = n) (j i : Nat) (x x' : Bd) (c : Value) (hx : l[j]? = some x) (hx' : x'.cs = x.cs.set i c) (hi : i < 4) :
    BO base (w.setCell ⟨g, j * 4 + i, none⟩ c) (.slice (some ⟨g, 0, none⟩) n cap) (l.set j x') := by
  subst hn
  have := (World.ownsRow.stored h (j * 4 + i) c).1
  show (w.setCell ⟨g, j * 4 + i, none⟩ c).ownsRow base 81 4 _ (l.set j x').length ((l.set j x').flatMap Bd.cs)
  rw [← BO_set l j x x' i c hx hx' hi, List.length_set]
  exact this
theorem run_appBO (w : World) (base : Nat) (ty : TypeId) (v : Value) (l : List Bd) (hown : BO base w v l) (ad : Addr) (x : Bd) (hc : ∀ j u, x.cs[j]? = some u → w.cell? (ad.add j) = some u)
    (hn : (l.length + 1) * 40 ≤ 140737488355328) (hbase : base ≤ w.heap.size) :
    ∃ v' w', (Builtin.append_ #[77, 77] ty #[v, .slice (some ad) 1 1]).run Try.prog w = .ok v' w' ∧ BO base w' v' (l ++ [x]) ∧ Keep (fun k => v.ownBlock = some k) w w' ∧ (v'.ownBlock = v.ownBlock ∨ v'.ownBlock = some w.heap.size) := by
  obtain ⟨i, hi, hz, hs, hb⟩ := info_parts BO_info
  obtain ⟨v', w', hrun, h2, h3, _, h5⟩ := run_append_own_at (P := Try.prog) w base 77 ty 81 i (.agg #[.int .i64 0, .string ⟨#[]⟩, .int .i64 0, .int .i64 0]) 4 40 Try.underlying77 hi hz hs hb rfl (by decide) v l.length (l.flatMap Bd.cs) hown ad 1 1 x.cs
    (by rw [Bd.cs_len]) hc x.cs_one (by simp only [maxLen]; omega) (by omega) hbase
  refine ⟨v', w', hrun, ?_, Keep.of_grown h3, h5⟩
  show w'.ownsRow base 81 4 v' (l ++ [x]).length ((l ++ [x]).flatMap Bd.cs)
  rw [List.length_append, List.flatMap_append]
  simpa using h2
section
variable {w : World} {ops : Array Oper} {rest : List Oper} {o : Oper} {a : Act} {Q : Exit → Act → World → Prop}
theorem wpAppBO (hgd : o.guard = none) (s x : Operand) (ho : o.op = .call { callee := .builtin .append, args := #[s, x], argTypes := #[77, 77] })
    (base : Nat) (v : Value) (l : List Bd) (hs : a.eval s = v) (hown : BO base w v l) (ad : Addr) (hx : a.eval x = .slice (some ad) 1 1) (y : Bd) (hc : ∀ j u, y.cs[j]? = some u → w.cell? (ad.add j) = some u)
    (hn : (l.length + 1) * 40 ≤ 140737488355328) (hbase : base ≤ w.heap.size)
    (h : ∀ v' w', BO base w' v' (l ++ [y]) → Keep (fun k => v.ownBlock = some k) w w' → (v'.ownBlock = v.ownBlock ∨ v'.ownBlock = some w.heap.size) → wpList Try.prog ops Q rest (a.put o.dst v') w') : wpList Try.prog ops Q (o :: rest) a w := by
  refine wpList_plain hgd fun K hK => ?_
  obtain ⟨v', w', hrun, h2, h3, h4⟩ := run_appBO w base o.type v l hown ad y hc hn hbase
  unfold Oper.wp execOp
  simp only [ho, resolve, invoke, builtin, Sem.run_bind, Sem.run_pure, Result.andThen_ok, List.map_toArray, List.map_cons, List.map_nil, hs, hx, hrun]
  exact hK _ _ (h v' w' h2 h3 h4)
end

/-- A packet with its body's slice. -/
structure Pv where
  p : Pk
  v : Value
  one : v.oneCell' = true
/-- Its cells. -/
def Pv.cs (r : Pv) : List Value := [.int .i64 r.p.seq, .int .i64 r.p.ack, r.v]
theorem Pv.cs_len (r : Pv) : r.cs.length = 3 := rfl
theorem Pv.cs_one (r : Pv) : ∀ u ∈ r.cs, u.oneCell' = true := by
  intro u hu
  simp [Pv.cs] at hu
  rcases hu with rfl | rfl | rfl
  · rfl
  · rfl
  · exact r.one
theorem PR_info : (Try.prog.info? 32).map (fun i => (i.zero, i.size, i.bytes)) = some (some (.agg #[.int .i64 0, .int .i64 0, .slice none 0 0]), 3, 40) := by kernel_rfl
/-- The value v owns the rows l. -/
def PR (base : Nat) (w : World) (v : Value) (l : List Pv) : Prop := w.ownsRow base 32 3 v l.length (l.flatMap Pv.cs)
theorem PR_len (l : List Pv) : (l.flatMap Pv.cs).length = l.length * 3 := by
  induction l with
  | nil => rfl
  | cons x l ih => rw [List.flatMap_cons, List.length_append, ih, List.length_cons, Pv.cs_len]; omega
theorem PR_get : ∀ (l : List Pv) (j : Nat) (x : Pv) (i : Nat) (c : Value), l[j]? = some x → x.cs[i]? = some c → (l.flatMap Pv.cs)[j * 3 + i]? = some c
  | [], j, x, i, c, h, _ => by simp at h
  | y :: l, 0, x, i, c, h, h' => by
    simp at h
    subst h
    have hi := (List.getElem?_eq_some_iff.1 h').1
    rw [List.flatMap_cons, List.getElem?_append_left (by omega), show 0 * 3 + i = i by omega]
    exact h'
  | y :: l, j + 1, x, i, c, h, h' => by
    have := PR_get l j x i c (by simpa using h) h'
    rw [List.flatMap_cons, show (j + 1) * 3 + i = y.cs.length + (j * 3 + i) by rw [Pv.cs_len]; omega, List.getElem?_append_right (by omega)]
    simpa using this
section
variable {base : Nat} {w w' : World} {v : Value} {l : List Pv}
theorem PR.nil (base : Nat) (w : World) : PR base w (.slice none 0 0) [] := World.ownsRow_nil _ _ _ _
theorem PR.form (h : PR base w v l) : ∃ A cap, v = .slice A l.length cap ∧ l.length ≤ cap ∧ cap ≤ maxLen ∧ (∀ ad, A = some ad → ∃ b, ad = ⟨b, 0, none⟩ ∧ base ≤ b ∧ b < w.heap.size ∧ v.ownBlock = some b) ∧ (A = none → l = [] ∧ cap = 0) ∧ ∀ (j : Nat) (x : Pv), l[j]? = some x → ∃ b, A = some ⟨b, 0, none⟩ ∧ ∀ i c, x.cs[i]? = some c → w.cell? ⟨b, j * 3 + i, none⟩ = some c := by
  rcases h.2 with ⟨rfl, h0⟩ | ⟨g, cap, cur, rfl, hb, hh, hl, hm, hs, ht⟩
  · have : l = [] := List.eq_nil_of_length_eq_zero h0
    subst this
    exact ⟨none, 0, rfl, Nat.le_refl _, by simp [maxLen], fun ad h => (by cases h), fun _ => ⟨rfl, rfl⟩, fun j x hx => by simp at hx⟩
  · refine ⟨_, cap, rfl, hl, hm, fun ad h => ?_, fun h => (by cases h), fun j x hx => ⟨g, rfl, fun i c hc => ?_⟩⟩
    · cases h
      exact ⟨g, rfl, hb, (Array.getElem?_eq_some_iff.1 hh).1, rfl⟩
    · have hj := World.ownsRow.cells h (g := g) rfl _ _ (PR_get l j x i c hx hc)
      rw [Addr.add_lit, Nat.zero_add] at hj
      exact hj
theorem PR.kept {S : Nat → Prop} (h : PR base w v l) (k : Keep S w w') (hs : ∀ g, v.ownBlock = some g → ¬ S g) : PR base w' v l := by
  refine ⟨h.1, ?_⟩
  rcases h.2 with hn | ⟨g, cap, cur, rfl, hb, hgg, rest⟩
  · exact .inl hn
  · refine .inr ⟨g, cap, cur, rfl, hb, ?_, rest⟩
    rw [k.block g (Array.getElem?_eq_some_iff.1 hgg).1 (hs g rfl)]
    exact hgg
theorem PR.lt (h : PR base w v l) : ∀ k, v.ownBlock = some k → base ≤ k ∧ k < w.heap.size := World.ownsRow.lt h
theorem PR.alloc (h : PR base w v l) (o : Obj) : PR base (w.alloc o) v l := h.kept ((Keep.refl (fun _ => False) w).alloc o) fun _ _ => id
theorem PR.drew (h : PR base w v l) : PR base w.drew v l := h
theorem PR.below (h : PR base w v l) (k : Below w.heap.size w w') : PR base w' v l := h.kept (Keep.of_below k) fun g hg => by have := (h.lt g hg).2; omega
theorem PR.mono {b' : Nat} (h : PR base w v l) (hb : b' ≤ base) : PR b' w v l := by
  refine ⟨h.1, ?_⟩
  rcases h.2 with hn | ⟨g, cap, cur, hv, hbb, rest⟩
  · exact .inl hn
  · exact .inr ⟨g, cap, cur, hv, by omega, rest⟩
theorem PR.blk (h : PR base w v l) : ∀ g, v.ownBlock = some g → ∃ o : Obj, w.heap[g]? = some o ∧ o.isCells = true := by
  intro g hg
  rcases h.2 with ⟨rfl, _⟩ | ⟨g', cap, cur, rfl, _, hgg, _⟩
  · simp [Value.ownBlock] at hg
  · simp [Value.ownBlock] at hg
    subst hg
    exact ⟨_, hgg, rfl⟩
end
theorem PR.fz {base : Nat} {w : World} {v : Value} {l : List Pv} (h : PR base w v l) {g : Nat} (hv : v.ownBlock = some g) (i : Nat) : w.frozen? ⟨g, i, none⟩ = false := by
  rcases h.2 with ⟨rfl, _⟩ | ⟨g', cap, cur, rfl, _, hgg, _⟩
  · simp [Value.ownBlock] at hv
  · simp [Value.ownBlock] at hv
    subst hv
    simp [World.frozen?, hgg]
theorem PR_set : ∀ (l : List Pv) (j : Nat) (x x' : Pv) (i : Nat) (c : Value), l[j]? = some x → x'.cs = x.cs.set i c → i < 3 → (l.flatMap Pv.cs).set (j * 3 + i) c = (l.set j x').flatMap Pv.cs
  | [], j, x, x', i, c, h, _, _ => by simp at h
  | y :: l, 0, x, x', i, c, h, h', hi => by
    simp at h
    subst h
    rw [List.flatMap_cons, List.set_append_left _ _ (by rw [Pv.cs_len]; omega), List.set_cons_zero, List.flatMap_cons, h', show 0 * 3 + i = i by omega]
  | y :: l, j + 1, x, x', i, c, h, h', hi => by
    have := PR_set l j x x' i c (by simpa using h) h' hi
    rw [List.flatMap_cons, show (j + 1) * 3 + i = y.cs.length + (j * 3 + i) by rw [Pv.cs_len]; omega, List.set_append_right _ _ (by omega), List.set_cons_succ, List.flatMap_cons, ← this]
    simp
theorem PR.put {base : Nat} {w : World} {g n cap : Nat} {l : List Pv} (h : PR base w (.slice (some ⟨g, 0, none⟩) n cap) l) (hn : l.length = n) (j i : Nat) (x x' : Pv) (c : Value) (hx : l[j]? = some x) (hx' : x'.cs = x.cs.set i c) (hi : i < 3) :
    PR base (w.setCell ⟨g, j * 3 + i, none⟩ c) (.slice (some ⟨g, 0, none⟩) n cap) (l.set j x') := by
  subst hn
  have := (World.ownsRow.stored h (j * 3 + i) c).1
  show (w.setCell ⟨g, j * 3 + i, none⟩ c).ownsRow base 32 3 _ (l.set j x').length ((l.set j x').flatMap Pv.cs)
  rw [← PR_set l j x x' i c hx hx' hi, List.length_set]
  exact this
theorem run_appPR (w : World) (base : Nat) (ty : TypeId) (v : Value) (l : List Pv) (hown : PR base w v l) (ad : Addr) (x : Pv) (hc : ∀ j u, x.cs[j]? = some u → w.cell? (ad.add j) = some u)
    (hn : (l.length + 1) * 40 ≤ 140737488355328) (hbase : base ≤ w.heap.size) :
    ∃ v' w', (Builtin.append_ #[39, 39] ty #[v, .slice (some ad) 1 1]).run Try.prog w = .ok v' w' ∧ PR base w' v' (l ++ [x]) ∧ Keep (fun k => v.ownBlock = some k) w w' ∧ (v'.ownBlock = v.ownBlock ∨ v'.ownBlock = some w.heap.size) := by
  obtain ⟨i, hi, hz, hs, hb⟩ := info_parts PR_info
  obtain ⟨v', w', hrun, h2, h3, _, h5⟩ := run_append_own_at (P := Try.prog) w base 39 ty 32 i (.agg #[.int .i64 0, .int .i64 0, .slice none 0 0]) 3 40 Try.underlying39 hi hz hs hb rfl (by decide) v l.length (l.flatMap Pv.cs) hown ad 1 1 x.cs
    (by rw [Pv.cs_len]) hc x.cs_one (by simp only [maxLen]; omega) (by omega) hbase
  refine ⟨v', w', hrun, ?_, Keep.of_grown h3, h5⟩
  show w'.ownsRow base 32 3 v' (l ++ [x]).length ((l ++ [x]).flatMap Pv.cs)
  rw [List.length_append, List.flatMap_append]
  simpa using h2
section
variable {w : World} {ops : Array Oper} {rest : List Oper} {o : Oper} {a : Act} {Q : Exit → Act → World → Prop}
theorem wpAppPR (hgd : o.guard = none) (s x : Operand) (ho : o.op = .call { callee := .builtin .append, args := #[s, x], argTypes := #[39, 39] })
    (base : Nat) (v : Value) (l : List Pv) (hs : a.eval s = v) (hown : PR base w v l) (ad : Addr) (hx : a.eval x = .slice (some ad) 1 1) (y : Pv) (hc : ∀ j u, y.cs[j]? = some u → w.cell? (ad.add j) = some u)
    (hn : (l.length + 1) * 40 ≤ 140737488355328) (hbase : base ≤ w.heap.size)
    (h : ∀ v' w', PR base w' v' (l ++ [y]) → Keep (fun k => v.ownBlock = some k) w w' → (v'.ownBlock = v.ownBlock ∨ v'.ownBlock = some w.heap.size) → wpList Try.prog ops Q rest (a.put o.dst v') w') : wpList Try.prog ops Q (o :: rest) a w := by
  refine wpList_plain hgd fun K hK => ?_
  obtain ⟨v', w', hrun, h2, h3, h4⟩ := run_appPR w base o.type v l hown ad y hc hn hbase
  unfold Oper.wp execOp
  simp only [ho, resolve, invoke, builtin, Sem.run_bind, Sem.run_pure, Result.andThen_ok, List.map_toArray, List.map_cons, List.map_nil, hs, hx, hrun]
  exact hK _ _ (h v' w' h2 h3 h4)
end

theorem PR.ne {base : Nat} {w : World} {v : Value} {l : List Pv} (h : PR base w v l) {x : Value} {c : List UInt8} (hx : OB base w x c) {g : Nat} (hv : v.ownBlock = some g) : x.ownBlock ≠ some g := by
  rcases h.2 with ⟨rfl, _⟩ | ⟨g1, cap, cur, rfl, _, hgg, _⟩
  · simp [Value.ownBlock] at hv
  · have e : g1 = g := by simpa [Value.ownBlock] using hv
    subst e
    rcases hx.2 with ⟨rfl, _⟩ | ⟨g2, cap2, cur2, rfl, _, hg2, _⟩
    · simp [Value.ownBlock]
    · intro he
      have e : g2 = g1 := by simpa [Value.ownBlock] using he
      subst e
      rw [hgg] at hg2
      injection hg2 with h1
      injection h1 with _ h3
      exact absurd h3 (by decide)
/-- The value v owns a row of these packets, whose bodies are owned too. -/
def PB (base : Nat) (w : World) (v : Value) (ps : List Pk) : Prop := ∃ l : List Pv, PR base w v l ∧ l.map (·.p) = ps ∧ ∀ x ∈ l, OB base w x.v x.p.body
section
variable {base : Nat} {w w' : World} {v : Value} {ps : List Pk}
theorem PB.nil (base : Nat) (w : World) : PB base w (.slice none 0 0) [] := ⟨[], PR.nil _ _, rfl, fun x h => by simp at h⟩
theorem PB.kept {S : Nat → Prop} (h : PB base w v ps) (k : Keep S w w') (hs : ∀ g, base ≤ g → g < w.heap.size → ¬ S g) : PB base w' v ps := by
  obtain ⟨l, hr, he, ho⟩ := h
  exact ⟨l, hr.kept k fun g hg => hs g (hr.lt g hg).1 (hr.lt g hg).2, he, fun x hx => (ho x hx).kept k fun g hg => hs g ((ho x hx).lt g hg).1 ((ho x hx).lt g hg).2⟩
theorem PB.below (h : PB base w v ps) (k : Below w.heap.size w w') : PB base w' v ps := h.kept (Keep.of_below k) fun g _ h2 => by omega
theorem PB.alloc (h : PB base w v ps) (o : Obj) : PB base (w.alloc o) v ps := h.below ((Below.refl _ w).alloc (Nat.le_refl _) o)
theorem PB.drew (h : PB base w v ps) : PB base w.drew v ps := h
theorem PB.lt (h : PB base w v ps) : ∀ k, v.ownBlock = some k → base ≤ k ∧ k < w.heap.size := by
  obtain ⟨l, hr, _⟩ := h
  exact hr.lt
theorem PB.form (h : PB base w v ps) : ∃ A cap, v = .slice A ps.length cap ∧ ps.length ≤ cap ∧ cap ≤ maxLen ∧ ∀ (j : Nat) (p : Pk), ps[j]? = some p → ∃ b x, A = some ⟨b, 0, none⟩ ∧ w.cell? ⟨b, j * 3, none⟩ = some (.int .i64 p.seq) ∧ w.cell? ⟨b, j * 3 + 1, none⟩ = some (.int .i64 p.ack) ∧ w.cell? ⟨b, j * 3 + 2, none⟩ = some x ∧ OB base w x p.body := by
  obtain ⟨l, hr, rfl, ho⟩ := h
  obtain ⟨A, cap, rfl, h1, h2, _, _, h3⟩ := hr.form
  refine ⟨A, cap, by rw [List.length_map], by rw [List.length_map]; exact h1, h2, fun j p hp => ?_⟩
  rw [List.getElem?_map] at hp
  cases hx : l[j]? with
  | none => rw [hx] at hp; cases hp
  | some x =>
    rw [hx] at hp
    cases hp
    obtain ⟨b, e, hc⟩ := h3 j x hx
    exact ⟨b, x.v, e, hc 0 _ rfl, hc 1 _ rfl, hc 2 _ rfl, ho x (List.mem_of_getElem? hx)⟩
end
theorem OB.one_cell' {base : Nat} {w : World} {v : Value} {l : List UInt8} (h : OB base w v l) : v.oneCell' = true := by
  obtain ⟨A, cap, rfl, _⟩ := h.form
  rfl
/-- append(v, p): p a packet in memory whose body is owned. -/
theorem run_appPB (w : World) (base : Nat) (ty : TypeId) (v : Value) (ps : List Pk) (hown : PB base w v ps) (ad : Addr) (p : Pk) (x : Value) (h0 : w.cell? ad = some (.int .i64 p.seq)) (h1 : w.cell? (ad.add 1) = some (.int .i64 p.ack)) (h2 : w.cell? (ad.add 2) = some x) (ho : OB base w x p.body)
    (hn : (ps.length + 1) * 40 ≤ 140737488355328) (hbase : base ≤ w.heap.size) :
    ∃ v' w', (Builtin.append_ #[39, 39] ty #[v, .slice (some ad) 1 1]).run Try.prog w = .ok v' w' ∧ PB base w' v' (ps ++ [p]) ∧ Keep (fun k => v.ownBlock = some k) w w' ∧ (v'.ownBlock = v.ownBlock ∨ v'.ownBlock = some w.heap.size) := by
  obtain ⟨l, hr, rfl, hob⟩ := hown
  have hadd : ad.add 0 = ad := by cases ad; rfl
  rw [List.length_map] at hn
  obtain ⟨v', w', hrun, hr', hk, hv'⟩ := run_appPR w base ty v l hr ad ⟨p, x, ho.one_cell'⟩ (fun j u hu => by
    match j, hu with
    | 0, hu => simp [Pv.cs] at hu; subst hu; rw [hadd]; exact h0
    | 1, hu => simp [Pv.cs] at hu; subst hu; exact h1
    | 2, hu => simp [Pv.cs] at hu; subst hu; exact h2) hn hbase
  refine ⟨v', w', hrun, ⟨l ++ [⟨p, x, ho.one_cell'⟩], hr', by simp, fun y hy => ?_⟩, hk, hv'⟩
  rcases List.mem_append.1 hy with hy | hy
  · exact (hob y hy).kept hk fun g hg hv => hr.ne (hob y hy) hv hg
  · rw [List.mem_singleton.1 hy]
    exact ho.kept hk fun g hg hv => hr.ne ho hv hg
section
variable {w : World} {ops : Array Oper} {rest : List Oper} {o : Oper} {a : Act} {Q : Exit → Act → World → Prop}
theorem wpAppPB (hgd : o.guard = none) (s y : Operand) (ho : o.op = .call { callee := .builtin .append, args := #[s, y], argTypes := #[39, 39] })
    (base : Nat) (v : Value) (ps : List Pk) (hs : a.eval s = v) (hown : PB base w v ps) (ad : Addr) (hx : a.eval y = .slice (some ad) 1 1) (p : Pk) (x : Value) (h0 : w.cell? ad = some (.int .i64 p.seq)) (h1 : w.cell? (ad.add 1) = some (.int .i64 p.ack)) (h2 : w.cell? (ad.add 2) = some x) (hob : OB base w x p.body)
    (hn : (ps.length + 1) * 40 ≤ 140737488355328) (hbase : base ≤ w.heap.size)
    (h : ∀ v' w', PB base w' v' (ps ++ [p]) → Keep (fun k => v.ownBlock = some k) w w' → (v'.ownBlock = v.ownBlock ∨ v'.ownBlock = some w.heap.size) → wpList Try.prog ops Q rest (a.put o.dst v') w') : wpList Try.prog ops Q (o :: rest) a w := by
  refine wpList_plain hgd fun K hK => ?_
  obtain ⟨v', w', hrun, h3, h4, h5⟩ := run_appPB w base o.type v ps hown ad p x h0 h1 h2 hob hn hbase
  unfold Oper.wp execOp
  simp only [ho, resolve, invoke, builtin, Sem.run_bind, Sem.run_pure, Result.andThen_ok, List.map_toArray, List.map_cons, List.map_nil, hs, hx, hrun]
  exact hK _ _ (h v' w' h3 h4 h5)
end

/-- An end of a link: its block, what it is, its bodies' slice. -/
structure ES (base : Nat) (w : World) (p : Nat) (sent mark : Int) (v : Value) (l : List Bd) : Prop where
  pc : Blk w p 79 #[.int .i64 sent, .int .i64 mark, v]
  own : BO base w v l
  ne : v.ownBlock ≠ some p
  bp : base ≤ p
section
variable {base : Nat} {w w' : World} {p : Nat} {sent mark : Int} {v : Value} {l : List Bd}
theorem ES.kept {S : Nat → Prop} (h : ES base w p sent mark v l) (k : Keep S w w') (h1 : ¬ S p) (h2 : ∀ g, v.ownBlock = some g → ¬ S g) : ES base w' p sent mark v l :=
  ⟨h.pc.kept k h1, h.own.kept k h2, h.ne, h.bp⟩
theorem ES.below (h : ES base w p sent mark v l) (k : Below w.heap.size w w') : ES base w' p sent mark v l :=
  h.kept (Keep.of_below k) (fun e => absurd h.pc.lt (Nat.not_lt.2 e)) fun g hg => by have := (h.own.lt g hg).2; omega
theorem ES.alloc (h : ES base w p sent mark v l) (o : Obj) : ES base (w.alloc o) p sent mark v l := h.below ((Below.refl _ w).alloc (Nat.le_refl _) o)
theorem ES.drew (h : ES base w p sent mark v l) : ES base w.drew p sent mark v l := ⟨h.pc, h.own, h.ne, h.bp⟩
end
end Go.Proofs.Ytfgceplafjbmhaa
