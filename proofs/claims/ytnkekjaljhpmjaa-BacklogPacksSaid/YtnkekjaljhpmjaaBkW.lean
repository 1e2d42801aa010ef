/- A backlog: pure; its rows in memory. No condition. -/
import Derived.Test.YtnkekjaljhpmjaaSeq
import Derived.Laws.CopyRow
import Derived.Deep.LoopGhost
namespace Go.Proofs.Ytnkekjaljhpmjaa
open Go.RowKit
set_option linter.unusedVariables false
set_option linter.unusedSimpArgs false

/-- An order that waits; is it ready? -/
structure Wt where
  k : Int
  r : Bool
/-- The first place of what p holds of; -1. -/
def idxW (p : Wt → Bool) (l : List Wt) : Int := if l.findIdx p < l.length then (l.findIdx p : Int) else -1
theorem idx_step {p : Wt → Bool} {l : List Wt} {i : Nat} {x : Wt} (h : i ≤ l.findIdx p) (hx : l[i]? = some x) (hp : p x = false) : i + 1 ≤ l.findIdx p := by
  have hi := (List.getElem?_eq_some_iff.1 hx)
  obtain ⟨hi, he⟩ := hi
  rcases Nat.lt_or_eq_of_le h with h | h
  · exact h
  · exfalso
    have h2 : l.findIdx p < l.length := by omega
    have h3 := List.findIdx_getElem (w := h2)
    simp only [← h] at h3
    rw [he, hp] at h3
    cases h3
theorem idx_found {p : Wt → Bool} {l : List Wt} {i : Nat} {x : Wt} (h : i ≤ l.findIdx p) (hx : l[i]? = some x) (hp : p x = true) : idxW p l = (i : Int) ∧ l.findIdx p = i := by
  obtain ⟨hi, he⟩ := List.getElem?_eq_some_iff.1 hx
  have h2 : l.findIdx p ≤ i := by
    rcases Nat.lt_or_ge i (l.findIdx p) with h3 | h3
    · have := List.not_of_lt_findIdx h3
      rw [he, hp] at this
      exact absurd this (by simp)
    · exact h3
  have h3 : l.findIdx p = i := by omega
  refine ⟨?_, h3⟩
  unfold idxW
  rw [h3, if_pos hi]
theorem idx_end {p : Wt → Bool} {l : List Wt} {i : Nat} (h : i ≤ l.findIdx p) (hi : i = l.length) : idxW p l = -1 := by
  unfold idxW
  rw [if_neg (by omega)]
theorem idx_nil (p : Wt → Bool) : idxW p [] = -1 := rfl
theorem idx_none {p : Wt → Bool} {l : List Wt} : idxW p l = -1 ↔ ∀ x ∈ l, p x = false := by
  unfold idxW
  constructor
  · intro h x hx
    by_cases h1 : l.findIdx p < l.length
    · rw [if_pos h1] at h; omega
    · have h2 : l.findIdx p = l.length := by have := List.findIdx_le_length (p := p) (xs := l); omega
      have := List.findIdx_eq_length.1 h2 x hx
      simpa using this
  · intro h
    rw [if_neg]
    have h2 : l.findIdx p = l.length := List.findIdx_eq_length.2 fun x hx => by rw [h x hx]
    omega
theorem idx_cases (p : Wt → Bool) (l : List Wt) : (idxW p l = -1 ∧ ∀ x ∈ l, p x = false) ∨ ∃ (i : Nat) (x : Wt), idxW p l = (i : Int) ∧ l[i]? = some x ∧ p x = true ∧ i < l.length ∧ l.findIdx p = i := by
  by_cases h1 : l.findIdx p < l.length
  · refine .inr ⟨l.findIdx p, l[l.findIdx p], by unfold idxW; rw [if_pos h1], List.getElem?_eq_getElem h1, List.findIdx_getElem, h1, rfl⟩
  · left
    have h2 : idxW p l = -1 := by unfold idxW; rw [if_neg h1]
    exact ⟨h2, idx_none.1 h2⟩
/-- How many came ahead of it. -/
def placeW (l : List Wt) (k : Int) : Int := idxW (fun x => decide (x.k = k)) l
theorem place_cases (l : List Wt) (k : Int) : (placeW l k = -1 ∧ ∀ x ∈ l, x.k ≠ k) ∨ ∃ (i : Nat) (x : Wt), placeW l k = (i : Int) ∧ l[i]? = some x ∧ x.k = k ∧ i < l.length := by
  rcases idx_cases (fun x => decide (x.k = k)) l with ⟨h1, h2⟩ | ⟨i, x, h1, h2, h3, h4, _⟩
  · exact .inl ⟨h1, fun x hx => by simpa using h2 x hx⟩
  · exact .inr ⟨i, x, h1, h2, by simpa using h3, h4⟩
theorem place_none {l : List Wt} {k : Int} : placeW l k = -1 ↔ ∀ x ∈ l, x.k ≠ k := by
  unfold placeW
  rw [idx_none]
  simp
theorem place_at {l : List Wt} {i : Nat} {x : Wt} (hx : l[i]? = some x) (hn : (l.map Wt.k).Nodup) : placeW l x.k = (i : Int) := by
  obtain ⟨hi, he⟩ := List.getElem?_eq_some_iff.1 hx
  rcases place_cases l x.k with ⟨_, h2⟩ | ⟨j, y, h1, h2, h3, h4⟩
  · exact absurd rfl (h2 x (List.mem_of_getElem? hx))
  · rw [h1]
    obtain ⟨hj, hy⟩ := List.getElem?_eq_some_iff.1 h2
    have : j = i := by
      have h5 : (l.map Wt.k)[j]'(by simpa using hj) = (l.map Wt.k)[i]'(by simpa using hi) := by simp [he, hy, h3]
      exact (List.getElem_inj hn).1 h5
    omega
/-- What Push answers, and makes. -/
def pushE (l : List Wt) (k : Int) : Int := if k < 1 then 1 else if 0 ≤ placeW l k then 5 else if 256 ≤ l.length then 2 else 0
def pushL (l : List Wt) (k : Int) : List Wt := if pushE l k = 0 then l ++ [⟨k, false⟩] else l
/-- News. -/
def newsL (l : List Wt) (o : Int) : List Wt := l.map fun x => ⟨x.k, x.k != o⟩
/-- The first that is ready. -/
def readyW (l : List Wt) : Int := idxW (fun x => x.r) l
/-- Try: what it answers, the rows, who is out. -/
def tryP (l : List Wt) (o : Int) : Int × Bool × List Wt × Int :=
  if 0 < o then (0, false, l, o)
  else if h : l.findIdx (fun x => x.r) < l.length then (l[l.findIdx fun x => x.r].k, true, l.set (l.findIdx fun x => x.r) ⟨l[l.findIdx fun x => x.r].k, false⟩, l[l.findIdx fun x => x.r].k)
  else (0, false, l, o)
theorem try_out {l : List Wt} {o : Int} (h : 0 < o) : tryP l o = (0, false, l, o) := by unfold tryP; rw [if_pos h]
theorem try_none {l : List Wt} {o : Int} (h : readyW l = -1) : tryP l o = (0, false, l, o) := by
  unfold tryP
  split
  · rfl
  · rw [dif_neg]
    intro h1
    unfold readyW idxW at h
    rw [if_pos h1] at h
    omega
theorem try_at {l : List Wt} {o : Int} {i : Nat} {x : Wt} (ho : ¬ 0 < o) (h : l.findIdx (fun x => x.r) = i) (hx : l[i]? = some x) : tryP l o = (x.k, true, l.set i ⟨x.k, false⟩, x.k) := by
  subst h
  obtain ⟨hi, he⟩ := List.getElem?_eq_some_iff.1 hx
  unfold tryP
  rw [if_neg ho, dif_pos hi, he]
/-- Back: was it out? Who is out then? -/
def backB (o k : Int) : Bool := !decide (k < 1) && decide (k = o)
def backO (o k : Int) : Int := if backB o k then 0 else o
/-- Drop. -/
def dropL (l : List Wt) (k : Int) : List Wt := l.eraseIdx (l.findIdx fun x => decide (x.k = k))

/-- Its cells. -/
def Wt.cs (r : Wt) : List Value := [.int .i64 r.k, .bool r.r]
theorem Wt.cs_len (r : Wt) : r.cs.length = 2 := rfl
theorem Wt.cs_one (r : Wt) : ∀ u ∈ r.cs, u.oneCell' = true := by
  intro u hu
  simp [Wt.cs] at hu
  rcases hu with rfl | rfl <;> rfl
theorem WO_info : (Try.prog.info? 60).map (fun i => (i.zero, i.size, i.bytes)) = some (some (.agg #[.int .i64 0, .bool false]), 2, 16) := by kernel_rfl
/-- The value v owns the rows l. -/
def WO (base : Nat) (w : World) (v : Value) (l : List Wt) : Prop := w.ownsRow base 60 2 v l.length (l.flatMap Wt.cs)
theorem WO_len (l : List Wt) : (l.flatMap Wt.cs).length = l.length * 2 := by
  induction l with
  | nil => rfl
  | cons x l ih => rw [List.flatMap_cons, List.length_append, ih, List.length_cons, Wt.cs_len]; omega
theorem WO_get : ∀ (l : List Wt) (j : Nat) (x : Wt) (i : Nat) (c : Value), l[j]? = some x → x.cs[i]? = some c → (l.flatMap Wt.cs)[j * 2 + i]? = some c
  | [], j, x, i, c, h, _ => by simp at h
  | y :: l, 0, x, i, c, h, h' => by
    simp at h
    subst h
    have hi := (List.getElem?_eq_some_iff.1 h').1
    rw [List.flatMap_cons, List.getElem?_append_left (by omega), show 0 * 2 + i = i by omega]
    exact h'
  | y :: l, j + 1, x, i, c, h, h' => by
    have := WO_get l j x i c (by simpa using h) h'
    rw [List.flatMap_cons, show (j + 1) * 2 + i = y.cs.length + (j * 2 + i) by rw [Wt.cs_len]; omega, List.getElem?_append_right (by omega)]
    simpa using this
section
variable {base : Nat} {w w' : World} {v : Value} {l : List Wt}
theorem WO.nil (base : Nat) (w : World) : WO base w (.slice none 0 0) [] := World.ownsRow_nil _ _ _ _
theorem WO.form (h : WO base w v l) : ∃ A cap, v = .slice A l.length cap ∧ l.length ≤ cap ∧ cap ≤ maxLen ∧ (∀ ad, A = some ad → ∃ b, ad = ⟨b, 0, none⟩ ∧ base ≤ b ∧ b < w.heap.size ∧ v.ownBlock = some b) ∧ (A = none → l = [] ∧ cap = 0) ∧ ∀ (j : Nat) (x : Wt), l[j]? = some x → ∃ b, A = some ⟨b, 0, none⟩ ∧ ∀ i c, x.cs[i]? = some c → w.cell? ⟨b, j * 2 + i, none⟩ = some c := by
  rcases h.2 with ⟨rfl, h0⟩ | ⟨g, cap, cur, rfl, hb, hh, hl, hm, hs, ht⟩
  · have : l = [] := List.eq_nil_of_length_eq_zero h0
    subst this
    exact ⟨none, 0, rfl, Nat.le_refl _, by simp [maxLen], fun ad h => (by cases h), fun _ => ⟨rfl, rfl⟩, fun j x hx => by simp at hx⟩
  · refine ⟨_, cap, rfl, hl, hm, fun ad h => ?_, fun h => (by cases h), fun j x hx => ⟨g, rfl, fun i c hc => ?_⟩⟩
    · cases h
      exact ⟨g, rfl, hb, (Array.getElem?_eq_some_iff.1 hh).1, rfl⟩
    · have hj := World.ownsRow.cells h (g := g) rfl _ _ (WO_get l j x i c hx hc)
      rw [Addr.add_lit, Nat.zero_add] at hj
      exact hj
theorem WO.kept {S : Nat → Prop} (h : WO base w v l) (k : Keep S w w') (hs : ∀ g, v.ownBlock = some g → ¬ S g) : WO base w' v l := by
  refine ⟨h.1, ?_⟩
  rcases h.2 with hn | ⟨g, cap, cur, rfl, hb, hgg, rest⟩
  · exact .inl hn
  · refine .inr ⟨g, cap, cur, rfl, hb, ?_, rest⟩
    rw [k.block g (Array.getElem?_eq_some_iff.1 hgg).1 (hs g rfl)]
    exact hgg
theorem WO.lt (h : WO base w v l) : ∀ k, v.ownBlock = some k → base ≤ k ∧ k < w.heap.size := World.ownsRow.lt h
theorem WO.alloc (h : WO base w v l) (o : Obj) : WO base (w.alloc o) v l := h.kept ((Keep.refl (fun _ => False) w).alloc o) fun _ _ => id
theorem WO.drew (h : WO base w v l) : WO base w.drew v l := h
theorem WO.below (h : WO base w v l) (k : Below w.heap.size w w') : WO base w' v l := h.kept (Keep.of_below k) fun g hg => by have := (h.lt g hg).2; omega
theorem WO.mono {b' : Nat} (h : WO base w v l) (hb : b' ≤ base) : WO b' w v l := by
  refine ⟨h.1, ?_⟩
  rcases h.2 with hn | ⟨g, cap, cur, hv, hbb, rest⟩
  · exact .inl hn
  · exact .inr ⟨g, cap, cur, hv, by omega, rest⟩
theorem WO.blk (h : WO base w v l) : ∀ g, v.ownBlock = some g → ∃ o : Obj, w.heap[g]? = some o ∧ o.isCells = true := by
  intro g hg
  rcases h.2 with ⟨rfl, _⟩ | ⟨g', cap, cur, rfl, _, hgg, _⟩
  · simp [Value.ownBlock] at hg
  · simp [Value.ownBlock] at hg
    subst hg
    exact ⟨_, hgg, rfl⟩
end
theorem WO.fz {base : Nat} {w : World} {v : Value} {l : List Wt} (h : WO base w v l) {g : Nat} (hv : v.ownBlock = some g) (i : Nat) : w.frozen? ⟨g, i, none⟩ = false := by
  rcases h.2 with ⟨rfl, _⟩ | ⟨g', cap, cur, rfl, _, hgg, _⟩
  · simp [Value.ownBlock] at hv
  · simp [Value.ownBlock] at hv
    subst hv
    simp [World.frozen?, hgg]
theorem WO_set : ∀ (l : List Wt) (j : Nat) (x x' : Wt) (i : Nat) (c : Value), l[j]? = some x → x'.cs = x.cs.set i c → i < 2 → (l.flatMap Wt.cs).set (j * 2 + i) c = (l.set j x').flatMap Wt.cs
  | [], j, x, x', i, c, h, _, _ => by simp at h
  | y :: l, 0, x, x', i, c, h, h', hi => by
    simp at h
    subst h
    rw [List.flatMap_cons, List.set_append_left _ _ (by rw [Wt.cs_len]; omega), List.set_cons_zero, List.flatMap_cons, h', show 0 * 2 + i = i by omega]
  | y :: l, j + 1, x, x', i, c, h, h', hi => by
    have := WO_set l j x x' i c (by simpa using h) h' hi
    rw [List.flatMap_cons, show (j + 1) * 2 + i = y.cs.length + (j * 2 + i) by rw [Wt.cs_len]; omega, List.set_append_right _ _ (by omega), List.set_cons_succ, List.flatMap_cons, ← this]
    simp
theorem WO.put {base : Nat} {w : World} {g n cap : Nat} {l : List Wt} (h : WO base w (.slice (some ⟨g, 0, none⟩) n cap) l) (hn : l.length = n) (j i : Nat) (x x' : Wt) (c : Value) (hx : l[j]? = some x) (hx' : x'.cs = x.cs.set i c) (hi : i < 2) :
    WO base (w.setCell ⟨g, j * 2 + i, none⟩ c) (.slice (some ⟨g, 0, none⟩) n cap) (l.set j x') := by
  subst hn
  have := (World.ownsRow.stored h (j * 2 + i) c).1
  show (w.setCell ⟨g, j * 2 + i, none⟩ c).ownsRow base 60 2 _ (l.set j x').length ((l.set j x').flatMap Wt.cs)
  rw [← WO_set l j x x' i c hx hx' hi, List.length_set]
  exact this
theorem run_appWO (w : World) (base : Nat) (ty : TypeId) (v : Value) (l : List Wt) (hown : WO base w v l) (ad : Addr) (x : Wt) (hc : ∀ j u, x.cs[j]? = some u → w.cell? (ad.add j) = some u)
    (hn : (l.length + 1) * 16 ≤ 140737488355328) (hbase : base ≤ w.heap.size) :
    ∃ v' w', (Builtin.append_ #[56, 56] ty #[v, .slice (some ad) 1 1]).run Try.prog w = .ok v' w' ∧ WO base w' v' (l ++ [x]) ∧ Keep (fun k => v.ownBlock = some k) w w' ∧ (v'.ownBlock = v.ownBlock ∨ v'.ownBlock = some w.heap.size) := by
  obtain ⟨i, hi, hz, hs, hb⟩ := info_parts WO_info
  obtain ⟨v', w', hrun, h2, h3, _, h5⟩ := run_append_own_at (P := Try.prog) w base 56 ty 60 i (.agg #[.int .i64 0, .bool false]) 2 16 Try.underlying56 hi hz hs hb rfl (by decide) v l.length (l.flatMap Wt.cs) hown ad 1 1 x.cs
    (by rw [Wt.cs_len]) hc x.cs_one (by simp only [maxLen]; omega) (by omega) hbase
  refine ⟨v', w', hrun, ?_, Keep.of_grown h3, h5⟩
  show w'.ownsRow base 60 2 v' (l ++ [x]).length ((l ++ [x]).flatMap Wt.cs)
  rw [List.length_append, List.flatMap_append]
  simpa using h2
section
variable {w : World} {ops : Array Oper} {rest : List Oper} {o : Oper} {a : Act} {Q : Exit → Act → World → Prop}
theorem wpAppWO (hgd : o.guard = none) (s x : Operand) (ho : o.op = .call { callee := .builtin .append, args := #[s, x], argTypes := #[56, 56] })
    (base : Nat) (v : Value) (l : List Wt) (hs : a.eval s = v) (hown : WO base w v l) (ad : Addr) (hx : a.eval x = .slice (some ad) 1 1) (y : Wt) (hc : ∀ j u, y.cs[j]? = some u → w.cell? (ad.add j) = some u)
    (hn : (l.length + 1) * 16 ≤ 140737488355328) (hbase : base ≤ w.heap.size)
    (h : ∀ v' w', WO base w' v' (l ++ [y]) → Keep (fun k => v.ownBlock = some k) w w' → (v'.ownBlock = v.ownBlock ∨ v'.ownBlock = some w.heap.size) → wpList Try.prog ops Q rest (a.put o.dst v') w') : wpList Try.prog ops Q (o :: rest) a w := by
  refine wpList_plain hgd fun K hK => ?_
  obtain ⟨v', w', hrun, h2, h3, h4⟩ := run_appWO w base o.type v l hown ad y hc hn hbase
  unfold Oper.wp execOp
  simp only [ho, resolve, invoke, builtin, Sem.run_bind, Sem.run_pure, Result.andThen_ok, List.map_toArray, List.map_cons, List.map_nil, hs, hx, hrun]
  exact hK _ _ (h v' w' h2 h3 h4)
end

theorem WO.place {base : Nat} {w : World} {A : Option Addr} {n c : Nat} {l : List Wt} (h : WO base w (.slice A n c) l) {k : Nat} (hk : k < n) : ∃ g b, A = some ⟨g, 0, none⟩ ∧ l[k]? = some b ∧ w.cell? ⟨g, k * 2, none⟩ = some (.int .i64 b.k) ∧ w.cell? ⟨g, k * 2 + 1, none⟩ = some (.bool b.r) := by
  obtain ⟨B, cap, e, _, _, _, _, h3⟩ := h.form
  injection e with e1 e2 e3
  have hl : k < l.length := by omega
  obtain ⟨g, rfl, hc⟩ := h3 k _ (List.getElem?_eq_getElem hl)
  exact ⟨g, l[k], e1, List.getElem?_eq_getElem hl, hc 0 _ rfl, hc 1 _ rfl⟩
theorem WO.len {base : Nat} {w : World} {A : Option Addr} {n c : Nat} {l : List Wt} (h : WO base w (.slice A n c) l) : l.length = n ∧ n ≤ c := by
  obtain ⟨B, cap, e, h1, _⟩ := h.form
  injection e with e1 e2 e3
  omega
theorem WO.puts {base : Nat} {w : World} {g n c : Nat} {l : List Wt} (h : WO base w (.slice (some ⟨g, 0, none⟩) n c) l) (i : Nat) (hi : i < n) (b : Wt) :
    WO base ((w.setCell ⟨g, i * 2, none⟩ (.int .i64 b.k)).setCell ⟨g, i * 2 + 1, none⟩ (.bool b.r)) (.slice (some ⟨g, 0, none⟩) n c) (l.set i b) ∧
    Keep (fun k => k = g) w ((w.setCell ⟨g, i * 2, none⟩ (.int .i64 b.k)).setCell ⟨g, i * 2 + 1, none⟩ (.bool b.r)) := by
  have hn := h.len.1
  have hx : l[i]? = some (l[i]'(by omega)) := List.getElem?_eq_getElem (by omega)
  obtain ⟨x, hx⟩ : ∃ x, l[i]? = some x := ⟨_, hx⟩
  have s (l' : List Wt) (y : Wt) (hl : i < l'.length) : (l'.set i y)[i]? = some y := by rw [List.getElem?_set_self hl]
  have h0 := h.put hn i 0 x ⟨b.k, x.r⟩ (.int .i64 b.k) hx rfl (by omega)
  have h1 := h0.put (by simpa using hn) i 1 ⟨b.k, x.r⟩ b (.bool b.r) (s _ _ (by omega)) rfl (by omega)
  simp only [List.set_set, Nat.add_zero] at h1
  exact ⟨h1, (((Keep.refl (fun k => k = g) w).setCell (p := ⟨g, i * 2, none⟩) (fun _ => rfl) _).setCell (p := ⟨g, i * 2 + 1, none⟩) (fun _ => rfl) _)⟩
/-- The first ones of a row. -/
theorem WO.first {base : Nat} {w : World} {g n c : Nat} {l : List Wt} (h : WO base w (.slice (some ⟨g, 0, none⟩) n c) l) (i : Nat) (hi : i ≤ n) : WO base w (.slice (some ⟨g, 0, none⟩) i c) (l.take i) := by
  have hn := h.len.1
  rcases h.2 with ⟨h0, _⟩ | ⟨g', cap, cur, e, hb, hg, hl, hm, hs, ht⟩
  · cases h0
  · injection e with e1 e2 e3
    cases e1
    subst e3
    have hlen : (l.take i).length = i := by rw [List.length_take]; omega
    refine ⟨by rw [WO_len, hlen], .inr ⟨g, c, cur, by rw [hlen], hb, hg, by omega, hm, hs, ?_⟩⟩
    rw [hlen]
    have h1 : (cur.toList.take (l.length * 2)).take (i * 2) = (l.flatMap Wt.cs).take (i * 2) := by rw [ht]
    rw [List.take_take, show min (i * 2) (l.length * 2) = i * 2 by omega] at h1
    rw [h1]
    have h2 : l.flatMap Wt.cs = (l.take i).flatMap Wt.cs ++ (l.drop i).flatMap Wt.cs := by rw [← List.flatMap_append, List.take_append_drop]
    rw [h2, List.take_append_of_le_length (by rw [WO_len, hlen]; omega), List.take_of_length_le (by rw [WO_len, hlen]; omega)]
theorem WO_under : Try.prog.underlying 56 = some (.slice 60) := Try.underlying56
theorem WO_zero : ∀ w, (zeroValue 60).run Try.prog w = .ok (.agg #[.int .i64 0, .bool false]) w := fun w => by kernel_rfl
theorem run_clearWO (w : World) {base g n c : Nat} {l : List Wt} (h : WO base w (.slice (some ⟨g, 0, none⟩) n c) l) (i m cc : Nat) (hi : i < n) (hm : m = n - i) (ty : TypeId) :
    ∃ w', (Builtin.clear_ #[56] ty #[.slice (some ⟨g, i * 2, none⟩) m cc]).run Try.prog w = .ok (.tuple #[]) w' ∧ WO base w' (.slice (some ⟨g, 0, none⟩) i c) (l.take i) ∧ Keep (fun k => k = g) w w' := by
  have hn := h.len
  obtain ⟨q, rfl⟩ : ∃ q, m = q + 1 := ⟨m - 1, by omega⟩
  have hf := h.first i (by omega)
  rcases h.2 with ⟨h0, _⟩ | ⟨g', cap, cur, e, hb, hg, hl, hmx, hs, ht⟩
  · cases h0
  · injection e with e1 e2 e3
    cases e1
    subst e3
    have hone : ∀ v ∈ (Builtin.zeroCells #[Value.int .i64 0, .bool false] (q + 1)).toList, v.oneCell' = true := by
      intro v hv
      simp [Builtin.zeroCells] at hv
      obtain ⟨a, _, rfl⟩ := hv
      have : a % 2 = 0 ∨ a % 2 = 1 := by omega
      rcases this with e | e <;> rw [e] <;> rfl
    have hlen : (Builtin.zeroCells #[Value.int .i64 0, .bool false] (q + 1)).toList.length = (q + 1) * 2 := by simp [Builtin.zeroCells]
    have hst := run_storeCells_at Try.prog g (i * 2) 60 _ 0 cur w hg (by rw [hlen, hs]; omega) hone
    rw [hlen] at hst
    obtain ⟨Z, hZ⟩ : ∃ Z, (Builtin.zeroCells #[Value.int .i64 0, .bool false] (q + 1)).toList = Z := ⟨_, rfl⟩
    rw [hZ] at hlen hst
    refine ⟨w.setRow g (cur.toList.take (i * 2 + 0) ++ Z ++ cur.toList.drop (i * 2 + 0 + (q + 1) * 2)).toArray, ?_, ?_, ?_⟩
    · simp only [Builtin.clear_, Sem.run_bind, run_underlying WO_under, Result.andThen_ok, WO_zero, Value.cells, hZ, hst]
      simp [hst, hZ]
    · refine ⟨hf.1, ?_⟩
      rcases hf.2 with ⟨h0, _⟩ | ⟨g', cap, cur', e, hb', hg', hl', hm', hs', ht'⟩
      · cases h0
      · injection e with e1 e2 e3
        cases e1
        subst e3
        rw [hg] at hg'
        injection hg' with hg'
        injection hg' with hg' _ _
        subst hg'
        refine .inr ⟨g, c, _, by rw [← e2], hb', setRow_heap w g cur _ 60 _ hg, hl', hm', ?_, ?_⟩
        · simp [hlen]
          omega
        · have : (l.take i).length = i := by rw [List.length_take]; omega
          rw [this] at ht' ⊢
          rw [← ht']
          simp only [Nat.add_zero]
          rw [List.append_assoc, List.take_append_of_le_length (by simp; omega), List.take_take, Nat.min_self]
    · have hgr : w.grownBy (w.setRow g (cur.toList.take (i * 2 + 0) ++ Z ++ cur.toList.drop (i * 2 + 0 + (q + 1) * 2)).toArray) (some g) := by
        refine ⟨rfl, rfl, rfl, by simp [World.setRow], fun k hk hne => ?_⟩
        have hne' : ¬ g = k := fun e => hne (by rw [e])
        simp only [World.setRow, Array.getElem?_modify, if_neg hne']
      exact (Keep.of_grown hgr).mono fun k _ e => (Option.some.inj e).symm
theorem runWO_from (w : World) (g n c i : Nat) (k : Int) (hk : k = (i : Int)) (hi : i < n) (hc : n ≤ c) :
    (Instr.slice 56 (.slice (some ⟨g, 0, none⟩) n c) (some (.int .i64 k)) none none).run Try.prog w = .ok (.slice (some ⟨g, i * 2, none⟩) (n - i) (c - i)) w := by
  subst hk
  have he : Try.prog.elem 56 = 60 := by kernel_rfl
  rw [run_slice_l w 56 _ n c (by rw [he]; exact WO_under) .i64 (i : Int) (by omega) (by omega), he, Try.sizeOf60]
  simp [Result.andThen, sliced]
  rw [if_neg (by omega)]
  simp [Addr.add]
  intro h
  exact h.symm
theorem runWO_to (w : World) (A : Option Addr) (n c i : Nat) (k : Int) (hk : k = (i : Int)) (hi : i ≤ n) (hc : n ≤ c) :
    (Instr.slice 56 (.slice A n c) none (some (.int .i64 k)) none).run Try.prog w = .ok (.slice A i c) w := by
  subst hk
  have he : Try.prog.elem 56 = 60 := by kernel_rfl
  rw [run_slice_h w 56 A n c (by rw [he]; exact WO_under) .i64 (i : Int) (by omega) (by omega), he, Try.sizeOf60]
  simp [Result.andThen, sliced]
  intro _
  cases A with
  | none => rfl
  | some a => cases a; rfl


end Go.Proofs.Ytnkekjaljhpmjaa
