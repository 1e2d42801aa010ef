/- Rows of timers that a slice owns; timers put in order. No condition but that keys and times are ints. -/
import Derived.Test.YtiinlcfggjcmoaaTmO
import Derived.Test.YtiinlcfggjcmoaaSeq
import Derived.Shelf.SlSortCmp.NoneTotal
import Derived.Test.YtiinlcfggjcmoaaShelf
namespace Go.Proofs.Ytiinlcfggjcmoaa
open Go.RowKit Go.Maps Go.Sort Go.Shelf
set_option linter.unusedVariables false
set_option linter.unusedSimpArgs false

theorem tmC_len (r : Tm) : (tmC r).length = 2 := rfl
theorem tmC_one (r : Tm) : ∀ u ∈ tmC r, u.oneCell' = true := by
  intro u hu
  simp [tmC] at hu
  rcases hu with rfl | rfl <;> rfl
theorem TO_info : (Try.prog.info? 56).map (fun i => (i.zero, i.size, i.bytes)) = some (some (.agg #[.int .i64 0, .int .i64 0]), 2, 16) := by kernel_rfl
/-- The value v owns the rows l. -/
def TO (base : Nat) (w : World) (v : Value) (l : List Tm) : Prop := w.ownsRow base 56 2 v l.length (l.flatMap tmC)
theorem TO_len (l : List Tm) : (l.flatMap tmC).length = l.length * 2 := by
  induction l with
  | nil => rfl
  | cons x l ih => rw [List.flatMap_cons, List.length_append, ih, List.length_cons, tmC_len]; omega
theorem TO_get : ∀ (l : List Tm) (j : Nat) (x : Tm) (i : Nat) (c : Value), l[j]? = some x → (tmC x)[i]? = some c → (l.flatMap tmC)[j * 2 + i]? = some c
  | [], j, x, i, c, h, _ => by simp at h
  | y :: l, 0, x, i, c, h, h' => by
    simp at h
    subst h
    have hi := (List.getElem?_eq_some_iff.1 h').1
    rw [List.flatMap_cons, List.getElem?_append_left (by omega), show 0 * 2 + i = i by omega]
    exact h'
  | y :: l, j + 1, x, i, c, h, h' => by
    have := TO_get l j x i c (by simpa using h) h'
    rw [List.flatMap_cons, show (j + 1) * 2 + i = (tmC y).length + (j * 2 + i) by rw [tmC_len]; omega, List.getElem?_append_right (by omega)]
    simpa using this
section
variable {base : Nat} {w w' : World} {v : Value} {l : List Tm}
theorem TO.nil (base : Nat) (w : World) : TO base w (.slice none 0 0) [] := World.ownsRow_nil _ _ _ _
theorem TO.form (h : TO base w v l) : ∃ A cap, v = .slice A l.length cap ∧ l.length ≤ cap ∧ cap ≤ maxLen ∧ (∀ ad, A = some ad → ∃ b, ad = ⟨b, 0, none⟩ ∧ base ≤ b ∧ b < w.heap.size ∧ v.ownBlock = some b) ∧ (A = none → l = [] ∧ cap = 0) ∧ ∀ (j : Nat) (x : Tm), l[j]? = some x → ∃ b, A = some ⟨b, 0, none⟩ ∧ ∀ i c, (tmC x)[i]? = some c → w.cell? ⟨b, j * 2 + i, none⟩ = some c := by
  rcases h.2 with ⟨rfl, h0⟩ | ⟨g, cap, cur, rfl, hb, hh, hl, hm, hs, ht⟩
  · have : l = [] := List.eq_nil_of_length_eq_zero h0
    subst this
    exact ⟨none, 0, rfl, Nat.le_refl _, by simp [maxLen], fun ad h => (by cases h), fun _ => ⟨rfl, rfl⟩, fun j x hx => by simp at hx⟩
  · refine ⟨_, cap, rfl, hl, hm, fun ad h => ?_, fun h => (by cases h), fun j x hx => ⟨g, rfl, fun i c hc => ?_⟩⟩
    · cases h
      exact ⟨g, rfl, hb, (Array.getElem?_eq_some_iff.1 hh).1, rfl⟩
    · have hj := World.ownsRow.cells h (g := g) rfl _ _ (TO_get l j x i c hx hc)
      rw [Addr.add_lit, Nat.zero_add] at hj
      exact hj
theorem TO.kept {S : Nat → Prop} (h : TO base w v l) (k : Keep S w w') (hs : ∀ g, v.ownBlock = some g → ¬ S g) : TO base w' v l := by
  refine ⟨h.1, ?_⟩
  rcases h.2 with hn | ⟨g, cap, cur, rfl, hb, hgg, rest⟩
  · exact .inl hn
  · refine .inr ⟨g, cap, cur, rfl, hb, ?_, rest⟩
    rw [k.block g (Array.getElem?_eq_some_iff.1 hgg).1 (hs g rfl)]
    exact hgg
theorem TO.lt (h : TO base w v l) : ∀ k, v.ownBlock = some k → base ≤ k ∧ k < w.heap.size := World.ownsRow.lt h
theorem TO.alloc (h : TO base w v l) (o : Obj) : TO base (w.alloc o) v l := h.kept ((Keep.refl (fun _ => False) w).alloc o) fun _ _ => id
theorem TO.drew (h : TO base w v l) : TO base w.drew v l := h
theorem TO.below (h : TO base w v l) (k : Below w.heap.size w w') : TO base w' v l := h.kept (Keep.of_below k) fun g hg => by have := (h.lt g hg).2; omega
theorem TO.mono {b' : Nat} (h : TO base w v l) (hb : b' ≤ base) : TO b' w v l := by
  refine ⟨h.1, ?_⟩
  rcases h.2 with hn | ⟨g, cap, cur, hv, hbb, rest⟩
  · exact .inl hn
  · exact .inr ⟨g, cap, cur, hv, by omega, rest⟩
theorem TO.blk (h : TO base w v l) : ∀ g, v.ownBlock = some g → ∃ o : Obj, w.heap[g]? = some o ∧ o.isCells = true := by
  intro g hg
  rcases h.2 with ⟨rfl, _⟩ | ⟨g', cap, cur, rfl, _, hgg, _⟩
  · simp [Value.ownBlock] at hg
  · simp [Value.ownBlock] at hg
    subst hg
    exact ⟨_, hgg, rfl⟩
end
theorem TO.fz {base : Nat} {w : World} {v : Value} {l : List Tm} (h : TO base w v l) {g : Nat} (hv : v.ownBlock = some g) (i : Nat) : w.frozen? ⟨g, i, none⟩ = false := by
  rcases h.2 with ⟨rfl, _⟩ | ⟨g', cap, cur, rfl, _, hgg, _⟩
  · simp [Value.ownBlock] at hv
  · simp [Value.ownBlock] at hv
    subst hv
    simp [World.frozen?, hgg]
theorem TO_set : ∀ (l : List Tm) (j : Nat) (x x' : Tm) (i : Nat) (c : Value), l[j]? = some x → (tmC x') = (tmC x).set i c → i < 2 → (l.flatMap tmC).set (j * 2 + i) c = (l.set j x').flatMap tmC
  | [], j, x, x', i, c, h, _, _ => by simp at h
  | y :: l, 0, x, x', i, c, h, h', hi => by
    simp at h
    subst h
    rw [List.flatMap_cons, List.set_append_left _ _ (by rw [tmC_len]; omega), List.set_cons_zero, List.flatMap_cons, h', show 0 * 2 + i = i by omega]
  | y :: l, j + 1, x, x', i, c, h, h', hi => by
    have := TO_set l j x x' i c (by simpa using h) h' hi
    rw [List.flatMap_cons, show (j + 1) * 2 + i = (tmC y).length + (j * 2 + i) by rw [tmC_len]; omega, List.set_append_right _ _ (by omega), List.set_cons_succ, List.flatMap_cons, ← this]
    simp
theorem TO.put {base : Nat} {w : World} {g n cap : Nat} {l : List Tm} (h : TO base w (.slice (some ⟨g, 0, none⟩) n cap) l) (hn : l.length = n) (j i : Nat) (x x' : Tm) (c : Value) (hx : l[j]? = some x) (hx' : (tmC x') = (tmC x).set i c) (hi : i < 2) :
    TO base (w.setCell ⟨g, j * 2 + i, none⟩ c) (.slice (some ⟨g, 0, none⟩) n cap) (l.set j x') := by
  subst hn
  have := (World.ownsRow.stored h (j * 2 + i) c).1
  show (w.setCell ⟨g, j * 2 + i, none⟩ c).ownsRow base 56 2 _ (l.set j x').length ((l.set j x').flatMap tmC)
  rw [← TO_set l j x x' i c hx hx' hi, List.length_set]
  exact this
theorem run_appTO (w : World) (base : Nat) (ty : TypeId) (v : Value) (l : List Tm) (hown : TO base w v l) (ad : Addr) (x : Tm) (hc : ∀ j u, (tmC x)[j]? = some u → w.cell? (ad.add j) = some u)
    (hn : (l.length + 1) * 16 ≤ 140737488355328) (hbase : base ≤ w.heap.size) :
    ∃ v' w', (Builtin.append_ #[60, 60] ty #[v, .slice (some ad) 1 1]).run Try.prog w = .ok v' w' ∧ TO base w' v' (l ++ [x]) ∧ Keep (fun k => v.ownBlock = some k) w w' ∧ (v'.ownBlock = v.ownBlock ∨ v'.ownBlock = some w.heap.size) := by
  obtain ⟨i, hi, hz, hs, hb⟩ := info_parts TO_info
  obtain ⟨v', w', hrun, h2, h3, _, h5⟩ := run_append_own_at (P := Try.prog) w base 60 ty 56 i (.agg #[.int .i64 0, .int .i64 0]) 2 16 Try.underlying60 hi hz hs hb rfl (by decide) v l.length (l.flatMap tmC) hown ad 1 1 (tmC x)
    (by rw [tmC_len]) hc (tmC_one x) (by simp only [maxLen]; omega) (by omega) hbase
  refine ⟨v', w', hrun, ?_, Keep.of_grown h3, h5⟩
  show w'.ownsRow base 56 2 v' (l ++ [x]).length ((l ++ [x]).flatMap tmC)
  rw [List.length_append, List.flatMap_append]
  simpa using h2
section
variable {w : World} {ops : Array Oper} {rest : List Oper} {o : Oper} {a : Act} {Q : Exit → Act → World → Prop}
theorem wpAppTO (hgd : o.guard = none) (s x : Operand) (ho : o.op = .call { callee := .builtin .append, args := #[s, x], argTypes := #[60, 60] })
    (base : Nat) (v : Value) (l : List Tm) (hs : a.eval s = v) (hown : TO base w v l) (ad : Addr) (hx : a.eval x = .slice (some ad) 1 1) (y : Tm) (hc : ∀ j u, (tmC y)[j]? = some u → w.cell? (ad.add j) = some u)
    (hn : (l.length + 1) * 16 ≤ 140737488355328) (hbase : base ≤ w.heap.size)
    (h : ∀ v' w', TO base w' v' (l ++ [y]) → Keep (fun k => v.ownBlock = some k) w w' → (v'.ownBlock = v.ownBlock ∨ v'.ownBlock = some w.heap.size) → wpList Try.prog ops Q rest (a.put o.dst v') w') : wpList Try.prog ops Q (o :: rest) a w := by
  refine wpList_plain hgd fun K hK => ?_
  obtain ⟨v', w', hrun, h2, h3, h4⟩ := run_appTO w base o.type v l hown ad y hc hn hbase
  unfold Oper.wp execOp
  simp only [ho, resolve, invoke, builtin, Sem.run_bind, Sem.run_pure, Result.andThen_ok, List.map_toArray, List.map_cons, List.map_nil, hs, hx, hrun]
  exact hK _ _ (h v' w' h2 h3 h4)
end

instance : Inhabited Tm := ⟨(0, 0)⟩
theorem flat_get {x : List Tm} {j : Nat} (hj : j < x.length * 2) : (x.flatMap tmC)[j]? = some ((tmC (x.toArray[j / 2]!))[j % 2]!) := by
  have hl : j / 2 < x.length := by omega
  have hx : x[j / 2]? = some (x[j / 2]) := List.getElem?_eq_getElem hl
  have e : x.toArray[j / 2]! = x[j / 2] := by simp [hl]
  rw [e]
  rcases Nat.mod_two_eq_zero_or_one j with h | h
  · have := TO_get x (j / 2) x[j / 2] 0 (.int .i64 x[j / 2].1) hx rfl
    rw [show j / 2 * 2 + 0 = j by omega] at this
    rw [this, h]
    rfl
  · have := TO_get x (j / 2) x[j / 2] 1 (.int .i64 x[j / 2].2) hx rfl
    rw [show j / 2 * 2 + 1 = j by omega] at this
    rw [this, h]
    rfl
theorem TO.holds {base : Nat} {w : World} {g n cap : Nat} {l : List Tm} (h : TO base w (.slice (some ⟨g, 0, none⟩) n cap) l) : HoldsK tmC 2 w g 0 l.toArray := by
  intro j hj
  rw [size_flatK, List.size_toArray] at hj
  refine ⟨?_, h.fz rfl _⟩
  rw [get_flatK _ _ _ _ (by rw [List.size_toArray]; exact hj)]
  have := World.ownsRow.cells h (g := g) rfl j _ (flat_get hj)
  rw [Addr.add_lit] at this
  exact this
theorem sortW_block (w : World) (g m : Nat) (d : Array Tm) (os : Array Obj) (k : Nat) (hk : k < w.heap.size) : (sortWorldK tmC 2 w g 0 m d os).heap[k]? = (w.heap.modify g (onCells (putCells id 0 (flatK tmC 2 d))))[k]? := by
  show (w.heap.modify g (onCells (putCells id 0 (flatK tmC 2 d))) ++ os)[k]? = _
  rw [Array.getElem?_append_left (by simpa using hk)]
theorem TO.sorted {base : Nat} {w : World} {g n cap : Nat} {l : List Tm} (h : TO base w (.slice (some ⟨g, 0, none⟩) n cap) l) (x : List Tm) (hx : x.length = l.length) (m : Nat) (os : Array Obj) :
    TO base (sortWorldK tmC 2 w g 0 m x.toArray os) (.slice (some ⟨g, 0, none⟩) n cap) x ∧ Keep (fun k => k = g) w (sortWorldK tmC 2 w g 0 m x.toArray os) := by
  have hgl := (h.lt g rfl).2
  rcases h.2 with ⟨h0, _⟩ | ⟨g', cap', cur, e, hb, hg, hl, hm, hs, ht⟩
  · cases h0
  · injection e with e1 e2 e3
    cases e1
    subst e3
    have hlen := h.1
    have hblk : (sortWorldK tmC 2 w g 0 m x.toArray os).heap[g]? = some (.cells (putCells id 0 (flatK tmC 2 x.toArray) cur) 56 (0, 0)) := by
      rw [sortW_block _ _ _ _ _ _ hgl, Array.getElem?_modify, if_pos rfl, hg]
      rfl
    refine ⟨⟨TO_len x, .inr ⟨g, cap, _, by rw [hx, e2], hb, hblk, by omega, hm, ?_, ?_⟩⟩, ?_⟩
    · simp [putCells]
      exact hs
    · apply List.ext_getElem?
      intro j
      by_cases hj : j < x.length * 2
      · rw [flat_get hj, List.getElem?_take_of_lt hj, Array.getElem?_toList]
        have hc : j < cur.size := by rw [hs]; omega
        simp only [putCells, Array.getElem?_mapIdx, Array.getElem?_eq_getElem hc, Option.map_some]
        rw [if_pos (by rw [size_flatK, List.size_toArray]; omega)]
        simp only [id, Nat.sub_zero]
        rw [get_flatK _ _ _ _ (by rw [List.size_toArray]; exact hj)]
      · rw [List.getElem?_eq_none (by rw [List.length_take]; omega), List.getElem?_eq_none (by rw [TO_len]; omega)]
    · refine ⟨rfl, rfl, rfl, ?_, fun k hk hne => ?_⟩
      · show w.heap.size ≤ (w.heap.modify g (onCells (putCells id 0 (flatK tmC 2 x.toArray))) ++ os).size
        simp
      · rw [sortW_block _ _ _ _ _ _ hk, Array.getElem?_modify, if_neg (fun e => hne e.symm)]
theorem timer_agg (w : World) : (isAgg 56).run Try.prog w = .ok true w := by kernel_rfl
theorem timer_size (w : World) : (Go.sizeOf 56).run Try.prog w = .ok 2 w := by kernel_rfl
/-- Sorted, whatever their order was. -/
theorem sortT_any {base : Nat} {w : World} {A : Option Addr} {n cap : Nat} {l x : List Tm} (h : TO base w (.slice A n cap) l) (hx : OrdT x) (hp : l.Perm x) (hn : n ≤ 1048576) :
    Calls Try.prog 29 #[.slice A n cap, .func (.func 28) #[] #[]] w fun e w' => e = .returned (.tuple #[]) ∧ TO base w' (.slice A n cap) x ∧ Keep (fun k => (Value.slice A n cap).ownBlock = some k) w w' := by
  obtain ⟨B, c, e, h1, h2, h3, h4, _⟩ := h.form
  injection e with e1 e2 e3
  subst e1 e2 e3
  rcases A with _ | ad
  · obtain ⟨rfl, _⟩ := h4 rfl
    have hxn : x = [] := (List.nil_perm.1 hp)
    subst hxn
    exact (Go.Proofs.AnyF.slices_SortFunc_none Go.Proofs.Try.sortFtimer none cap (.func (.func 28) #[] #[]) w).mono fun e w' ⟨he, hw⟩ => ⟨he, by rw [hw]; exact h, by rw [hw]; exact Keep.refl _ _⟩
  · obtain ⟨g, rfl, hgb, hgl, _⟩ := h3 ad rfl
    have key := Go.Proofs.AnyQ.slices_SortFunc_total Go.Proofs.Try.sortFtimer 2 timer_agg timer_size tmC tmC_len tmC_one cfT swoT 28 #[] g 0 cap l.toArray w
      (enters_of Try.func28 (by kernel_rfl) rfl) (order_lays g 0 _ w) h.holds hgl (by rw [List.size_toArray]; omega) totT
    rw [List.size_toArray] at key
    refine key.mono fun e w' ⟨he, m, os, hw⟩ => ?_
    have hs : (l.toArray.toList.mergeSort fun a b => !(ltOf cfT) b a) = x := by
      show (l.mergeSort fun a b => !(ltOf cfT) b a) = x
      exact sort_eq hx hp
    rw [hs] at hw
    obtain ⟨h5, h6⟩ := h.sorted x hp.length_eq.symm m os
    rw [← hw] at h5 h6
    exact ⟨he, h5, h6.mono fun k _ e => by rw [e]; rfl⟩
end Go.Proofs.Ytiinlcfggjcmoaa
