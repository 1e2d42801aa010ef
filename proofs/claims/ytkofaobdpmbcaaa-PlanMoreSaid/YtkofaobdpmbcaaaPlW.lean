/- Lists of lists of goods: how they lie in memory, appends, what came in. No condition. -/
import Derived.Test.YtkofaobdpmbcaaaRBo2
import Derived.Test.YtkofaobdpmbcaaaApJ
import Derived.Deep.Matrix
namespace Go.Proofs.Ytkofaobdpmbcaaa
open Go.RowKit
set_option linter.unusedVariables false
set_option linter.unusedSimpArgs false

/-- The slice value with address A reads as the lists ls; what they hold lies below block B. -/
def RL (B : Nat) (w : World) (A : Option Addr) (n : Nat) (ls : List (List It)) : Prop :=
  ls.length = n ∧ ∀ (i : Nat) (l : List It), ls[i]? = some l → ∃ b off Ai ci, A = some ⟨b, off, none⟩ ∧ w.cell? ⟨b, off + i, none⟩ = some (.slice Ai l.length ci) ∧ IL w Ai l.length l ∧ l.length ≤ ci ∧ ci ≤ 9223372036854775807 ∧ WL l ∧ ∀ ad, Ai = some ad → 0 < l.length → ad.block < B
section
variable {B : Nat} {w w' : World} {A : Option Addr} {n : Nat} {ls : List (List It)}
theorem RL.nil (B : Nat) (w : World) (A : Option Addr) : RL B w A 0 [] := ⟨rfl, fun i l h => by simp at h⟩
theorem RL.below (h : RL B w A n ls) (k : Below w.heap.size w w') : RL B w' A n ls :=
  ⟨h.1, fun i l hi => by
    obtain ⟨b, off, Ai, ci, h1, h2, h3, h4⟩ := h.2 i l hi
    exact ⟨b, off, Ai, ci, h1, (k.cell (p := ⟨b, off + i, none⟩) (World.block_lt_of_cell? _ _ h2)).trans h2, h3.below k, h4⟩⟩
theorem RL.alloc (h : RL B w A n ls) (o : Obj) : RL B (w.alloc o) A n ls := h.below ((Below.refl _ w).alloc (Nat.le_refl _) o)
theorem RL.drew (h : RL B w A n ls) : RL B w.drew A n ls :=
  ⟨h.1, fun i l hi => by
    obtain ⟨b, off, Ai, ci, h1, h2, h3, h4⟩ := h.2 i l hi
    exact ⟨b, off, Ai, ci, h1, h2, h3.drew, h4⟩⟩
theorem RL.none_zero (h : RL B w A n ls) (ha : A = none) : n = 0 := by
  cases n with
  | zero => rfl
  | succ n =>
    have hl : 0 < ls.length := by rw [h.1]; omega
    obtain ⟨b, off, _, _, e, _⟩ := h.2 0 _ (List.getElem?_eq_getElem hl)
    rw [ha] at e
    cases e
theorem RL.mono {B' : Nat} (h : RL B w A n ls) (hb : B ≤ B') : RL B' w A n ls :=
  ⟨h.1, fun i l hi => by
    obtain ⟨b, off, Ai, ci, h1, h2, h3, h4, h5, h6, h7⟩ := h.2 i l hi
    exact ⟨b, off, Ai, ci, h1, h2, h3, h4, h5, h6, fun ad ha hl => Nat.lt_of_lt_of_le (h7 ad ha hl) hb⟩⟩
theorem RL.place (h : RL B w A n ls) {k : Nat} (hk : k < n) : ∃ b off l Ai ci, A = some ⟨b, off, none⟩ ∧ ls[k]? = some l ∧ w.cell? ⟨b, off + k, none⟩ = some (.slice Ai l.length ci) ∧ IL w Ai l.length l ∧ l.length ≤ ci ∧ ci ≤ 9223372036854775807 ∧ WL l ∧ ∀ ad, Ai = some ad → 0 < l.length → ad.block < B := by
  have hl : k < ls.length := by rw [h.1]; exact hk
  obtain ⟨b, off, Ai, ci, h1, h2, h3⟩ := h.2 k _ (List.getElem?_eq_getElem hl)
  exact ⟨b, off, _, Ai, ci, h1, List.getElem?_eq_getElem hl, h2, h3⟩
theorem RL.wl (h : RL B w A n ls) : ∀ l ∈ ls, WL l := fun l hl => by
  obtain ⟨i, hi⟩ := List.getElem?_of_mem hl
  obtain ⟨_, _, _, _, _, _, _, _, _, h6, _⟩ := h.2 i l hi
  exact h6
/-- A cut: the elements from k on. -/
theorem RL.drop (h : RL B w A n ls) (k : Nat) (A' : Option Addr) (hk : k ≤ n) (hA : k < n → A' = A.map (·.add k)) : RL B w A' (n - k) (ls.drop k) :=
  ⟨by rw [List.length_drop, h.1], fun i l hi => by
    rw [List.getElem?_drop] at hi
    have hlt := (List.getElem?_eq_some_iff.1 hi).1
    rw [h.1] at hlt
    obtain ⟨b, off, Ai, ci, h1, h2, h3⟩ := h.2 _ l hi
    exact ⟨b, off + k, Ai, ci, by rw [hA (by omega), h1]; simp [Addr.add_lit], by rw [Nat.add_assoc]; exact h2, h3⟩⟩
theorem RL.take (h : RL B w A n ls) (k : Nat) (hk : k ≤ n) : RL B w A k (ls.take k) :=
  ⟨by rw [List.length_take, h.1]; omega, fun i l hi => by
    rw [List.getElem?_take] at hi
    split at hi
    · exact h.2 i l hi
    · cases hi⟩
end

theorem il_info : (Try.prog.info? 26).map (fun i => (i.zero, i.size, i.bytes)) = some (some (.slice none 0 0), 1, 24) := by kernel_rfl
/-- The value v owns a row of slices that read as the lists ls. -/
def OL (base : Nat) (w : World) (v : Value) (ls : List (List It)) : Prop :=
  ∃ vs : List Value, w.ownsRow base 26 1 v vs.length vs ∧ vs.length = ls.length ∧ ∀ (i : Nat) (l : List It), ls[i]? = some l → ∃ Ai ci, vs[i]? = some (.slice Ai l.length ci) ∧ IL w Ai l.length l ∧ l.length ≤ ci ∧ ci ≤ 9223372036854775807 ∧ WL l ∧ ∀ ad, Ai = some ad → 0 < l.length → v.ownBlock ≠ some ad.block
section
variable {base : Nat} {w w' : World} {v : Value} {ls : List (List It)}
theorem OL.nil (base : Nat) (w : World) : OL base w (.slice none 0 0) [] := ⟨[], World.ownsRow_nil _ _ _ _, rfl, fun i l h => by simp at h⟩
theorem OL.made (base : Nat) (w : World) (hb : base ≤ w.heap.size) : OL base (w.alloc (.cells #[] 26)) (.slice (some ⟨w.heap.size, 0, none⟩) 0 0) [] :=
  ⟨[], ⟨rfl, .inr ⟨w.heap.size, 0, #[], rfl, hb, heap_alloc_new w _, Nat.le_refl _, by simp [maxLen], by simp, rfl⟩⟩, rfl, fun i l h => by simp at h⟩
theorem OL.below (h : OL base w v ls) (k : Below w.heap.size w w') : OL base w' v ls := by
  obtain ⟨vs, hv, hl, he⟩ := h
  refine ⟨vs, ⟨hv.1, ?_⟩, hl, fun i l hi => ?_⟩
  · rcases hv.2 with hn | ⟨g, cap, cur, rfl, hb, hgg, rest⟩
    · exact .inl hn
    · exact .inr ⟨g, cap, cur, rfl, hb, (k.block g (Array.getElem?_eq_some_iff.1 hgg).1).trans hgg, rest⟩
  · obtain ⟨Ai, ci, h1, h2, h3⟩ := he i l hi
    exact ⟨Ai, ci, h1, h2.below k, h3⟩
theorem OL.lt (h : OL base w v ls) : ∀ k, v.ownBlock = some k → base ≤ k ∧ k < w.heap.size := by
  obtain ⟨vs, hv, _⟩ := h
  exact World.ownsRow.lt hv
theorem OL.alloc (h : OL base w v ls) (o : Obj) : OL base (w.alloc o) v ls := h.below ((Below.refl _ w).alloc (Nat.le_refl _) o)
theorem OL.form (h : OL base w v ls) : ∃ A cap, v = .slice A ls.length cap ∧ ls.length ≤ cap ∧ cap ≤ maxLen ∧ RL w.heap.size w A ls.length ls := by
  obtain ⟨vs, hv, hl, he⟩ := h
  rcases hv.2 with ⟨rfl, h0⟩ | ⟨g, cap, cur, rfl, hb, hh, hlc, hm, hs, ht⟩
  · have : ls = [] := List.eq_nil_of_length_eq_zero (by omega)
    subst this
    exact ⟨none, 0, rfl, Nat.le_refl _, by simp [maxLen], RL.nil _ _ _⟩
  · refine ⟨some ⟨g, 0, none⟩, cap, by rw [hl], by omega, hm, rfl, fun i l hi => ?_⟩
    obtain ⟨Ai, ci, h1, h2, h3, h4, h5, _⟩ := he i l hi
    have hj := World.ownsRow.cells hv (g := g) rfl i _ h1
    rw [Addr.add_lit] at hj
    exact ⟨g, 0, Ai, ci, rfl, hj, h2, h3, h4, h5, fun ad ha hl => h2.lt ad ha hl⟩
/-- A list that is owned lies in another block. -/
theorem OL.ne (h : OL base w v ls) {b2 : Nat} {x : Value} {l : List It} (hx : OI b2 w x l) {g : Nat} (hv : v.ownBlock = some g) : x.ownBlock ≠ some g := by
  obtain ⟨vs, hv', _⟩ := h
  rcases hv'.2 with ⟨rfl, _⟩ | ⟨g1, cap, cur, rfl, _, hgg, _⟩
  · simp [Value.ownBlock] at hv
  · have e : g1 = g := by simpa [Value.ownBlock] using hv
    subst e
    rcases hx.2 with ⟨rfl, _⟩ | ⟨g2, cap2, cur2, rfl, _, hg2, _⟩
    · simp [Value.ownBlock]
    · intro he
      have e : g2 = g1 := by simpa [Value.ownBlock] using he
      subst e
      rw [hgg] at hg2
      injection hg2 with h1
      injection h1 with _ h3
      exact absurd h3 (by decide)
end

/-- append(v, x..): x a row that is read; its lists do not lie in v's own block. -/
theorem run_appL (w : World) (base : Nat) (ty : TypeId) (v : Value) (ls : List (List It)) (hown : OL base w v ls) (A : Option Addr) (m c : Nat) (news : List (List It)) (B : Nat) (hr : RL B w A m news)
    (hap : ∀ (i : Nat) (b off : Nat) (Ai : Option Addr) (ni ci : Nat), A = some ⟨b, off, none⟩ → w.cell? ⟨b, off + i, none⟩ = some (.slice Ai ni ci) → i < m → ∀ ad, Ai = some ad → 0 < ni → v.ownBlock ≠ some ad.block)
    (hn : ls.length + m ≤ 1099511627776) (hbase : base ≤ w.heap.size) :
    ∃ v' w', (Builtin.append_ #[27, 27] ty #[v, .slice A m c]).run Try.prog w = .ok v' w' ∧ OL base w' v' (ls ++ news) ∧ Keep (fun k => v.ownBlock = some k) w w' ∧ (v'.ownBlock = v.ownBlock ∨ v'.ownBlock = some w.heap.size) := by
  obtain ⟨i, hi, hz, hs, hb⟩ := info_parts il_info
  obtain ⟨vs, hv, hl, he⟩ := hown
  rcases A with _ | ad
  · have hm := hr.none_zero rfl
    subst hm
    have hnw : news = [] := List.eq_nil_of_length_eq_zero hr.1
    subst hnw
    refine ⟨v, w, ?_, ⟨vs, hv, by simpa using hl, by simpa using he⟩, Keep.refl _ _, .inl rfl⟩
    rcases hv.2 with ⟨rfl, hn0⟩ | ⟨g, cap, cur, rfl, _, _, hnc, _⟩
    · simp [Builtin.append_, run_underlying Try.underlying27, sizeOf, typeInfo, hi, Builtin.lenOf, Builtin.firstCells]
    · simp [Builtin.append_, run_underlying Try.underlying27, sizeOf, typeInfo, hi, Builtin.lenOf, Builtin.firstCells, hnc, storeCells]
  · -- the cells of the new ones
    have hrow : ∃ cs : List Value, cs.length = m ∧ (∀ j u, cs[j]? = some u → w.cell? (ad.add j) = some u) ∧ (∀ u ∈ cs, u.oneCell' = true) ∧
        ∀ (j : Nat) (l : List It), news[j]? = some l → ∃ Ai ci, cs[j]? = some (.slice Ai l.length ci) ∧ IL w Ai l.length l ∧ l.length ≤ ci ∧ ci ≤ 9223372036854775807 ∧ WL l ∧ ∀ ad, Ai = some ad → 0 < l.length → v.ownBlock ≠ some ad.block := by
      have hat : ∀ j, j < m → ∃ Ai ni ci, w.cell? (ad.add j) = some (.slice Ai ni ci) := fun j hj => by
        obtain ⟨b, off, l, Ai, ci, e, _, hc, _⟩ := hr.place hj
        cases e
        exact ⟨Ai, l.length, ci, by rw [Addr.add_lit]; exact hc⟩
      refine ⟨(List.range m).map fun j => (w.cell? (ad.add j)).getD (.slice none 0 0), by simp, fun j u hu => ?_, fun u hu => ?_, fun j l hj => ?_⟩
      · rw [List.getElem?_map, Option.map_eq_some_iff] at hu
        obtain ⟨j', hj', rfl⟩ := hu
        have hlt : j < m := by have := (List.getElem?_eq_some_iff.1 hj').1; simpa using this
        rw [List.getElem?_range hlt] at hj'
        cases hj'
        obtain ⟨Ai, ni, ci, hc⟩ := hat j hlt
        rw [hc]
        rfl
      · obtain ⟨j, hj, rfl⟩ := List.mem_map.1 hu
        obtain ⟨Ai, ni, ci, hc⟩ := hat j (List.mem_range.1 hj)
        rw [hc]
        rfl
      · obtain ⟨b, off, Ai, ci, e, h2, h3, h4, h5, h6, h7⟩ := hr.2 j l hj
        have hlt : j < m := by have := (List.getElem?_eq_some_iff.1 hj).1; rw [hr.1] at this; exact this
        cases e
        refine ⟨Ai, ci, ?_, h3, h4, h5, h6, fun ad' ha' hl' => hap j b off Ai _ ci rfl h2 hlt ad' ha' hl'⟩
        rw [List.getElem?_map, List.getElem?_range hlt, Option.map_some, Addr.add_lit, h2]
        rfl
    obtain ⟨cs, hcl, hcc, hc1, hce⟩ := hrow
    obtain ⟨v', w', hrun, h2, h3, _, h5⟩ := run_append_own_at (P := Try.prog) w base 27 ty 26 i (.slice none 0 0) 1 24 Try.underlying27 hi hz hs hb rfl (by decide) v vs.length vs hv ad m c cs
      (by rw [hcl]; omega) hcc hc1 (by simp only [maxLen]; omega) (by omega) hbase
    have hk := Keep.of_grown h3
    have hoth : ∀ (Ai : Option Addr) (l : List It), IL w Ai l.length l → (∀ ad, Ai = some ad → 0 < l.length → v.ownBlock ≠ some ad.block) → IL w' Ai l.length l ∧ ∀ ad, Ai = some ad → 0 < l.length → v'.ownBlock ≠ some ad.block := fun Ai l hil hne => by
      refine ⟨hil.kept hk fun ad ha hl => hne ad ha hl, fun ad ha hl => ?_⟩
      rcases h5 with e | e
      · rw [e]
        exact hne ad ha hl
      · rw [e]
        intro e2
        have := hil.lt ad ha hl
        injection e2 with e2
        omega
    refine ⟨v', w', hrun, ⟨vs ++ cs, ?_, by rw [List.length_append, List.length_append, hl, hcl, hr.1], fun j u hu => ?_⟩, hk, h5⟩
    · show w'.ownsRow base 26 1 v' (vs ++ cs).length (vs ++ cs)
      rw [List.length_append, hcl]
      exact h2
    · by_cases hj : j < ls.length
      · rw [List.getElem?_append_left hj] at hu
        obtain ⟨Ai, ci, g1, g2, g3, g4, g5, g6⟩ := he j u hu
        obtain ⟨q1, q2⟩ := hoth Ai u g2 g6
        exact ⟨Ai, ci, by rw [List.getElem?_append_left (by omega)]; exact g1, q1, g3, g4, g5, q2⟩
      · rw [List.getElem?_append_right (by omega)] at hu
        obtain ⟨Ai, ci, g1, g2, g3, g4, g5, g6⟩ := hce _ u hu
        obtain ⟨q1, q2⟩ := hoth Ai u g2 g6
        exact ⟨Ai, ci, by rw [List.getElem?_append_right (by omega), hl]; exact g1, q1, g3, g4, g5, q2⟩

section
variable {w : World} {ops : Array Oper} {rest : List Oper} {o : Oper} {a : Act} {Q : Exit → Act → World → Prop}
theorem wpAppL (hgd : o.guard = none) (s x : Operand) (ho : o.op = .call { callee := .builtin .append, args := #[s, x], argTypes := #[27, 27] })
    (base : Nat) (v : Value) (ls : List (List It)) (hs : a.eval s = v) (hown : OL base w v ls) (A : Option Addr) (m c : Nat) (news : List (List It)) (hx : a.eval x = .slice A m c) (B : Nat) (hr : RL B w A m news)
    (hap : ∀ (i : Nat) (b off : Nat) (Ai : Option Addr) (ni ci : Nat), A = some ⟨b, off, none⟩ → w.cell? ⟨b, off + i, none⟩ = some (.slice Ai ni ci) → i < m → ∀ ad, Ai = some ad → 0 < ni → v.ownBlock ≠ some ad.block)
    (hn : ls.length + m ≤ 1099511627776) (hbase : base ≤ w.heap.size)
    (h : ∀ v' w', OL base w' v' (ls ++ news) → Keep (fun k => v.ownBlock = some k) w w' → (v'.ownBlock = v.ownBlock ∨ v'.ownBlock = some w.heap.size) → wpList Try.prog ops Q rest (a.put o.dst v') w') : wpList Try.prog ops Q (o :: rest) a w := by
  refine wpList_plain hgd fun K hK => ?_
  obtain ⟨v', w', hrun, h2, h3, h4⟩ := run_appL w base o.type v ls hown A m c news B hr hap hn hbase
  unfold Oper.wp execOp
  simp only [ho, resolve, invoke, builtin, Sem.run_bind, Sem.run_pure, Result.andThen_ok, List.map_toArray, List.map_cons, List.map_nil, hs, hx, hrun]
  exact hK _ _ (h v' w' h2 h3 h4)
/-- append(v, x): the slice x stands in a new block of one. -/
theorem wpAppL1 (hgd : o.guard = none) (s x : Operand) (ho : o.op = .call { callee := .builtin .append, args := #[s, x], argTypes := #[27, 27] })
    (base : Nat) (v : Value) (ls : List (List It)) (hs : a.eval s = v) (hown : OL base w v ls) (g : Nat) (c : Nat) (l : List It) (Ai : Option Addr) (ci : Nat) (hx : a.eval x = .slice (some ⟨g, 0, none⟩) 1 c) (hc : w.cell? ⟨g, 0, none⟩ = some (.slice Ai l.length ci))
    (hil : IL w Ai l.length l) (hlc : l.length ≤ ci) (hci : ci ≤ 9223372036854775807) (hwl : WL l) (hne : ∀ ad, Ai = some ad → 0 < l.length → v.ownBlock ≠ some ad.block)
    (hn : ls.length + 1 ≤ 1099511627776) (hbase : base ≤ w.heap.size)
    (h : ∀ v' w', OL base w' v' (ls ++ [l]) → Keep (fun k => v.ownBlock = some k) w w' → (v'.ownBlock = v.ownBlock ∨ v'.ownBlock = some w.heap.size) → wpList Try.prog ops Q rest (a.put o.dst v') w') : wpList Try.prog ops Q (o :: rest) a w := by
  have hr : RL w.heap.size w (some ⟨g, 0, none⟩) 1 [l] := ⟨rfl, fun i l' hi => by
    match i, hi with
    | 0, hi =>
      simp at hi
      subst hi
      exact ⟨g, 0, Ai, ci, rfl, hc, hil, hlc, hci, hwl, fun ad ha hl => hil.lt ad ha hl⟩⟩
  refine wpAppL hgd s x ho base v ls hs hown (some ⟨g, 0, none⟩) 1 c [l] hx w.heap.size hr (fun i b off Ai' ni ci' e h2 hi ad ha hl => ?_) hn hbase h
  cases e
  have : i = 0 := by omega
  subst this
  rw [show (0 : Nat) + 0 = 0 from rfl, hc] at h2
  cases h2
  exact hne ad ha hl
end
end Go.Proofs.Ytkofaobdpmbcaaa
