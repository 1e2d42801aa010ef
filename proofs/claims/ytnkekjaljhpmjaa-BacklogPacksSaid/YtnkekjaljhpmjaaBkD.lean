/- What holds of a backlog behind any calls; a backlog and the document's, in blocks of their own. No condition. -/
import Derived.Test.YtnkekjaljhpmjaaBkE
import Derived.Test.YtnkekjaljhpmjaaBkY
namespace Go.Proofs.Ytnkekjaljhpmjaa
open Go.RowKit
set_option linter.unusedVariables false
set_option linter.unusedSimpArgs false
/-- What holds of a backlog. -/
structure InvB (l : List Wt) (o : Int) : Prop where
  one : ∀ x ∈ l, 1 ≤ x.k
  nd : (l.map Wt.k).Nodup
  len : l.length ≤ 256
  out : ∀ x ∈ l, x.k = o → x.r = false
  o0 : 0 ≤ o
theorem InvB.start : InvB [] 0 := ⟨fun x h => (by cases h), List.nodup_nil, by simp, fun x h => (by cases h), Int.le_refl _⟩
theorem InvB.push {l : List Wt} {o : Int} (h : InvB l o) (k : Int) (hw : True) : InvB (pushL l k) o := by
  unfold pushL
  split
  case isFalse => exact h
  case isTrue he =>
    unfold pushE at he
    by_cases h1 : k < 1
    · rw [if_pos h1] at he; omega
    rw [if_neg h1] at he
    by_cases h2 : 0 ≤ placeW l k
    · rw [if_pos h2] at he; omega
    rw [if_neg h2] at he
    by_cases h3 : 256 ≤ l.length
    · rw [if_pos h3] at he; omega
    have hp : ∀ x ∈ l, x.k ≠ k := by
      rcases place_cases l k with ⟨_, h3⟩ | ⟨i, x, h3, _⟩
      · exact h3
      · omega
    refine ⟨fun x hx => ?_, ?_, by simp; omega, fun x hx e => ?_, h.o0⟩
    · rcases List.mem_append.1 hx with hx | hx
      · exact h.one x hx
      · rw [List.mem_singleton.1 hx]
        dsimp only
        omega
    · rw [List.map_append, List.nodup_append]
      refine ⟨h.nd, by simp, fun a ha b hb e => ?_⟩
      obtain ⟨x, hx, rfl⟩ := List.mem_map.1 ha
      simp at hb
      subst hb
      exact hp x hx e
    · rcases List.mem_append.1 hx with hx | hx
      · exact h.out x hx e
      · rw [List.mem_singleton.1 hx]
theorem InvB.drop {l : List Wt} {o : Int} (h : InvB l o) (k : Int) : InvB (dropL l k) (dropO l o k) := by
  have hs : ∀ x, x ∈ dropL l k → x ∈ l := fun x hx => List.mem_of_mem_eraseIdx hx
  refine ⟨fun x hx => h.one x (hs x hx), ((List.eraseIdx_sublist _ _).map Wt.k).nodup h.nd, ?_, fun x hx e => ?_, ?_⟩
  · have := List.length_eraseIdx_le l (l.findIdx fun x => decide (x.k = k))
    have := h.len
    unfold dropL
    omega
  · have h1 := h.one x (hs x hx)
    unfold dropO backO at e
    split at e
    · split at e
      · omega
      · exact h.out x (hs x hx) e
    · exact h.out x (hs x hx) e
  · unfold dropO backO
    have := h.o0
    split
    · split <;> omega
    · exact this
theorem InvB.news {l : List Wt} {o : Int} (h : InvB l o) : InvB (newsL l o) o := by
  refine ⟨fun x hx => ?_, ?_, by rw [newsL, List.length_map]; exact h.len, fun x hx e => ?_, h.o0⟩
  · obtain ⟨y, hy, rfl⟩ := List.mem_map.1 hx
    exact h.one y hy
  · unfold newsL
    rw [List.map_map]
    exact h.nd
  · obtain ⟨y, hy, rfl⟩ := List.mem_map.1 hx
    dsimp only at e ⊢
    simp [e]
theorem InvB.try_ {l : List Wt} {o : Int} (h : InvB l o) : InvB (tryP l o).2.2.1 (tryP l o).2.2.2 := by
  by_cases ho : 0 < o
  · rw [try_out ho]; exact h
  rcases idx_cases isR l with ⟨hn, _⟩ | ⟨i, x, hix, hx, hr, hil, hfi⟩
  · rw [try_none (show readyW l = -1 from hn)]; exact h
  · rw [try_at ho (show l.findIdx (fun x => x.r) = i from hfi) hx]
    dsimp only
    obtain ⟨hi, he⟩ := List.getElem?_eq_some_iff.1 hx
    have hk : (l.set i ⟨x.k, false⟩).map Wt.k = l.map Wt.k := by
      rw [List.map_set]
      show (l.map Wt.k).set i x.k = _
      have h0 : x.k = (l.map Wt.k)[i]'(by simpa using hi) := by simp [he]
      rw [h0]
      exact List.set_getElem_self _
    have h1 := h.one x (List.mem_of_getElem? hx)
    refine ⟨fun y hy => ?_, by rw [hk]; exact h.nd, by rw [List.length_set]; exact h.len, fun y hy e => ?_, by omega⟩
    · rcases List.mem_or_eq_of_mem_set hy with hy | hy
      · exact h.one y hy
      · rw [hy]; exact h1
    · obtain ⟨j, hj⟩ := List.getElem?_of_mem hy
      have e1 := place_at hj (by rw [hk]; exact h.nd)
      have e2 := place_at (x := ⟨x.k, false⟩) (l := l.set i ⟨x.k, false⟩) (i := i) (by rw [List.getElem?_set_self hi]) (by rw [hk]; exact h.nd)
      dsimp only at e2
      rw [e, e2] at e1
      have e3 : j = i := by omega
      subst e3
      rw [List.getElem?_set_self hi] at hj
      cases hj
      rfl
theorem InvB.back {l : List Wt} {o : Int} (h : InvB l o) (k : Int) : InvB l (backO o k) := by
  unfold backO
  split
  · exact ⟨h.one, h.nd, h.len, fun x hx e => by have := h.one x hx; omega, by omega⟩
  · exact h
theorem BK.widen {F : Nat → Prop} {w : World} {p : Nat} {l : List Wt} {o : Int} (h : BK F w p l o) (N : Nat) : BK (fun k => F k ∨ N ≤ k) w p l o := h.mono fun _ _ e => .inl e
theorem QK.widen {F : Nat → Prop} {w : World} {p : Nat} {l : List Wt} {o : Int} (h : QK F w p l o) (N : Nat) : QK (fun k => F k ∨ N ≤ k) w p l o := h.mono fun _ _ e => .inl e
/-- A backlog and the document's, in blocks of their own. -/
structure DoR (B : Nat) (w : World) (p q : Nat) (wr : World) (F G : Nat → Prop) (l : List Wt) (o : Int) (l2 : List Wt) (o2 : Int) : Prop where
  bk : BK F wr p l o
  qk : QK G wr q l2 o2
  ap : ∀ k, F k → ¬ G k
  lo : ∀ k, F k → B ≤ k
  lo2 : ∀ k, G k → B ≤ k
  bel : Below B w wr
section
variable {B : Nat} {w : World} {p q : Nat} {wr w' : World} {F G : Nat → Prop} {l l' l2 : List Wt} {o o' o2 : Int}
theorem DoR.callB (h : DoR B w p q wr F G l o l2 o2) (hB : B ≤ w.heap.size) (hk : Keep F wr w') (hb : BK (fun k => F k ∨ wr.heap.size ≤ k) w' p l' o') :
    DoR B w p q w' (fun k => F k ∨ wr.heap.size ≤ k) (fun k => G k ∧ k < wr.heap.size) l' o' l2 o2 := by
  have hs := h.bel.size
  refine ⟨hb, (h.qk.mono (G := fun k => G k ∧ k < wr.heap.size) fun k hk e => ⟨e, hk⟩).kept hk (fun g hg e => h.ap g e hg.1), fun k e e2 => ?_, fun k e => ?_, fun k e => h.lo2 k e.1, h.bel.trans (hk.below (Nat.le_trans hB hs) fun i hi e => by have := h.lo i e; omega)⟩
  · rcases e with e | e
    · exact h.ap k e e2.1
    · have := e2.2; omega
  · rcases e with e | e
    · exact h.lo k e
    · omega
theorem DoR.callQ (h : DoR B w p q wr F G l o l2 o2) (hB : B ≤ w.heap.size) (hk : Keep G wr w') (hb : QK (fun k => G k ∨ wr.heap.size ≤ k) w' q l' o') :
    DoR B w p q w' (fun k => F k ∧ k < wr.heap.size) (fun k => G k ∨ wr.heap.size ≤ k) l o l' o' := by
  have hs := h.bel.size
  refine ⟨(h.bk.mono (G := fun k => F k ∧ k < wr.heap.size) fun k hk e => ⟨e, hk⟩).kept hk (fun g hg e => h.ap g hg.1 e), hb, fun k e e2 => ?_, fun k e => h.lo k e.1, fun k e => ?_, h.bel.trans (hk.below (Nat.le_trans hB hs) fun i hi e => by have := h.lo2 i e; omega)⟩
  · rcases e2 with e2 | e2
    · exact h.ap k e.1 e2
    · have := e.2; omega
  · rcases e with e | e
    · exact h.lo2 k e
    · omega
theorem DoR.below (h : DoR B w p q wr F G l o l2 o2) (hB : B ≤ w.heap.size) (hb : Below wr.heap.size wr w') : DoR B w p q w' F G l o l2 o2 :=
  ⟨h.bk.below hb, h.qk.below hb, h.ap, h.lo, h.lo2, h.bel.trans (hb.mono (Nat.le_trans hB h.bel.size))⟩
theorem DoR.drew (h : DoR B w p q wr F G l o l2 o2) : DoR B w p q wr.drew F G l o l2 o2 := ⟨h.bk.drew, h.qk.drew, h.ap, h.lo, h.lo2, h.bel.drew⟩
/-- Only blocks that are there. -/
theorem DoR.tight (h : DoR B w p q wr F G l o l2 o2) : DoR B w p q wr (fun k => F k ∧ k < wr.heap.size) (fun k => G k ∧ k < wr.heap.size) l o l2 o2 :=
  ⟨h.bk.mono fun k hk e => ⟨e, hk⟩, h.qk.mono fun k hk e => ⟨e, hk⟩, fun k e e2 => h.ap k e.1 e2.1, fun k e => h.lo k e.1, fun k e => h.lo2 k e.1, h.bel⟩
end

theorem InvC.b {l : List Wt} {o : Int} (h : InvC l o) : InvB l o := ⟨fun x hx => (h.one x hx).1, h.nd, h.len, h.out, h.o0.1⟩
theorem InvB.c {l : List Wt} {o : Int} (h : InvB l o) (h1 : ∀ x ∈ l, x.k ≤ topM) (h2 : o = 0 ∨ ∃ x ∈ l, x.k = o) : InvC l o := ⟨fun x hx => ⟨h.one x hx, h1 x hx⟩, h.nd, h.len, h.out, ⟨h.o0, by
  rcases h2 with h2 | ⟨x, hx, h2⟩
  · rw [h2]; decide
  · rw [← h2]; exact h1 x hx⟩, h2⟩
theorem InvC.start : InvC [] 0 := InvB.start.c (fun x h => (by cases h)) (.inl rfl)
theorem InvC.push {l : List Wt} {o : Int} (h : InvC l o) (k : Int) (hk : k ≤ topM) : InvC (pushL l k) o := by
  refine (h.b.push k trivial).c (fun x hx => ?_) ?_
  · unfold pushL at hx
    split at hx
    · rcases List.mem_append.1 hx with hx | hx
      · exact (h.one x hx).2
      · rw [List.mem_singleton.1 hx]; exact hk
    · exact (h.one x hx).2
  · rcases h.mem with h0 | ⟨x, hx, h0⟩
    · exact .inl h0
    · refine .inr ⟨x, ?_, h0⟩
      unfold pushL
      split
      · exact List.mem_append_left _ hx
      · exact hx
theorem InvC.drop {l : List Wt} {o : Int} (h : InvC l o) (k : Int) : InvC (dropL l k) (dropO l o k) := by
  refine (h.b.drop k).c (fun x hx => (h.one x (List.mem_of_mem_eraseIdx hx)).2) ?_
  rcases place_cases l k with ⟨h1, h2⟩ | ⟨i, y, h1, h2, h3, h4⟩
  · rw [dropL_none h1, show dropO l o k = o from by unfold dropO; rw [if_neg (by omega)]]
    exact h.mem
  · have ho : dropO l o k = backO o k := by unfold dropO; rw [if_pos (by omega)]
    rw [ho]
    rcases h.mem with h0 | ⟨x, hx, h0⟩
    · left
      unfold backO
      split
      · rfl
      · exact h0
    · by_cases hko : k = o
      · left
        have hy1 := (h.one y (List.mem_of_getElem? h2)).1
        have : backB o k = true := by unfold backB; simp; omega
        unfold backO
        rw [if_pos this]
      · right
        have : backB o k = false := by unfold backB; simp [hko]
        have hoo : backO o k = o := by unfold backO; rw [if_neg (by rw [this]; simp)]
        rw [hoo]
        refine ⟨x, ?_, h0⟩
        obtain ⟨j, hj⟩ := List.getElem?_of_mem hx
        have hfi : (l.findIdx fun x => decide (x.k = k)) = i := by
          have e1 := place_at h2 h.nd
          rw [h3, h1] at e1
          unfold placeW idxW at h1
          split at h1
          · omega
          · omega
        unfold dropL
        rw [hfi, List.mem_eraseIdx_iff_getElem?]
        refine ⟨j, fun e => ?_, hj⟩
        rw [e] at hj
        rw [h2] at hj
        cases hj
        omega
theorem InvC.news {l : List Wt} {o : Int} (h : InvC l o) : InvC (newsL l o) o := by
  refine h.b.news.c (fun x hx => ?_) ?_
  · obtain ⟨y, hy, rfl⟩ := List.mem_map.1 hx
    exact (h.one y hy).2
  · rcases h.mem with h0 | ⟨x, hx, h0⟩
    · exact .inl h0
    · exact .inr ⟨_, List.mem_map.2 ⟨x, hx, rfl⟩, h0⟩
theorem InvC.try_ {l : List Wt} {o : Int} (h : InvC l o) : InvC (tryP l o).2.2.1 (tryP l o).2.2.2 := by
  by_cases ho : 0 < o
  · rw [try_out ho]; exact h
  rcases idx_cases isR l with ⟨hn, _⟩ | ⟨i, x, hix, hx, hr, hil, hfi⟩
  · rw [try_none (show readyW l = -1 from hn)]; exact h
  · have hb := h.b.try_
    rw [try_at ho (show l.findIdx (fun x => x.r) = i from hfi) hx] at hb ⊢
    dsimp only at hb ⊢
    refine hb.c (fun y hy => ?_) (.inr ⟨⟨x.k, false⟩, ?_, rfl⟩)
    · rcases List.mem_or_eq_of_mem_set hy with hy | hy
      · exact (h.one y hy).2
      · rw [hy]; exact (h.one x (List.mem_of_getElem? hx)).2
    · exact List.mem_of_getElem? (List.getElem?_set_self hil)
theorem InvC.back {l : List Wt} {o : Int} (h : InvC l o) (k : Int) : InvC l (backO o k) := by
  refine (h.b.back k).c (fun x hx => (h.one x hx).2) ?_
  unfold backO
  split
  · exact .inl rfl
  · exact h.mem
end Go.Proofs.Ytnkekjaljhpmjaa
