/- 'BacklogDoes' returns true for every input: the row of this law, proved. No condition. -/
import Derived.Test.YtnkekjaljhpmjaaBkK
import Derived.Test.YtnkekjaljhpmjaaBkO
import Derived.Deep.CutBlock
import Derived.ProofKit
import Derived.OpenShut
import Derived.ShutString
import Derived.ChangeOld
import Derived.SizedLaws
namespace Go.Proofs.Ytnkekjaljhpmjaa
open Go.RowKit
set_option linter.unusedVariables false
set_option linter.unusedSimpArgs false
/-- What holds of a backlog. -/
structure InvB (l : List Wt) (o : Int) : Prop where
  one : ∀ x ∈ l, 1 ≤ x.k
  nd : (l.map Wt.k).Nodup
  len : l.length ≤ 256
  out : ∀ x ∈ l, x.k = o → x.r = false
  o0 : 0 ≤ o
theorem InvB.start : InvB [] 0 := ⟨fun x h => (by cases h), List.nodup_nil, by simp, fun x h => (by cases h), Int.le_refl _⟩
theorem InvB.push {l : List Wt} {o : Int} (h : InvB l o) (k : Int) (hw : True) : InvB (pushL l k) o := by
  unfold pushL
  split
  case isFalse => exact h
  case isTrue he =>
    unfold pushE at he
    by_cases h1 : k < 1
    · rw [if_pos h1] at he; omega
    rw [if_neg h1] at he
    by_cases h2 : 0 ≤ placeW l k
    · rw [if_pos h2] at he; omega
    rw [if_neg h2] at he
    by_cases h3 : 256 ≤ l.length
    · rw [if_pos h3] at he; omega
    have hp : ∀ x ∈ l, x.k ≠ k := by
      rcases place_cases l k with ⟨_, h3⟩ | ⟨i, x, h3, _⟩
      · exact h3
      · omega
    refine ⟨fun x hx => ?_, ?_, by simp; omega, fun x hx e => ?_, h.o0⟩
    · rcases List.mem_append.1 hx with hx | hx
      · exact h.one x hx
      · rw [List.mem_singleton.1 hx]
        dsimp only
        omega
    · rw [List.map_append, List.nodup_append]
      refine ⟨h.nd, by simp, fun a ha b hb e => ?_⟩
      obtain ⟨x, hx, rfl⟩ := List.mem_map.1 ha
      simp at hb
      subst hb
      exact hp x hx e
    · rcases List.mem_append.1 hx with hx | hx
      · exact h.out x hx e
      · rw [List.mem_singleton.1 hx]
theorem InvB.drop {l : List Wt} {o : Int} (h : InvB l o) (k : Int) : InvB (dropL l k) (dropO l o k) := by
  have hs : ∀ x, x ∈ dropL l k → x ∈ l := fun x hx => List.mem_of_mem_eraseIdx hx
  refine ⟨fun x hx => h.one x (hs x hx), ((List.eraseIdx_sublist _ _).map Wt.k).nodup h.nd, ?_, fun x hx e => ?_, ?_⟩
  · have := List.length_eraseIdx_le l (l.findIdx fun x => decide (x.k = k))
    have := h.len
    unfold dropL
    omega
  · have h1 := h.one x (hs x hx)
    unfold dropO backO at e
    split at e
    · split at e
      · omega
      · exact h.out x (hs x hx) e
    · exact h.out x (hs x hx) e
  · unfold dropO backO
    have := h.o0
    split
    · split <;> omega
    · exact this
theorem InvB.news {l : List Wt} {o : Int} (h : InvB l o) : InvB (newsL l o) o := by
  refine ⟨fun x hx => ?_, ?_, by rw [newsL, List.length_map]; exact h.len, fun x hx e => ?_, h.o0⟩
  · obtain ⟨y, hy, rfl⟩ := List.mem_map.1 hx
    exact h.one y hy
  · unfold newsL
    rw [List.map_map]
    exact h.nd
  · obtain ⟨y, hy, rfl⟩ := List.mem_map.1 hx
    dsimp only at e ⊢
    simp [e]
theorem InvB.try_ {l : List Wt} {o : Int} (h : InvB l o) : InvB (tryP l o).2.2.1 (tryP l o).2.2.2 := by
  by_cases ho : 0 < o
  · rw [try_out ho]; exact h
  rcases idx_cases isR l with ⟨hn, _⟩ | ⟨i, x, hix, hx, hr, hil, hfi⟩
  · rw [try_none (show readyW l = -1 from hn)]; exact h
  · rw [try_at ho (show l.findIdx (fun x => x.r) = i from hfi) hx]
    dsimp only
    obtain ⟨hi, he⟩ := List.getElem?_eq_some_iff.1 hx
    have hk : (l.set i ⟨x.k, false⟩).map Wt.k = l.map Wt.k := by
      rw [List.map_set]
      show (l.map Wt.k).set i x.k = _
      have h0 : x.k = (l.map Wt.k)[i]'(by simpa using hi) := by simp [he]
      rw [h0]
      exact List.set_getElem_self _
    have h1 := h.one x (List.mem_of_getElem? hx)
    refine ⟨fun y hy => ?_, by rw [hk]; exact h.nd, by rw [List.length_set]; exact h.len, fun y hy e => ?_, by omega⟩
    · rcases List.mem_or_eq_of_mem_set hy with hy | hy
      · exact h.one y hy
      · rw [hy]; exact h1
    · obtain ⟨j, hj⟩ := List.getElem?_of_mem hy
      have e1 := place_at hj (by rw [hk]; exact h.nd)
      have e2 := place_at (x := ⟨x.k, false⟩) (l := l.set i ⟨x.k, false⟩) (i := i) (by rw [List.getElem?_set_self hi]) (by rw [hk]; exact h.nd)
      dsimp only at e2
      rw [e, e2] at e1
      have e3 : j = i := by omega
      subst e3
      rw [List.getElem?_set_self hi] at hj
      cases hj
      rfl
theorem InvB.back {l : List Wt} {o : Int} (h : InvB l o) (k : Int) : InvB l (backO o k) := by
  unfold backO
  split
  · exact ⟨h.one, h.nd, h.len, fun x hx e => by have := h.one x hx; omega, by omega⟩
  · exact h
theorem BK.widen {F : Nat → Prop} {w : World} {p : Nat} {l : List Wt} {o : Int} (h : BK F w p l o) (N : Nat) : BK (fun k => F k ∨ N ≤ k) w p l o := h.mono fun _ _ e => .inl e
theorem QK.widen {F : Nat → Prop} {w : World} {p : Nat} {l : List Wt} {o : Int} (h : QK F w p l o) (N : Nat) : QK (fun k => F k ∨ N ≤ k) w p l o := h.mono fun _ _ e => .inl e
/-- A backlog and the document's, in blocks of their own. -/
structure DoR (B : Nat) (w : World) (p q : Nat) (wr : World) (F G : Nat → Prop) (l : List Wt) (o : Int) (l2 : List Wt) (o2 : Int) : Prop where
  bk : BK F wr p l o
  qk : QK G wr q l2 o2
  ap : ∀ k, F k → ¬ G k
  lo : ∀ k, F k → B ≤ k
  lo2 : ∀ k, G k → B ≤ k
  bel : Below B w wr
section
variable {B : Nat} {w : World} {p q : Nat} {wr w' : World} {F G : Nat → Prop} {l l' l2 : List Wt} {o o' o2 : Int}
theorem DoR.callB (h : DoR B w p q wr F G l o l2 o2) (hB : B ≤ w.heap.size) (hk : Keep F wr w') (hb : BK (fun k => F k ∨ wr.heap.size ≤ k) w' p l' o') :
    DoR B w p q w' (fun k => F k ∨ wr.heap.size ≤ k) (fun k => G k ∧ k < wr.heap.size) l' o' l2 o2 := by
  have hs := h.bel.size
  refine ⟨hb, (h.qk.mono (G := fun k => G k ∧ k < wr.heap.size) fun k hk e => ⟨e, hk⟩).kept hk (fun g hg e => h.ap g e hg.1), fun k e e2 => ?_, fun k e => ?_, fun k e => h.lo2 k e.1, h.bel.trans (hk.below (Nat.le_trans hB hs) fun i hi e => by have := h.lo i e; omega)⟩
  · rcases e with e | e
    · exact h.ap k e e2.1
    · have := e2.2; omega
  · rcases e with e | e
    · exact h.lo k e
    · omega
theorem DoR.callQ (h : DoR B w p q wr F G l o l2 o2) (hB : B ≤ w.heap.size) (hk : Keep G wr w') (hb : QK (fun k => G k ∨ wr.heap.size ≤ k) w' q l' o') :
    DoR B w p q w' (fun k => F k ∧ k < wr.heap.size) (fun k => G k ∨ wr.heap.size ≤ k) l o l' o' := by
  have hs := h.bel.size
  refine ⟨(h.bk.mono (G := fun k => F k ∧ k < wr.heap.size) fun k hk e => ⟨e, hk⟩).kept hk (fun g hg e => h.ap g hg.1 e), hb, fun k e e2 => ?_, fun k e => h.lo k e.1, fun k e => ?_, h.bel.trans (hk.below (Nat.le_trans hB hs) fun i hi e => by have := h.lo2 i e; omega)⟩
  · rcases e2 with e2 | e2
    · exact h.ap k e.1 e2
    · have := e.2; omega
  · rcases e with e | e
    · exact h.lo2 k e
    · omega
theorem DoR.below (h : DoR B w p q wr F G l o l2 o2) (hB : B ≤ w.heap.size) (hb : Below wr.heap.size wr w') : DoR B w p q w' F G l o l2 o2 :=
  ⟨h.bk.below hb, h.qk.below hb, h.ap, h.lo, h.lo2, h.bel.trans (hb.mono (Nat.le_trans hB h.bel.size))⟩
theorem DoR.drew (h : DoR B w p q wr F G l o l2 o2) : DoR B w p q wr.drew F G l o l2 o2 := ⟨h.bk.drew, h.qk.drew, h.ap, h.lo, h.lo2, h.bel.drew⟩
/-- Only blocks that are there. -/
theorem DoR.tight (h : DoR B w p q wr F G l o l2 o2) : DoR B w p q wr (fun k => F k ∧ k < wr.heap.size) (fun k => G k ∧ k < wr.heap.size) l o l2 o2 :=
  ⟨h.bk.mono fun k hk e => ⟨e, hk⟩, h.qk.mono fun k hk e => ⟨e, hk⟩, fun k e e2 => h.ap k e.1 e2.1, fun k e => h.lo k e.1, fun k e => h.lo2 k e.1, h.bel⟩
end
set_option maxRecDepth 100000 in
set_option maxHeartbeats 3200000 in
theorem backlogDoes_walk {w : World} (A : Option Addr) (n c : Nat) (f : Nat → OpV) (ho : OPS w A n f) (hc : n ≤ c) (hm : c ≤ 9223372036854775807) :
    Calls Try.prog 3 #[.slice A n c] w fun e w' => e = .returned (.bool true) ∧ Below w.heap.size w w' := by
  go_enter Try.func3, Try.ntmps3
  go_wp2_with fail
  refine (bnew_any _).mono ?_
  rintro e w1 ⟨rfl, h1, hb1⟩
  go_wp2_with fail
  refine (lives_any _).mono ?_
  rintro e w2 ⟨rfl, hx2⟩
  have hq1 : QK (fun k => k = w1.heap.size) (w1.alloc (.cells #[.slice none 0 0, .int .i64 0] 28)) w1.heap.size [] 0 :=
    ⟨_, Blk.new w1 _ _, QO.nil _ _, by simp [Value.ownBlock], rfl, fun g hg => by cases hg⟩
  have h2 := (h1.mono (G := fun k => w.heap.size ≤ k ∧ k < w1.heap.size) fun k hk e => ⟨e, hk⟩).alloc (.cells #[.slice none 0 0, .int .i64 0] 28)
  have hb2 := hb1.alloc hb1.size (.cells #[.slice none 0 0, .int .i64 0] 28)
  obtain ⟨B, hB⟩ : ∃ B, w.heap.size = B := ⟨_, rfl⟩
  obtain ⟨q, hq⟩ : ∃ q, w1.heap.size = q := ⟨_, rfl⟩
  have hBw : B ≤ w.heap.size := by omega
  have hwq : B ≤ q := by have := hb1.size; omega
  have hR : DoR B w B q w2 (fun k => B ≤ k ∧ k < q) (fun k => k = q) [] 0 [] 0 := by
    refine ⟨?_, ?_, fun k e e2 => by omega, fun k e => e.1, fun k e => by omega, ?_⟩
    · have := h2.below hx2
      rw [hB, hq] at this
      exact this
    · have := hq1.below hx2
      rw [hq] at this
      exact this
    · have := hb2.trans (hx2.mono hb2.size)
      rw [hB] at this
      exact this
  rw [hB, hq]
  clear h1 hb1 hx2 h2 hb2 hq1 hq
  go_wp2
  go_loopw [5] (fun i wr => ∃ (k : Nat) (l : List Wt) (o : Int) (F G : Nat → Prop), i = .int .i64 (k : Int) ∧ k ≤ n ∧ DoR B w B q wr F G l o l o ∧ Hid (InvB l o)) (fun i _ => n - (intOf i).toNat)
  case atStart => exact ⟨0, [], 0, _, _, by go_num, by omega, hR, Lib.hid InvB.start⟩
  case round =>
    obtain ⟨k, l, o, F, G, rfl, hk, hR, hst⟩ := hrel
    have hlen0 := hst.out.len
    by_cases hlt : k < n
    · have hlz : (k : Int) < (n : Int) := by omega
      have hk0 : (0 : Int) ≤ (k : Int) := by omega
      obtain ⟨b, off, rfl, hbl, hat⟩ := ho (by omega)
      obtain ⟨c0, c1, hwf0⟩ := (hat k hlt).below (hB ▸ hR.bel) hbl
      have hblr : b < wr.heap.size := World.block_lt_of_cell? _ _ c0
      generalize f k = ov at c0 c1 hwf0
      obtain ⟨ok, on⟩ := ov
      dsimp only at c0 c1 hwf0
      have hwf : True := trivial
      have hR0 := hR.tight.below hBw ((Below.refl wr.heap.size wr).alloc (Nat.le_refl _) (.cells #[.int .i64 ok, .int .i64 on] 31))
      have hop0 := Blk.new wr 31 #[.int .i64 ok, .int .i64 on]
      obtain ⟨F0, hF0⟩ : ∃ F0, (fun k => F k ∧ k < wr.heap.size) = F0 := ⟨_, rfl⟩
      obtain ⟨G0, hG0⟩ : ∃ G0, (fun k => G k ∧ k < wr.heap.size) = G0 := ⟨_, rfl⟩
      have hFbo : ∀ k, F0 k → k ≠ wr.heap.size := fun k e => by rw [← hF0] at e; have := e.2; omega
      have hGbo : ∀ k, G0 k → k ≠ wr.heap.size := fun k e => by rw [← hG0] at e; have := e.2; omega
      rw [hF0, hG0] at hR0
      clear hR hF0 hG0
      go_upto_block 2 with fail
      generalize hbo : wr.heap.size = bo at *
      generalize wr.alloc (.cells #[.int .i64 ok, .int .i64 on] 31) = w0 at *
      clear c0 c1 hat ho
      have o0 := hop0.cell 0
      have o1 := hop0.cell 1
      simp at o0 o1
      have o1d : w0.drew.cell? ⟨bo, 1, none⟩ = some (.int .i64 on) := o1
      have hbol : bo < w0.heap.size := hop0.lt
      clear hop0
      by_cases h1 : ok = 1
      · as_aux_lemma =>
          subst h1
          have hinv := Lib.hid (hst.out.push on hwf)
          obtain ⟨E, hE⟩ : ∃ E, pushE l on = E := ⟨_, rfl⟩
          have hbp := bpush_any on hR0.drew.bk (by omega)
          rw [hE] at hbp
          go_wp2
          refine wp_region_held_drew (S := (fun W => W.cell? ⟨bo, 1, none⟩ = some (.int .i64 on))) (by kernel_rfl) o1d (fun hHeld => ?_)
          refine wpAnyH_take (i := 0) (oi := ?oi0a) (v := ?v0a) ?hi0a (by kernel_rfl) (by kernel_rfl) (by kernel_rfl) ?hq0a (Or.inl ⟨?hw0a, ?hy0a⟩) (by assumption) ?rest0a
          case hi0a => (simp only [List.getElem?_toArray, List.getElem?_cons_succ, List.getElem?_cons_zero]; rfl)
          case hq0a => exact fun _ _ _ h => h
          case hw0a => rfl
          case hy0a => (intro w hSw; (try dsimp only at hSw); go_simp <;> with_reducible rfl)
          try simp only [Act.put, List.setIfInBounds_toArray, List.set_cons_zero, List.set_cons_succ]
          refine wpAnyH_take (i := 1) (oi := ?oi1a) (v := ?v1a) ?hi1a (by kernel_rfl) (by kernel_rfl) (by kernel_rfl) ?hq1a (Or.inl ⟨?hw1a, ?hy1a⟩) (by assumption) ?rest1a
          case hi1a => (simp only [List.getElem?_toArray, List.getElem?_cons_succ, List.getElem?_cons_zero]; rfl)
          case hq1a => exact fun _ _ _ h => h
          case hw1a => rfl
          case hy1a => (intro w hSw; (try dsimp only at hSw); go_simp <;> with_reducible rfl)
          try simp only [Act.put, List.setIfInBounds_toArray, List.set_cons_zero, List.set_cons_succ]
          refine wpAnyH_take (i := 2) (oi := ?oi2a) (v := ?v2a) ?hi2a (by kernel_rfl) (by kernel_rfl) (by kernel_rfl) ?hq2a (Or.inl ⟨?hw2a, ?hy2a⟩) (by assumption) ?rest2a
          case hi2a => (simp only [List.getElem?_toArray, List.getElem?_cons_succ, List.getElem?_cons_zero]; rfl)
          case hq2a => exact fun _ _ _ h => h
          case hw2a => rfl
          case hy2a => (intro w hSw; (try dsimp only at hSw); go_simp <;> with_reducible rfl)
          try simp only [Act.put, List.setIfInBounds_toArray, List.set_cons_zero, List.set_cons_succ]
          refine wpAnyH_take (i := 4) (oi := ?oi4a) (v := ?v4a) ?hi4a (by kernel_rfl) (by kernel_rfl) (by kernel_rfl) ?hq4a (Or.inl ⟨?hw4a, ?hy4a⟩) (by assumption) ?rest4a
          case hi4a => (simp only [List.getElem?_toArray, List.getElem?_cons_succ, List.getElem?_cons_zero]; rfl)
          case hq4a => exact fun _ _ _ h => h
          case hw4a => rfl
          case hy4a => (intro w hSw; (try dsimp only at hSw); go_simp <;> with_reducible rfl)
          try simp only [Act.put, List.setIfInBounds_toArray, List.set_cons_zero, List.set_cons_succ]
          refine wpAnyH_take (i := 5) (oi := ?oi5a) (v := ?v5a) ?hi5a (by kernel_rfl) (by kernel_rfl) (by kernel_rfl) ?hq5a (Or.inl ⟨?hw5a, ?hy5a⟩) (by assumption) ?rest5a
          case hi5a => (simp only [List.getElem?_toArray, List.getElem?_cons_succ, List.getElem?_cons_zero]; rfl)
          case hq5a => exact fun _ _ _ h => h
          case hw5a => rfl
          case hy5a => (intro w hSw; (try dsimp only at hSw); go_simp <;> with_reducible rfl)
          try simp only [Act.put, List.setIfInBounds_toArray, List.set_cons_zero, List.set_cons_succ]
          refine wpAnyH_take (i := 6) (oi := ?oi6a) (v := ?v6a) ?hi6a (by kernel_rfl) (by kernel_rfl) (by kernel_rfl) ?hq6a (Or.inl ⟨?hw6a, ?hy6a⟩) (by assumption) ?rest6a
          case hi6a => (simp only [List.getElem?_toArray, List.getElem?_cons_succ, List.getElem?_cons_zero]; rfl)
          case hq6a => exact fun _ _ _ h => h
          case hw6a => rfl
          case hy6a => (intro w hSw; (try dsimp only at hSw); go_simp <;> with_reducible rfl)
          try simp only [Act.put, List.setIfInBounds_toArray, List.set_cons_zero, List.set_cons_succ]
          refine wpAnyH_ready (rs := [3]) (by kernel_rfl) (by simp) ?_
          refine AllReadyH.cons (o := ?o3a) ?hi3a (fun K hK => ?st3a) AllReadyH.nil
          case hi3a => (simp only [List.getElem?_toArray, List.getElem?_cons_succ, List.getElem?_cons_zero]; rfl)
          go_simp
          refine (hbp).mono ?_
          rintro e w3 ⟨rfl, hbk, hkp⟩
          have hR3 := hR0.drew.callB hBw hkp hbk
          have p1 : w3.cell? ⟨bo, 1, none⟩ = some (.int .i64 on) := hkp.cell o1 (fun e => hFbo _ e rfl)
          refine hK.out _ _ p1 (fun hHeld2 => ?_)
          clear hK K hHeld
          have hHeld := hHeld2
          clear hHeld2
          try simp only [Act.put, List.setIfInBounds_toArray, List.set_cons_zero, List.set_cons_succ]
          refine wpAnyH_ready (rs := [7]) (by kernel_rfl) (by simp) ?_
          refine AllReadyH.cons (o := ?o7a) ?hi7a (fun K hK => ?st7a) AllReadyH.nil
          case hi7a => (simp only [List.getElem?_toArray, List.getElem?_cons_succ, List.getElem?_cons_zero]; rfl)
          go_simp
          have hx := rpush_any on hR3.qk (by omega)
          rw [hE] at hx
          refine hx.mono ?_
          rintro e w4 ⟨rfl, hqk, hkq⟩
          have hR4 := hR3.callQ hBw hkq hqk
          have p2 : w4.cell? ⟨bo, 1, none⟩ = some (.int .i64 on) := hkq.cell p1 (fun e => hGbo _ e.1 rfl)
          refine hK.out _ _ p2 (fun hHeld2 => ?_)
          clear hK K hHeld
          have hHeld := hHeld2
          clear hHeld2
          try simp only [Act.put, List.setIfInBounds_toArray, List.set_cons_zero, List.set_cons_succ]
          refine wpAnyH_take (i := 8) (oi := ?oi8a) (v := ?v8a) ?hi8a (by kernel_rfl) (by kernel_rfl) (by kernel_rfl) ?hq8a (Or.inl ⟨?hw8a, ?hy8a⟩) (by assumption) ?rest8a
          case hi8a => (simp only [List.getElem?_toArray, List.getElem?_cons_succ, List.getElem?_cons_zero]; rfl)
          case hq8a => exact fun _ _ _ h => h
          case hw8a => rfl
          case hy8a => (intro w hSw; (try dsimp only at hSw); go_simp <;> with_reducible rfl)
          try simp only [Act.put, List.setIfInBounds_toArray, List.set_cons_zero, List.set_cons_succ]
          refine wpAnyH_take (i := 9) (oi := ?oi9a) (v := ?v9a) ?hi9a (by kernel_rfl) (by kernel_rfl) (by kernel_rfl) ?hq9a (Or.inl ⟨?hw9a, ?hy9a⟩) (by assumption) ?rest9a
          case hi9a => (simp only [List.getElem?_toArray, List.getElem?_cons_succ, List.getElem?_cons_zero]; rfl)
          case hq9a => exact fun _ _ _ h => h
          case hw9a => rfl
          case hy9a => (intro w hSw; (try dsimp only at hSw); go_simp <;> with_reducible rfl)
          try simp only [Act.put, List.setIfInBounds_toArray, List.set_cons_zero, List.set_cons_succ]
          refine wpAnyH_done (by kernel_rfl) ?_ _
          go_wp2
          have hbl4 : bo < w4.heap.size := World.block_lt_of_cell? _ _ p2
          have hlen4 := hinv.out.len
          have hlk := looks_any hR4.drew.bk hR4.drew.qk hinv.out.nd (by omega)
          go_wp2
          refine wp_region_held_drew (S := (fun W => W.cell? ⟨bo, 1, none⟩ = some (.int .i64 on))) (by kernel_rfl) p2 (fun hHeld => ?_)
          refine wpAnyH_take (i := 0) (oi := ?oi0A) (v := ?v0A) ?hi0A (by kernel_rfl) (by kernel_rfl) (by kernel_rfl) ?hq0A (Or.inl ⟨?hw0A, ?hy0A⟩) (by assumption) ?rest0A
          case hi0A => (simp only [List.getElem?_toArray, List.getElem?_cons_succ, List.getElem?_cons_zero]; rfl)
          case hq0A => exact fun _ _ _ h => h
          case hw0A => rfl
          case hy0A => (intro w hSw; (try dsimp only at hSw); go_simp <;> with_reducible rfl)
          try simp only [Act.put, List.setIfInBounds_toArray, List.set_cons_zero, List.set_cons_succ]
          refine wpAnyH_take (i := 1) (oi := ?oi1A) (v := ?v1A) ?hi1A (by kernel_rfl) (by kernel_rfl) (by kernel_rfl) ?hq1A (Or.inl ⟨?hw1A, ?hy1A⟩) (by assumption) ?rest1A
          case hi1A => (simp only [List.getElem?_toArray, List.getElem?_cons_succ, List.getElem?_cons_zero]; rfl)
          case hq1A => exact fun _ _ _ h => h
          case hw1A => rfl
          case hy1A => (intro w hSw; (try dsimp only at hSw); go_simp <;> with_reducible rfl)
          try simp only [Act.put, List.setIfInBounds_toArray, List.set_cons_zero, List.set_cons_succ]
          refine wpAnyH_take (i := 2) (oi := ?oi2A) (v := ?v2A) ?hi2A (by kernel_rfl) (by kernel_rfl) (by kernel_rfl) ?hq2A (Or.inl ⟨?hw2A, ?hy2A⟩) (by assumption) ?rest2A
          case hi2A => (simp only [List.getElem?_toArray, List.getElem?_cons_succ, List.getElem?_cons_zero]; rfl)
          case hq2A => exact fun _ _ _ h => h
          case hw2A => rfl
          case hy2A => (intro w hSw; (try dsimp only at hSw); go_simp <;> with_reducible rfl)
          try simp only [Act.put, List.setIfInBounds_toArray, List.set_cons_zero, List.set_cons_succ]
          refine wpAnyH_take (i := 3) (oi := ?oi3A) (v := ?v3A) ?hi3A (by kernel_rfl) (by kernel_rfl) (by kernel_rfl) ?hq3A (Or.inl ⟨?hw3A, ?hy3A⟩) (by assumption) ?rest3A
          case hi3A => (simp only [List.getElem?_toArray, List.getElem?_cons_succ, List.getElem?_cons_zero]; rfl)
          case hq3A => exact fun _ _ _ h => h
          case hw3A => rfl
          case hy3A => (intro w hSw; (try dsimp only at hSw); go_simp <;> with_reducible rfl)
          try simp only [Act.put, List.setIfInBounds_toArray, List.set_cons_zero, List.set_cons_succ]
          refine wpAnyH_take (i := 4) (oi := ?oi4A) (v := ?v4A) ?hi4A (by kernel_rfl) (by kernel_rfl) (by kernel_rfl) ?hq4A (Or.inl ⟨?hw4A, ?hy4A⟩) (by assumption) ?rest4A
          case hi4A => (simp only [List.getElem?_toArray, List.getElem?_cons_succ, List.getElem?_cons_zero]; rfl)
          case hq4A => exact fun _ _ _ h => h
          case hw4A => rfl
          case hy4A => (intro w hSw; (try dsimp only at hSw); go_simp <;> with_reducible rfl)
          try simp only [Act.put, List.setIfInBounds_toArray, List.set_cons_zero, List.set_cons_succ]
          refine wpAnyH_ready (rs := [5]) (by kernel_rfl) (by simp) ?_
          refine AllReadyH.cons (o := ?o5A) ?hi5A (fun K hK => ?st5A) AllReadyH.nil
          case hi5A => (simp only [List.getElem?_toArray, List.getElem?_cons_succ, List.getElem?_cons_zero]; rfl)
          go_simp
          refine hlk.mono ?_
          rintro e w5 ⟨rfl, hb5⟩
          have hR5 := hR4.drew.below hBw hb5
          have p5 := (hb5.cell (p := ⟨bo, 1, none⟩) hbl4).trans p2
          have hpb := bplace_any on hR5.bk (by omega)
          refine hK.out _ _ p5 (fun hHeld2 => ?_)
          clear hK K hHeld
          have hHeld := hHeld2
          clear hHeld2
          try simp only [Act.put, List.setIfInBounds_toArray, List.set_cons_zero, List.set_cons_succ]
          refine wpAnyH_take (i := 6) (oi := ?oi6A) (v := ?v6A) ?hi6A (by kernel_rfl) (by kernel_rfl) (by kernel_rfl) ?hq6A (Or.inl ⟨?hw6A, ?hy6A⟩) (by assumption) ?rest6A
          case hi6A => (simp only [List.getElem?_toArray, List.getElem?_cons_succ, List.getElem?_cons_zero]; rfl)
          case hq6A => exact fun _ _ _ h => h
          case hw6A => rfl
          case hy6A => (intro w hSw; (try dsimp only at hSw); go_simp <;> with_reducible rfl)
          try simp only [Act.put, List.setIfInBounds_toArray, List.set_cons_zero, List.set_cons_succ]
          refine wpAnyH_take (i := 7) (oi := ?oi7A) (v := ?v7A) ?hi7A (by kernel_rfl) (by kernel_rfl) (by kernel_rfl) ?hq7A (Or.inl ⟨?hw7A, ?hy7A⟩) (by assumption) ?rest7A
          case hi7A => (simp only [List.getElem?_toArray, List.getElem?_cons_succ, List.getElem?_cons_zero]; rfl)
          case hq7A => exact fun _ _ _ h => h
          case hw7A => rfl
          case hy7A => (intro w hSw; (try dsimp only at hSw); go_simp <;> with_reducible rfl)
          try simp only [Act.put, List.setIfInBounds_toArray, List.set_cons_zero, List.set_cons_succ]
          refine wpAnyH_take (i := 8) (oi := ?oi8A) (v := ?v8A) ?hi8A (by kernel_rfl) (by kernel_rfl) (by kernel_rfl) ?hq8A (Or.inl ⟨?hw8A, ?hy8A⟩) (by assumption) ?rest8A
          case hi8A => (simp only [List.getElem?_toArray, List.getElem?_cons_succ, List.getElem?_cons_zero]; rfl)
          case hq8A => exact fun _ _ _ h => h
          case hw8A => rfl
          case hy8A => (intro w hSw; (try dsimp only at hSw); go_simp <;> with_reducible rfl)
          try simp only [Act.put, List.setIfInBounds_toArray, List.set_cons_zero, List.set_cons_succ]
          refine wpAnyH_take (i := 9) (oi := ?oi9A) (v := ?v9A) ?hi9A (by kernel_rfl) (by kernel_rfl) (by kernel_rfl) ?hq9A (Or.inl ⟨?hw9A, ?hy9A⟩) (by assumption) ?rest9A
          case hi9A => (simp only [List.getElem?_toArray, List.getElem?_cons_succ, List.getElem?_cons_zero]; rfl)
          case hq9A => exact fun _ _ _ h => h
          case hw9A => rfl
          case hy9A => (intro w hSw; (try dsimp only at hSw); go_simp <;> with_reducible rfl)
          try simp only [Act.put, List.setIfInBounds_toArray, List.set_cons_zero, List.set_cons_succ]
          refine wpAnyH_take (i := 10) (oi := ?oi10A) (v := ?v10A) ?hi10A (by kernel_rfl) (by kernel_rfl) (by kernel_rfl) ?hq10A (Or.inl ⟨?hw10A, ?hy10A⟩) (by assumption) ?rest10A
          case hi10A => (simp only [List.getElem?_toArray, List.getElem?_cons_succ, List.getElem?_cons_zero]; rfl)
          case hq10A => exact fun _ _ _ h => h
          case hw10A => rfl
          case hy10A => (intro w hSw; (try dsimp only at hSw); go_simp <;> with_reducible rfl)
          try simp only [Act.put, List.setIfInBounds_toArray, List.set_cons_zero, List.set_cons_succ]
          refine wpAnyH_take (i := 11) (oi := ?oi11A) (v := ?v11A) ?hi11A (by kernel_rfl) (by kernel_rfl) (by kernel_rfl) ?hq11A (Or.inl ⟨?hw11A, ?hy11A⟩) (by assumption) ?rest11A
          case hi11A => (simp only [List.getElem?_toArray, List.getElem?_cons_succ, List.getElem?_cons_zero]; rfl)
          case hq11A => exact fun _ _ _ h => h
          case hw11A => rfl
          case hy11A => (intro w hSw; (try dsimp only at hSw); go_simp <;> with_reducible rfl)
          try simp only [Act.put, List.setIfInBounds_toArray, List.set_cons_zero, List.set_cons_succ]
          refine wpAnyH_take (i := 13) (oi := ?oi13A) (v := ?v13A) ?hi13A (by kernel_rfl) (by kernel_rfl) (by kernel_rfl) ?hq13A (Or.inl ⟨?hw13A, ?hy13A⟩) (by assumption) ?rest13A
          case hi13A => (simp only [List.getElem?_toArray, List.getElem?_cons_succ, List.getElem?_cons_zero]; rfl)
          case hq13A => exact fun _ _ _ h => h
          case hw13A => rfl
          case hy13A => (intro w hSw; (try dsimp only at hSw); go_simp <;> with_reducible rfl)
          try simp only [Act.put, List.setIfInBounds_toArray, List.set_cons_zero, List.set_cons_succ]
          refine wpAnyH_take (i := 14) (oi := ?oi14A) (v := ?v14A) ?hi14A (by kernel_rfl) (by kernel_rfl) (by kernel_rfl) ?hq14A (Or.inl ⟨?hw14A, ?hy14A⟩) (by assumption) ?rest14A
          case hi14A => (simp only [List.getElem?_toArray, List.getElem?_cons_succ, List.getElem?_cons_zero]; rfl)
          case hq14A => exact fun _ _ _ h => h
          case hw14A => rfl
          case hy14A => (intro w hSw; (try dsimp only at hSw); go_simp <;> with_reducible rfl)
          try simp only [Act.put, List.setIfInBounds_toArray, List.set_cons_zero, List.set_cons_succ]
          refine wpAnyH_take (i := 15) (oi := ?oi15A) (v := ?v15A) ?hi15A (by kernel_rfl) (by kernel_rfl) (by kernel_rfl) ?hq15A (Or.inl ⟨?hw15A, ?hy15A⟩) (by assumption) ?rest15A
          case hi15A => (simp only [List.getElem?_toArray, List.getElem?_cons_succ, List.getElem?_cons_zero]; rfl)
          case hq15A => exact fun _ _ _ h => h
          case hw15A => rfl
          case hy15A => (intro w hSw; (try dsimp only at hSw); go_simp <;> with_reducible rfl)
          try simp only [Act.put, List.setIfInBounds_toArray, List.set_cons_zero, List.set_cons_succ]
          refine wpAnyH_ready (rs := [12]) (by kernel_rfl) (by simp) ?_
          refine AllReadyH.cons (o := ?o12A) ?hi12A (fun K hK => ?st12A) AllReadyH.nil
          case hi12A => (simp only [List.getElem?_toArray, List.getElem?_cons_succ, List.getElem?_cons_zero]; rfl)
          go_simp
          refine hpb.mono ?_
          rintro e w6 ⟨rfl, hb6⟩
          have hR6 := hR5.below hBw hb6
          have p6 := (hb6.cell (p := ⟨bo, 1, none⟩) (World.block_lt_of_cell? _ _ p5)).trans p5
          have hpq := rplace_any on hR6.qk (by omega)
          refine hK.out _ _ p6 (fun hHeld2 => ?_)
          clear hK K hHeld
          have hHeld := hHeld2
          clear hHeld2
          try simp only [Act.put, List.setIfInBounds_toArray, List.set_cons_zero, List.set_cons_succ]
          refine wpAnyH_ready (rs := [16]) (by kernel_rfl) (by simp) ?_
          refine AllReadyH.cons (o := ?o16A) ?hi16A (fun K hK => ?st16A) AllReadyH.nil
          case hi16A => (simp only [List.getElem?_toArray, List.getElem?_cons_succ, List.getElem?_cons_zero]; rfl)
          go_simp
          refine hpq.mono ?_
          rintro e w7 ⟨rfl, hww⟩
          subst w7
          refine hK.out _ _ p6 (fun hHeld2 => ?_)
          clear hK K hHeld
          have hHeld := hHeld2
          clear hHeld2
          try simp only [Act.put, List.setIfInBounds_toArray, List.set_cons_zero, List.set_cons_succ]
          refine wpAnyH_take (i := 17) (oi := ?oi17A) (v := ?v17A) ?hi17A (by kernel_rfl) (by kernel_rfl) (by kernel_rfl) ?hq17A (Or.inl ⟨?hw17A, ?hy17A⟩) (by assumption) ?rest17A
          case hi17A => (simp only [List.getElem?_toArray, List.getElem?_cons_succ, List.getElem?_cons_zero]; rfl)
          case hq17A => exact fun _ _ _ h => h
          case hw17A => rfl
          case hy17A => (intro w hSw; (try dsimp only at hSw); go_simp <;> with_reducible rfl)
          try simp only [Act.put, List.setIfInBounds_toArray, List.set_cons_zero, List.set_cons_succ]
          refine wpAnyH_take (i := 18) (oi := ?oi18A) (v := ?v18A) ?hi18A (by kernel_rfl) (by kernel_rfl) (by kernel_rfl) ?hq18A (Or.inl ⟨?hw18A, ?hy18A⟩) (by assumption) ?rest18A
          case hi18A => (simp only [List.getElem?_toArray, List.getElem?_cons_succ, List.getElem?_cons_zero]; rfl)
          case hq18A => exact fun _ _ _ h => h
          case hw18A => rfl
          case hy18A => (intro w hSw; (try dsimp only at hSw); go_simp <;> with_reducible rfl)
          try simp only [Act.put, List.setIfInBounds_toArray, List.set_cons_zero, List.set_cons_succ]
          refine wpAnyH_done (by kernel_rfl) ?_ _
          clear hlk hR4 hR5
          go_wp2
          go_roundw
          case measure => simp [intOf]; omega
          case rel => exact ⟨k + 1, _, _, _, _, by go_num, by omega, hR6, hinv⟩
      · by_cases h2 : ok = 2
        · as_aux_lemma =>
            subst h2
            have hinv := Lib.hid (hst.out.drop on)
            obtain ⟨E, hE⟩ : ∃ E, decide (0 ≤ placeW l on) = E := ⟨_, rfl⟩
            have hbp := bdrop_any on hR0.drew.bk (by omega)
            unfold DropPost at hbp
            rw [hE] at hbp
            go_wp2
            refine wp_region_held_drew (S := (fun W => W.cell? ⟨bo, 1, none⟩ = some (.int .i64 on))) (by kernel_rfl) o1d (fun hHeld => ?_)
            refine wpAnyH_take (i := 0) (oi := ?oi0b) (v := ?v0b) ?hi0b (by kernel_rfl) (by kernel_rfl) (by kernel_rfl) ?hq0b (Or.inl ⟨?hw0b, ?hy0b⟩) (by assumption) ?rest0b
            case hi0b => (simp only [List.getElem?_toArray, List.getElem?_cons_succ, List.getElem?_cons_zero]; rfl)
            case hq0b => exact fun _ _ _ h => h
            case hw0b => rfl
            case hy0b => (intro w hSw; (try dsimp only at hSw); go_simp <;> with_reducible rfl)
            try simp only [Act.put, List.setIfInBounds_toArray, List.set_cons_zero, List.set_cons_succ]
            refine wpAnyH_take (i := 1) (oi := ?oi1b) (v := ?v1b) ?hi1b (by kernel_rfl) (by kernel_rfl) (by kernel_rfl) ?hq1b (Or.inl ⟨?hw1b, ?hy1b⟩) (by assumption) ?rest1b
            case hi1b => (simp only [List.getElem?_toArray, List.getElem?_cons_succ, List.getElem?_cons_zero]; rfl)
            case hq1b => exact fun _ _ _ h => h
            case hw1b => rfl
            case hy1b => (intro w hSw; (try dsimp only at hSw); go_simp <;> with_reducible rfl)
            try simp only [Act.put, List.setIfInBounds_toArray, List.set_cons_zero, List.set_cons_succ]
            refine wpAnyH_take (i := 2) (oi := ?oi2b) (v := ?v2b) ?hi2b (by kernel_rfl) (by kernel_rfl) (by kernel_rfl) ?hq2b (Or.inl ⟨?hw2b, ?hy2b⟩) (by assumption) ?rest2b
            case hi2b => (simp only [List.getElem?_toArray, List.getElem?_cons_succ, List.getElem?_cons_zero]; rfl)
            case hq2b => exact fun _ _ _ h => h
            case hw2b => rfl
            case hy2b => (intro w hSw; (try dsimp only at hSw); go_simp <;> with_reducible rfl)
            try simp only [Act.put, List.setIfInBounds_toArray, List.set_cons_zero, List.set_cons_succ]
            refine wpAnyH_take (i := 4) (oi := ?oi4b) (v := ?v4b) ?hi4b (by kernel_rfl) (by kernel_rfl) (by kernel_rfl) ?hq4b (Or.inl ⟨?hw4b, ?hy4b⟩) (by assumption) ?rest4b
            case hi4b => (simp only [List.getElem?_toArray, List.getElem?_cons_succ, List.getElem?_cons_zero]; rfl)
            case hq4b => exact fun _ _ _ h => h
            case hw4b => rfl
            case hy4b => (intro w hSw; (try dsimp only at hSw); go_simp <;> with_reducible rfl)
            try simp only [Act.put, List.setIfInBounds_toArray, List.set_cons_zero, List.set_cons_succ]
            refine wpAnyH_take (i := 5) (oi := ?oi5b) (v := ?v5b) ?hi5b (by kernel_rfl) (by kernel_rfl) (by kernel_rfl) ?hq5b (Or.inl ⟨?hw5b, ?hy5b⟩) (by assumption) ?rest5b
            case hi5b => (simp only [List.getElem?_toArray, List.getElem?_cons_succ, List.getElem?_cons_zero]; rfl)
            case hq5b => exact fun _ _ _ h => h
            case hw5b => rfl
            case hy5b => (intro w hSw; (try dsimp only at hSw); go_simp <;> with_reducible rfl)
            try simp only [Act.put, List.setIfInBounds_toArray, List.set_cons_zero, List.set_cons_succ]
            refine wpAnyH_take (i := 6) (oi := ?oi6b) (v := ?v6b) ?hi6b (by kernel_rfl) (by kernel_rfl) (by kernel_rfl) ?hq6b (Or.inl ⟨?hw6b, ?hy6b⟩) (by assumption) ?rest6b
            case hi6b => (simp only [List.getElem?_toArray, List.getElem?_cons_succ, List.getElem?_cons_zero]; rfl)
            case hq6b => exact fun _ _ _ h => h
            case hw6b => rfl
            case hy6b => (intro w hSw; (try dsimp only at hSw); go_simp <;> with_reducible rfl)
            try simp only [Act.put, List.setIfInBounds_toArray, List.set_cons_zero, List.set_cons_succ]
            refine wpAnyH_ready (rs := [3]) (by kernel_rfl) (by simp) ?_
            refine AllReadyH.cons (o := ?o3b) ?hi3b (fun K hK => ?st3b) AllReadyH.nil
            case hi3b => (simp only [List.getElem?_toArray, List.getElem?_cons_succ, List.getElem?_cons_zero]; rfl)
            go_simp
            refine (hbp).mono ?_
            rintro e w3 ⟨rfl, hbk, hkp⟩
            have hR3 := hR0.drew.callB hBw hkp (hbk.widen _)
            have p1 : w3.cell? ⟨bo, 1, none⟩ = some (.int .i64 on) := hkp.cell o1 (fun e => hFbo _ e rfl)
            refine hK.out _ _ p1 (fun hHeld2 => ?_)
            clear hK K hHeld
            have hHeld := hHeld2
            clear hHeld2
            try simp only [Act.put, List.setIfInBounds_toArray, List.set_cons_zero, List.set_cons_succ]
            refine wpAnyH_ready (rs := [7]) (by kernel_rfl) (by simp) ?_
            refine AllReadyH.cons (o := ?o7b) ?hi7b (fun K hK => ?st7b) AllReadyH.nil
            case hi7b => (simp only [List.getElem?_toArray, List.getElem?_cons_succ, List.getElem?_cons_zero]; rfl)
            go_simp
            have hx := rdrop_any on hR3.qk (by omega) hst.out.one
            unfold RDropPost at hx
            rw [hE] at hx
            refine hx.mono ?_
            rintro e w4 ⟨rfl, hqk, hkq⟩
            have hR4 := hR3.callQ hBw hkq hqk
            have p2 : w4.cell? ⟨bo, 1, none⟩ = some (.int .i64 on) := hkq.cell p1 (fun e => hGbo _ e.1 rfl)
            refine hK.out _ _ p2 (fun hHeld2 => ?_)
            clear hK K hHeld
            have hHeld := hHeld2
            clear hHeld2
            try simp only [Act.put, List.setIfInBounds_toArray, List.set_cons_zero, List.set_cons_succ]
            refine wpAnyH_take (i := 8) (oi := ?oi8b) (v := ?v8b) ?hi8b (by kernel_rfl) (by kernel_rfl) (by kernel_rfl) ?hq8b (Or.inl ⟨?hw8b, ?hy8b⟩) (by assumption) ?rest8b
            case hi8b => (simp only [List.getElem?_toArray, List.getElem?_cons_succ, List.getElem?_cons_zero]; rfl)
            case hq8b => exact fun _ _ _ h => h
            case hw8b => rfl
            case hy8b => (intro w hSw; (try dsimp only at hSw); go_simp <;> with_reducible rfl)
            try simp only [Act.put, List.setIfInBounds_toArray, List.set_cons_zero, List.set_cons_succ]
            refine wpAnyH_take (i := 9) (oi := ?oi9b) (v := ?v9b) ?hi9b (by kernel_rfl) (by kernel_rfl) (by kernel_rfl) ?hq9b (Or.inl ⟨?hw9b, ?hy9b⟩) (by assumption) ?rest9b
            case hi9b => (simp only [List.getElem?_toArray, List.getElem?_cons_succ, List.getElem?_cons_zero]; rfl)
            case hq9b => exact fun _ _ _ h => h
            case hw9b => rfl
            case hy9b => (intro w hSw; (try dsimp only at hSw); go_simp <;> with_reducible rfl)
            try simp only [Act.put, List.setIfInBounds_toArray, List.set_cons_zero, List.set_cons_succ]
            refine wpAnyH_done (by kernel_rfl) ?_ _
            go_wp2
            have hbl4 : bo < w4.heap.size := World.block_lt_of_cell? _ _ p2
            have hlen4 := hinv.out.len
            have hlk := looks_any hR4.drew.bk hR4.drew.qk hinv.out.nd (by omega)
            go_wp2
            refine wp_region_held_drew (S := (fun W => W.cell? ⟨bo, 1, none⟩ = some (.int .i64 on))) (by kernel_rfl) p2 (fun hHeld => ?_)
            refine wpAnyH_take (i := 0) (oi := ?oi0B) (v := ?v0B) ?hi0B (by kernel_rfl) (by kernel_rfl) (by kernel_rfl) ?hq0B (Or.inl ⟨?hw0B, ?hy0B⟩) (by assumption) ?rest0B
            case hi0B => (simp only [List.getElem?_toArray, List.getElem?_cons_succ, List.getElem?_cons_zero]; rfl)
            case hq0B => exact fun _ _ _ h => h
            case hw0B => rfl
            case hy0B => (intro w hSw; (try dsimp only at hSw); go_simp <;> with_reducible rfl)
            try simp only [Act.put, List.setIfInBounds_toArray, List.set_cons_zero, List.set_cons_succ]
            refine wpAnyH_take (i := 1) (oi := ?oi1B) (v := ?v1B) ?hi1B (by kernel_rfl) (by kernel_rfl) (by kernel_rfl) ?hq1B (Or.inl ⟨?hw1B, ?hy1B⟩) (by assumption) ?rest1B
            case hi1B => (simp only [List.getElem?_toArray, List.getElem?_cons_succ, List.getElem?_cons_zero]; rfl)
            case hq1B => exact fun _ _ _ h => h
            case hw1B => rfl
            case hy1B => (intro w hSw; (try dsimp only at hSw); go_simp <;> with_reducible rfl)
            try simp only [Act.put, List.setIfInBounds_toArray, List.set_cons_zero, List.set_cons_succ]
            refine wpAnyH_take (i := 2) (oi := ?oi2B) (v := ?v2B) ?hi2B (by kernel_rfl) (by kernel_rfl) (by kernel_rfl) ?hq2B (Or.inl ⟨?hw2B, ?hy2B⟩) (by assumption) ?rest2B
            case hi2B => (simp only [List.getElem?_toArray, List.getElem?_cons_succ, List.getElem?_cons_zero]; rfl)
            case hq2B => exact fun _ _ _ h => h
            case hw2B => rfl
            case hy2B => (intro w hSw; (try dsimp only at hSw); go_simp <;> with_reducible rfl)
            try simp only [Act.put, List.setIfInBounds_toArray, List.set_cons_zero, List.set_cons_succ]
            refine wpAnyH_take (i := 3) (oi := ?oi3B) (v := ?v3B) ?hi3B (by kernel_rfl) (by kernel_rfl) (by kernel_rfl) ?hq3B (Or.inl ⟨?hw3B, ?hy3B⟩) (by assumption) ?rest3B
            case hi3B => (simp only [List.getElem?_toArray, List.getElem?_cons_succ, List.getElem?_cons_zero]; rfl)
            case hq3B => exact fun _ _ _ h => h
            case hw3B => rfl
            case hy3B => (intro w hSw; (try dsimp only at hSw); go_simp <;> with_reducible rfl)
            try simp only [Act.put, List.setIfInBounds_toArray, List.set_cons_zero, List.set_cons_succ]
            refine wpAnyH_take (i := 4) (oi := ?oi4B) (v := ?v4B) ?hi4B (by kernel_rfl) (by kernel_rfl) (by kernel_rfl) ?hq4B (Or.inl ⟨?hw4B, ?hy4B⟩) (by assumption) ?rest4B
            case hi4B => (simp only [List.getElem?_toArray, List.getElem?_cons_succ, List.getElem?_cons_zero]; rfl)
            case hq4B => exact fun _ _ _ h => h
            case hw4B => rfl
            case hy4B => (intro w hSw; (try dsimp only at hSw); go_simp <;> with_reducible rfl)
            try simp only [Act.put, List.setIfInBounds_toArray, List.set_cons_zero, List.set_cons_succ]
            refine wpAnyH_ready (rs := [5]) (by kernel_rfl) (by simp) ?_
            refine AllReadyH.cons (o := ?o5B) ?hi5B (fun K hK => ?st5B) AllReadyH.nil
            case hi5B => (simp only [List.getElem?_toArray, List.getElem?_cons_succ, List.getElem?_cons_zero]; rfl)
            go_simp
            refine hlk.mono ?_
            rintro e w5 ⟨rfl, hb5⟩
            have hR5 := hR4.drew.below hBw hb5
            have p5 := (hb5.cell (p := ⟨bo, 1, none⟩) hbl4).trans p2
            have hpb := bplace_any on hR5.bk (by omega)
            refine hK.out _ _ p5 (fun hHeld2 => ?_)
            clear hK K hHeld
            have hHeld := hHeld2
            clear hHeld2
            try simp only [Act.put, List.setIfInBounds_toArray, List.set_cons_zero, List.set_cons_succ]
            refine wpAnyH_take (i := 6) (oi := ?oi6B) (v := ?v6B) ?hi6B (by kernel_rfl) (by kernel_rfl) (by kernel_rfl) ?hq6B (Or.inl ⟨?hw6B, ?hy6B⟩) (by assumption) ?rest6B
            case hi6B => (simp only [List.getElem?_toArray, List.getElem?_cons_succ, List.getElem?_cons_zero]; rfl)
            case hq6B => exact fun _ _ _ h => h
            case hw6B => rfl
            case hy6B => (intro w hSw; (try dsimp only at hSw); go_simp <;> with_reducible rfl)
            try simp only [Act.put, List.setIfInBounds_toArray, List.set_cons_zero, List.set_cons_succ]
            refine wpAnyH_take (i := 7) (oi := ?oi7B) (v := ?v7B) ?hi7B (by kernel_rfl) (by kernel_rfl) (by kernel_rfl) ?hq7B (Or.inl ⟨?hw7B, ?hy7B⟩) (by assumption) ?rest7B
            case hi7B => (simp only [List.getElem?_toArray, List.getElem?_cons_succ, List.getElem?_cons_zero]; rfl)
            case hq7B => exact fun _ _ _ h => h
            case hw7B => rfl
            case hy7B => (intro w hSw; (try dsimp only at hSw); go_simp <;> with_reducible rfl)
            try simp only [Act.put, List.setIfInBounds_toArray, List.set_cons_zero, List.set_cons_succ]
            refine wpAnyH_take (i := 8) (oi := ?oi8B) (v := ?v8B) ?hi8B (by kernel_rfl) (by kernel_rfl) (by kernel_rfl) ?hq8B (Or.inl ⟨?hw8B, ?hy8B⟩) (by assumption) ?rest8B
            case hi8B => (simp only [List.getElem?_toArray, List.getElem?_cons_succ, List.getElem?_cons_zero]; rfl)
            case hq8B => exact fun _ _ _ h => h
            case hw8B => rfl
            case hy8B => (intro w hSw; (try dsimp only at hSw); go_simp <;> with_reducible rfl)
            try simp only [Act.put, List.setIfInBounds_toArray, List.set_cons_zero, List.set_cons_succ]
            refine wpAnyH_take (i := 9) (oi := ?oi9B) (v := ?v9B) ?hi9B (by kernel_rfl) (by kernel_rfl) (by kernel_rfl) ?hq9B (Or.inl ⟨?hw9B, ?hy9B⟩) (by assumption) ?rest9B
            case hi9B => (simp only [List.getElem?_toArray, List.getElem?_cons_succ, List.getElem?_cons_zero]; rfl)
            case hq9B => exact fun _ _ _ h => h
            case hw9B => rfl
            case hy9B => (intro w hSw; (try dsimp only at hSw); go_simp <;> with_reducible rfl)
            try simp only [Act.put, List.setIfInBounds_toArray, List.set_cons_zero, List.set_cons_succ]
            refine wpAnyH_take (i := 10) (oi := ?oi10B) (v := ?v10B) ?hi10B (by kernel_rfl) (by kernel_rfl) (by kernel_rfl) ?hq10B (Or.inl ⟨?hw10B, ?hy10B⟩) (by assumption) ?rest10B
            case hi10B => (simp only [List.getElem?_toArray, List.getElem?_cons_succ, List.getElem?_cons_zero]; rfl)
            case hq10B => exact fun _ _ _ h => h
            case hw10B => rfl
            case hy10B => (intro w hSw; (try dsimp only at hSw); go_simp <;> with_reducible rfl)
            try simp only [Act.put, List.setIfInBounds_toArray, List.set_cons_zero, List.set_cons_succ]
            refine wpAnyH_take (i := 11) (oi := ?oi11B) (v := ?v11B) ?hi11B (by kernel_rfl) (by kernel_rfl) (by kernel_rfl) ?hq11B (Or.inl ⟨?hw11B, ?hy11B⟩) (by assumption) ?rest11B
            case hi11B => (simp only [List.getElem?_toArray, List.getElem?_cons_succ, List.getElem?_cons_zero]; rfl)
            case hq11B => exact fun _ _ _ h => h
            case hw11B => rfl
            case hy11B => (intro w hSw; (try dsimp only at hSw); go_simp <;> with_reducible rfl)
            try simp only [Act.put, List.setIfInBounds_toArray, List.set_cons_zero, List.set_cons_succ]
            refine wpAnyH_take (i := 13) (oi := ?oi13B) (v := ?v13B) ?hi13B (by kernel_rfl) (by kernel_rfl) (by kernel_rfl) ?hq13B (Or.inl ⟨?hw13B, ?hy13B⟩) (by assumption) ?rest13B
            case hi13B => (simp only [List.getElem?_toArray, List.getElem?_cons_succ, List.getElem?_cons_zero]; rfl)
            case hq13B => exact fun _ _ _ h => h
            case hw13B => rfl
            case hy13B => (intro w hSw; (try dsimp only at hSw); go_simp <;> with_reducible rfl)
            try simp only [Act.put, List.setIfInBounds_toArray, List.set_cons_zero, List.set_cons_succ]
            refine wpAnyH_take (i := 14) (oi := ?oi14B) (v := ?v14B) ?hi14B (by kernel_rfl) (by kernel_rfl) (by kernel_rfl) ?hq14B (Or.inl ⟨?hw14B, ?hy14B⟩) (by assumption) ?rest14B
            case hi14B => (simp only [List.getElem?_toArray, List.getElem?_cons_succ, List.getElem?_cons_zero]; rfl)
            case hq14B => exact fun _ _ _ h => h
            case hw14B => rfl
            case hy14B => (intro w hSw; (try dsimp only at hSw); go_simp <;> with_reducible rfl)
            try simp only [Act.put, List.setIfInBounds_toArray, List.set_cons_zero, List.set_cons_succ]
            refine wpAnyH_take (i := 15) (oi := ?oi15B) (v := ?v15B) ?hi15B (by kernel_rfl) (by kernel_rfl) (by kernel_rfl) ?hq15B (Or.inl ⟨?hw15B, ?hy15B⟩) (by assumption) ?rest15B
            case hi15B => (simp only [List.getElem?_toArray, List.getElem?_cons_succ, List.getElem?_cons_zero]; rfl)
            case hq15B => exact fun _ _ _ h => h
            case hw15B => rfl
            case hy15B => (intro w hSw; (try dsimp only at hSw); go_simp <;> with_reducible rfl)
            try simp only [Act.put, List.setIfInBounds_toArray, List.set_cons_zero, List.set_cons_succ]
            refine wpAnyH_ready (rs := [12]) (by kernel_rfl) (by simp) ?_
            refine AllReadyH.cons (o := ?o12B) ?hi12B (fun K hK => ?st12B) AllReadyH.nil
            case hi12B => (simp only [List.getElem?_toArray, List.getElem?_cons_succ, List.getElem?_cons_zero]; rfl)
            go_simp
            refine hpb.mono ?_
            rintro e w6 ⟨rfl, hb6⟩
            have hR6 := hR5.below hBw hb6
            have p6 := (hb6.cell (p := ⟨bo, 1, none⟩) (World.block_lt_of_cell? _ _ p5)).trans p5
            have hpq := rplace_any on hR6.qk (by omega)
            refine hK.out _ _ p6 (fun hHeld2 => ?_)
            clear hK K hHeld
            have hHeld := hHeld2
            clear hHeld2
            try simp only [Act.put, List.setIfInBounds_toArray, List.set_cons_zero, List.set_cons_succ]
            refine wpAnyH_ready (rs := [16]) (by kernel_rfl) (by simp) ?_
            refine AllReadyH.cons (o := ?o16B) ?hi16B (fun K hK => ?st16B) AllReadyH.nil
            case hi16B => (simp only [List.getElem?_toArray, List.getElem?_cons_succ, List.getElem?_cons_zero]; rfl)
            go_simp
            refine hpq.mono ?_
            rintro e w7 ⟨rfl, hww⟩
            subst w7
            refine hK.out _ _ p6 (fun hHeld2 => ?_)
            clear hK K hHeld
            have hHeld := hHeld2
            clear hHeld2
            try simp only [Act.put, List.setIfInBounds_toArray, List.set_cons_zero, List.set_cons_succ]
            refine wpAnyH_take (i := 17) (oi := ?oi17B) (v := ?v17B) ?hi17B (by kernel_rfl) (by kernel_rfl) (by kernel_rfl) ?hq17B (Or.inl ⟨?hw17B, ?hy17B⟩) (by assumption) ?rest17B
            case hi17B => (simp only [List.getElem?_toArray, List.getElem?_cons_succ, List.getElem?_cons_zero]; rfl)
            case hq17B => exact fun _ _ _ h => h
            case hw17B => rfl
            case hy17B => (intro w hSw; (try dsimp only at hSw); go_simp <;> with_reducible rfl)
            try simp only [Act.put, List.setIfInBounds_toArray, List.set_cons_zero, List.set_cons_succ]
            refine wpAnyH_take (i := 18) (oi := ?oi18B) (v := ?v18B) ?hi18B (by kernel_rfl) (by kernel_rfl) (by kernel_rfl) ?hq18B (Or.inl ⟨?hw18B, ?hy18B⟩) (by assumption) ?rest18B
            case hi18B => (simp only [List.getElem?_toArray, List.getElem?_cons_succ, List.getElem?_cons_zero]; rfl)
            case hq18B => exact fun _ _ _ h => h
            case hw18B => rfl
            case hy18B => (intro w hSw; (try dsimp only at hSw); go_simp <;> with_reducible rfl)
            try simp only [Act.put, List.setIfInBounds_toArray, List.set_cons_zero, List.set_cons_succ]
            refine wpAnyH_done (by kernel_rfl) ?_ _
            clear hlk hR4 hR5
            go_wp2
            go_roundw
            case measure => simp [intOf]; omega
            case rel => exact ⟨k + 1, _, _, _, _, by go_num, by omega, hR6, hinv⟩
        · by_cases h3 : ok = 3
          · as_aux_lemma =>
              subst h3
              have hinv := Lib.hid hst.out.news
              have hbp := bnews_any hR0.bk (by omega)
              go_wp2_with fail
              refine hbp.mono ?_
              rintro e w3 ⟨⟨_, rfl⟩, hbk, hkp⟩
              have hR3 := hR0.callB hBw hkp (hbk.widen _)
              have p1 : w3.cell? ⟨bo, 1, none⟩ = some (.int .i64 on) := hkp.cell o1 (fun e => hFbo _ e rfl)
              have hqp := rnews_any hR3.qk (by omega) hst.out.out
              go_wp2_with fail
              refine hqp.mono ?_
              rintro e w4 ⟨⟨_, rfl⟩, hqk, hkq⟩
              have hR4 := hR3.callQ hBw hkq hqk
              have p2 : w4.cell? ⟨bo, 1, none⟩ = some (.int .i64 on) := hkq.cell p1 (fun e => hGbo _ e.1 rfl)
              have hbl4 : bo < w4.heap.size := World.block_lt_of_cell? _ _ p2
              have hlen4 := hinv.out.len
              have hlk := looks_any hR4.drew.bk hR4.drew.qk hinv.out.nd (by omega)
              go_wp2
              refine wp_region_held_drew (S := (fun W => W.cell? ⟨bo, 1, none⟩ = some (.int .i64 on))) (by kernel_rfl) p2 (fun hHeld => ?_)
              refine wpAnyH_take (i := 0) (oi := ?oi0C) (v := ?v0C) ?hi0C (by kernel_rfl) (by kernel_rfl) (by kernel_rfl) ?hq0C (Or.inl ⟨?hw0C, ?hy0C⟩) (by assumption) ?rest0C
              case hi0C => (simp only [List.getElem?_toArray, List.getElem?_cons_succ, List.getElem?_cons_zero]; rfl)
              case hq0C => exact fun _ _ _ h => h
              case hw0C => rfl
              case hy0C => (intro w hSw; (try dsimp only at hSw); go_simp <;> with_reducible rfl)
              try simp only [Act.put, List.setIfInBounds_toArray, List.set_cons_zero, List.set_cons_succ]
              refine wpAnyH_take (i := 1) (oi := ?oi1C) (v := ?v1C) ?hi1C (by kernel_rfl) (by kernel_rfl) (by kernel_rfl) ?hq1C (Or.inl ⟨?hw1C, ?hy1C⟩) (by assumption) ?rest1C
              case hi1C => (simp only [List.getElem?_toArray, List.getElem?_cons_succ, List.getElem?_cons_zero]; rfl)
              case hq1C => exact fun _ _ _ h => h
              case hw1C => rfl
              case hy1C => (intro w hSw; (try dsimp only at hSw); go_simp <;> with_reducible rfl)
              try simp only [Act.put, List.setIfInBounds_toArray, List.set_cons_zero, List.set_cons_succ]
              refine wpAnyH_take (i := 2) (oi := ?oi2C) (v := ?v2C) ?hi2C (by kernel_rfl) (by kernel_rfl) (by kernel_rfl) ?hq2C (Or.inl ⟨?hw2C, ?hy2C⟩) (by assumption) ?rest2C
              case hi2C => (simp only [List.getElem?_toArray, List.getElem?_cons_succ, List.getElem?_cons_zero]; rfl)
              case hq2C => exact fun _ _ _ h => h
              case hw2C => rfl
              case hy2C => (intro w hSw; (try dsimp only at hSw); go_simp <;> with_reducible rfl)
              try simp only [Act.put, List.setIfInBounds_toArray, List.set_cons_zero, List.set_cons_succ]
              refine wpAnyH_take (i := 3) (oi := ?oi3C) (v := ?v3C) ?hi3C (by kernel_rfl) (by kernel_rfl) (by kernel_rfl) ?hq3C (Or.inl ⟨?hw3C, ?hy3C⟩) (by assumption) ?rest3C
              case hi3C => (simp only [List.getElem?_toArray, List.getElem?_cons_succ, List.getElem?_cons_zero]; rfl)
              case hq3C => exact fun _ _ _ h => h
              case hw3C => rfl
              case hy3C => (intro w hSw; (try dsimp only at hSw); go_simp <;> with_reducible rfl)
              try simp only [Act.put, List.setIfInBounds_toArray, List.set_cons_zero, List.set_cons_succ]
              refine wpAnyH_take (i := 4) (oi := ?oi4C) (v := ?v4C) ?hi4C (by kernel_rfl) (by kernel_rfl) (by kernel_rfl) ?hq4C (Or.inl ⟨?hw4C, ?hy4C⟩) (by assumption) ?rest4C
              case hi4C => (simp only [List.getElem?_toArray, List.getElem?_cons_succ, List.getElem?_cons_zero]; rfl)
              case hq4C => exact fun _ _ _ h => h
              case hw4C => rfl
              case hy4C => (intro w hSw; (try dsimp only at hSw); go_simp <;> with_reducible rfl)
              try simp only [Act.put, List.setIfInBounds_toArray, List.set_cons_zero, List.set_cons_succ]
              refine wpAnyH_ready (rs := [5]) (by kernel_rfl) (by simp) ?_
              refine AllReadyH.cons (o := ?o5C) ?hi5C (fun K hK => ?st5C) AllReadyH.nil
              case hi5C => (simp only [List.getElem?_toArray, List.getElem?_cons_succ, List.getElem?_cons_zero]; rfl)
              go_simp
              refine hlk.mono ?_
              rintro e w5 ⟨rfl, hb5⟩
              have hR5 := hR4.drew.below hBw hb5
              have p5 := (hb5.cell (p := ⟨bo, 1, none⟩) hbl4).trans p2
              have hpb := bplace_any on hR5.bk (by omega)
              refine hK.out _ _ p5 (fun hHeld2 => ?_)
              clear hK K hHeld
              have hHeld := hHeld2
              clear hHeld2
              try simp only [Act.put, List.setIfInBounds_toArray, List.set_cons_zero, List.set_cons_succ]
              refine wpAnyH_take (i := 6) (oi := ?oi6C) (v := ?v6C) ?hi6C (by kernel_rfl) (by kernel_rfl) (by kernel_rfl) ?hq6C (Or.inl ⟨?hw6C, ?hy6C⟩) (by assumption) ?rest6C
              case hi6C => (simp only [List.getElem?_toArray, List.getElem?_cons_succ, List.getElem?_cons_zero]; rfl)
              case hq6C => exact fun _ _ _ h => h
              case hw6C => rfl
              case hy6C => (intro w hSw; (try dsimp only at hSw); go_simp <;> with_reducible rfl)
              try simp only [Act.put, List.setIfInBounds_toArray, List.set_cons_zero, List.set_cons_succ]
              refine wpAnyH_take (i := 7) (oi := ?oi7C) (v := ?v7C) ?hi7C (by kernel_rfl) (by kernel_rfl) (by kernel_rfl) ?hq7C (Or.inl ⟨?hw7C, ?hy7C⟩) (by assumption) ?rest7C
              case hi7C => (simp only [List.getElem?_toArray, List.getElem?_cons_succ, List.getElem?_cons_zero]; rfl)
              case hq7C => exact fun _ _ _ h => h
              case hw7C => rfl
              case hy7C => (intro w hSw; (try dsimp only at hSw); go_simp <;> with_reducible rfl)
              try simp only [Act.put, List.setIfInBounds_toArray, List.set_cons_zero, List.set_cons_succ]
              refine wpAnyH_take (i := 8) (oi := ?oi8C) (v := ?v8C) ?hi8C (by kernel_rfl) (by kernel_rfl) (by kernel_rfl) ?hq8C (Or.inl ⟨?hw8C, ?hy8C⟩) (by assumption) ?rest8C
              case hi8C => (simp only [List.getElem?_toArray, List.getElem?_cons_succ, List.getElem?_cons_zero]; rfl)
              case hq8C => exact fun _ _ _ h => h
              case hw8C => rfl
              case hy8C => (intro w hSw; (try dsimp only at hSw); go_simp <;> with_reducible rfl)
              try simp only [Act.put, List.setIfInBounds_toArray, List.set_cons_zero, List.set_cons_succ]
              refine wpAnyH_take (i := 9) (oi := ?oi9C) (v := ?v9C) ?hi9C (by kernel_rfl) (by kernel_rfl) (by kernel_rfl) ?hq9C (Or.inl ⟨?hw9C, ?hy9C⟩) (by assumption) ?rest9C
              case hi9C => (simp only [List.getElem?_toArray, List.getElem?_cons_succ, List.getElem?_cons_zero]; rfl)
              case hq9C => exact fun _ _ _ h => h
              case hw9C => rfl
              case hy9C => (intro w hSw; (try dsimp only at hSw); go_simp <;> with_reducible rfl)
              try simp only [Act.put, List.setIfInBounds_toArray, List.set_cons_zero, List.set_cons_succ]
              refine wpAnyH_take (i := 10) (oi := ?oi10C) (v := ?v10C) ?hi10C (by kernel_rfl) (by kernel_rfl) (by kernel_rfl) ?hq10C (Or.inl ⟨?hw10C, ?hy10C⟩) (by assumption) ?rest10C
              case hi10C => (simp only [List.getElem?_toArray, List.getElem?_cons_succ, List.getElem?_cons_zero]; rfl)
              case hq10C => exact fun _ _ _ h => h
              case hw10C => rfl
              case hy10C => (intro w hSw; (try dsimp only at hSw); go_simp <;> with_reducible rfl)
              try simp only [Act.put, List.setIfInBounds_toArray, List.set_cons_zero, List.set_cons_succ]
              refine wpAnyH_take (i := 11) (oi := ?oi11C) (v := ?v11C) ?hi11C (by kernel_rfl) (by kernel_rfl) (by kernel_rfl) ?hq11C (Or.inl ⟨?hw11C, ?hy11C⟩) (by assumption) ?rest11C
              case hi11C => (simp only [List.getElem?_toArray, List.getElem?_cons_succ, List.getElem?_cons_zero]; rfl)
              case hq11C => exact fun _ _ _ h => h
              case hw11C => rfl
              case hy11C => (intro w hSw; (try dsimp only at hSw); go_simp <;> with_reducible rfl)
              try simp only [Act.put, List.setIfInBounds_toArray, List.set_cons_zero, List.set_cons_succ]
              refine wpAnyH_take (i := 13) (oi := ?oi13C) (v := ?v13C) ?hi13C (by kernel_rfl) (by kernel_rfl) (by kernel_rfl) ?hq13C (Or.inl ⟨?hw13C, ?hy13C⟩) (by assumption) ?rest13C
              case hi13C => (simp only [List.getElem?_toArray, List.getElem?_cons_succ, List.getElem?_cons_zero]; rfl)
              case hq13C => exact fun _ _ _ h => h
              case hw13C => rfl
              case hy13C => (intro w hSw; (try dsimp only at hSw); go_simp <;> with_reducible rfl)
              try simp only [Act.put, List.setIfInBounds_toArray, List.set_cons_zero, List.set_cons_succ]
              refine wpAnyH_take (i := 14) (oi := ?oi14C) (v := ?v14C) ?hi14C (by kernel_rfl) (by kernel_rfl) (by kernel_rfl) ?hq14C (Or.inl ⟨?hw14C, ?hy14C⟩) (by assumption) ?rest14C
              case hi14C => (simp only [List.getElem?_toArray, List.getElem?_cons_succ, List.getElem?_cons_zero]; rfl)
              case hq14C => exact fun _ _ _ h => h
              case hw14C => rfl
              case hy14C => (intro w hSw; (try dsimp only at hSw); go_simp <;> with_reducible rfl)
              try simp only [Act.put, List.setIfInBounds_toArray, List.set_cons_zero, List.set_cons_succ]
              refine wpAnyH_take (i := 15) (oi := ?oi15C) (v := ?v15C) ?hi15C (by kernel_rfl) (by kernel_rfl) (by kernel_rfl) ?hq15C (Or.inl ⟨?hw15C, ?hy15C⟩) (by assumption) ?rest15C
              case hi15C => (simp only [List.getElem?_toArray, List.getElem?_cons_succ, List.getElem?_cons_zero]; rfl)
              case hq15C => exact fun _ _ _ h => h
              case hw15C => rfl
              case hy15C => (intro w hSw; (try dsimp only at hSw); go_simp <;> with_reducible rfl)
              try simp only [Act.put, List.setIfInBounds_toArray, List.set_cons_zero, List.set_cons_succ]
              refine wpAnyH_ready (rs := [12]) (by kernel_rfl) (by simp) ?_
              refine AllReadyH.cons (o := ?o12C) ?hi12C (fun K hK => ?st12C) AllReadyH.nil
              case hi12C => (simp only [List.getElem?_toArray, List.getElem?_cons_succ, List.getElem?_cons_zero]; rfl)
              go_simp
              refine hpb.mono ?_
              rintro e w6 ⟨rfl, hb6⟩
              have hR6 := hR5.below hBw hb6
              have p6 := (hb6.cell (p := ⟨bo, 1, none⟩) (World.block_lt_of_cell? _ _ p5)).trans p5
              have hpq := rplace_any on hR6.qk (by omega)
              refine hK.out _ _ p6 (fun hHeld2 => ?_)
              clear hK K hHeld
              have hHeld := hHeld2
              clear hHeld2
              try simp only [Act.put, List.setIfInBounds_toArray, List.set_cons_zero, List.set_cons_succ]
              refine wpAnyH_ready (rs := [16]) (by kernel_rfl) (by simp) ?_
              refine AllReadyH.cons (o := ?o16C) ?hi16C (fun K hK => ?st16C) AllReadyH.nil
              case hi16C => (simp only [List.getElem?_toArray, List.getElem?_cons_succ, List.getElem?_cons_zero]; rfl)
              go_simp
              refine hpq.mono ?_
              rintro e w7 ⟨rfl, hww⟩
              subst w7
              refine hK.out _ _ p6 (fun hHeld2 => ?_)
              clear hK K hHeld
              have hHeld := hHeld2
              clear hHeld2
              try simp only [Act.put, List.setIfInBounds_toArray, List.set_cons_zero, List.set_cons_succ]
              refine wpAnyH_take (i := 17) (oi := ?oi17C) (v := ?v17C) ?hi17C (by kernel_rfl) (by kernel_rfl) (by kernel_rfl) ?hq17C (Or.inl ⟨?hw17C, ?hy17C⟩) (by assumption) ?rest17C
              case hi17C => (simp only [List.getElem?_toArray, List.getElem?_cons_succ, List.getElem?_cons_zero]; rfl)
              case hq17C => exact fun _ _ _ h => h
              case hw17C => rfl
              case hy17C => (intro w hSw; (try dsimp only at hSw); go_simp <;> with_reducible rfl)
              try simp only [Act.put, List.setIfInBounds_toArray, List.set_cons_zero, List.set_cons_succ]
              refine wpAnyH_take (i := 18) (oi := ?oi18C) (v := ?v18C) ?hi18C (by kernel_rfl) (by kernel_rfl) (by kernel_rfl) ?hq18C (Or.inl ⟨?hw18C, ?hy18C⟩) (by assumption) ?rest18C
              case hi18C => (simp only [List.getElem?_toArray, List.getElem?_cons_succ, List.getElem?_cons_zero]; rfl)
              case hq18C => exact fun _ _ _ h => h
              case hw18C => rfl
              case hy18C => (intro w hSw; (try dsimp only at hSw); go_simp <;> with_reducible rfl)
              try simp only [Act.put, List.setIfInBounds_toArray, List.set_cons_zero, List.set_cons_succ]
              refine wpAnyH_done (by kernel_rfl) ?_ _
              clear hlk hR4 hR5
              go_wp2
              go_roundw
              case measure => simp [intOf]; omega
              case rel => exact ⟨k + 1, _, _, _, _, by go_num, by omega, hR6, hinv⟩
          · by_cases h4 : ok = 4
            · as_aux_lemma =>
                subst h4
                have hinv := Lib.hid hst.out.try_
                have hbp := btry_any hR0.bk (by omega)
                obtain ⟨T, hT⟩ : ∃ T, tryP l o = T := ⟨_, rfl⟩
                rw [hT] at hbp hinv
                obtain ⟨tx, tok, tl, t4⟩ := T
                dsimp only at hinv
                go_wp2_with fail
                refine hbp.mono ?_
                rintro e w3 ⟨rfl, hbk, hkp⟩
                dsimp only at hbk
                have hR3 := hR0.callB hBw hkp (hbk.widen _)
                have p1 : w3.cell? ⟨bo, 1, none⟩ = some (.int .i64 on) := hkp.cell o1 (fun e => hFbo _ e rfl)
                have hqp := rtry_any hR3.qk (by omega) hst.out.o0
                rw [hT] at hqp
                go_wp2_with fail
                refine hqp.mono ?_
                rintro e w4 ⟨rfl, hqk, hkq⟩
                dsimp only at hqk
                have hR4 := hR3.callQ hBw hkq hqk
                have p2 : w4.cell? ⟨bo, 1, none⟩ = some (.int .i64 on) := hkq.cell p1 (fun e => hGbo _ e.1 rfl)
                have hbl4 : bo < w4.heap.size := World.block_lt_of_cell? _ _ p2
                have hlen4 := hinv.out.len
                have hlk := looks_any hR4.drew.bk hR4.drew.qk hinv.out.nd (by omega)
                go_wp2
                refine wp_region_held_drew (S := (fun W => W.cell? ⟨bo, 1, none⟩ = some (.int .i64 on))) (by kernel_rfl) p2 (fun hHeld => ?_)
                refine wpAnyH_take (i := 0) (oi := ?oi0D) (v := ?v0D) ?hi0D (by kernel_rfl) (by kernel_rfl) (by kernel_rfl) ?hq0D (Or.inl ⟨?hw0D, ?hy0D⟩) (by assumption) ?rest0D
                case hi0D => (simp only [List.getElem?_toArray, List.getElem?_cons_succ, List.getElem?_cons_zero]; rfl)
                case hq0D => exact fun _ _ _ h => h
                case hw0D => rfl
                case hy0D => (intro w hSw; (try dsimp only at hSw); go_simp <;> with_reducible rfl)
                try simp only [Act.put, List.setIfInBounds_toArray, List.set_cons_zero, List.set_cons_succ]
                refine wpAnyH_take (i := 1) (oi := ?oi1D) (v := ?v1D) ?hi1D (by kernel_rfl) (by kernel_rfl) (by kernel_rfl) ?hq1D (Or.inl ⟨?hw1D, ?hy1D⟩) (by assumption) ?rest1D
                case hi1D => (simp only [List.getElem?_toArray, List.getElem?_cons_succ, List.getElem?_cons_zero]; rfl)
                case hq1D => exact fun _ _ _ h => h
                case hw1D => rfl
                case hy1D => (intro w hSw; (try dsimp only at hSw); go_simp <;> with_reducible rfl)
                try simp only [Act.put, List.setIfInBounds_toArray, List.set_cons_zero, List.set_cons_succ]
                refine wpAnyH_take (i := 2) (oi := ?oi2D) (v := ?v2D) ?hi2D (by kernel_rfl) (by kernel_rfl) (by kernel_rfl) ?hq2D (Or.inl ⟨?hw2D, ?hy2D⟩) (by assumption) ?rest2D
                case hi2D => (simp only [List.getElem?_toArray, List.getElem?_cons_succ, List.getElem?_cons_zero]; rfl)
                case hq2D => exact fun _ _ _ h => h
                case hw2D => rfl
                case hy2D => (intro w hSw; (try dsimp only at hSw); go_simp <;> with_reducible rfl)
                try simp only [Act.put, List.setIfInBounds_toArray, List.set_cons_zero, List.set_cons_succ]
                refine wpAnyH_take (i := 3) (oi := ?oi3D) (v := ?v3D) ?hi3D (by kernel_rfl) (by kernel_rfl) (by kernel_rfl) ?hq3D (Or.inl ⟨?hw3D, ?hy3D⟩) (by assumption) ?rest3D
                case hi3D => (simp only [List.getElem?_toArray, List.getElem?_cons_succ, List.getElem?_cons_zero]; rfl)
                case hq3D => exact fun _ _ _ h => h
                case hw3D => rfl
                case hy3D => (intro w hSw; (try dsimp only at hSw); go_simp <;> with_reducible rfl)
                try simp only [Act.put, List.setIfInBounds_toArray, List.set_cons_zero, List.set_cons_succ]
                refine wpAnyH_take (i := 4) (oi := ?oi4D) (v := ?v4D) ?hi4D (by kernel_rfl) (by kernel_rfl) (by kernel_rfl) ?hq4D (Or.inl ⟨?hw4D, ?hy4D⟩) (by assumption) ?rest4D
                case hi4D => (simp only [List.getElem?_toArray, List.getElem?_cons_succ, List.getElem?_cons_zero]; rfl)
                case hq4D => exact fun _ _ _ h => h
                case hw4D => rfl
                case hy4D => (intro w hSw; (try dsimp only at hSw); go_simp <;> with_reducible rfl)
                try simp only [Act.put, List.setIfInBounds_toArray, List.set_cons_zero, List.set_cons_succ]
                refine wpAnyH_ready (rs := [5]) (by kernel_rfl) (by simp) ?_
                refine AllReadyH.cons (o := ?o5D) ?hi5D (fun K hK => ?st5D) AllReadyH.nil
                case hi5D => (simp only [List.getElem?_toArray, List.getElem?_cons_succ, List.getElem?_cons_zero]; rfl)
                go_simp
                refine hlk.mono ?_
                rintro e w5 ⟨rfl, hb5⟩
                have hR5 := hR4.drew.below hBw hb5
                have p5 := (hb5.cell (p := ⟨bo, 1, none⟩) hbl4).trans p2
                have hpb := bplace_any on hR5.bk (by omega)
                refine hK.out _ _ p5 (fun hHeld2 => ?_)
                clear hK K hHeld
                have hHeld := hHeld2
                clear hHeld2
                try simp only [Act.put, List.setIfInBounds_toArray, List.set_cons_zero, List.set_cons_succ]
                refine wpAnyH_take (i := 6) (oi := ?oi6D) (v := ?v6D) ?hi6D (by kernel_rfl) (by kernel_rfl) (by kernel_rfl) ?hq6D (Or.inl ⟨?hw6D, ?hy6D⟩) (by assumption) ?rest6D
                case hi6D => (simp only [List.getElem?_toArray, List.getElem?_cons_succ, List.getElem?_cons_zero]; rfl)
                case hq6D => exact fun _ _ _ h => h
                case hw6D => rfl
                case hy6D => (intro w hSw; (try dsimp only at hSw); go_simp <;> with_reducible rfl)
                try simp only [Act.put, List.setIfInBounds_toArray, List.set_cons_zero, List.set_cons_succ]
                refine wpAnyH_take (i := 7) (oi := ?oi7D) (v := ?v7D) ?hi7D (by kernel_rfl) (by kernel_rfl) (by kernel_rfl) ?hq7D (Or.inl ⟨?hw7D, ?hy7D⟩) (by assumption) ?rest7D
                case hi7D => (simp only [List.getElem?_toArray, List.getElem?_cons_succ, List.getElem?_cons_zero]; rfl)
                case hq7D => exact fun _ _ _ h => h
                case hw7D => rfl
                case hy7D => (intro w hSw; (try dsimp only at hSw); go_simp <;> with_reducible rfl)
                try simp only [Act.put, List.setIfInBounds_toArray, List.set_cons_zero, List.set_cons_succ]
                refine wpAnyH_take (i := 8) (oi := ?oi8D) (v := ?v8D) ?hi8D (by kernel_rfl) (by kernel_rfl) (by kernel_rfl) ?hq8D (Or.inl ⟨?hw8D, ?hy8D⟩) (by assumption) ?rest8D
                case hi8D => (simp only [List.getElem?_toArray, List.getElem?_cons_succ, List.getElem?_cons_zero]; rfl)
                case hq8D => exact fun _ _ _ h => h
                case hw8D => rfl
                case hy8D => (intro w hSw; (try dsimp only at hSw); go_simp <;> with_reducible rfl)
                try simp only [Act.put, List.setIfInBounds_toArray, List.set_cons_zero, List.set_cons_succ]
                refine wpAnyH_take (i := 9) (oi := ?oi9D) (v := ?v9D) ?hi9D (by kernel_rfl) (by kernel_rfl) (by kernel_rfl) ?hq9D (Or.inl ⟨?hw9D, ?hy9D⟩) (by assumption) ?rest9D
                case hi9D => (simp only [List.getElem?_toArray, List.getElem?_cons_succ, List.getElem?_cons_zero]; rfl)
                case hq9D => exact fun _ _ _ h => h
                case hw9D => rfl
                case hy9D => (intro w hSw; (try dsimp only at hSw); go_simp <;> with_reducible rfl)
                try simp only [Act.put, List.setIfInBounds_toArray, List.set_cons_zero, List.set_cons_succ]
                refine wpAnyH_take (i := 10) (oi := ?oi10D) (v := ?v10D) ?hi10D (by kernel_rfl) (by kernel_rfl) (by kernel_rfl) ?hq10D (Or.inl ⟨?hw10D, ?hy10D⟩) (by assumption) ?rest10D
                case hi10D => (simp only [List.getElem?_toArray, List.getElem?_cons_succ, List.getElem?_cons_zero]; rfl)
                case hq10D => exact fun _ _ _ h => h
                case hw10D => rfl
                case hy10D => (intro w hSw; (try dsimp only at hSw); go_simp <;> with_reducible rfl)
                try simp only [Act.put, List.setIfInBounds_toArray, List.set_cons_zero, List.set_cons_succ]
                refine wpAnyH_take (i := 11) (oi := ?oi11D) (v := ?v11D) ?hi11D (by kernel_rfl) (by kernel_rfl) (by kernel_rfl) ?hq11D (Or.inl ⟨?hw11D, ?hy11D⟩) (by assumption) ?rest11D
                case hi11D => (simp only [List.getElem?_toArray, List.getElem?_cons_succ, List.getElem?_cons_zero]; rfl)
                case hq11D => exact fun _ _ _ h => h
                case hw11D => rfl
                case hy11D => (intro w hSw; (try dsimp only at hSw); go_simp <;> with_reducible rfl)
                try simp only [Act.put, List.setIfInBounds_toArray, List.set_cons_zero, List.set_cons_succ]
                refine wpAnyH_take (i := 13) (oi := ?oi13D) (v := ?v13D) ?hi13D (by kernel_rfl) (by kernel_rfl) (by kernel_rfl) ?hq13D (Or.inl ⟨?hw13D, ?hy13D⟩) (by assumption) ?rest13D
                case hi13D => (simp only [List.getElem?_toArray, List.getElem?_cons_succ, List.getElem?_cons_zero]; rfl)
                case hq13D => exact fun _ _ _ h => h
                case hw13D => rfl
                case hy13D => (intro w hSw; (try dsimp only at hSw); go_simp <;> with_reducible rfl)
                try simp only [Act.put, List.setIfInBounds_toArray, List.set_cons_zero, List.set_cons_succ]
                refine wpAnyH_take (i := 14) (oi := ?oi14D) (v := ?v14D) ?hi14D (by kernel_rfl) (by kernel_rfl) (by kernel_rfl) ?hq14D (Or.inl ⟨?hw14D, ?hy14D⟩) (by assumption) ?rest14D
                case hi14D => (simp only [List.getElem?_toArray, List.getElem?_cons_succ, List.getElem?_cons_zero]; rfl)
                case hq14D => exact fun _ _ _ h => h
                case hw14D => rfl
                case hy14D => (intro w hSw; (try dsimp only at hSw); go_simp <;> with_reducible rfl)
                try simp only [Act.put, List.setIfInBounds_toArray, List.set_cons_zero, List.set_cons_succ]
                refine wpAnyH_take (i := 15) (oi := ?oi15D) (v := ?v15D) ?hi15D (by kernel_rfl) (by kernel_rfl) (by kernel_rfl) ?hq15D (Or.inl ⟨?hw15D, ?hy15D⟩) (by assumption) ?rest15D
                case hi15D => (simp only [List.getElem?_toArray, List.getElem?_cons_succ, List.getElem?_cons_zero]; rfl)
                case hq15D => exact fun _ _ _ h => h
                case hw15D => rfl
                case hy15D => (intro w hSw; (try dsimp only at hSw); go_simp <;> with_reducible rfl)
                try simp only [Act.put, List.setIfInBounds_toArray, List.set_cons_zero, List.set_cons_succ]
                refine wpAnyH_ready (rs := [12]) (by kernel_rfl) (by simp) ?_
                refine AllReadyH.cons (o := ?o12D) ?hi12D (fun K hK => ?st12D) AllReadyH.nil
                case hi12D => (simp only [List.getElem?_toArray, List.getElem?_cons_succ, List.getElem?_cons_zero]; rfl)
                go_simp
                refine hpb.mono ?_
                rintro e w6 ⟨rfl, hb6⟩
                have hR6 := hR5.below hBw hb6
                have p6 := (hb6.cell (p := ⟨bo, 1, none⟩) (World.block_lt_of_cell? _ _ p5)).trans p5
                have hpq := rplace_any on hR6.qk (by omega)
                refine hK.out _ _ p6 (fun hHeld2 => ?_)
                clear hK K hHeld
                have hHeld := hHeld2
                clear hHeld2
                try simp only [Act.put, List.setIfInBounds_toArray, List.set_cons_zero, List.set_cons_succ]
                refine wpAnyH_ready (rs := [16]) (by kernel_rfl) (by simp) ?_
                refine AllReadyH.cons (o := ?o16D) ?hi16D (fun K hK => ?st16D) AllReadyH.nil
                case hi16D => (simp only [List.getElem?_toArray, List.getElem?_cons_succ, List.getElem?_cons_zero]; rfl)
                go_simp
                refine hpq.mono ?_
                rintro e w7 ⟨rfl, hww⟩
                subst w7
                refine hK.out _ _ p6 (fun hHeld2 => ?_)
                clear hK K hHeld
                have hHeld := hHeld2
                clear hHeld2
                try simp only [Act.put, List.setIfInBounds_toArray, List.set_cons_zero, List.set_cons_succ]
                refine wpAnyH_take (i := 17) (oi := ?oi17D) (v := ?v17D) ?hi17D (by kernel_rfl) (by kernel_rfl) (by kernel_rfl) ?hq17D (Or.inl ⟨?hw17D, ?hy17D⟩) (by assumption) ?rest17D
                case hi17D => (simp only [List.getElem?_toArray, List.getElem?_cons_succ, List.getElem?_cons_zero]; rfl)
                case hq17D => exact fun _ _ _ h => h
                case hw17D => rfl
                case hy17D => (intro w hSw; (try dsimp only at hSw); go_simp <;> with_reducible rfl)
                try simp only [Act.put, List.setIfInBounds_toArray, List.set_cons_zero, List.set_cons_succ]
                refine wpAnyH_take (i := 18) (oi := ?oi18D) (v := ?v18D) ?hi18D (by kernel_rfl) (by kernel_rfl) (by kernel_rfl) ?hq18D (Or.inl ⟨?hw18D, ?hy18D⟩) (by assumption) ?rest18D
                case hi18D => (simp only [List.getElem?_toArray, List.getElem?_cons_succ, List.getElem?_cons_zero]; rfl)
                case hq18D => exact fun _ _ _ h => h
                case hw18D => rfl
                case hy18D => (intro w hSw; (try dsimp only at hSw); go_simp <;> with_reducible rfl)
                try simp only [Act.put, List.setIfInBounds_toArray, List.set_cons_zero, List.set_cons_succ]
                refine wpAnyH_done (by kernel_rfl) ?_ _
                clear hlk hR4 hR5
                go_wp2
                go_roundw
                case measure => simp [intOf]; omega
                case rel => exact ⟨k + 1, _, _, _, _, by go_num, by omega, hR6, hinv⟩
            · by_cases h5 : ok = 5
              · as_aux_lemma =>
                  subst h5
                  have hinv := Lib.hid (hst.out.back on)
                  obtain ⟨E, hE⟩ : ∃ E, backB o on = E := ⟨_, rfl⟩
                  have hbp := bback_any on hR0.drew.bk
                  rw [hE] at hbp
                  go_wp2
                  refine wp_region_held_drew (S := (fun W => W.cell? ⟨bo, 1, none⟩ = some (.int .i64 on))) (by kernel_rfl) o1d (fun hHeld => ?_)
                  refine wpAnyH_take (i := 0) (oi := ?oi0e) (v := ?v0e) ?hi0e (by kernel_rfl) (by kernel_rfl) (by kernel_rfl) ?hq0e (Or.inl ⟨?hw0e, ?hy0e⟩) (by assumption) ?rest0e
                  case hi0e => (simp only [List.getElem?_toArray, List.getElem?_cons_succ, List.getElem?_cons_zero]; rfl)
                  case hq0e => exact fun _ _ _ h => h
                  case hw0e => rfl
                  case hy0e => (intro w hSw; (try dsimp only at hSw); go_simp <;> with_reducible rfl)
                  try simp only [Act.put, List.setIfInBounds_toArray, List.set_cons_zero, List.set_cons_succ]
                  refine wpAnyH_take (i := 1) (oi := ?oi1e) (v := ?v1e) ?hi1e (by kernel_rfl) (by kernel_rfl) (by kernel_rfl) ?hq1e (Or.inl ⟨?hw1e, ?hy1e⟩) (by assumption) ?rest1e
                  case hi1e => (simp only [List.getElem?_toArray, List.getElem?_cons_succ, List.getElem?_cons_zero]; rfl)
                  case hq1e => exact fun _ _ _ h => h
                  case hw1e => rfl
                  case hy1e => (intro w hSw; (try dsimp only at hSw); go_simp <;> with_reducible rfl)
                  try simp only [Act.put, List.setIfInBounds_toArray, List.set_cons_zero, List.set_cons_succ]
                  refine wpAnyH_take (i := 2) (oi := ?oi2e) (v := ?v2e) ?hi2e (by kernel_rfl) (by kernel_rfl) (by kernel_rfl) ?hq2e (Or.inl ⟨?hw2e, ?hy2e⟩) (by assumption) ?rest2e
                  case hi2e => (simp only [List.getElem?_toArray, List.getElem?_cons_succ, List.getElem?_cons_zero]; rfl)
                  case hq2e => exact fun _ _ _ h => h
                  case hw2e => rfl
                  case hy2e => (intro w hSw; (try dsimp only at hSw); go_simp <;> with_reducible rfl)
                  try simp only [Act.put, List.setIfInBounds_toArray, List.set_cons_zero, List.set_cons_succ]
                  refine wpAnyH_take (i := 4) (oi := ?oi4e) (v := ?v4e) ?hi4e (by kernel_rfl) (by kernel_rfl) (by kernel_rfl) ?hq4e (Or.inl ⟨?hw4e, ?hy4e⟩) (by assumption) ?rest4e
                  case hi4e => (simp only [List.getElem?_toArray, List.getElem?_cons_succ, List.getElem?_cons_zero]; rfl)
                  case hq4e => exact fun _ _ _ h => h
                  case hw4e => rfl
                  case hy4e => (intro w hSw; (try dsimp only at hSw); go_simp <;> with_reducible rfl)
                  try simp only [Act.put, List.setIfInBounds_toArray, List.set_cons_zero, List.set_cons_succ]
                  refine wpAnyH_take (i := 5) (oi := ?oi5e) (v := ?v5e) ?hi5e (by kernel_rfl) (by kernel_rfl) (by kernel_rfl) ?hq5e (Or.inl ⟨?hw5e, ?hy5e⟩) (by assumption) ?rest5e
                  case hi5e => (simp only [List.getElem?_toArray, List.getElem?_cons_succ, List.getElem?_cons_zero]; rfl)
                  case hq5e => exact fun _ _ _ h => h
                  case hw5e => rfl
                  case hy5e => (intro w hSw; (try dsimp only at hSw); go_simp <;> with_reducible rfl)
                  try simp only [Act.put, List.setIfInBounds_toArray, List.set_cons_zero, List.set_cons_succ]
                  refine wpAnyH_take (i := 6) (oi := ?oi6e) (v := ?v6e) ?hi6e (by kernel_rfl) (by kernel_rfl) (by kernel_rfl) ?hq6e (Or.inl ⟨?hw6e, ?hy6e⟩) (by assumption) ?rest6e
                  case hi6e => (simp only [List.getElem?_toArray, List.getElem?_cons_succ, List.getElem?_cons_zero]; rfl)
                  case hq6e => exact fun _ _ _ h => h
                  case hw6e => rfl
                  case hy6e => (intro w hSw; (try dsimp only at hSw); go_simp <;> with_reducible rfl)
                  try simp only [Act.put, List.setIfInBounds_toArray, List.set_cons_zero, List.set_cons_succ]
                  refine wpAnyH_ready (rs := [3]) (by kernel_rfl) (by simp) ?_
                  refine AllReadyH.cons (o := ?o3e) ?hi3e (fun K hK => ?st3e) AllReadyH.nil
                  case hi3e => (simp only [List.getElem?_toArray, List.getElem?_cons_succ, List.getElem?_cons_zero]; rfl)
                  go_simp
                  refine (hbp).mono ?_
                  rintro e w3 ⟨rfl, hbk, hkp⟩
                  have hR3 := hR0.drew.callB hBw hkp (hbk.widen _)
                  have p1 : w3.cell? ⟨bo, 1, none⟩ = some (.int .i64 on) := hkp.cell o1 (fun e => hFbo _ e rfl)
                  refine hK.out _ _ p1 (fun hHeld2 => ?_)
                  clear hK K hHeld
                  have hHeld := hHeld2
                  clear hHeld2
                  try simp only [Act.put, List.setIfInBounds_toArray, List.set_cons_zero, List.set_cons_succ]
                  refine wpAnyH_ready (rs := [7]) (by kernel_rfl) (by simp) ?_
                  refine AllReadyH.cons (o := ?o7e) ?hi7e (fun K hK => ?st7e) AllReadyH.nil
                  case hi7e => (simp only [List.getElem?_toArray, List.getElem?_cons_succ, List.getElem?_cons_zero]; rfl)
                  go_simp
                  have hx := rback_any on hR3.qk hst.out.o0
                  rw [hE] at hx
                  refine hx.mono ?_
                  rintro e w4 ⟨rfl, hqk, hkq⟩
                  have hR4 := hR3.callQ hBw hkq (hqk.widen _)
                  have p2 : w4.cell? ⟨bo, 1, none⟩ = some (.int .i64 on) := hkq.cell p1 (fun e => hGbo _ e.1 rfl)
                  refine hK.out _ _ p2 (fun hHeld2 => ?_)
                  clear hK K hHeld
                  have hHeld := hHeld2
                  clear hHeld2
                  try simp only [Act.put, List.setIfInBounds_toArray, List.set_cons_zero, List.set_cons_succ]
                  refine wpAnyH_take (i := 8) (oi := ?oi8e) (v := ?v8e) ?hi8e (by kernel_rfl) (by kernel_rfl) (by kernel_rfl) ?hq8e (Or.inl ⟨?hw8e, ?hy8e⟩) (by assumption) ?rest8e
                  case hi8e => (simp only [List.getElem?_toArray, List.getElem?_cons_succ, List.getElem?_cons_zero]; rfl)
                  case hq8e => exact fun _ _ _ h => h
                  case hw8e => rfl
                  case hy8e => (intro w hSw; (try dsimp only at hSw); go_simp <;> with_reducible rfl)
                  try simp only [Act.put, List.setIfInBounds_toArray, List.set_cons_zero, List.set_cons_succ]
                  refine wpAnyH_take (i := 9) (oi := ?oi9e) (v := ?v9e) ?hi9e (by kernel_rfl) (by kernel_rfl) (by kernel_rfl) ?hq9e (Or.inl ⟨?hw9e, ?hy9e⟩) (by assumption) ?rest9e
                  case hi9e => (simp only [List.getElem?_toArray, List.getElem?_cons_succ, List.getElem?_cons_zero]; rfl)
                  case hq9e => exact fun _ _ _ h => h
                  case hw9e => rfl
                  case hy9e => (intro w hSw; (try dsimp only at hSw); go_simp <;> with_reducible rfl)
                  try simp only [Act.put, List.setIfInBounds_toArray, List.set_cons_zero, List.set_cons_succ]
                  refine wpAnyH_done (by kernel_rfl) ?_ _
                  go_wp2
                  have hbl4 : bo < w4.heap.size := World.block_lt_of_cell? _ _ p2
                  have hlen4 := hinv.out.len
                  have hlk := looks_any hR4.drew.bk hR4.drew.qk hinv.out.nd (by omega)
                  go_wp2
                  refine wp_region_held_drew (S := (fun W => W.cell? ⟨bo, 1, none⟩ = some (.int .i64 on))) (by kernel_rfl) p2 (fun hHeld => ?_)
                  refine wpAnyH_take (i := 0) (oi := ?oi0E) (v := ?v0E) ?hi0E (by kernel_rfl) (by kernel_rfl) (by kernel_rfl) ?hq0E (Or.inl ⟨?hw0E, ?hy0E⟩) (by assumption) ?rest0E
                  case hi0E => (simp only [List.getElem?_toArray, List.getElem?_cons_succ, List.getElem?_cons_zero]; rfl)
                  case hq0E => exact fun _ _ _ h => h
                  case hw0E => rfl
                  case hy0E => (intro w hSw; (try dsimp only at hSw); go_simp <;> with_reducible rfl)
                  try simp only [Act.put, List.setIfInBounds_toArray, List.set_cons_zero, List.set_cons_succ]
                  refine wpAnyH_take (i := 1) (oi := ?oi1E) (v := ?v1E) ?hi1E (by kernel_rfl) (by kernel_rfl) (by kernel_rfl) ?hq1E (Or.inl ⟨?hw1E, ?hy1E⟩) (by assumption) ?rest1E
                  case hi1E => (simp only [List.getElem?_toArray, List.getElem?_cons_succ, List.getElem?_cons_zero]; rfl)
                  case hq1E => exact fun _ _ _ h => h
                  case hw1E => rfl
                  case hy1E => (intro w hSw; (try dsimp only at hSw); go_simp <;> with_reducible rfl)
                  try simp only [Act.put, List.setIfInBounds_toArray, List.set_cons_zero, List.set_cons_succ]
                  refine wpAnyH_take (i := 2) (oi := ?oi2E) (v := ?v2E) ?hi2E (by kernel_rfl) (by kernel_rfl) (by kernel_rfl) ?hq2E (Or.inl ⟨?hw2E, ?hy2E⟩) (by assumption) ?rest2E
                  case hi2E => (simp only [List.getElem?_toArray, List.getElem?_cons_succ, List.getElem?_cons_zero]; rfl)
                  case hq2E => exact fun _ _ _ h => h
                  case hw2E => rfl
                  case hy2E => (intro w hSw; (try dsimp only at hSw); go_simp <;> with_reducible rfl)
                  try simp only [Act.put, List.setIfInBounds_toArray, List.set_cons_zero, List.set_cons_succ]
                  refine wpAnyH_take (i := 3) (oi := ?oi3E) (v := ?v3E) ?hi3E (by kernel_rfl) (by kernel_rfl) (by kernel_rfl) ?hq3E (Or.inl ⟨?hw3E, ?hy3E⟩) (by assumption) ?rest3E
                  case hi3E => (simp only [List.getElem?_toArray, List.getElem?_cons_succ, List.getElem?_cons_zero]; rfl)
                  case hq3E => exact fun _ _ _ h => h
                  case hw3E => rfl
                  case hy3E => (intro w hSw; (try dsimp only at hSw); go_simp <;> with_reducible rfl)
                  try simp only [Act.put, List.setIfInBounds_toArray, List.set_cons_zero, List.set_cons_succ]
                  refine wpAnyH_take (i := 4) (oi := ?oi4E) (v := ?v4E) ?hi4E (by kernel_rfl) (by kernel_rfl) (by kernel_rfl) ?hq4E (Or.inl ⟨?hw4E, ?hy4E⟩) (by assumption) ?rest4E
                  case hi4E => (simp only [List.getElem?_toArray, List.getElem?_cons_succ, List.getElem?_cons_zero]; rfl)
                  case hq4E => exact fun _ _ _ h => h
                  case hw4E => rfl
                  case hy4E => (intro w hSw; (try dsimp only at hSw); go_simp <;> with_reducible rfl)
                  try simp only [Act.put, List.setIfInBounds_toArray, List.set_cons_zero, List.set_cons_succ]
                  refine wpAnyH_ready (rs := [5]) (by kernel_rfl) (by simp) ?_
                  refine AllReadyH.cons (o := ?o5E) ?hi5E (fun K hK => ?st5E) AllReadyH.nil
                  case hi5E => (simp only [List.getElem?_toArray, List.getElem?_cons_succ, List.getElem?_cons_zero]; rfl)
                  go_simp
                  refine hlk.mono ?_
                  rintro e w5 ⟨rfl, hb5⟩
                  have hR5 := hR4.drew.below hBw hb5
                  have p5 := (hb5.cell (p := ⟨bo, 1, none⟩) hbl4).trans p2
                  have hpb := bplace_any on hR5.bk (by omega)
                  refine hK.out _ _ p5 (fun hHeld2 => ?_)
                  clear hK K hHeld
                  have hHeld := hHeld2
                  clear hHeld2
                  try simp only [Act.put, List.setIfInBounds_toArray, List.set_cons_zero, List.set_cons_succ]
                  refine wpAnyH_take (i := 6) (oi := ?oi6E) (v := ?v6E) ?hi6E (by kernel_rfl) (by kernel_rfl) (by kernel_rfl) ?hq6E (Or.inl ⟨?hw6E, ?hy6E⟩) (by assumption) ?rest6E
                  case hi6E => (simp only [List.getElem?_toArray, List.getElem?_cons_succ, List.getElem?_cons_zero]; rfl)
                  case hq6E => exact fun _ _ _ h => h
                  case hw6E => rfl
                  case hy6E => (intro w hSw; (try dsimp only at hSw); go_simp <;> with_reducible rfl)
                  try simp only [Act.put, List.setIfInBounds_toArray, List.set_cons_zero, List.set_cons_succ]
                  refine wpAnyH_take (i := 7) (oi := ?oi7E) (v := ?v7E) ?hi7E (by kernel_rfl) (by kernel_rfl) (by kernel_rfl) ?hq7E (Or.inl ⟨?hw7E, ?hy7E⟩) (by assumption) ?rest7E
                  case hi7E => (simp only [List.getElem?_toArray, List.getElem?_cons_succ, List.getElem?_cons_zero]; rfl)
                  case hq7E => exact fun _ _ _ h => h
                  case hw7E => rfl
                  case hy7E => (intro w hSw; (try dsimp only at hSw); go_simp <;> with_reducible rfl)
                  try simp only [Act.put, List.setIfInBounds_toArray, List.set_cons_zero, List.set_cons_succ]
                  refine wpAnyH_take (i := 8) (oi := ?oi8E) (v := ?v8E) ?hi8E (by kernel_rfl) (by kernel_rfl) (by kernel_rfl) ?hq8E (Or.inl ⟨?hw8E, ?hy8E⟩) (by assumption) ?rest8E
                  case hi8E => (simp only [List.getElem?_toArray, List.getElem?_cons_succ, List.getElem?_cons_zero]; rfl)
                  case hq8E => exact fun _ _ _ h => h
                  case hw8E => rfl
                  case hy8E => (intro w hSw; (try dsimp only at hSw); go_simp <;> with_reducible rfl)
                  try simp only [Act.put, List.setIfInBounds_toArray, List.set_cons_zero, List.set_cons_succ]
                  refine wpAnyH_take (i := 9) (oi := ?oi9E) (v := ?v9E) ?hi9E (by kernel_rfl) (by kernel_rfl) (by kernel_rfl) ?hq9E (Or.inl ⟨?hw9E, ?hy9E⟩) (by assumption) ?rest9E
                  case hi9E => (simp only [List.getElem?_toArray, List.getElem?_cons_succ, List.getElem?_cons_zero]; rfl)
                  case hq9E => exact fun _ _ _ h => h
                  case hw9E => rfl
                  case hy9E => (intro w hSw; (try dsimp only at hSw); go_simp <;> with_reducible rfl)
                  try simp only [Act.put, List.setIfInBounds_toArray, List.set_cons_zero, List.set_cons_succ]
                  refine wpAnyH_take (i := 10) (oi := ?oi10E) (v := ?v10E) ?hi10E (by kernel_rfl) (by kernel_rfl) (by kernel_rfl) ?hq10E (Or.inl ⟨?hw10E, ?hy10E⟩) (by assumption) ?rest10E
                  case hi10E => (simp only [List.getElem?_toArray, List.getElem?_cons_succ, List.getElem?_cons_zero]; rfl)
                  case hq10E => exact fun _ _ _ h => h
                  case hw10E => rfl
                  case hy10E => (intro w hSw; (try dsimp only at hSw); go_simp <;> with_reducible rfl)
                  try simp only [Act.put, List.setIfInBounds_toArray, List.set_cons_zero, List.set_cons_succ]
                  refine wpAnyH_take (i := 11) (oi := ?oi11E) (v := ?v11E) ?hi11E (by kernel_rfl) (by kernel_rfl) (by kernel_rfl) ?hq11E (Or.inl ⟨?hw11E, ?hy11E⟩) (by assumption) ?rest11E
                  case hi11E => (simp only [List.getElem?_toArray, List.getElem?_cons_succ, List.getElem?_cons_zero]; rfl)
                  case hq11E => exact fun _ _ _ h => h
                  case hw11E => rfl
                  case hy11E => (intro w hSw; (try dsimp only at hSw); go_simp <;> with_reducible rfl)
                  try simp only [Act.put, List.setIfInBounds_toArray, List.set_cons_zero, List.set_cons_succ]
                  refine wpAnyH_take (i := 13) (oi := ?oi13E) (v := ?v13E) ?hi13E (by kernel_rfl) (by kernel_rfl) (by kernel_rfl) ?hq13E (Or.inl ⟨?hw13E, ?hy13E⟩) (by assumption) ?rest13E
                  case hi13E => (simp only [List.getElem?_toArray, List.getElem?_cons_succ, List.getElem?_cons_zero]; rfl)
                  case hq13E => exact fun _ _ _ h => h
                  case hw13E => rfl
                  case hy13E => (intro w hSw; (try dsimp only at hSw); go_simp <;> with_reducible rfl)
                  try simp only [Act.put, List.setIfInBounds_toArray, List.set_cons_zero, List.set_cons_succ]
                  refine wpAnyH_take (i := 14) (oi := ?oi14E) (v := ?v14E) ?hi14E (by kernel_rfl) (by kernel_rfl) (by kernel_rfl) ?hq14E (Or.inl ⟨?hw14E, ?hy14E⟩) (by assumption) ?rest14E
                  case hi14E => (simp only [List.getElem?_toArray, List.getElem?_cons_succ, List.getElem?_cons_zero]; rfl)
                  case hq14E => exact fun _ _ _ h => h
                  case hw14E => rfl
                  case hy14E => (intro w hSw; (try dsimp only at hSw); go_simp <;> with_reducible rfl)
                  try simp only [Act.put, List.setIfInBounds_toArray, List.set_cons_zero, List.set_cons_succ]
                  refine wpAnyH_take (i := 15) (oi := ?oi15E) (v := ?v15E) ?hi15E (by kernel_rfl) (by kernel_rfl) (by kernel_rfl) ?hq15E (Or.inl ⟨?hw15E, ?hy15E⟩) (by assumption) ?rest15E
                  case hi15E => (simp only [List.getElem?_toArray, List.getElem?_cons_succ, List.getElem?_cons_zero]; rfl)
                  case hq15E => exact fun _ _ _ h => h
                  case hw15E => rfl
                  case hy15E => (intro w hSw; (try dsimp only at hSw); go_simp <;> with_reducible rfl)
                  try simp only [Act.put, List.setIfInBounds_toArray, List.set_cons_zero, List.set_cons_succ]
                  refine wpAnyH_ready (rs := [12]) (by kernel_rfl) (by simp) ?_
                  refine AllReadyH.cons (o := ?o12E) ?hi12E (fun K hK => ?st12E) AllReadyH.nil
                  case hi12E => (simp only [List.getElem?_toArray, List.getElem?_cons_succ, List.getElem?_cons_zero]; rfl)
                  go_simp
                  refine hpb.mono ?_
                  rintro e w6 ⟨rfl, hb6⟩
                  have hR6 := hR5.below hBw hb6
                  have p6 := (hb6.cell (p := ⟨bo, 1, none⟩) (World.block_lt_of_cell? _ _ p5)).trans p5
                  have hpq := rplace_any on hR6.qk (by omega)
                  refine hK.out _ _ p6 (fun hHeld2 => ?_)
                  clear hK K hHeld
                  have hHeld := hHeld2
                  clear hHeld2
                  try simp only [Act.put, List.setIfInBounds_toArray, List.set_cons_zero, List.set_cons_succ]
                  refine wpAnyH_ready (rs := [16]) (by kernel_rfl) (by simp) ?_
                  refine AllReadyH.cons (o := ?o16E) ?hi16E (fun K hK => ?st16E) AllReadyH.nil
                  case hi16E => (simp only [List.getElem?_toArray, List.getElem?_cons_succ, List.getElem?_cons_zero]; rfl)
                  go_simp
                  refine hpq.mono ?_
                  rintro e w7 ⟨rfl, hww⟩
                  subst w7
                  refine hK.out _ _ p6 (fun hHeld2 => ?_)
                  clear hK K hHeld
                  have hHeld := hHeld2
                  clear hHeld2
                  try simp only [Act.put, List.setIfInBounds_toArray, List.set_cons_zero, List.set_cons_succ]
                  refine wpAnyH_take (i := 17) (oi := ?oi17E) (v := ?v17E) ?hi17E (by kernel_rfl) (by kernel_rfl) (by kernel_rfl) ?hq17E (Or.inl ⟨?hw17E, ?hy17E⟩) (by assumption) ?rest17E
                  case hi17E => (simp only [List.getElem?_toArray, List.getElem?_cons_succ, List.getElem?_cons_zero]; rfl)
                  case hq17E => exact fun _ _ _ h => h
                  case hw17E => rfl
                  case hy17E => (intro w hSw; (try dsimp only at hSw); go_simp <;> with_reducible rfl)
                  try simp only [Act.put, List.setIfInBounds_toArray, List.set_cons_zero, List.set_cons_succ]
                  refine wpAnyH_take (i := 18) (oi := ?oi18E) (v := ?v18E) ?hi18E (by kernel_rfl) (by kernel_rfl) (by kernel_rfl) ?hq18E (Or.inl ⟨?hw18E, ?hy18E⟩) (by assumption) ?rest18E
                  case hi18E => (simp only [List.getElem?_toArray, List.getElem?_cons_succ, List.getElem?_cons_zero]; rfl)
                  case hq18E => exact fun _ _ _ h => h
                  case hw18E => rfl
                  case hy18E => (intro w hSw; (try dsimp only at hSw); go_simp <;> with_reducible rfl)
                  try simp only [Act.put, List.setIfInBounds_toArray, List.set_cons_zero, List.set_cons_succ]
                  refine wpAnyH_done (by kernel_rfl) ?_ _
                  clear hlk hR4 hR5
                  go_wp2
                  go_roundw
                  case measure => simp [intOf]; omega
                  case rel => exact ⟨k + 1, _, _, _, _, by go_num, by omega, hR6, hinv⟩
              · as_aux_lemma =>
                  have hinv := hst
                  have hR4 := hR0
                  have p2 := o1
                  obtain ⟨w4, hw4⟩ : ∃ W, w0 = W := ⟨_, rfl⟩
                  rw [hw4] at hR4 p2 ⊢
                  clear hR0 hst o0 o1 o1d hbol hw4
                  have hbl4 : bo < w4.heap.size := World.block_lt_of_cell? _ _ p2
                  have hlen4 := hinv.out.len
                  have hlk := looks_any hR4.drew.bk hR4.drew.qk hinv.out.nd (by omega)
                  go_wp2
                  refine wp_region_held_drew (S := (fun W => W.cell? ⟨bo, 1, none⟩ = some (.int .i64 on))) (by kernel_rfl) p2 (fun hHeld => ?_)
                  refine wpAnyH_take (i := 0) (oi := ?oi0F) (v := ?v0F) ?hi0F (by kernel_rfl) (by kernel_rfl) (by kernel_rfl) ?hq0F (Or.inl ⟨?hw0F, ?hy0F⟩) (by assumption) ?rest0F
                  case hi0F => (simp only [List.getElem?_toArray, List.getElem?_cons_succ, List.getElem?_cons_zero]; rfl)
                  case hq0F => exact fun _ _ _ h => h
                  case hw0F => rfl
                  case hy0F => (intro w hSw; (try dsimp only at hSw); go_simp <;> with_reducible rfl)
                  try simp only [Act.put, List.setIfInBounds_toArray, List.set_cons_zero, List.set_cons_succ]
                  refine wpAnyH_take (i := 1) (oi := ?oi1F) (v := ?v1F) ?hi1F (by kernel_rfl) (by kernel_rfl) (by kernel_rfl) ?hq1F (Or.inl ⟨?hw1F, ?hy1F⟩) (by assumption) ?rest1F
                  case hi1F => (simp only [List.getElem?_toArray, List.getElem?_cons_succ, List.getElem?_cons_zero]; rfl)
                  case hq1F => exact fun _ _ _ h => h
                  case hw1F => rfl
                  case hy1F => (intro w hSw; (try dsimp only at hSw); go_simp <;> with_reducible rfl)
                  try simp only [Act.put, List.setIfInBounds_toArray, List.set_cons_zero, List.set_cons_succ]
                  refine wpAnyH_take (i := 2) (oi := ?oi2F) (v := ?v2F) ?hi2F (by kernel_rfl) (by kernel_rfl) (by kernel_rfl) ?hq2F (Or.inl ⟨?hw2F, ?hy2F⟩) (by assumption) ?rest2F
                  case hi2F => (simp only [List.getElem?_toArray, List.getElem?_cons_succ, List.getElem?_cons_zero]; rfl)
                  case hq2F => exact fun _ _ _ h => h
                  case hw2F => rfl
                  case hy2F => (intro w hSw; (try dsimp only at hSw); go_simp <;> with_reducible rfl)
                  try simp only [Act.put, List.setIfInBounds_toArray, List.set_cons_zero, List.set_cons_succ]
                  refine wpAnyH_take (i := 3) (oi := ?oi3F) (v := ?v3F) ?hi3F (by kernel_rfl) (by kernel_rfl) (by kernel_rfl) ?hq3F (Or.inl ⟨?hw3F, ?hy3F⟩) (by assumption) ?rest3F
                  case hi3F => (simp only [List.getElem?_toArray, List.getElem?_cons_succ, List.getElem?_cons_zero]; rfl)
                  case hq3F => exact fun _ _ _ h => h
                  case hw3F => rfl
                  case hy3F => (intro w hSw; (try dsimp only at hSw); go_simp <;> with_reducible rfl)
                  try simp only [Act.put, List.setIfInBounds_toArray, List.set_cons_zero, List.set_cons_succ]
                  refine wpAnyH_take (i := 4) (oi := ?oi4F) (v := ?v4F) ?hi4F (by kernel_rfl) (by kernel_rfl) (by kernel_rfl) ?hq4F (Or.inl ⟨?hw4F, ?hy4F⟩) (by assumption) ?rest4F
                  case hi4F => (simp only [List.getElem?_toArray, List.getElem?_cons_succ, List.getElem?_cons_zero]; rfl)
                  case hq4F => exact fun _ _ _ h => h
                  case hw4F => rfl
                  case hy4F => (intro w hSw; (try dsimp only at hSw); go_simp <;> with_reducible rfl)
                  try simp only [Act.put, List.setIfInBounds_toArray, List.set_cons_zero, List.set_cons_succ]
                  refine wpAnyH_ready (rs := [5]) (by kernel_rfl) (by simp) ?_
                  refine AllReadyH.cons (o := ?o5F) ?hi5F (fun K hK => ?st5F) AllReadyH.nil
                  case hi5F => (simp only [List.getElem?_toArray, List.getElem?_cons_succ, List.getElem?_cons_zero]; rfl)
                  go_simp
                  refine hlk.mono ?_
                  rintro e w5 ⟨rfl, hb5⟩
                  have hR5 := hR4.drew.below hBw hb5
                  have p5 := (hb5.cell (p := ⟨bo, 1, none⟩) hbl4).trans p2
                  have hpb := bplace_any on hR5.bk (by omega)
                  refine hK.out _ _ p5 (fun hHeld2 => ?_)
                  clear hK K hHeld
                  have hHeld := hHeld2
                  clear hHeld2
                  try simp only [Act.put, List.setIfInBounds_toArray, List.set_cons_zero, List.set_cons_succ]
                  refine wpAnyH_take (i := 6) (oi := ?oi6F) (v := ?v6F) ?hi6F (by kernel_rfl) (by kernel_rfl) (by kernel_rfl) ?hq6F (Or.inl ⟨?hw6F, ?hy6F⟩) (by assumption) ?rest6F
                  case hi6F => (simp only [List.getElem?_toArray, List.getElem?_cons_succ, List.getElem?_cons_zero]; rfl)
                  case hq6F => exact fun _ _ _ h => h
                  case hw6F => rfl
                  case hy6F => (intro w hSw; (try dsimp only at hSw); go_simp <;> with_reducible rfl)
                  try simp only [Act.put, List.setIfInBounds_toArray, List.set_cons_zero, List.set_cons_succ]
                  refine wpAnyH_take (i := 7) (oi := ?oi7F) (v := ?v7F) ?hi7F (by kernel_rfl) (by kernel_rfl) (by kernel_rfl) ?hq7F (Or.inl ⟨?hw7F, ?hy7F⟩) (by assumption) ?rest7F
                  case hi7F => (simp only [List.getElem?_toArray, List.getElem?_cons_succ, List.getElem?_cons_zero]; rfl)
                  case hq7F => exact fun _ _ _ h => h
                  case hw7F => rfl
                  case hy7F => (intro w hSw; (try dsimp only at hSw); go_simp <;> with_reducible rfl)
                  try simp only [Act.put, List.setIfInBounds_toArray, List.set_cons_zero, List.set_cons_succ]
                  refine wpAnyH_take (i := 8) (oi := ?oi8F) (v := ?v8F) ?hi8F (by kernel_rfl) (by kernel_rfl) (by kernel_rfl) ?hq8F (Or.inl ⟨?hw8F, ?hy8F⟩) (by assumption) ?rest8F
                  case hi8F => (simp only [List.getElem?_toArray, List.getElem?_cons_succ, List.getElem?_cons_zero]; rfl)
                  case hq8F => exact fun _ _ _ h => h
                  case hw8F => rfl
                  case hy8F => (intro w hSw; (try dsimp only at hSw); go_simp <;> with_reducible rfl)
                  try simp only [Act.put, List.setIfInBounds_toArray, List.set_cons_zero, List.set_cons_succ]
                  refine wpAnyH_take (i := 9) (oi := ?oi9F) (v := ?v9F) ?hi9F (by kernel_rfl) (by kernel_rfl) (by kernel_rfl) ?hq9F (Or.inl ⟨?hw9F, ?hy9F⟩) (by assumption) ?rest9F
                  case hi9F => (simp only [List.getElem?_toArray, List.getElem?_cons_succ, List.getElem?_cons_zero]; rfl)
                  case hq9F => exact fun _ _ _ h => h
                  case hw9F => rfl
                  case hy9F => (intro w hSw; (try dsimp only at hSw); go_simp <;> with_reducible rfl)
                  try simp only [Act.put, List.setIfInBounds_toArray, List.set_cons_zero, List.set_cons_succ]
                  refine wpAnyH_take (i := 10) (oi := ?oi10F) (v := ?v10F) ?hi10F (by kernel_rfl) (by kernel_rfl) (by kernel_rfl) ?hq10F (Or.inl ⟨?hw10F, ?hy10F⟩) (by assumption) ?rest10F
                  case hi10F => (simp only [List.getElem?_toArray, List.getElem?_cons_succ, List.getElem?_cons_zero]; rfl)
                  case hq10F => exact fun _ _ _ h => h
                  case hw10F => rfl
                  case hy10F => (intro w hSw; (try dsimp only at hSw); go_simp <;> with_reducible rfl)
                  try simp only [Act.put, List.setIfInBounds_toArray, List.set_cons_zero, List.set_cons_succ]
                  refine wpAnyH_take (i := 11) (oi := ?oi11F) (v := ?v11F) ?hi11F (by kernel_rfl) (by kernel_rfl) (by kernel_rfl) ?hq11F (Or.inl ⟨?hw11F, ?hy11F⟩) (by assumption) ?rest11F
                  case hi11F => (simp only [List.getElem?_toArray, List.getElem?_cons_succ, List.getElem?_cons_zero]; rfl)
                  case hq11F => exact fun _ _ _ h => h
                  case hw11F => rfl
                  case hy11F => (intro w hSw; (try dsimp only at hSw); go_simp <;> with_reducible rfl)
                  try simp only [Act.put, List.setIfInBounds_toArray, List.set_cons_zero, List.set_cons_succ]
                  refine wpAnyH_take (i := 13) (oi := ?oi13F) (v := ?v13F) ?hi13F (by kernel_rfl) (by kernel_rfl) (by kernel_rfl) ?hq13F (Or.inl ⟨?hw13F, ?hy13F⟩) (by assumption) ?rest13F
                  case hi13F => (simp only [List.getElem?_toArray, List.getElem?_cons_succ, List.getElem?_cons_zero]; rfl)
                  case hq13F => exact fun _ _ _ h => h
                  case hw13F => rfl
                  case hy13F => (intro w hSw; (try dsimp only at hSw); go_simp <;> with_reducible rfl)
                  try simp only [Act.put, List.setIfInBounds_toArray, List.set_cons_zero, List.set_cons_succ]
                  refine wpAnyH_take (i := 14) (oi := ?oi14F) (v := ?v14F) ?hi14F (by kernel_rfl) (by kernel_rfl) (by kernel_rfl) ?hq14F (Or.inl ⟨?hw14F, ?hy14F⟩) (by assumption) ?rest14F
                  case hi14F => (simp only [List.getElem?_toArray, List.getElem?_cons_succ, List.getElem?_cons_zero]; rfl)
                  case hq14F => exact fun _ _ _ h => h
                  case hw14F => rfl
                  case hy14F => (intro w hSw; (try dsimp only at hSw); go_simp <;> with_reducible rfl)
                  try simp only [Act.put, List.setIfInBounds_toArray, List.set_cons_zero, List.set_cons_succ]
                  refine wpAnyH_take (i := 15) (oi := ?oi15F) (v := ?v15F) ?hi15F (by kernel_rfl) (by kernel_rfl) (by kernel_rfl) ?hq15F (Or.inl ⟨?hw15F, ?hy15F⟩) (by assumption) ?rest15F
                  case hi15F => (simp only [List.getElem?_toArray, List.getElem?_cons_succ, List.getElem?_cons_zero]; rfl)
                  case hq15F => exact fun _ _ _ h => h
                  case hw15F => rfl
                  case hy15F => (intro w hSw; (try dsimp only at hSw); go_simp <;> with_reducible rfl)
                  try simp only [Act.put, List.setIfInBounds_toArray, List.set_cons_zero, List.set_cons_succ]
                  refine wpAnyH_ready (rs := [12]) (by kernel_rfl) (by simp) ?_
                  refine AllReadyH.cons (o := ?o12F) ?hi12F (fun K hK => ?st12F) AllReadyH.nil
                  case hi12F => (simp only [List.getElem?_toArray, List.getElem?_cons_succ, List.getElem?_cons_zero]; rfl)
                  go_simp
                  refine hpb.mono ?_
                  rintro e w6 ⟨rfl, hb6⟩
                  have hR6 := hR5.below hBw hb6
                  have p6 := (hb6.cell (p := ⟨bo, 1, none⟩) (World.block_lt_of_cell? _ _ p5)).trans p5
                  have hpq := rplace_any on hR6.qk (by omega)
                  refine hK.out _ _ p6 (fun hHeld2 => ?_)
                  clear hK K hHeld
                  have hHeld := hHeld2
                  clear hHeld2
                  try simp only [Act.put, List.setIfInBounds_toArray, List.set_cons_zero, List.set_cons_succ]
                  refine wpAnyH_ready (rs := [16]) (by kernel_rfl) (by simp) ?_
                  refine AllReadyH.cons (o := ?o16F) ?hi16F (fun K hK => ?st16F) AllReadyH.nil
                  case hi16F => (simp only [List.getElem?_toArray, List.getElem?_cons_succ, List.getElem?_cons_zero]; rfl)
                  go_simp
                  refine hpq.mono ?_
                  rintro e w7 ⟨rfl, hww⟩
                  subst w7
                  refine hK.out _ _ p6 (fun hHeld2 => ?_)
                  clear hK K hHeld
                  have hHeld := hHeld2
                  clear hHeld2
                  try simp only [Act.put, List.setIfInBounds_toArray, List.set_cons_zero, List.set_cons_succ]
                  refine wpAnyH_take (i := 17) (oi := ?oi17F) (v := ?v17F) ?hi17F (by kernel_rfl) (by kernel_rfl) (by kernel_rfl) ?hq17F (Or.inl ⟨?hw17F, ?hy17F⟩) (by assumption) ?rest17F
                  case hi17F => (simp only [List.getElem?_toArray, List.getElem?_cons_succ, List.getElem?_cons_zero]; rfl)
                  case hq17F => exact fun _ _ _ h => h
                  case hw17F => rfl
                  case hy17F => (intro w hSw; (try dsimp only at hSw); go_simp <;> with_reducible rfl)
                  try simp only [Act.put, List.setIfInBounds_toArray, List.set_cons_zero, List.set_cons_succ]
                  refine wpAnyH_take (i := 18) (oi := ?oi18F) (v := ?v18F) ?hi18F (by kernel_rfl) (by kernel_rfl) (by kernel_rfl) ?hq18F (Or.inl ⟨?hw18F, ?hy18F⟩) (by assumption) ?rest18F
                  case hi18F => (simp only [List.getElem?_toArray, List.getElem?_cons_succ, List.getElem?_cons_zero]; rfl)
                  case hq18F => exact fun _ _ _ h => h
                  case hw18F => rfl
                  case hy18F => (intro w hSw; (try dsimp only at hSw); go_simp <;> with_reducible rfl)
                  try simp only [Act.put, List.setIfInBounds_toArray, List.set_cons_zero, List.set_cons_succ]
                  refine wpAnyH_done (by kernel_rfl) ?_ _
                  clear hlk hR4 hR5
                  go_wp2
                  go_roundw
                  case measure => simp [intOf]; omega
                  case rel => exact ⟨k + 1, _, _, _, _, by go_num, by omega, hR6, hinv⟩
    · have hlz : ¬ (k : Int) < (n : Int) := by omega
      have hb := hR.bel
      clear hR
      go_wp2
      go_ret
      exact ⟨rfl, hB ▸ hb⟩

namespace backlogDoesDone
open Go.ChangeShapes Go.WideShapes Go.ChangeAt
set_option maxRecDepth 100000 in
theorem lifted (os : Os) (started : os.Started) (H : Type) (enc : TypeId × Value → H) :
    ReturnsInHanded {} Try.checked os 3 .any (Rows.backlogDoesSpec.pre6 enc Try.prog Try.f3 Rows.backlogDoesRow.domain false) (Rows.backlogDoesSpec.post enc Try.prog Try.f3 false true false false) := by
  refine returnsInHanded_of_change_sized (C := Try.checked) own started (by kernel_rfl) Try.func3
    (ChangeSpec.witness6 (enc := enc) (C := Try.checked) false ⟨#[], #[Value.slice none 0 0], []⟩ 8 (by kernel_rfl) (by kernel_rfl) (by kernel_rfl) (by kernel_rfl)) ?_
  intro W base args ds gs before hval0 hW hcnd hsz0 _
  have hsz : (DataW.weightsEach Try.prog (Try.f3.params.toList ++ Rows.backlogDoesSpec.plain.varTypes Try.prog) (ds ++ gs)).all (· ≤ reachBytes) = true := hsz0
  clear hsz0
  have hval : ∀ (j : Nat) t v, Try.f3.params[j]? = some t → args[j]? = some v → Value.okWide Try.prog W .any base t v := hval0
  have hW' := hW
  obtain ⟨p, q, hA0, hV, rfl, hfz, hnd⟩ := hW
  have hA : DataW.TrodAll enc Try.prog W 0 (fun _ => true) true Try.f3.params.toList args.toList ds p := hA0
  rw [Try.params3] at hA hval hsz
  obtain ⟨v0, vs0, d0, ds0, p0, q0, hargs, rfl, rfl, h0, r0⟩ := trodAll_cons hA
  obtain ⟨rfl, rfl, rfl⟩ := trodAll_nil r0
  obtain rfl : args = #[v0] := by cases args; simp_all
  obtain ⟨rfl, rfl⟩ := trodVars_none hV
  obtain ⟨a0, len0, cap0, rfl⟩ := okWide_slice Try.underlying22 (hval 0 22 v0 rfl rfl)
  have k0 := h0
  have lt0 : ∀ x ∈ p0, x.block < W.heap.size := by obtain ⟨m, hm⟩ := k0; exact DataW.trod_lt m _ _ _ hm
  obtain ⟨f0, ho0, hc0, hm0⟩ := ops_open h0
  clear hA0 hval0
  refine (backlogDoes_walk (w := W) a0 len0 cap0 f0 ho0 hc0 hm0).mono fun e W' ⟨he, bel⟩ => ?_
  subst he
  exact ⟨_, rfl, _, _, _, [], _, [], hW', trodAll_mk1 (shut_bool Try.underlying4 _), (trodAll_cons_mk (Below.trod laidOut (by kernel_rfl) (of_decide_eq_true (by kernel_rfl)) k0 bel lt0) trodAll_mk0), rfl, bel.frame _, fun h => by cases h⟩

theorem over : Rows.backlogDoesRow.holds Try.pinned (OpenSpec.ofChange Rows.backlogDoesSpec) :=
  OpenClaim.holds_of_wide 3 Try.f3 rfl rfl rfl rfl rfl rfl rfl ⟨rfl, rfl, rfl, rfl, rfl⟩ rfl rfl rfl rfl rfl (by kernel_rfl) Try.func3 (by kernel_rfl)
    (of_decide_eq_true (by kernel_rfl)) (by unfold Func.isWrapper; first | (rw [if_pos (by decide +kernel)]; kernel_rfl) | (rw [if_neg (by decide +kernel)]; exact ⟨rfl, rfl⟩))
    (fun os started H enc _ => lifted os started H enc)

/-- The statement. -/
theorem proved : Rows.BacklogDoesSaid := over
end backlogDoesDone
end Go.Proofs.Ytnkekjaljhpmjaa
