/- The stock's calls: several texts as one (StkY, StkZ, StkE). No condition but those told at each. -/
import Derived.Test.YtfpcnenohidfpaaGreatSmD
import Derived.Test.YtfpcnenohidfpaaGreatLink
import Derived.Test.YtfpcnenohidfpaaGreatRgT
import Derived.Deep.CutRange
import Derived.Test.YtfpcnenohidfpaaGreatTaker
namespace Go.Proofs.YtfpcnenohidfpaaGreat
section
open Go.RowKit Go.Maps Go.Shelf Go.Sort
set_option linter.unusedVariables false
set_option linter.unusedSimpArgs false
attribute [local go_sem] Oper.semAt_some

theorem MK.low {base B : Nat} {w : World} {g : Nat} {v : Value} {st : Option (List UInt8)} (h : MK base w g v st) (hB : B ≤ base) : MK B w g v st := ⟨h.blk, Nat.le_trans hB h.ge, h.own.mono hB, h.short⟩
theorem MK.drew {base : Nat} {w : World} {g : Nat} {v : Value} {st : Option (List UInt8)} (h : MK base w g v st) : MK base w.drew g v st := ⟨h.blk.drew, h.ge, h.own, h.short⟩
/-- The types of what a maker writes. -/
def YM (t : TypeId) : Prop := t = 112 ∨ t = 5
theorem MK.cells {base : Nat} {w : World} {g : Nat} {v : Value} {st : Option (List UInt8)} (h : MK base w g v st) {i : Nat} (hi : MF g v i) : ∃ cs t, w.heap[i]? = some (.cells cs t (0, 0)) ∧ YM t := by
  rcases hi with rfl | hi
  · exact ⟨_, _, h.blk, .inl rfl⟩
  · rcases h.own.2 with ⟨rfl, _⟩ | ⟨g', cap, cur, rfl, _, hgg, _⟩
    · cases hi
    · have e : g' = i := by simpa [Value.ownBlock] using hi
      subst e
      exact ⟨_, _, hgg, .inr rfl⟩
theorem MK.row {base n : Nat} {w W : World} {g : Nat} {v : Value} {st : Option (List UInt8)} {row : Option Nat} (h : MK base w g v st) (hg : w.grownBy W row) (hr : ∀ r, row = some r → n ≤ r ∧ ∃ o : Obj, w.heap[r]? = some o ∧ o.isCells = false) : MK base W g v st :=
  h.kept (Keep.of_grown hg) fun i hi => by
    obtain ⟨cs, t, h1, _⟩ := h.cells hi
    exact row_not hr h1 rfl
theorem MK.kp {base : Nat} {S : Nat → Prop} {w W : World} {g : Nat} {v : Value} {st : Option (List UInt8)} (h : MK base w g v st) (hk : Keep (MF g v) w W) : KP YM S w W :=
  hk.kp fun k _ hS => by
    obtain ⟨cs, t, h1, h2⟩ := h.cells hS
    exact .inr ⟨cs, t, _, h1, h2⟩
theorem blk_row {n : Nat} {w W : World} {b : Nat} {t : TypeId} {cs : Array Value} {row : Option Nat} (h : Blk w b t cs) (hg : w.grownBy W row) (hr : ∀ r, row = some r → n ≤ r ∧ ∃ o : Obj, w.heap[r]? = some o ∧ o.isCells = false) : Blk W b t cs :=
  h.kept (Keep.of_grown hg) (row_not hr h rfl)
theorem RB.putD {W : World} {A : Option Addr} {n D : Nat} {l : List UInt8} (h : RB W A n l) (hD : W.heap[D]? = some (.deferred (some []))) : RB (W.putObj D (.deferred none)) A n l :=
  ⟨h.1, fun hn => by
    obtain ⟨b, off, e, hc⟩ := h.2 hn
    exact ⟨b, off, e, fun j x hx => cell_kept (hc j x hx) (grownBy_putObj' _ D (.deferred none)) (fun r e => by cases e; exact ⟨_, hD, rfl⟩)⟩⟩
theorem wp_calm {c : Code} {Q : Exit → Act → World → Prop} {P : Program} {a : Act} {w : World} (h : c.wp P (Exit.then (Q .normal) (fun _ _ _ => False)) a w) : c.wp P Q a w :=
  wp_mono h fun e a w h => by cases e <;> first | exact h | exact h.elim
/-- The cell of a text. -/
def textCell (s : List UInt8) : List UInt8 := numCell (s.length : Int) ++ s
theorem text_is (s : List UInt8) : numCell ((ByteArray.mk s.toArray).size : Int) ++ (ByteArray.mk s.toArray).data.toList = textCell s := by simp [textCell, ByteArray.size]
/-- Rows put one behind the other. -/
def packS (f : List UInt8 → Row) (st : Option (List UInt8)) (l : List (List UInt8)) : Option (List UInt8) := l.foldl (fun st g => putsN (put st (textCell g)) (f g).ints) st
theorem packS_snoc (f : List UInt8 → Row) (st : Option (List UInt8)) (l : List (List UInt8)) (s : List UInt8) : packS f st (l ++ [s]) = putsN (put (packS f st l) (textCell s)) (f s).ints := by
  unfold packS
  rw [List.foldl_append]
  rfl
/-- A stock's code; nothing where it is too long. -/
def packO (f : List UInt8 → Row) (ks : List (List UInt8)) : Option (List UInt8) := packS f (put (some []) (numCell (ks.length : Int))) (sortU ks)
def packC (f : List UInt8 → Row) (ks : List (List UInt8)) : List UInt8 := (packO f ks).getD []
theorem put_len {st : Option (List UInt8)} (x : List UInt8) (h : (st.getD []).length ≤ 262144) : ((put st x).getD []).length ≤ 262144 := by
  cases st with
  | none => simp [put]
  | some l =>
    unfold put
    dsimp only
    split
    · simp
    · rw [Option.getD_some, List.length_append]; omega
theorem puts_len {st : Option (List UInt8)} (l : List Int) (h : (st.getD []).length ≤ 262144) : ((putsN st l).getD []).length ≤ 262144 := by
  induction l generalizing st with
  | nil => exact h
  | cons n l ih => exact ih (put_len _ h)
theorem packC_len' (f : List UInt8 → Row) (ks : List (List UInt8)) : (packC f ks).length ≤ 262144 := by
  unfold packC packO packS
  have : ((put (some []) (numCell (ks.length : Int))).getD []).length ≤ 262144 := put_len _ (by simp)
  revert this
  generalize put (some []) (numCell (ks.length : Int)) = st
  generalize sortU ks = l
  intro h
  induction l generalizing st with
  | nil => exact h
  | cons g l ih => exact ih _ (puts_len _ (put_len _ h))
theorem packC_len (f : List UInt8 → Row) (ks : List (List UInt8)) : (packC f ks).length ≤ 140737488355328 := Nat.le_trans (packC_len' f ks) (by decide)
/-- Behind the making of the code's beginning. -/
def HeadR (w : World) (L0 : Nat) (s3 : Value) (wc : World) : Prop :=
  ∃ bm g v, s3 = .pointer (some ⟨bm, 0, none⟩) ∧ Blk wc bm 74 #[.pointer (some ⟨g, 0, none⟩)] ∧ MK w.heap.size wc g v (put (some []) (numCell (L0 : Int))) ∧ ¬ MF g v bm ∧ Below w.heap.size w wc ∧ w.heap.size ≤ bm
/-- What Pack answers. -/
def PackPost (w : World) (c : List UInt8) (e : Ending) (w' : World) : Prop :=
  ∃ A cap, e = .returned (.slice A c.length cap) ∧ c.length ≤ cap ∧ cap ≤ maxLen ∧ RB w' A c.length c ∧ Below w.heap.size w w' ∧ ∀ ad, A = some ad → w.heap.size ≤ ad.block
set_option maxRecDepth 100000 in
set_option maxHeartbeats 6400000 in
theorem spack_any {w : World} {p b N : Nat} {f : List UInt8 → Row} {ks : List (List UInt8)} (h : ST w p b N f ks) (hks : ks.length ≤ 1048576) (hkl : ∀ g ∈ ks, g.length ≤ 140737488355328) (hI : ∀ g, ∀ n ∈ (f g).ints, isInt n) :
    Calls Tryz.prog 8 #[.pointer (some ⟨p, 0, none⟩)] w (PackPost w (packC f ks)) := by
  obtain ⟨L0, hL0⟩ : ∃ L0, ks.length = L0 := ⟨_, rfl⟩
  obtain ⟨C, hC⟩ : ∃ C, packC f ks = C := ⟨_, rfl⟩
  have hC2 : (packS f (put (some []) (numCell (L0 : Int))) (sortU ks)).getD [] = C := by rw [← hC, ← hL0]; rfl
  rw [hC]
  have hkl2 : ∀ g ∈ sortU ks, g.length ≤ 140737488355328 := fun g hg => hkl g (List.mem_mergeSort.1 hg)
  have h1 := h.alloc (.cells #[.pointer (some ⟨p, 0, none⟩)] 23)
  have hP1 := CL.new w (.pointer (some ⟨p, 0, none⟩)) 23
  have hb1 := (Below.refl w.heap.size w).alloc (Nat.le_refl _) (.cells #[.pointer (some ⟨p, 0, none⟩)] 23)
  have hz1 : (w.alloc (.cells #[.pointer (some ⟨p, 0, none⟩)] 23)).heap.size = w.heap.size + 1 := by simp
  refine (callsIn_wide (n := 9)).1 ?_
  refine callsIn_of_wp_marks Tryz.func8 rfl trivial ?_ rfl
  simp only [Tryz.ntmps8, List.size_toArray, List.length_cons, List.length_nil, Nat.reduceAdd, Nat.reduceSub, Array.replicate_succ, Array.replicate_zero, List.push_toArray, List.append_toArray, List.nil_append, List.cons_append]
  refine wpIn_wide.2 ?_
  have c1 := hP1.at_
  go_upto_region 3 with fail
  obtain ⟨w1, hW1⟩ : ∃ w1, w.alloc (.cells #[.pointer (some ⟨p, 0, none⟩)] 23) = w1 := ⟨_, rfl⟩
  rw [hW1] at h1 hP1 hb1 hz1 ⊢
  have hz1s : w.heap.size < w1.heap.size := by omega
  clear c1 hW1 h hC hz1
  have hS : ∀ W, Below w1.heap.size w1 W → (fun W => W.cell? ⟨w.heap.size, 0, none⟩ = some (.pointer (some ⟨p, 0, none⟩)) ∧ W.cell? ⟨p, 0, none⟩ = some (.map (some b)) ∧ (Builtin.len_ #[48] 3 #[.map (some b)]).run Tryz.prog W = .ok (.int .i64 (L0 : Nat)) W) W := fun W hb => by
    have hh := h1.below hb
    have hlen := hh.len 3
    rw [hL0] at hlen
    exact ⟨(hP1.below hb).at_, hh.pc.cell 0, hlen⟩
  have hbd : Below w1.heap.size w1 w1.drew := (Below.refl w1.heap.size w1).drew
  rw [hL0] at hks
  replace hL0 := Lib.hid hL0
  replace hC2 := Lib.hid hC2
  go_cut [3] from 9 to 16 (fun s3 wc => HeadR w1 L0 s3 wc)
  case first =>
    refine wp_calm ?_
    refine wp_region_held_drew (S := (fun W => W.cell? ⟨w.heap.size, 0, none⟩ = some (.pointer (some ⟨p, 0, none⟩)) ∧ W.cell? ⟨p, 0, none⟩ = some (.map (some b)) ∧ (Builtin.len_ #[48] 3 #[.map (some b)]).run Tryz.prog W = .ok (.int .i64 (L0 : Nat)) W)) (by kernel_rfl) (hS _ hbd) (fun hHeld => ?_)
    (refine tkI 1 (by (simp only [List.getElem?_toArray, List.getElem?_cons_succ, List.getElem?_cons_zero]; rfl)) (by kernel_rfl) (by kernel_rfl) (by kernel_rfl) (by exact fun _ _ _ h => h) (by rfl) (by (intro w hSw; (try dsimp only at hSw); go_simp <;> with_reducible rfl)) (by assumption) ?_; try simp only [Act.put, List.setIfInBounds_toArray, List.set_cons_zero, List.set_cons_succ])
    (refine tkI 2 (by (simp only [List.getElem?_toArray, List.getElem?_cons_succ, List.getElem?_cons_zero]; rfl)) (by kernel_rfl) (by kernel_rfl) (by kernel_rfl) (by exact fun _ _ _ h => h) (by rfl) (by (intro w hSw; (try dsimp only at hSw); go_simp <;> with_reducible rfl)) (by assumption) ?_; try simp only [Act.put, List.setIfInBounds_toArray, List.set_cons_zero, List.set_cons_succ])
    (refine tkI 3 (by (simp only [List.getElem?_toArray, List.getElem?_cons_succ, List.getElem?_cons_zero]; rfl)) (by kernel_rfl) (by kernel_rfl) (by kernel_rfl) (by exact fun _ _ _ h => h) (by rfl) (by (intro w hSw; (try dsimp only at hSw); go_simp <;> with_reducible rfl)) (by assumption) ?_; try simp only [Act.put, List.setIfInBounds_toArray, List.set_cons_zero, List.set_cons_succ])
    (refine tkI 4 (by (simp only [List.getElem?_toArray, List.getElem?_cons_succ, List.getElem?_cons_zero]; rfl)) (by kernel_rfl) (by kernel_rfl) (by kernel_rfl) (by exact fun _ _ _ h => h) (by rfl) (by (intro w hSw; (try dsimp only at hSw); go_simp <;> with_reducible rfl)) (by assumption) ?_; try simp only [Act.put, List.setIfInBounds_toArray, List.set_cons_zero, List.set_cons_succ])
    refine wpAnyH_ready (rs := [0, 7]) (by kernel_rfl) (by simp) ?_
    refine AllReadyH.cons (by (simp only [List.getElem?_toArray, List.getElem?_cons_succ, List.getElem?_cons_zero]; rfl)) (fun K hK => ?_) (AllReadyH.cons (by (simp only [List.getElem?_toArray, List.getElem?_cons_succ, List.getElem?_cons_zero]; rfl)) (fun K hK => ?_) AllReadyH.nil)
    · go_simp
      refine (new_any (w1.drew)).mono ?_
      rintro e W1 ⟨rfl, hm1', hx1⟩
      have hb1 := hbd.trans (hx1.mono hbd.size)
      have hm1 := hm1'.low hbd.size
      refine hK.out _ _ (hS _ hb1) (fun hHeld2 => ?_)
      clear hK K hHeld
      have hHeld := hHeld2
      clear hHeld2
      try simp only [Act.put, List.setIfInBounds_toArray, List.set_cons_zero, List.set_cons_succ]
      (refine tkI 5 (by (simp only [List.getElem?_toArray, List.getElem?_cons_succ, List.getElem?_cons_zero]; rfl)) (by kernel_rfl) (by kernel_rfl) (by kernel_rfl) (by exact fun _ _ _ h => h) (by rfl) (by (intro w hSw; (try dsimp only at hSw); go_simp <;> with_reducible rfl)) (by assumption) ?_; try simp only [Act.put, List.setIfInBounds_toArray, List.set_cons_zero, List.set_cons_succ])
      refine wpAnyH_ready (rs := [6, 7]) (by kernel_rfl) (by simp) ?_
      refine AllReadyH.cons (by (simp only [List.getElem?_toArray, List.getElem?_cons_succ, List.getElem?_cons_zero]; rfl)) (fun K hK => ?_) (AllReadyH.cons (by (simp only [List.getElem?_toArray, List.getElem?_cons_succ, List.getElem?_cons_zero]; rfl)) (fun K hK => ?_) AllReadyH.nil)
      · go_simp
        refine (mnum_any w1.heap.size _ _ _ (L0 : Int) _ hm1 (by omega) (by omega)).mono ?_
        rintro e W2 ⟨v2, rfl, hm2, hk2, hf2⟩
        have hb2 := hb1.trans (hk2.below hb1.size (fun i hi e => by have := (hm1.foot i e).1; omega))
        refine hK.out _ _ (hS _ hb2) (fun hHeld2 => ?_)
        clear hK K hHeld
        have hHeld := hHeld2
        clear hHeld2
        try simp only [Act.put, List.setIfInBounds_toArray, List.set_cons_zero, List.set_cons_succ]
        refine wpAnyH_ready (rs := [7]) (by kernel_rfl) (by simp) ?_
        refine AllReadyH.cons (by (simp only [List.getElem?_toArray, List.getElem?_cons_succ, List.getElem?_cons_zero]; rfl)) (fun K hK => ?_) AllReadyH.nil
        go_simp
        have hbx3 := Blk.new (W2) 74 #[.pointer none]
        have hb3 := hb2.alloc hb2.size (.cells #[.pointer none] 74)
        have hne3 : ¬ MF w1.heap.size v2 (W2).heap.size := fun e => by have := (hm2.foot _ e).2; omega
        have hm3 := hm2.alloc_ (.cells #[.pointer none] 74)
        have hz3 := hb2.size
        generalize hW3 : (W2).alloc (.cells #[.pointer none] 74) = W3 at *
        clear hW3
        refine hK.out _ _ (hS _ hb3) (fun hHeld2 => ?_)
        clear hK K hHeld
        have hHeld := hHeld2
        clear hHeld2
        try simp only [Act.put, List.setIfInBounds_toArray, List.set_cons_zero, List.set_cons_succ]
        have f0 := hbx3.frozen 0
        have q0 := hbx3.cell 0
        simp at q0
        have hlx := hbx3.lt
        refine wpAnyH_ready (rs := [8]) (by kernel_rfl) (by simp) ?_
        refine AllReadyH.cons (by (simp only [List.getElem?_toArray, List.getElem?_cons_succ, List.getElem?_cons_zero]; rfl)) (fun K hK => ?_) AllReadyH.nil
        go_simp
        have hbs := hbx3.set_ 0 (.pointer (some ⟨w1.heap.size, 0, none⟩))
        simp only [List.setIfInBounds_toArray, List.set_cons_zero] at hbs
        have kS : Keep (fun k => k = (W2).heap.size) (W3) ((W3).setCell ⟨(W2).heap.size, 0, none⟩ (.pointer (some ⟨w1.heap.size, 0, none⟩))) := (Keep.refl (fun k => k = (W2).heap.size) (W3)).setCell (p := ⟨(W2).heap.size, 0, none⟩) (fun _ => rfl) _
        have hmS := hm3.kept kS (fun i hi e => hne3 (by rw [← e]; exact hi))
        have hbS := hb3.setCell (p := ⟨(W2).heap.size, 0, none⟩) (by dsimp only; omega) (.pointer (some ⟨w1.heap.size, 0, none⟩))
        refine hK.out _ _ (hS _ hbS) (fun hHeld2 => ?_)
        clear hK K hHeld
        have hHeld := hHeld2
        clear hHeld2
        try simp only [Act.put, List.setIfInBounds_toArray, List.set_cons_zero, List.set_cons_succ]
        refine wpAnyH_done (by kernel_rfl) ?_ _
        go_wp2_with fail
        go_meet
        exact ⟨(W2).heap.size, w1.heap.size, v2, rfl, hbs, hmS, hne3, hbS, by omega⟩
      · go_simp
        have hbx4 := Blk.new (W1) 74 #[.pointer none]
        have hb4 := hb1.alloc hb1.size (.cells #[.pointer none] 74)
        have hne4 : ¬ MF w1.heap.size (.slice none 0 0) (W1).heap.size := fun e => by have := (hm1.foot _ e).2; omega
        have hm4 := hm1.alloc_ (.cells #[.pointer none] 74)
        have hz4 := hb1.size
        generalize hW4 : (W1).alloc (.cells #[.pointer none] 74) = W4 at *
        clear hW4
        refine hK.out _ _ (hS _ hb4) (fun hHeld2 => ?_)
        clear hK K hHeld
        have hHeld := hHeld2
        clear hHeld2
        try simp only [Act.put, List.setIfInBounds_toArray, List.set_cons_zero, List.set_cons_succ]
        refine wpAnyH_ready (rs := [6]) (by kernel_rfl) (by simp) ?_
        refine AllReadyH.cons (by (simp only [List.getElem?_toArray, List.getElem?_cons_succ, List.getElem?_cons_zero]; rfl)) (fun K hK => ?_) AllReadyH.nil
        go_simp
        refine (mnum_any w1.heap.size _ _ _ (L0 : Int) _ hm4 (by omega) (by omega)).mono ?_
        rintro e W5 ⟨v5, rfl, hm5, hk5, hf5⟩
        have hb5 := hb4.trans (hk5.below hb4.size (fun i hi e => by have := (hm4.foot i e).1; omega))
        have hbx5 := hbx4.kept hk5 hne4
        have hne5 : ¬ MF w1.heap.size v5 (W1).heap.size := fun e => by
          have := hbx4.lt
          rcases hf5 _ e with e | e
          · exact hne4 e
          · omega
        refine hK.out _ _ (hS _ hb5) (fun hHeld2 => ?_)
        clear hK K hHeld
        have hHeld := hHeld2
        clear hHeld2
        try simp only [Act.put, List.setIfInBounds_toArray, List.set_cons_zero, List.set_cons_succ]
        have f0 := hbx5.frozen 0
        have q0 := hbx5.cell 0
        simp at q0
        have hlx := hbx5.lt
        refine wpAnyH_ready (rs := [8]) (by kernel_rfl) (by simp) ?_
        refine AllReadyH.cons (by (simp only [List.getElem?_toArray, List.getElem?_cons_succ, List.getElem?_cons_zero]; rfl)) (fun K hK => ?_) AllReadyH.nil
        go_simp
        have hbs := hbx5.set_ 0 (.pointer (some ⟨w1.heap.size, 0, none⟩))
        simp only [List.setIfInBounds_toArray, List.set_cons_zero] at hbs
        have kS : Keep (fun k => k = (W1).heap.size) (W5) ((W5).setCell ⟨(W1).heap.size, 0, none⟩ (.pointer (some ⟨w1.heap.size, 0, none⟩))) := (Keep.refl (fun k => k = (W1).heap.size) (W5)).setCell (p := ⟨(W1).heap.size, 0, none⟩) (fun _ => rfl) _
        have hmS := hm5.kept kS (fun i hi e => hne5 (by rw [← e]; exact hi))
        have hbS := hb5.setCell (p := ⟨(W1).heap.size, 0, none⟩) (by dsimp only; omega) (.pointer (some ⟨w1.heap.size, 0, none⟩))
        refine hK.out _ _ (hS _ hbS) (fun hHeld2 => ?_)
        clear hK K hHeld
        have hHeld := hHeld2
        clear hHeld2
        try simp only [Act.put, List.setIfInBounds_toArray, List.set_cons_zero, List.set_cons_succ]
        refine wpAnyH_done (by kernel_rfl) ?_ _
        go_wp2_with fail
        go_meet
        exact ⟨(W1).heap.size, w1.heap.size, v5, rfl, hbs, hmS, hne5, hbS, by omega⟩
    · go_simp
      have hbx6 := (Blk.new w1 74 #[.pointer none]).drew
      have hb6 := ((Below.refl w1.heap.size w1).alloc (Nat.le_refl _) (.cells #[.pointer none] 74)).drew
      have hz6 := hbd.size
      generalize hW6 : (w1.alloc (.cells #[.pointer none] 74)).drew = W6 at *
      clear hW6
      refine hK.out _ _ (hS _ hb6) (fun hHeld2 => ?_)
      clear hK K hHeld
      have hHeld := hHeld2
      clear hHeld2
      try simp only [Act.put, List.setIfInBounds_toArray, List.set_cons_zero, List.set_cons_succ]
      refine wpAnyH_ready (rs := [0]) (by kernel_rfl) (by simp) ?_
      refine AllReadyH.cons (by (simp only [List.getElem?_toArray, List.getElem?_cons_succ, List.getElem?_cons_zero]; rfl)) (fun K hK => ?_) AllReadyH.nil
      go_simp
      refine (new_any (W6)).mono ?_
      rintro e W7 ⟨rfl, hm7', hx7⟩
      have hb7 := hb6.trans (hx7.mono hb6.size)
      have hm7 := hm7'.low hb6.size
      have hbx7 := hbx6.kept (Keep.of_below hx7) (Nat.not_le.2 hbx6.lt)
      have hne7 : ¬ MF (W6).heap.size (.slice none 0 0) w1.heap.size := fun e => by
        have := hbx6.lt
        rcases e with e | e
        · omega
        · cases e
      refine hK.out _ _ (hS _ hb7) (fun hHeld2 => ?_)
      clear hK K hHeld
      have hHeld := hHeld2
      clear hHeld2
      try simp only [Act.put, List.setIfInBounds_toArray, List.set_cons_zero, List.set_cons_succ]
      (refine tkI 5 (by (simp only [List.getElem?_toArray, List.getElem?_cons_succ, List.getElem?_cons_zero]; rfl)) (by kernel_rfl) (by kernel_rfl) (by kernel_rfl) (by exact fun _ _ _ h => h) (by rfl) (by (intro w hSw; (try dsimp only at hSw); go_simp <;> with_reducible rfl)) (by assumption) ?_; try simp only [Act.put, List.setIfInBounds_toArray, List.set_cons_zero, List.set_cons_succ])
      refine wpAnyH_ready (rs := [6]) (by kernel_rfl) (by simp) ?_
      refine AllReadyH.cons (by (simp only [List.getElem?_toArray, List.getElem?_cons_succ, List.getElem?_cons_zero]; rfl)) (fun K hK => ?_) AllReadyH.nil
      go_simp
      refine (mnum_any w1.heap.size _ _ _ (L0 : Int) _ hm7 (by omega) (by omega)).mono ?_
      rintro e W8 ⟨v8, rfl, hm8, hk8, hf8⟩
      have hb8 := hb7.trans (hk8.below hb7.size (fun i hi e => by have := (hm7.foot i e).1; omega))
      have hbx8 := hbx7.kept hk8 hne7
      have hne8 : ¬ MF (W6).heap.size v8 w1.heap.size := fun e => by
        have := hbx7.lt
        rcases hf8 _ e with e | e
        · exact hne7 e
        · omega
      refine hK.out _ _ (hS _ hb8) (fun hHeld2 => ?_)
      clear hK K hHeld
      have hHeld := hHeld2
      clear hHeld2
      try simp only [Act.put, List.setIfInBounds_toArray, List.set_cons_zero, List.set_cons_succ]
      have f0 := hbx8.frozen 0
      have q0 := hbx8.cell 0
      simp at q0
      have hlx := hbx8.lt
      refine wpAnyH_ready (rs := [8]) (by kernel_rfl) (by simp) ?_
      refine AllReadyH.cons (by (simp only [List.getElem?_toArray, List.getElem?_cons_succ, List.getElem?_cons_zero]; rfl)) (fun K hK => ?_) AllReadyH.nil
      go_simp
      have hbs := hbx8.set_ 0 (.pointer (some ⟨(W6).heap.size, 0, none⟩))
      simp only [List.setIfInBounds_toArray, List.set_cons_zero] at hbs
      have kS : Keep (fun k => k = w1.heap.size) (W8) ((W8).setCell ⟨w1.heap.size, 0, none⟩ (.pointer (some ⟨(W6).heap.size, 0, none⟩))) := (Keep.refl (fun k => k = w1.heap.size) (W8)).setCell (p := ⟨w1.heap.size, 0, none⟩) (fun _ => rfl) _
      have hmS := hm8.kept kS (fun i hi e => hne8 (by rw [← e]; exact hi))
      have hbS := hb8.setCell (p := ⟨w1.heap.size, 0, none⟩) (by dsimp only; omega) (.pointer (some ⟨(W6).heap.size, 0, none⟩))
      refine hK.out _ _ (hS _ hbS) (fun hHeld2 => ?_)
      clear hK K hHeld
      have hHeld := hHeld2
      clear hHeld2
      try simp only [Act.put, List.setIfInBounds_toArray, List.set_cons_zero, List.set_cons_succ]
      refine wpAnyH_done (by kernel_rfl) ?_ _
      go_wp2_with fail
      go_meet
      exact ⟨w1.heap.size, (W6).heap.size, v8, rfl, hbs, hmS, hne8, hbS, by omega⟩
  case rest =>
    obtain ⟨bm, g, v, rfl, hbx, hm, hne, hb, hbm⟩ := hcut
    have hPc := hP1.below hb
    have cPc := hPc.at_
    go_wp2_with fail
    refine (goods_any _ (h1.below hb)).mono ?_
    rintro e w2 ⟨rfl, hww⟩
    subst w2
    have hbc := hb.size
    have e0 := hbx.alloc (.cells #[.map (some b)] 48)
    have e1 := hm.alloc_ (.cells #[.map (some b)] 48)
    have hb2 := hb.alloc hb.size (.cells #[.map (some b)] 48)
    have e2 := (cell_new_a wc (.map (some b)) 48).1
    have hz3 : (wc.alloc (.cells #[.map (some b)] 48)).heap.size = wc.heap.size + 1 := by simp
    obtain ⟨w3, hw3⟩ : ∃ w3, wc.alloc (.cells #[.map (some b)] 48) = w3 := ⟨_, rfl⟩
    rw [hw3] at e0 e1 hb2 e2 hz3 ⊢
    clear hw3 hbx hm hb hPc cPc
    have hg := goods_seqT (h1.below hb2) (by rw [hL0.out]; exact hks) YM (by unfold YM; decide) wc.heap.size (fun _ => False) (fun k e => e.elim) e2
    obtain ⟨KS, hKS⟩ : ∃ KS, sortU ks = KS := ⟨_, rfl⟩
    obtain ⟨st0, hst0⟩ : ∃ st0, put (some []) (numCell (L0 : Int)) = st0 := ⟨_, rfl⟩
    rw [hKS] at hg hkl2 hC2
    rw [hst0] at e1 hC2
    clear hKS hst0 hS hbd
    go_wp2
    refine (wpIn_wide (n := 9)).1 ?_
    refine range_ownT (a := _) (w := w3) (w0 := w3) (gf := 62) (lb := #[.pointer (some ⟨wc.heap.size, 0, none⟩)]) (by first | rfl | simp [go_sem]) (enters_of Tryz.func62 (by kernel_rfl) rfl) hg (Below.refl _ _) (fun k e => e.elim) (fun _ => rfl)
      (fun pre W => ∃ v', MK w1.heap.size W g v' (packS f st0 pre) ∧ ¬ MF g v' bm ∧ Blk W bm 74 #[.pointer (some ⟨g, 0, none⟩)] ∧ Below w1.heap.size w1 W)
      (fun c pre W => False)
      (fun s X Y row h hg hr => h.elim fun v' h => ⟨v', h.1.row hg hr, h.2.1, blk_row h.2.2.1 hg hr, below_row h.2.2.2 hg (by have := h.2.2.1.lt; omega) (by omega) hr⟩)
      (fun c s X Y row h hg hr => h)
      ⟨v, e1, hne, e0, hb2⟩ ?round ?done ?stop
    case round =>
      apply Exists.intro
      constructor
      · intro l' x W K hK
        gi_wp2
        exact hK
      · rintro l' pre s W hpre hzW ⟨v, hM, hne, hbxW, hb0⟩
        have hsl : s.length ≤ 140737488355328 := hkl2 s (hpre.subset (by simp))
        have hslm : s.length ≤ maxLen := by unfold maxLen; omega
        have hIs := hI s
        have hSB2 : ∀ W', Below w1.heap.size w1 W' → Blk W' bm 74 #[.pointer (some ⟨g, 0, none⟩)] → (fun W' => W'.cell? ⟨w.heap.size, 0, none⟩ = some (.pointer (some ⟨p, 0, none⟩)) ∧ W'.cell? ⟨p, 0, none⟩ = some (.map (some b)) ∧ (Instr.lookup 48 (.map (some b)) (.string ⟨s.toArray⟩) false).run Tryz.prog W' = .ok (.agg #[.int .i64 (f s).fr, .int .i64 (f s).he, .int .i64 (f s).pi, .int .i64 (f s).sa, .int .i64 (f s).re, .int .i64 (f s).rt, .int .i64 (f s).cn, .int .i64 (f s).cm, .int .i64 (f s).sh, .int .i64 (f s).sc, .int .i64 (f s).se]) W' ∧ W'.cell? ⟨bm, 0, none⟩ = some (.pointer (some ⟨g, 0, none⟩))) W' := fun W' hq hx => by
          have hh := h1.below hq
          exact ⟨(hP1.below hq).at_, hh.pc.cell 0, look_row hh s hslm, hx.cell 0⟩
        have hbD := hb0.drew
        have hbxD := hbxW.drew
        have hS0 := hSB2 _ hbD hbxD
        have hKPd : KP YM (fun _ => False) W W.drew := (Keep.ofB (S := fun _ => False) (Below.refl W.heap.size W).drew).kp (fun k hk h => h.elim)
        have hmD := hM.drew
        gi_wp2
        refine wpIn_region_round (S := (fun W' => W'.cell? ⟨w.heap.size, 0, none⟩ = some (.pointer (some ⟨p, 0, none⟩)) ∧ W'.cell? ⟨p, 0, none⟩ = some (.map (some b)) ∧ (Instr.lookup 48 (.map (some b)) (.string ⟨s.toArray⟩) false).run Tryz.prog W' = .ok (.agg #[.int .i64 (f s).fr, .int .i64 (f s).he, .int .i64 (f s).pi, .int .i64 (f s).sa, .int .i64 (f s).re, .int .i64 (f s).rt, .int .i64 (f s).cn, .int .i64 (f s).cm, .int .i64 (f s).sh, .int .i64 (f s).sc, .int .i64 (f s).se]) W' ∧ W'.cell? ⟨bm, 0, none⟩ = some (.pointer (some ⟨g, 0, none⟩)))) (by kernel_rfl) (by kernel_rfl) (by rintro ⟨a, w, h⟩; exact h) hS0 (fun hHeld => ?_)
        clear hS0 hbxW hM
        replace hb0 := hbD
        generalize W.drew = wz at *
        (refine tkI 0 (by (simp only [List.getElem?_toArray, List.getElem?_cons_succ, List.getElem?_cons_zero]; rfl)) (by kernel_rfl) (by kernel_rfl) (by kernel_rfl) (by exact fun _ _ _ h => h) (by rfl) (by (intro w hSw; (try dsimp only at hSw); go_simp <;> with_reducible rfl)) (by assumption) ?_; try simp only [Act.put, List.setIfInBounds_toArray, List.set_cons_zero, List.set_cons_succ])
        (refine tkI 1 (by (simp only [List.getElem?_toArray, List.getElem?_cons_succ, List.getElem?_cons_zero]; rfl)) (by kernel_rfl) (by kernel_rfl) (by kernel_rfl) (by exact fun _ _ _ h => h) (by rfl) (by (intro w hSw; (try dsimp only at hSw); go_simp <;> with_reducible rfl)) (by assumption) ?_; try simp only [Act.put, List.setIfInBounds_toArray, List.set_cons_zero, List.set_cons_succ])
        (refine tkI 2 (by (simp only [List.getElem?_toArray, List.getElem?_cons_succ, List.getElem?_cons_zero]; rfl)) (by kernel_rfl) (by kernel_rfl) (by kernel_rfl) (by exact fun _ _ _ h => h) (by rfl) (by (intro w hSw; (try dsimp only at hSw); go_simp <;> with_reducible rfl)) (by assumption) ?_; try simp only [Act.put, List.setIfInBounds_toArray, List.set_cons_zero, List.set_cons_succ])
        (refine tkI 3 (by (simp only [List.getElem?_toArray, List.getElem?_cons_succ, List.getElem?_cons_zero]; rfl)) (by kernel_rfl) (by kernel_rfl) (by kernel_rfl) (by exact fun _ _ _ h => h) (by rfl) (by (intro w hSw; (try dsimp only at hSw); go_simp <;> with_reducible rfl)) (by assumption) ?_; try simp only [Act.put, List.setIfInBounds_toArray, List.set_cons_zero, List.set_cons_succ])
        (refine tkI 4 (by (simp only [List.getElem?_toArray, List.getElem?_cons_succ, List.getElem?_cons_zero]; rfl)) (by kernel_rfl) (by kernel_rfl) (by kernel_rfl) (by exact fun _ _ _ h => h) (by rfl) (by (intro w hSw; (try dsimp only at hSw); go_simp <;> with_reducible rfl)) (by assumption) ?_; try simp only [Act.put, List.setIfInBounds_toArray, List.set_cons_zero, List.set_cons_succ])
        (refine tkI 5 (by (simp only [List.getElem?_toArray, List.getElem?_cons_succ, List.getElem?_cons_zero]; rfl)) (by kernel_rfl) (by kernel_rfl) (by kernel_rfl) (by exact fun _ _ _ h => h) (by rfl) (by (intro w hSw; (try dsimp only at hSw); go_simp <;> with_reducible rfl)) (by assumption) ?_; try simp only [Act.put, List.setIfInBounds_toArray, List.set_cons_zero, List.set_cons_succ])
        (refine tkI 6 (by (simp only [List.getElem?_toArray, List.getElem?_cons_succ, List.getElem?_cons_zero]; rfl)) (by kernel_rfl) (by kernel_rfl) (by kernel_rfl) (by exact fun _ _ _ h => h) (by rfl) (by (intro w hSw; (try dsimp only at hSw); go_simp <;> with_reducible rfl)) (by assumption) ?_; try simp only [Act.put, List.setIfInBounds_toArray, List.set_cons_zero, List.set_cons_succ])
        (refine tkI 7 (by (simp only [List.getElem?_toArray, List.getElem?_cons_succ, List.getElem?_cons_zero]; rfl)) (by kernel_rfl) (by kernel_rfl) (by kernel_rfl) (by exact fun _ _ _ h => h) (by rfl) (by (intro w hSw; (try dsimp only at hSw); go_simp <;> with_reducible rfl)) (by assumption) ?_; try simp only [Act.put, List.setIfInBounds_toArray, List.set_cons_zero, List.set_cons_succ])
        refine wpAnyH_ready (rs := [8]) (by kernel_rfl) (by simp) ?_
        refine AllReadyH.cons (by (simp only [List.getElem?_toArray, List.getElem?_cons_succ, List.getElem?_cons_zero]; rfl)) (fun K hK => ?_) AllReadyH.nil
        go_simp
        refine (mtext_any w1.heap.size g v _ ⟨s.toArray⟩ _ hmD (by rw [show (ByteArray.mk s.toArray).size = s.length by simp [ByteArray.size]]; exact hsl)).mono ?_
        rintro e w5 ⟨v5, rfl, hm5, hk5, hf5⟩
        rw [text_is] at hm5
        have hq5 := hb0.trans (hk5.below (B := w1.heap.size) hb0.size (fun i hi e => by have := (hmD.foot i e).1; omega))
        have hbx5 := hbxD.kept hk5 hne
        have hne5 : ¬ MF g v5 bm := fun e => by
          have := hbxD.lt
          rcases hf5 _ e with e | e
          · exact hne e
          · omega
        have s5 := hSB2 w5 hq5 hbx5
        refine hK.out _ _ s5 (fun hHeld2 => ?_)
        clear hK K hHeld
        have hHeld := hHeld2
        clear hHeld2
        try simp only [Act.put, List.setIfInBounds_toArray, List.set_cons_zero, List.set_cons_succ]
        refine wpAnyH_ready (rs := [9]) (by kernel_rfl) (by simp) ?_
        refine AllReadyH.cons (by (simp only [List.getElem?_toArray, List.getElem?_cons_succ, List.getElem?_cons_zero]; rfl)) (fun K hK => ?_) AllReadyH.nil
        go_simp
        refine (putR_any w1.heap.size g v5 _ (f s).fr (f s).he (f s).pi (f s).sa (f s).re (f s).rt (f s).cn (f s).cm (f s).sh (f s).sc (f s).se _ hm5 (hIs : _)).mono ?_
        rintro e w6 ⟨⟨v0, rfl⟩, v6, hm6, hk6, hf6⟩
        have hq6 := hq5.trans (hk6.below (B := w1.heap.size) hq5.size (fun i hi e => by have := (hm5.foot i e).1; omega))
        have hbx6 := hbx5.kept hk6 hne5
        have hne6 : ¬ MF g v6 bm := fun e => by
          have := hbx5.lt
          rcases hf6 _ e with e | e
          · exact hne5 e
          · omega
        have s6 := hSB2 w6 hq6 hbx6
        refine hK.out _ _ s6 (fun hHeld2 => ?_)
        clear hK K hHeld
        have hHeld := hHeld2
        clear hHeld2
        try simp only [Act.put, List.setIfInBounds_toArray, List.set_cons_zero, List.set_cons_succ]
        refine wpAnyH_done (by kernel_rfl) ?_ _
        gi_wp2
        exact ⟨(hKPd.trans (hmD.kp hk5) (fun _ _ h => h)).trans (hm5.kp hk6) (fun _ _ h => h), v6, by rw [packS_snoc]; exact hm6, hne6, hbx6, hq6⟩
    case done =>
      rintro D W hD ⟨v', hm, hne, hbx, hb⟩ hDf
      have hc0 := hbx.cell 0
      simp at hc0
      have hd := mdone_any w1.heap.size g v' _ W hm
      have hbw := hb1.trans (hb.mono hb1.size)
      have hbws := hb.size
      cases hst : packS f st0 KS with
      | none =>
        rw [hst] at hd
        have hC3 := hC2.out
        rw [hst] at hC3
        change ([] : List UInt8) = C at hC3
        clear hC2 hst
        go_wp2_with fail
        refine hd.mono ?_
        rintro e W4 ⟨hb4, rfl⟩
        have hb5 := hbw.trans (hb4.mono hbw.size)
        have hDE := (hb4.block D (Array.getElem?_eq_some_iff.1 hDf).1).trans hDf
        subst hC3
        go_wp2
        refine ⟨by simp, .inl ⟨_, _, rfl, run_takeDeferred hDE, ?_⟩⟩
        exact ⟨.slice none 0 0, by simp [results, Tryz.results8, go_sem], none, 0, rfl, Nat.le_refl _, by decide, ⟨rfl, fun h => by simp at h⟩, bel_putD hb5 (by omega) hDE, fun ad e => by cases e⟩
      | some l =>
        rw [hst] at hd
        have hC3 := hC2.out
        rw [hst] at hC3
        change l = C at hC3
        clear hC2 hst
        subst hC3
        go_wp2_with fail
        refine hd.mono ?_
        rintro e W4 ⟨hb4, A4, c4, rfl, h41, h42, h43, h44⟩
        have hb5 := hbw.trans (hb4.mono hbw.size)
        have hDE := (hb4.block D (Array.getElem?_eq_some_iff.1 hDf).1).trans hDf
        go_wp2
        refine ⟨by simp, .inl ⟨_, _, rfl, run_takeDeferred hDE, ?_⟩⟩
        exact ⟨.slice A4 l.length c4, by simp [results, Tryz.results8, go_sem], A4, c4, rfl, h41, h42, h43.putD hDE, bel_putD hb5 (by omega) hDE, fun ad e => by have := (h44 ad e).1; have := hbw.size; omega⟩
    case stop =>
      rintro D c pre W hD hpre hno hDf
      exact hno.elim
end
section
open Go.RowKit
set_option linter.unusedVariables false
set_option linter.unusedSimpArgs false

theorem TK.keptI {S : Nat → Prop} {t : TypeId} {w w' : World} {g : Nat} {A : Option Addr} {c : Nat} {l : List UInt8} {bad : Bool} (h : TK t w g A c l bad) (k : Keep S w w') (hg : ¬ S g) (hA : 0 < l.length → ∀ ad, A = some ad → ¬ S ad.block) : TK t w' g A c l bad :=
  ⟨h.blk.kept k hg, h.rd.kept' k hA, h.cap, h.apart⟩
/-- Where the taker's bytes lie, if any are left: below K. -/
def Under (K : Nat) (A : Option Addr) (st : Option (List UInt8)) : Prop := st.getD [] ≠ [] → ∀ ad, A = some ad → ad.block < K
theorem tnum_left {st : Option (List UInt8)} {a b : Int} (h : (tnum st a b).2.getD [] ≠ []) : st.getD [] ≠ [] := by
  intro he
  apply h
  cases st with
  | none => rfl
  | some l =>
    rw [Option.getD_some] at he
    subst he
    rfl
theorem ttext_left {st : Option (List UInt8)} {b : Int} (h : (ttext st b).2.getD [] ≠ []) : st.getD [] ≠ [] := by
  intro he
  apply h
  cases st with
  | none => rfl
  | some l =>
    rw [Option.getD_some] at he
    subst he
    rfl
theorem Under.next {K : Nat} {A A' : Option Addr} {st : Option (List UInt8)} {a b : Int} (h : Under K A st) (hs : SameBlock A A') : Under K A' (tnum st a b).2 := fun hne ad e => by
  obtain ⟨a0, h0, e0⟩ := hs ad e
  rw [e0]
  exact h (tnum_left hne) a0 h0
theorem Under.text {K : Nat} {A A' : Option Addr} {st : Option (List UInt8)} {b : Int} (h : Under K A st) (hs : SameBlock A A') : Under K A' (ttext st b).2 := fun hne ad e => by
  obtain ⟨a0, h0, e0⟩ := hs ad e
  rw [e0]
  exact h (ttext_left hne) a0 h0
theorem PT.under {w : World} {g : Nat} {A : Option Addr} {c : Nat} {st : Option (List UInt8)} (h : PT w g A c st) : Under w.heap.size A st := fun hne ad e => by
  have h1 := h.rd
  obtain ⟨l, hl⟩ : ∃ l, st.getD [] = l := ⟨_, rfl⟩
  rw [hl] at h1 hne
  cases l with
  | nil => exact absurd rfl hne
  | cons x t =>
    obtain ⟨b, off, e2, hc⟩ := h1.2 (by simp)
    rw [e] at e2
    cases e2
    exact World.block_lt_of_cell? _ _ (hc 0 x rfl)
theorem PT.keptU {F : Nat → Prop} {K : Nat} {w w' : World} {g : Nat} {A : Option Addr} {c : Nat} {st : Option (List UInt8)} (h : PT w g A c st) (k : Keep F w w') (hF : ∀ i, F i → K ≤ i) (hg : g < K) (hU : Under K A st) : PT w' g A c st :=
  TK.keptI h k (fun e => by have := hF _ e; omega) (fun hl ad e e2 => by
    have := hF _ e2
    have := hU (fun h0 => by rw [h0] at hl; exact absurd hl (by decide)) ad e
    omega)
theorem Blk.cl0 {w : World} {g : Nat} {t : TypeId} {v : Value} (h : Blk w g t #[v]) : CL w g v := ⟨h.cell 0, h.frozen 0⟩
theorem PT.alloc {w : World} {g : Nat} {A : Option Addr} {c : Nat} {st : Option (List UInt8)} (h : PT w g A c st) (o : Obj) : PT (w.alloc o) g A c st :=
  ⟨h.blk.alloc o, h.rd.alloc o, h.cap, h.apart⟩
def lvT (st : Option (List UInt8)) : Int × Option (List UInt8) := tnum st 0 1099511627776
def flT (st : Option (List UInt8)) : Int × Option (List UInt8) := tnum st 0 72057594037927936
def cnT (st : Option (List UInt8)) : Int × Option (List UInt8) := tnum st (-576460752303423488) 576460752303423488
/-- A row, taken. -/
def takeR (s0 : Option (List UInt8)) : Row × Option (List UInt8) :=
  let a0 := lvT s0; let a1 := lvT a0.2; let a2 := lvT a1.2; let a3 := lvT a2.2; let a4 := flT a3.2; let a5 := flT a4.2; let a6 := cnT a5.2; let a7 := flT a6.2; let a8 := flT a7.2; let a9 := flT a8.2; let a10 := flT a9.2
  (⟨a0.1, a1.1, a2.1, a3.1, a4.1, a5.1, a6.1, a7.1, a8.1, a9.1, a10.1⟩, a10.2)
theorem tlev_any (B g : Nat) (w : World) (A : Option Addr) (c : Nat) (st : Option (List UInt8)) (hB : CL w B (.pointer (some ⟨g, 0, none⟩))) (h : PT w g A c st) :
    Calls Tryz.prog 38 #[.pointer (some ⟨B, 0, none⟩)] w (TPost w g A (lvT st).2 (.int .i64 (lvT st).1)) := by
  have c0 := hB.at_
  go_enter Tryz.func38, Tryz.ntmps38
  go_wp2_with fail
  refine (tnum_any w g A c st 0 1099511627776 h).mono ?_
  rintro e w1 ⟨A', c', rfl, h1, h2, h3⟩
  go_wp2_with fail
  go_ret
  exact ⟨A', c', rfl, h1, h2, h3⟩
theorem tflo_any (B g : Nat) (w : World) (A : Option Addr) (c : Nat) (st : Option (List UInt8)) (hB : CL w B (.pointer (some ⟨g, 0, none⟩))) (h : PT w g A c st) :
    Calls Tryz.prog 39 #[.pointer (some ⟨B, 0, none⟩)] w (TPost w g A (flT st).2 (.int .i64 (flT st).1)) := by
  have c0 := hB.at_
  go_enter Tryz.func39, Tryz.ntmps39
  go_wp2_with fail
  refine (tnum_any w g A c st 0 72057594037927936 h).mono ?_
  rintro e w1 ⟨A', c', rfl, h1, h2, h3⟩
  go_wp2_with fail
  go_ret
  exact ⟨A', c', rfl, h1, h2, h3⟩
theorem tcn_any (B g : Nat) (w : World) (A : Option Addr) (c : Nat) (st : Option (List UInt8)) (hB : CL w B (.pointer (some ⟨g, 0, none⟩))) (h : PT w g A c st) :
    Calls Tryz.prog 11 #[.pointer (some ⟨g, 0, none⟩), .int .i64 (-576460752303423488), .int .i64 576460752303423488] w (TPost w g A (cnT st).2 (.int .i64 (cnT st).1)) := tnum_any w g A c st _ _ h
set_option maxRecDepth 100000 in
set_option maxHeartbeats 6400000 in
theorem takeRow_any (g : Nat) (w : World) (A0 : Option Addr) (c0 : Nat) (s0 : Option (List UInt8)) (h : PT w g A0 c0 s0) :
    Calls Tryz.prog 13 #[.pointer (some ⟨g, 0, none⟩)] w (TPost w g A0 (takeR s0).2 (takeR s0).1.v) := by
  obtain ⟨a0, ha0⟩ : ∃ a, lvT s0 = a := ⟨_, rfl⟩
  obtain ⟨a1, ha1⟩ : ∃ a, lvT a0.2 = a := ⟨_, rfl⟩
  obtain ⟨a2, ha2⟩ : ∃ a, lvT a1.2 = a := ⟨_, rfl⟩
  obtain ⟨a3, ha3⟩ : ∃ a, lvT a2.2 = a := ⟨_, rfl⟩
  obtain ⟨a4, ha4⟩ : ∃ a, flT a3.2 = a := ⟨_, rfl⟩
  obtain ⟨a5, ha5⟩ : ∃ a, flT a4.2 = a := ⟨_, rfl⟩
  obtain ⟨a6, ha6⟩ : ∃ a, cnT a5.2 = a := ⟨_, rfl⟩
  obtain ⟨a7, ha7⟩ : ∃ a, flT a6.2 = a := ⟨_, rfl⟩
  obtain ⟨a8, ha8⟩ : ∃ a, flT a7.2 = a := ⟨_, rfl⟩
  obtain ⟨a9, ha9⟩ : ∃ a, flT a8.2 = a := ⟨_, rfl⟩
  obtain ⟨a10, ha10⟩ : ∃ a, flT a9.2 = a := ⟨_, rfl⟩
  have htk : takeR s0 = (⟨a0.1, a1.1, a2.1, a3.1, a4.1, a5.1, a6.1, a7.1, a8.1, a9.1, a10.1⟩, a10.2) := by rw [← ha10, ← ha9, ← ha8, ← ha7, ← ha6, ← ha5, ← ha4, ← ha3, ← ha2, ← ha1, ← ha0]; rfl
  rw [htk]
  clear htk
  change Calls _ _ _ _ (TPost w g A0 a10.2 (.agg #[.int .i64 a0.1, .int .i64 a1.1, .int .i64 a2.1, .int .i64 a3.1, .int .i64 a4.1, .int .i64 a5.1, .int .i64 a6.1, .int .i64 a7.1, .int .i64 a8.1, .int .i64 a9.1, .int .i64 a10.1]))
  have hgl := h.blk.lt
  go_enter Tryz.func13, Tryz.ntmps13
  have hB0 := ((Blk.new w 35 #[.pointer (some ⟨g, 0, none⟩)]).alloc (.cells #[.int .i64 0, .int .i64 0, .int .i64 0, .int .i64 0, .int .i64 0, .int .i64 0, .int .i64 0, .int .i64 0, .int .i64 0, .int .i64 0, .int .i64 0] 44)).alloc (.cells #[.int .i64 0, .int .i64 0, .int .i64 0, .int .i64 0, .int .i64 0, .int .i64 0, .int .i64 0, .int .i64 0, .int .i64 0, .int .i64 0, .int .i64 0] 44)
  have hR0 := (Blk.new (w.alloc (.cells #[.pointer (some ⟨g, 0, none⟩)] 35)) 44 #[.int .i64 0, .int .i64 0, .int .i64 0, .int .i64 0, .int .i64 0, .int .i64 0, .int .i64 0, .int .i64 0, .int .i64 0, .int .i64 0, .int .i64 0]).alloc (.cells #[.int .i64 0, .int .i64 0, .int .i64 0, .int .i64 0, .int .i64 0, .int .i64 0, .int .i64 0, .int .i64 0, .int .i64 0, .int .i64 0, .int .i64 0] 44)
  have hX0 := Blk.new ((w.alloc (.cells #[.pointer (some ⟨g, 0, none⟩)] 35)).alloc (.cells #[.int .i64 0, .int .i64 0, .int .i64 0, .int .i64 0, .int .i64 0, .int .i64 0, .int .i64 0, .int .i64 0, .int .i64 0, .int .i64 0, .int .i64 0] 44)) 44 #[.int .i64 0, .int .i64 0, .int .i64 0, .int .i64 0, .int .i64 0, .int .i64 0, .int .i64 0, .int .i64 0, .int .i64 0, .int .i64 0, .int .i64 0]
  have hT0 := ((h.alloc (.cells #[.pointer (some ⟨g, 0, none⟩)] 35)).alloc (.cells #[.int .i64 0, .int .i64 0, .int .i64 0, .int .i64 0, .int .i64 0, .int .i64 0, .int .i64 0, .int .i64 0, .int .i64 0, .int .i64 0, .int .i64 0] 44)).alloc (.cells #[.int .i64 0, .int .i64 0, .int .i64 0, .int .i64 0, .int .i64 0, .int .i64 0, .int .i64 0, .int .i64 0, .int .i64 0, .int .i64 0, .int .i64 0] 44)
  have hK0 := (((Keep.refl (fun k => k = g ∨ w.heap.size ≤ k) w).alloc (.cells #[.pointer (some ⟨g, 0, none⟩)] 35)).alloc (.cells #[.int .i64 0, .int .i64 0, .int .i64 0, .int .i64 0, .int .i64 0, .int .i64 0, .int .i64 0, .int .i64 0, .int .i64 0, .int .i64 0, .int .i64 0] 44)).alloc (.cells #[.int .i64 0, .int .i64 0, .int .i64 0, .int .i64 0, .int .i64 0, .int .i64 0, .int .i64 0, .int .i64 0, .int .i64 0, .int .i64 0, .int .i64 0] 44)
  rw [World.size_alloc] at hR0
  rw [World.size_alloc, World.size_alloc] at hX0
  have hS0 := SameBlock.refl A0
  have hU0 : Under w.heap.size A0 s0 := h.under
  obtain ⟨W0, hW0⟩ : ∃ W0, ((w.alloc (.cells #[.pointer (some ⟨g, 0, none⟩)] 35)).alloc (.cells #[.int .i64 0, .int .i64 0, .int .i64 0, .int .i64 0, .int .i64 0, .int .i64 0, .int .i64 0, .int .i64 0, .int .i64 0, .int .i64 0, .int .i64 0] 44)).alloc (.cells #[.int .i64 0, .int .i64 0, .int .i64 0, .int .i64 0, .int .i64 0, .int .i64 0, .int .i64 0, .int .i64 0, .int .i64 0, .int .i64 0, .int .i64 0] 44) = W0 := ⟨_, rfl⟩
  rw [hW0] at hB0 hR0 hX0 hT0 hK0
  go_wp2_with fail

  clear hW0 h
  refine (tlev_any (w.heap.size) g _ A0 c0 s0 hB0.cl0 hT0).mono ?_
  rintro e W1 ⟨A1, c1, rfl, hT1, hk1, hs1⟩
  rw [ha0] at hT1 ⊢
  have hB1 := hB0.kept hk1 (by omega)
  have hR1 := hR0.kept hk1 (by omega)
  have hX1 := hX0.kept hk1 (by omega)
  have hK1 := hK0.trans hk1 (fun _ _ e => .inl e)
  have hS1 := hS0.trans hs1
  have hU1 : Under w.heap.size A1 a0.2 := by rw [← ha0]; exact hU0.next hs1
  clear hT0 hB0 hR0 hX0 hK0 hS0 hU0 hk1 hs1
  go_wp2_with fail
  refine (tlev_any (w.heap.size) g _ A1 c1 a0.2 hB1.cl0 hT1).mono ?_
  rintro e W2 ⟨A2, c2, rfl, hT2, hk2, hs2⟩
  rw [ha1] at hT2 ⊢
  have hB2 := hB1.kept hk2 (by omega)
  have hR2 := hR1.kept hk2 (by omega)
  have hX2 := hX1.kept hk2 (by omega)
  have hK2 := hK1.trans hk2 (fun _ _ e => .inl e)
  have hS2 := hS1.trans hs2
  have hU2 : Under w.heap.size A2 a1.2 := by rw [← ha1]; exact hU1.next hs2
  clear hT1 hB1 hR1 hX1 hK1 hS1 hU1 hk2 hs2
  go_wp2_with fail
  refine (tlev_any (w.heap.size) g _ A2 c2 a1.2 hB2.cl0 hT2).mono ?_
  rintro e W3 ⟨A3, c3, rfl, hT3, hk3, hs3⟩
  rw [ha2] at hT3 ⊢
  have hB3 := hB2.kept hk3 (by omega)
  have hR3 := hR2.kept hk3 (by omega)
  have hX3 := hX2.kept hk3 (by omega)
  have hK3 := hK2.trans hk3 (fun _ _ e => .inl e)
  have hS3 := hS2.trans hs3
  have hU3 : Under w.heap.size A3 a2.2 := by rw [← ha2]; exact hU2.next hs3
  clear hT2 hB2 hR2 hX2 hK2 hS2 hU2 hk3 hs3
  go_wp2_with fail
  refine (tlev_any (w.heap.size) g _ A3 c3 a2.2 hB3.cl0 hT3).mono ?_
  rintro e W4 ⟨A4, c4, rfl, hT4, hk4, hs4⟩
  rw [ha3] at hT4 ⊢
  have hB4 := hB3.kept hk4 (by omega)
  have hR4 := hR3.kept hk4 (by omega)
  have hX4 := hX3.kept hk4 (by omega)
  have hK4 := hK3.trans hk4 (fun _ _ e => .inl e)
  have hS4 := hS3.trans hs4
  have hU4 : Under w.heap.size A4 a3.2 := by rw [← ha3]; exact hU3.next hs4
  clear hT3 hB3 hR3 hX3 hK3 hS3 hU3 hk4 hs4
  obtain ⟨x0, x1, x2, x3, x4, x5, x6, x7, x8, x9, x10⟩ := rowS hX4
  have hf := fun i => hX4.frozen i
  have hl := hX4.lt
  have b0 := hB4.cell 0
  simp at b0
  go_wp2_with fail
  clear x0 x1 x2 x3 x4 x5 x6 x7 x8 x9 x10 hf b0
  have kX : Keep (fun k => k = w.heap.size + 1 + 1) W4 (((((W4).setCell ⟨w.heap.size + 1 + 1, 0, none⟩ (.int .i64 a0.1)).setCell ⟨w.heap.size + 1 + 1, 1, none⟩ (.int .i64 a1.1)).setCell ⟨w.heap.size + 1 + 1, 2, none⟩ (.int .i64 a2.1)).setCell ⟨w.heap.size + 1 + 1, 3, none⟩ (.int .i64 a3.1)) := (((((Keep.refl (fun k => k = w.heap.size + 1 + 1) W4).at_ 0 (.int .i64 a0.1)).at_ 1 (.int .i64 a1.1)).at_ 2 (.int .i64 a2.1)).at_ 3 (.int .i64 a3.1))
  have hX : Blk (((((W4).setCell ⟨w.heap.size + 1 + 1, 0, none⟩ (.int .i64 a0.1)).setCell ⟨w.heap.size + 1 + 1, 1, none⟩ (.int .i64 a1.1)).setCell ⟨w.heap.size + 1 + 1, 2, none⟩ (.int .i64 a2.1)).setCell ⟨w.heap.size + 1 + 1, 3, none⟩ (.int .i64 a3.1)) (w.heap.size + 1 + 1) 44 #[(.int .i64 a0.1), (.int .i64 a1.1), (.int .i64 a2.1), (.int .i64 a3.1), (.int .i64 0), (.int .i64 0), (.int .i64 0), (.int .i64 0), (.int .i64 0), (.int .i64 0), (.int .i64 0)] := by simpa using ((((hX4.set_ 0 (.int .i64 a0.1)).set_ 1 (.int .i64 a1.1)).set_ 2 (.int .i64 a2.1)).set_ 3 (.int .i64 a3.1))
  obtain ⟨V4, hV⟩ : ∃ V, ((((W4).setCell ⟨w.heap.size + 1 + 1, 0, none⟩ (.int .i64 a0.1)).setCell ⟨w.heap.size + 1 + 1, 1, none⟩ (.int .i64 a1.1)).setCell ⟨w.heap.size + 1 + 1, 2, none⟩ (.int .i64 a2.1)).setCell ⟨w.heap.size + 1 + 1, 3, none⟩ (.int .i64 a3.1) = V := ⟨_, rfl⟩
  rw [hV] at kX hX ⊢
  clear hV hX4
  have hX4 := hX
  clear hX
  have hB := hB4.kept kX (by omega)
  have hR := hR4.kept kX (by omega)
  have hT := hT4.keptU kX (fun i e => by omega) hgl hU4
  have hK := hK4.trans kX (fun i _ e => .inr (by omega))
  clear hB4 hR4 hT4 hK4 kX
  have hB4 := hB
  have hR4 := hR
  have hT4 := hT
  have hK4 := hK
  clear hB hR hT hK
  refine (tflo_any (w.heap.size) g _ A4 c4 a3.2 hB4.cl0 hT4).mono ?_
  rintro e W5 ⟨A5, c5, rfl, hT5, hk5, hs5⟩
  rw [ha4] at hT5 ⊢
  have hB5 := hB4.kept hk5 (by omega)
  have hR5 := hR4.kept hk5 (by omega)
  have hX5 := hX4.kept hk5 (by omega)
  have hK5 := hK4.trans hk5 (fun _ _ e => .inl e)
  have hS5 := hS4.trans hs5
  have hU5 : Under w.heap.size A5 a4.2 := by rw [← ha4]; exact hU4.next hs5
  clear hT4 hB4 hR4 hX4 hK4 hS4 hU4 hk5 hs5
  go_wp2_with fail
  refine (tflo_any (w.heap.size) g _ A5 c5 a4.2 hB5.cl0 hT5).mono ?_
  rintro e W6 ⟨A6, c6, rfl, hT6, hk6, hs6⟩
  rw [ha5] at hT6 ⊢
  have hB6 := hB5.kept hk6 (by omega)
  have hR6 := hR5.kept hk6 (by omega)
  have hX6 := hX5.kept hk6 (by omega)
  have hK6 := hK5.trans hk6 (fun _ _ e => .inl e)
  have hS6 := hS5.trans hs6
  have hU6 : Under w.heap.size A6 a5.2 := by rw [← ha5]; exact hU5.next hs6
  clear hT5 hB5 hR5 hX5 hK5 hS5 hU5 hk6 hs6
  obtain ⟨x0, x1, x2, x3, x4, x5, x6, x7, x8, x9, x10⟩ := rowS hX6
  have hf := fun i => hX6.frozen i
  have hl := hX6.lt
  have b0 := hB6.cell 0
  simp at b0
  go_wp2_with fail
  clear x0 x1 x2 x3 x4 x5 x6 x7 x8 x9 x10 hf b0
  have kX : Keep (fun k => k = w.heap.size + 1 + 1) W6 ((((((((W6).setCell ⟨w.heap.size + 1 + 1, 4, none⟩ (.int .i64 a4.1)).setCell ⟨w.heap.size + 1 + 1, 5, none⟩ (.int .i64 a5.1)).setCell ⟨w.heap.size + 1 + 1, 6, none⟩ (.int .i64 0)).setCell ⟨w.heap.size + 1 + 1, 7, none⟩ (.int .i64 0)).setCell ⟨w.heap.size + 1 + 1, 8, none⟩ (.int .i64 0)).setCell ⟨w.heap.size + 1 + 1, 9, none⟩ (.int .i64 0)).setCell ⟨w.heap.size + 1 + 1, 10, none⟩ (.int .i64 0)) := ((((((((Keep.refl (fun k => k = w.heap.size + 1 + 1) W6).at_ 4 (.int .i64 a4.1)).at_ 5 (.int .i64 a5.1)).at_ 6 (.int .i64 0)).at_ 7 (.int .i64 0)).at_ 8 (.int .i64 0)).at_ 9 (.int .i64 0)).at_ 10 (.int .i64 0))
  have hX : Blk ((((((((W6).setCell ⟨w.heap.size + 1 + 1, 4, none⟩ (.int .i64 a4.1)).setCell ⟨w.heap.size + 1 + 1, 5, none⟩ (.int .i64 a5.1)).setCell ⟨w.heap.size + 1 + 1, 6, none⟩ (.int .i64 0)).setCell ⟨w.heap.size + 1 + 1, 7, none⟩ (.int .i64 0)).setCell ⟨w.heap.size + 1 + 1, 8, none⟩ (.int .i64 0)).setCell ⟨w.heap.size + 1 + 1, 9, none⟩ (.int .i64 0)).setCell ⟨w.heap.size + 1 + 1, 10, none⟩ (.int .i64 0)) (w.heap.size + 1 + 1) 44 #[(.int .i64 a0.1), (.int .i64 a1.1), (.int .i64 a2.1), (.int .i64 a3.1), (.int .i64 a4.1), (.int .i64 a5.1), (.int .i64 0), (.int .i64 0), (.int .i64 0), (.int .i64 0), (.int .i64 0)] := by simpa using (((((((hX6.set_ 4 (.int .i64 a4.1)).set_ 5 (.int .i64 a5.1)).set_ 6 (.int .i64 0)).set_ 7 (.int .i64 0)).set_ 8 (.int .i64 0)).set_ 9 (.int .i64 0)).set_ 10 (.int .i64 0))
  obtain ⟨V6, hV⟩ : ∃ V, (((((((W6).setCell ⟨w.heap.size + 1 + 1, 4, none⟩ (.int .i64 a4.1)).setCell ⟨w.heap.size + 1 + 1, 5, none⟩ (.int .i64 a5.1)).setCell ⟨w.heap.size + 1 + 1, 6, none⟩ (.int .i64 0)).setCell ⟨w.heap.size + 1 + 1, 7, none⟩ (.int .i64 0)).setCell ⟨w.heap.size + 1 + 1, 8, none⟩ (.int .i64 0)).setCell ⟨w.heap.size + 1 + 1, 9, none⟩ (.int .i64 0)).setCell ⟨w.heap.size + 1 + 1, 10, none⟩ (.int .i64 0) = V := ⟨_, rfl⟩
  rw [hV] at kX hX ⊢
  clear hV hX6
  have hX6 := hX
  clear hX
  have hB := hB6.kept kX (by omega)
  have hR := hR6.kept kX (by omega)
  have hT := hT6.keptU kX (fun i e => by omega) hgl hU6
  have hK := hK6.trans kX (fun i _ e => .inr (by omega))
  clear hB6 hR6 hT6 hK6 kX
  have hB6 := hB
  have hR6 := hR
  have hT6 := hT
  have hK6 := hK
  clear hB hR hT hK
  refine (tcn_any (w.heap.size) g _ A6 c6 a5.2 hB6.cl0 hT6).mono ?_
  rintro e W7 ⟨A7, c7, rfl, hT7, hk7, hs7⟩
  rw [ha6] at hT7 ⊢
  have hB7 := hB6.kept hk7 (by omega)
  have hR7 := hR6.kept hk7 (by omega)
  have hX7 := hX6.kept hk7 (by omega)
  have hK7 := hK6.trans hk7 (fun _ _ e => .inl e)
  have hS7 := hS6.trans hs7
  have hU7 : Under w.heap.size A7 a6.2 := by rw [← ha6]; exact hU6.next hs7
  clear hT6 hB6 hR6 hX6 hK6 hS6 hU6 hk7 hs7
  obtain ⟨x0, x1, x2, x3, x4, x5, x6, x7, x8, x9, x10⟩ := rowS hX7
  have hf := fun i => hX7.frozen i
  have hl := hX7.lt
  have b0 := hB7.cell 0
  simp at b0
  go_wp2_with fail
  clear x0 x1 x2 x3 x4 x5 x6 x7 x8 x9 x10 hf b0
  have kX : Keep (fun k => k = w.heap.size + 1 + 1) W7 ((W7).setCell ⟨w.heap.size + 1 + 1, 6, none⟩ (.int .i64 a6.1)) := ((Keep.refl (fun k => k = w.heap.size + 1 + 1) W7).at_ 6 (.int .i64 a6.1))
  have hX : Blk ((W7).setCell ⟨w.heap.size + 1 + 1, 6, none⟩ (.int .i64 a6.1)) (w.heap.size + 1 + 1) 44 #[(.int .i64 a0.1), (.int .i64 a1.1), (.int .i64 a2.1), (.int .i64 a3.1), (.int .i64 a4.1), (.int .i64 a5.1), (.int .i64 a6.1), (.int .i64 0), (.int .i64 0), (.int .i64 0), (.int .i64 0)] := by simpa using (hX7.set_ 6 (.int .i64 a6.1))
  obtain ⟨V7, hV⟩ : ∃ V, (W7).setCell ⟨w.heap.size + 1 + 1, 6, none⟩ (.int .i64 a6.1) = V := ⟨_, rfl⟩
  rw [hV] at kX hX ⊢
  clear hV hX7
  have hX7 := hX
  clear hX
  have hB := hB7.kept kX (by omega)
  have hR := hR7.kept kX (by omega)
  have hT := hT7.keptU kX (fun i e => by omega) hgl hU7
  have hK := hK7.trans kX (fun i _ e => .inr (by omega))
  clear hB7 hR7 hT7 hK7 kX
  have hB7 := hB
  have hR7 := hR
  have hT7 := hT
  have hK7 := hK
  clear hB hR hT hK
  refine (tflo_any (w.heap.size) g _ A7 c7 a6.2 hB7.cl0 hT7).mono ?_
  rintro e W8 ⟨A8, c8, rfl, hT8, hk8, hs8⟩
  rw [ha7] at hT8 ⊢
  have hB8 := hB7.kept hk8 (by omega)
  have hR8 := hR7.kept hk8 (by omega)
  have hX8 := hX7.kept hk8 (by omega)
  have hK8 := hK7.trans hk8 (fun _ _ e => .inl e)
  have hS8 := hS7.trans hs8
  have hU8 : Under w.heap.size A8 a7.2 := by rw [← ha7]; exact hU7.next hs8
  clear hT7 hB7 hR7 hX7 hK7 hS7 hU7 hk8 hs8
  obtain ⟨x0, x1, x2, x3, x4, x5, x6, x7, x8, x9, x10⟩ := rowS hX8
  have hf := fun i => hX8.frozen i
  have hl := hX8.lt
  have b0 := hB8.cell 0
  simp at b0
  go_wp2_with fail
  clear x0 x1 x2 x3 x4 x5 x6 x7 x8 x9 x10 hf b0
  have kX : Keep (fun k => k = w.heap.size + 1 + 1) W8 ((W8).setCell ⟨w.heap.size + 1 + 1, 7, none⟩ (.int .i64 a7.1)) := ((Keep.refl (fun k => k = w.heap.size + 1 + 1) W8).at_ 7 (.int .i64 a7.1))
  have hX : Blk ((W8).setCell ⟨w.heap.size + 1 + 1, 7, none⟩ (.int .i64 a7.1)) (w.heap.size + 1 + 1) 44 #[(.int .i64 a0.1), (.int .i64 a1.1), (.int .i64 a2.1), (.int .i64 a3.1), (.int .i64 a4.1), (.int .i64 a5.1), (.int .i64 a6.1), (.int .i64 a7.1), (.int .i64 0), (.int .i64 0), (.int .i64 0)] := by simpa using (hX8.set_ 7 (.int .i64 a7.1))
  obtain ⟨V8, hV⟩ : ∃ V, (W8).setCell ⟨w.heap.size + 1 + 1, 7, none⟩ (.int .i64 a7.1) = V := ⟨_, rfl⟩
  rw [hV] at kX hX ⊢
  clear hV hX8
  have hX8 := hX
  clear hX
  have hB := hB8.kept kX (by omega)
  have hR := hR8.kept kX (by omega)
  have hT := hT8.keptU kX (fun i e => by omega) hgl hU8
  have hK := hK8.trans kX (fun i _ e => .inr (by omega))
  clear hB8 hR8 hT8 hK8 kX
  have hB8 := hB
  have hR8 := hR
  have hT8 := hT
  have hK8 := hK
  clear hB hR hT hK
  refine (tflo_any (w.heap.size) g _ A8 c8 a7.2 hB8.cl0 hT8).mono ?_
  rintro e W9 ⟨A9, c9, rfl, hT9, hk9, hs9⟩
  rw [ha8] at hT9 ⊢
  have hB9 := hB8.kept hk9 (by omega)
  have hR9 := hR8.kept hk9 (by omega)
  have hX9 := hX8.kept hk9 (by omega)
  have hK9 := hK8.trans hk9 (fun _ _ e => .inl e)
  have hS9 := hS8.trans hs9
  have hU9 : Under w.heap.size A9 a8.2 := by rw [← ha8]; exact hU8.next hs9
  clear hT8 hB8 hR8 hX8 hK8 hS8 hU8 hk9 hs9
  go_wp2_with fail
  refine (tflo_any (w.heap.size) g _ A9 c9 a8.2 hB9.cl0 hT9).mono ?_
  rintro e W10 ⟨A10, c10, rfl, hT10, hk10, hs10⟩
  rw [ha9] at hT10 ⊢
  have hB10 := hB9.kept hk10 (by omega)
  have hR10 := hR9.kept hk10 (by omega)
  have hX10 := hX9.kept hk10 (by omega)
  have hK10 := hK9.trans hk10 (fun _ _ e => .inl e)
  have hS10 := hS9.trans hs10
  have hU10 : Under w.heap.size A10 a9.2 := by rw [← ha9]; exact hU9.next hs10
  clear hT9 hB9 hR9 hX9 hK9 hS9 hU9 hk10 hs10
  go_wp2_with fail
  refine (tflo_any (w.heap.size) g _ A10 c10 a9.2 hB10.cl0 hT10).mono ?_
  rintro e W11 ⟨A11, c11, rfl, hT11, hk11, hs11⟩
  rw [ha10] at hT11 ⊢
  have hB11 := hB10.kept hk11 (by omega)
  have hR11 := hR10.kept hk11 (by omega)
  have hX11 := hX10.kept hk11 (by omega)
  have hK11 := hK10.trans hk11 (fun _ _ e => .inl e)
  have hS11 := hS10.trans hs11
  have hU11 : Under w.heap.size A11 a10.2 := by rw [← ha10]; exact hU10.next hs11
  clear hT10 hB10 hR10 hX10 hK10 hS10 hU10 hk11 hs11
  obtain ⟨x0, x1, x2, x3, x4, x5, x6, x7, x8, x9, x10⟩ := rowS hX11
  have hf := fun i => hX11.frozen i
  have hl := hX11.lt
  go_upto_region 9 with fail
  clear x0 x1 x2 x3 x4 x5 x6 x7 x8 x9 x10 hf hl
  have kX : Keep (fun k => k = w.heap.size + 1 + 1) W11 ((((W11).setCell ⟨w.heap.size + 1 + 1, 8, none⟩ (.int .i64 a8.1)).setCell ⟨w.heap.size + 1 + 1, 9, none⟩ (.int .i64 a9.1)).setCell ⟨w.heap.size + 1 + 1, 10, none⟩ (.int .i64 a10.1)) := ((((Keep.refl (fun k => k = w.heap.size + 1 + 1) W11).at_ 8 (.int .i64 a8.1)).at_ 9 (.int .i64 a9.1)).at_ 10 (.int .i64 a10.1))
  have hX : Blk ((((W11).setCell ⟨w.heap.size + 1 + 1, 8, none⟩ (.int .i64 a8.1)).setCell ⟨w.heap.size + 1 + 1, 9, none⟩ (.int .i64 a9.1)).setCell ⟨w.heap.size + 1 + 1, 10, none⟩ (.int .i64 a10.1)) (w.heap.size + 1 + 1) 44 #[(.int .i64 a0.1), (.int .i64 a1.1), (.int .i64 a2.1), (.int .i64 a3.1), (.int .i64 a4.1), (.int .i64 a5.1), (.int .i64 a6.1), (.int .i64 a7.1), (.int .i64 a8.1), (.int .i64 a9.1), (.int .i64 a10.1)] := by simpa using (((hX11.set_ 8 (.int .i64 a8.1)).set_ 9 (.int .i64 a9.1)).set_ 10 (.int .i64 a10.1))
  obtain ⟨WA, hV⟩ : ∃ V, (((W11).setCell ⟨w.heap.size + 1 + 1, 8, none⟩ (.int .i64 a8.1)).setCell ⟨w.heap.size + 1 + 1, 9, none⟩ (.int .i64 a9.1)).setCell ⟨w.heap.size + 1 + 1, 10, none⟩ (.int .i64 a10.1) = V := ⟨_, rfl⟩
  rw [hV] at kX hX ⊢
  clear hV hX11
  have hR := hR11.kept kX (by omega)
  have hT := hT11.keptU kX (fun i e => by omega) hgl hU11
  have hK := hK11.trans kX (fun i _ e => .inr (by omega))
  clear hB11 hR11 hT11 hK11 kX
  obtain ⟨x0, x1, x2, x3, x4, x5, x6, x7, x8, x9, x10⟩ := rowS hX
  obtain ⟨y0, y1, y2, y3, y4, y5, y6, y7, y8, y9, y10⟩ := rowS hR
  have hf := fun i => hR.frozen i
  have hl := hR.lt
  go_wp2
  clear x0 x1 x2 x3 x4 x5 x6 x7 x8 x9 x10 y0 y1 y2 y3 y4 y5 y6 y7 y8 y9 y10 hf hl
  have kE : Keep (fun k => k = w.heap.size + 1) WA ((((((((((((WA).setCell ⟨w.heap.size + 1, 0, none⟩ (.int .i64 a0.1)).setCell ⟨w.heap.size + 1, 1, none⟩ (.int .i64 a1.1)).setCell ⟨w.heap.size + 1, 2, none⟩ (.int .i64 a2.1)).setCell ⟨w.heap.size + 1, 3, none⟩ (.int .i64 a3.1)).setCell ⟨w.heap.size + 1, 4, none⟩ (.int .i64 a4.1)).setCell ⟨w.heap.size + 1, 5, none⟩ (.int .i64 a5.1)).setCell ⟨w.heap.size + 1, 6, none⟩ (.int .i64 a6.1)).setCell ⟨w.heap.size + 1, 7, none⟩ (.int .i64 a7.1)).setCell ⟨w.heap.size + 1, 8, none⟩ (.int .i64 a8.1)).setCell ⟨w.heap.size + 1, 9, none⟩ (.int .i64 a9.1)).setCell ⟨w.heap.size + 1, 10, none⟩ (.int .i64 a10.1)) := ((((((((((((Keep.refl (fun k => k = w.heap.size + 1) WA).at_ 0 (.int .i64 a0.1)).at_ 1 (.int .i64 a1.1)).at_ 2 (.int .i64 a2.1)).at_ 3 (.int .i64 a3.1)).at_ 4 (.int .i64 a4.1)).at_ 5 (.int .i64 a5.1)).at_ 6 (.int .i64 a6.1)).at_ 7 (.int .i64 a7.1)).at_ 8 (.int .i64 a8.1)).at_ 9 (.int .i64 a9.1)).at_ 10 (.int .i64 a10.1))
  have hE := fill11 hR (.int .i64 a0.1) (.int .i64 a1.1) (.int .i64 a2.1) (.int .i64 a3.1) (.int .i64 a4.1) (.int .i64 a5.1) (.int .i64 a6.1) (.int .i64 a7.1) (.int .i64 a8.1) (.int .i64 a9.1) (.int .i64 a10.1)
  generalize (((((((((((WA).setCell ⟨w.heap.size + 1, 0, none⟩ (.int .i64 a0.1)).setCell ⟨w.heap.size + 1, 1, none⟩ (.int .i64 a1.1)).setCell ⟨w.heap.size + 1, 2, none⟩ (.int .i64 a2.1)).setCell ⟨w.heap.size + 1, 3, none⟩ (.int .i64 a3.1)).setCell ⟨w.heap.size + 1, 4, none⟩ (.int .i64 a4.1)).setCell ⟨w.heap.size + 1, 5, none⟩ (.int .i64 a5.1)).setCell ⟨w.heap.size + 1, 6, none⟩ (.int .i64 a6.1)).setCell ⟨w.heap.size + 1, 7, none⟩ (.int .i64 a7.1)).setCell ⟨w.heap.size + 1, 8, none⟩ (.int .i64 a8.1)).setCell ⟨w.heap.size + 1, 9, none⟩ (.int .i64 a9.1)).setCell ⟨w.heap.size + 1, 10, none⟩ (.int .i64 a10.1) = WE at kE hE ⊢
  have hT2 := hT.keptU kE (fun i e => by omega) hgl hU11
  have hK2 := hK.trans kE (fun i _ e => .inr (by omega))
  have hltE := hE.lt
  have hneE : w.heap.size + 1 ≠ WE.heap.size := by omega
  obtain ⟨j0, j1, j2, j3, j4, j5, j6, j7, j8, j9, j10⟩ := rowS hE
  refine bodyPost_ret (v := .agg #[(.int .i64 a0.1), (.int .i64 a1.1), (.int .i64 a2.1), (.int .i64 a3.1), (.int .i64 a4.1), (.int .i64 a5.1), (.int .i64 a6.1), (.int .i64 a7.1), (.int .i64 a8.1), (.int .i64 a9.1), (.int .i64 a10.1)]) (by simp [results, Tryz.results13, go_sem, hltE, hneE, j0, j1, j2, j3, j4, j5, j6, j7, j8, j9, j10]) rfl ?_
  exact ⟨A11, c11, rfl, hT2, hK2.mono (fun k hk e => e.elim id (fun e => absurd hk (Nat.not_lt.2 e))), hS11⟩
end
section
open Go.RowKit Go.Maps Go.Shelf Go.Sort
set_option linter.unusedVariables false
set_option linter.unusedSimpArgs false

def Row.bal (r : Row) : Bool := balB r.fr r.he r.pi r.sa r.re r.rt r.cn r.cm r.sh r.sc r.se
/-- Is a row that was taken one that may be? -/
def rowOK (s last : List UInt8) (r : Row) : Bool := gOK s && (!decide (s ≤ last) && (!overR r && r.bal))
/-- A stock, taken. -/
def unpT : Nat → List UInt8 → (List UInt8 → Row) → List (List UInt8) → Option (List UInt8) → Option ((List UInt8 → Row) × List (List UInt8))
  | 0, _, f, ks, st => if st = some [] then some (f, ks) else none
  | n + 1, last, f, ks, st => match rowOK (ttext st 16).1 last (takeR (ttext st 16).2).1 with
    | true => unpT n (ttext st 16).1 (fun k => if k = (ttext st 16).1 then (takeR (ttext st 16).2).1 else f k) (addS ks (ttext st 16).1) (takeR (ttext st 16).2).2
    | false => none
def unpS (l : List UInt8) : Option ((List UInt8 → Row) × List (List UInt8)) := unpT (tnum (some l) 0 64).1.toNat [] (fun _ => row0) [] (tnum (some l) 0 64).2
/-- What Unpack answers. -/
def UnpP (w : World) (r : Option ((List UInt8 → Row) × List (List UInt8))) (e : Ending) (w' : World) : Prop :=
  Below w.heap.size w w' ∧ ((r = none ∧ e = .returned (.tuple #[.pointer none, .int .i64 10])) ∨ ∃ f ks p b N, r = some (f, ks) ∧ e = .returned (.tuple #[.pointer (some ⟨p, 0, none⟩), .int .i64 0]) ∧ ST w' p b N f ks ∧ N ≤ 64 ∧ w.heap.size ≤ p ∧ w.heap.size ≤ b)
theorem tnum_range {st : Option (List UInt8)} {a b : Int} (h : a ≤ 0) (h0 : 0 ≤ b) : a ≤ (tnum st a b).1 ∧ (tnum st a b).1 ≤ b := by
  unfold tnum
  split
  · exact ⟨h, h0⟩
  · split
    · split
      · exact ⟨h, h0⟩
      · dsimp only; omega
    · exact ⟨h, h0⟩
theorem ttext_len {st : Option (List UInt8)} {b : Nat} : (ttext st (b : Int)).1.length ≤ b := by
  unfold ttext
  split
  · simp
  · split
    · split
      · simp
      · rename_i h
        rw [List.length_take]
        omega
    · simp
set_option maxRecDepth 100000 in
set_option maxHeartbeats 6400000 in
theorem sunpack_any (A : Option Addr) (n c : Nat) (l : List UInt8) (w : World) (hr : RB w A n l) (hn : n ≤ 140737488355328) :
    Calls Tryz.prog 4 #[.slice A n c] w (UnpP w (unpS l)) := by
  obtain ⟨r, hrd⟩ : ∃ r, unpS l = r := ⟨_, rfl⟩
  have hdec : r = unpT (tnum (some l) 0 64).1.toNat [] (fun _ => row0) [] (tnum (some l) 0 64).2 := hrd.symm
  rw [hrd]
  clear hrd
  go_enter Tryz.func4, Tryz.ntmps4
  go_wp2_with fail
  refine (snew_any w).mono ?_
  rintro e w1 ⟨p, b, rfl, hS1, hpw, hbw, hb1⟩
  obtain ⟨hpl, hbl⟩ := hS1.lt
  obtain ⟨KB, hKB⟩ : ∃ KB, w1.heap.size = KB := ⟨_, rfl⟩
  have hrB : RB w1 A n l := hr.below hb1
  go_wp2_with fail
  refine (take_any A n c l w1 hrB hn).mono ?_
  rintro e w2 ⟨g, A2, c2, rfl, hg2, hT2, hb2, hA2⟩
  have hS2 := hS1.below hb2
  have hA2' : ∀ A', SameBlock A2 A' → ∀ ad, A' = some ad → KB ≤ ad.block := fun A' hs ad e => by
    obtain ⟨a0, h0, e0⟩ := hs ad e
    have := hA2 a0 h0
    omega
  rw [hKB] at hpl hbl hg2
  have hbw2 := hb1.trans (hb2.mono hb1.size)
  have htn := tnum_any w2 g A2 c2 (some l) 0 64 hT2
  have hrg := tnum_range (st := some l) (a := 0) (b := 64) (by decide) (by decide)
  obtain ⟨st1, hst1⟩ : ∃ x, tnum (some l) 0 64 = x := ⟨_, rfl⟩
  rw [hst1] at hdec hrg htn
  obtain ⟨nI, st1⟩ := st1
  dsimp only at hdec hrg htn
  clear hrB hS1 hb1 hb2 hst1 hr
  go_wp2_with fail
  refine htn.mono ?_
  rintro e w3 ⟨A3, c3, rfl, hT3, hk3, hs3⟩
  have hS3 := hS2.kept hk3 (by omega) (by omega)
  have hbw3 := hbw2.trans (hk3.below (B := w.heap.size) hbw2.size (fun i hi e => by omega))
  obtain ⟨NN, hN⟩ : ∃ NN, nI.toNat = NN := ⟨_, rfl⟩
  have hNI : nI = (NN : Int) := by omega
  subst hNI
  rw [hN] at hdec
  have hDEC := Lib.hid hdec
  have hgK := hT3.blk.lt
  clear hdec hN htn hk3 hT2 hS2 hKB
  go_wp2
  go_loopw [6, 14] (fun v6 i wr => ∃ (k : Nat) (last : List UInt8) (f : List UInt8 → Row) (ks : List (List UInt8)) (st : Option (List UInt8)) (A' : Option Addr) (c' : Nat), v6 = .string ⟨last.toArray⟩ ∧ i = .int .i64 (k : Int) ∧ k ≤ NN ∧ ST wr p b k f ks ∧ PT wr g A' c' st ∧ SameBlock A2 A' ∧ Below w.heap.size w wr ∧ Hid (r = unpT (NN - k) last f ks st)) (fun _ i _ => NN - (intOf i).toNat)
  case atStart => exact ⟨0, [], _, [], st1, A3, c3, rfl, by go_num, by omega, hS3, hT3, hs3, hbw3, hDEC⟩
  case round =>
    obtain ⟨k, last, f, ks, st, A6, c6, rfl, rfl, hk, hS, hT, hs6, hb, hD⟩ := hrel
    clear hS3 hT3 hs3 hbw3 hDEC hbw2
    by_cases hlt : k < NN
    · as_aux_lemma =>
      have hlz : decide ((k : Int) < (NN : Int)) = true := decide_eq_true (by omega)
      have htx := ttext_any wr g A6 c6 st 16 hT
      have hsl := ttext_len (st := st) (b := 16)
      have hD' := hD.out
      rw [show NN - k = (NN - (k + 1)) + 1 by omega] at hD'
      unfold unpT at hD'
      obtain ⟨a, ha⟩ : ∃ x, ttext st 16 = x := ⟨_, rfl⟩
      rw [show ((16 : Nat) : Int) = 16 from rfl, ha] at hsl
      rw [ha] at htx hD'
      obtain ⟨s, st7⟩ := a
      dsimp only at htx hsl hD'
      unfold strV at htx
      have hsm : s.length ≤ maxLen := by unfold maxLen; omega
      clear ha hD
      go_wp2_with fail
      refine htx.mono ?_
      rintro e w7 ⟨A7, c7, rfl, hT7, hk7, hs7⟩
      have hS7 := hS.kept hk7 (by omega) (by omega)
      have hb7 := hb.trans (hk7.below (B := w.heap.size) hb.size (fun i hi e => by omega))
      have hs67 := hs6.trans hs7
      have htr := takeRow_any g w7 A7 c7 st7 hT7
      obtain ⟨rr, hrr⟩ : ∃ x, takeR st7 = x := ⟨_, rfl⟩
      rw [hrr] at htr hD'
      obtain ⟨⟨x0, x1, x2, x3, x4, x5, x6, x7, x8, x9, x10⟩, st8⟩ := rr
      dsimp only at htr hD'
      change Calls _ _ _ _ (TPost w7 g A7 st8 (.agg #[.int .i64 x0, .int .i64 x1, .int .i64 x2, .int .i64 x3, .int .i64 x4, .int .i64 x5, .int .i64 x6, .int .i64 x7, .int .i64 x8, .int .i64 x9, .int .i64 x10])) at htr
      clear hrr htx hk7 hT hS hb hs6 hs7
      go_wp2_with fail
      refine htr.mono ?_
      rintro e w8 ⟨A8, c8, rfl, hT8, hk8, hs8⟩
      have hS8 := hS7.kept hk8 (by omega) (by omega)
      have hb8 := hb7.trans (hk8.below (B := w.heap.size) hb7.size (fun i hi e => by omega))
      have hs68 := hs67.trans hs8
      have hgl := hT8.blk.lt
      clear htr hk8 hT7 hS7 hb7 hs67 hs8
      obtain ⟨ob, hobz⟩ : ∃ ob, w8.heap.size = ob := ⟨_, rfl⟩
      have hR8 := Blk.new w8 44 #[.int .i64 x0, .int .i64 x1, .int .i64 x2, .int .i64 x3, .int .i64 x4, .int .i64 x5, .int .i64 x6, .int .i64 x7, .int .i64 x8, .int .i64 x9, .int .i64 x10]
      have hS9 := hS8.alloc (.cells #[.int .i64 x0, .int .i64 x1, .int .i64 x2, .int .i64 x3, .int .i64 x4, .int .i64 x5, .int .i64 x6, .int .i64 x7, .int .i64 x8, .int .i64 x9, .int .i64 x10] 44)
      have hT9 := hT8.alloc (.cells #[.int .i64 x0, .int .i64 x1, .int .i64 x2, .int .i64 x3, .int .i64 x4, .int .i64 x5, .int .i64 x6, .int .i64 x7, .int .i64 x8, .int .i64 x9, .int .i64 x10] 44)
      have hb9 := hb8.alloc hb8.size (.cells #[.int .i64 x0, .int .i64 x1, .int .i64 x2, .int .i64 x3, .int .i64 x4, .int .i64 x5, .int .i64 x6, .int .i64 x7, .int .i64 x8, .int .i64 x9, .int .i64 x10] 44)
      have hU9 := hT9.under
      have hpo := hS8.lt
      have hl8 := hS8.lt
      clear hT8 hb8
      go_wp2_with fail
      obtain ⟨W9, hW9⟩ : ∃ W9, w8.alloc (.cells #[.int .i64 x0, .int .i64 x1, .int .i64 x2, .int .i64 x3, .int .i64 x4, .int .i64 x5, .int .i64 x6, .int .i64 x7, .int .i64 x8, .int .i64 x9, .int .i64 x10] 44) = W9 := ⟨_, rfl⟩
      rw [hW9] at hR8 hS9 hT9 hb9 hU9 ⊢
      rw [hobz] at hR8 hpo hgl
      clear hW9 hobz hl8 hS8
      have hobl := hR8.lt
      have hno := fun h => hD'.trans (show _ = none by rw [show rowOK s last ⟨x0, x1, x2, x3, x4, x5, x6, x7, x8, x9, x10⟩ = false from h])
      have hyes := fun h => hD'.trans (show _ = unpT (NN - (k + 1)) s (fun k => if k = s then ⟨x0, x1, x2, x3, x4, x5, x6, x7, x8, x9, x10⟩ else f k) (addS ks s) st8 by rw [show rowOK s last ⟨x0, x1, x2, x3, x4, x5, x6, x7, x8, x9, x10⟩ = true from h])
      unfold rowOK at hno hyes
      clear hD'
      refine (good_any s W9).mono ?_
      rintro e V1 ⟨rfl, hx1⟩
      have hR1 := hR8.kept (Keep.of_below hx1) (Nat.not_le.2 hobl)
      have hST1 := hS9.below hx1
      have hT1 := hT9.keptU (Keep.of_below hx1) (fun i e => e) hT9.blk.lt hU9
      have hb1 := hb9.trans (hx1.mono hb9.size)
      have hz1 := hx1.size
      clear hx1 hR8 hS9 hT9 hb9
      cases hgd : gOK s with
      | false =>
        have hres := hno (by rw [hgd]; rfl)
        clear hno hyes
        go_wp2
        go_ret2
        exact ⟨hb1, .inl ⟨hres, rfl⟩⟩
      | true =>
      cases hle : decide (s ≤ last) with
      | true =>
        have hres := hno (by rw [hgd, hle]; rfl)
        have hrun := run_str_leq 9 s last true hle
        clear hno hyes hle
        go_wp2
        go_ret2
        exact ⟨hb1, .inl ⟨hres, rfl⟩⟩
      | false =>
      have hrun := run_str_leq 9 s last false hle
      obtain ⟨y0, y1, y2, y3, y4, y5, y6, y7, y8, y9, y10⟩ := rowS hR1
      have hov := over_any x0 x1 x2 x3 x4 x5 x6 x7 x8 x9 x10 V1
      obtain ⟨OV, hOV⟩ : ∃ OV, overB x0 x1 x2 x3 x4 x5 x7 x8 x9 x10 = OV := ⟨_, rfl⟩
      have hOV2 : overR ⟨x0, x1, x2, x3, x4, x5, x6, x7, x8, x9, x10⟩ = OV := hOV
      rw [hOV] at hov
      rw [hgd, hle, hOV2] at hno hyes
      clear hOV hOV2 hle hgd
      go_wp2_with fail
      refine hov.mono ?_
      rintro e V2 ⟨rfl, hx2⟩
      clear y0 y1 y2 y3 y4 y5 y6 y7 y8 y9 y10 hov
      have hR2 := hR1.kept (Keep.of_below hx2) (by omega)
      have hST2 := hST1.below hx2
      have hT2 := hT1.keptU (K := V1.heap.size) (Keep.of_below hx2) (fun i e => e) hT1.blk.lt (fun a b c => Nat.lt_of_lt_of_le (hU9 a b c) hz1)
      have hb2 := hb1.trans (hx2.mono hb1.size)
      have hz2 := Nat.le_trans hz1 hx2.size
      clear hx2 hR1 hST1 hT1 hb1 hz1
      cases OV with
      | true =>
        have hres := hno rfl
        clear hno hyes
        go_wp2
        go_ret2
        exact ⟨hb2, .inl ⟨hres, rfl⟩⟩
      | false =>
      obtain ⟨y0, y1, y2, y3, y4, y5, y6, y7, y8, y9, y10⟩ := rowS hR2
      have hba := balanced_any x0 x1 x2 x3 x4 x5 x6 x7 x8 x9 x10 V2
      obtain ⟨BA, hBA⟩ : ∃ BA, balB x0 x1 x2 x3 x4 x5 x6 x7 x8 x9 x10 = BA := ⟨_, rfl⟩
      have hBA2 : Row.bal ⟨x0, x1, x2, x3, x4, x5, x6, x7, x8, x9, x10⟩ = BA := hBA
      rw [hBA] at hba
      rw [hBA2] at hno hyes
      clear hBA hBA2
      go_wp2_with fail
      refine hba.mono ?_
      rintro e V3 ⟨rfl, hx3⟩
      clear y0 y1 y2 y3 y4 y5 y6 y7 y8 y9 y10 hba
      have hR3 := hR2.kept (Keep.of_below hx3) (by omega)
      have hST3 := hST2.below hx3
      have hT3 := hT2.keptU (K := V2.heap.size) (Keep.of_below hx3) (fun i e => e) hT2.blk.lt (fun a b c => Nat.lt_of_lt_of_le (hU9 a b c) hz2)
      have hb3 := hb2.trans (hx3.mono hb2.size)
      clear hx3 hR2 hST2 hT2 hb2 hz2
      cases BA with
      | false =>
        have hres := hno rfl
        clear hno hyes
        go_wp2
        go_ret2
        exact ⟨hb3, .inl ⟨hres, rfl⟩⟩
      | true =>
      have hgo := Lib.hid (hyes rfl)
      clear hno hyes
      have hob : ob ≠ b := by omega
      have hpb : p ≠ b := hST3.ne
      have hS4 : ST V3.drew p b k f ks := hST3.below (Below.refl V3.heap.size V3).drew
      have hT4 : PT V3.drew g A8 c8 st8 := hT3.drewN 1
      have hb4 := hb3.drew
      have hR4 := hR3.drew
      clear hST3 hT3 hb3 hR3 hU9
      have sd : (fun W' => W'.cell? ⟨p, 0, none⟩ = some (.map (some b)) ∧ W'.cell? ⟨ob, 0, none⟩ = some (.int .i64 x0) ∧ W'.cell? ⟨ob, 1, none⟩ = some (.int .i64 x1) ∧ W'.cell? ⟨ob, 2, none⟩ = some (.int .i64 x2) ∧ W'.cell? ⟨ob, 3, none⟩ = some (.int .i64 x3) ∧ W'.cell? ⟨ob, 4, none⟩ = some (.int .i64 x4) ∧ W'.cell? ⟨ob, 5, none⟩ = some (.int .i64 x5) ∧ W'.cell? ⟨ob, 6, none⟩ = some (.int .i64 x6) ∧ W'.cell? ⟨ob, 7, none⟩ = some (.int .i64 x7) ∧ W'.cell? ⟨ob, 8, none⟩ = some (.int .i64 x8) ∧ W'.cell? ⟨ob, 9, none⟩ = some (.int .i64 x9) ∧ W'.cell? ⟨ob, 10, none⟩ = some (.int .i64 x10)) V3.drew := by
        obtain ⟨y0, y1, y2, y3, y4, y5, y6, y7, y8, y9, y10⟩ := rowS hR4
        exact ⟨hS4.pc.cell 0, y0, y1, y2, y3, y4, y5, y6, y7, y8, y9, y10⟩
      go_wp2
      refine wp_region_held_drew (S := (fun W' => W'.cell? ⟨p, 0, none⟩ = some (.map (some b)) ∧ W'.cell? ⟨ob, 0, none⟩ = some (.int .i64 x0) ∧ W'.cell? ⟨ob, 1, none⟩ = some (.int .i64 x1) ∧ W'.cell? ⟨ob, 2, none⟩ = some (.int .i64 x2) ∧ W'.cell? ⟨ob, 3, none⟩ = some (.int .i64 x3) ∧ W'.cell? ⟨ob, 4, none⟩ = some (.int .i64 x4) ∧ W'.cell? ⟨ob, 5, none⟩ = some (.int .i64 x5) ∧ W'.cell? ⟨ob, 6, none⟩ = some (.int .i64 x6) ∧ W'.cell? ⟨ob, 7, none⟩ = some (.int .i64 x7) ∧ W'.cell? ⟨ob, 8, none⟩ = some (.int .i64 x8) ∧ W'.cell? ⟨ob, 9, none⟩ = some (.int .i64 x9) ∧ W'.cell? ⟨ob, 10, none⟩ = some (.int .i64 x10))) (by kernel_rfl) sd (fun hHeld => ?_)
      generalize V3.drew = wz at *
      obtain ⟨w9, hrun9, hS9, hk9⟩ := hS4.upd (by unfold maxLen; omega) s hsm ⟨x0, x1, x2, x3, x4, x5, x6, x7, x8, x9, x10⟩
      have sd9 : (fun W' => W'.cell? ⟨p, 0, none⟩ = some (.map (some b)) ∧ W'.cell? ⟨ob, 0, none⟩ = some (.int .i64 x0) ∧ W'.cell? ⟨ob, 1, none⟩ = some (.int .i64 x1) ∧ W'.cell? ⟨ob, 2, none⟩ = some (.int .i64 x2) ∧ W'.cell? ⟨ob, 3, none⟩ = some (.int .i64 x3) ∧ W'.cell? ⟨ob, 4, none⟩ = some (.int .i64 x4) ∧ W'.cell? ⟨ob, 5, none⟩ = some (.int .i64 x5) ∧ W'.cell? ⟨ob, 6, none⟩ = some (.int .i64 x6) ∧ W'.cell? ⟨ob, 7, none⟩ = some (.int .i64 x7) ∧ W'.cell? ⟨ob, 8, none⟩ = some (.int .i64 x8) ∧ W'.cell? ⟨ob, 9, none⟩ = some (.int .i64 x9) ∧ W'.cell? ⟨ob, 10, none⟩ = some (.int .i64 x10)) w9 := by
        have cc : ∀ (a : Addr) (v : Value), wz.cell? a = some v → a.block ≠ b → w9.cell? a = some v := fun a v h1 h2 => hk9.cell h1 h2
        obtain ⟨z0, z1, z2, z3, z4, z5, z6, z7, z8, z9, z10, z11⟩ := sd
        exact ⟨cc _ _ z0 hpb, cc _ _ z1 hob, cc _ _ z2 hob, cc _ _ z3 hob, cc _ _ z4 hob, cc _ _ z5 hob, cc _ _ z6 hob, cc _ _ z7 hob, cc _ _ z8 hob, cc _ _ z9 hob, cc _ _ z10 hob, cc _ _ z11 hob⟩
      change Sem.run _ (Instr.mapUpdate _ _ _ (.agg #[.int .i64 x0, .int .i64 x1, .int .i64 x2, .int .i64 x3, .int .i64 x4, .int .i64 x5, .int .i64 x6, .int .i64 x7, .int .i64 x8, .int .i64 x9, .int .i64 x10])) _ = _ at hrun9
      (refine tkI 0 (by (simp only [List.getElem?_toArray, List.getElem?_cons_succ, List.getElem?_cons_zero]; rfl)) (by kernel_rfl) (by kernel_rfl) (by kernel_rfl) (by exact fun _ _ _ h => h) (by rfl) (by (intro w hSw; (try dsimp only at hSw); go_simp <;> with_reducible rfl)) (by assumption) ?_; try simp only [Act.put, List.setIfInBounds_toArray, List.set_cons_zero, List.set_cons_succ])
      (refine tkI 1 (by (simp only [List.getElem?_toArray, List.getElem?_cons_succ, List.getElem?_cons_zero]; rfl)) (by kernel_rfl) (by kernel_rfl) (by kernel_rfl) (by exact fun _ _ _ h => h) (by rfl) (by (intro w hSw; (try dsimp only at hSw); go_simp <;> with_reducible rfl)) (by assumption) ?_; try simp only [Act.put, List.setIfInBounds_toArray, List.set_cons_zero, List.set_cons_succ])
      (refine tkI 2 (by (simp only [List.getElem?_toArray, List.getElem?_cons_succ, List.getElem?_cons_zero]; rfl)) (by kernel_rfl) (by kernel_rfl) (by kernel_rfl) (by exact fun _ _ _ h => h) (by rfl) (by (intro w hSw; (try dsimp only at hSw); go_simp <;> with_reducible rfl)) (by assumption) ?_; try simp only [Act.put, List.setIfInBounds_toArray, List.set_cons_zero, List.set_cons_succ])
      (refine tkI 3 (by (simp only [List.getElem?_toArray, List.getElem?_cons_succ, List.getElem?_cons_zero]; rfl)) (by kernel_rfl) (by kernel_rfl) (by kernel_rfl) (by exact fun _ _ _ h => h) (by rfl) (by (intro w hSw; (try dsimp only at hSw); go_simp <;> with_reducible rfl)) (by assumption) ?_; try simp only [Act.put, List.setIfInBounds_toArray, List.set_cons_zero, List.set_cons_succ])
      (refine tkI 4 (by (simp only [List.getElem?_toArray, List.getElem?_cons_succ, List.getElem?_cons_zero]; rfl)) (by kernel_rfl) (by kernel_rfl) (by kernel_rfl) (by exact fun _ _ _ h => h) (by rfl) (by (intro w hSw; (try dsimp only at hSw); go_simp <;> with_reducible rfl)) (by assumption) ?_; try simp only [Act.put, List.setIfInBounds_toArray, List.set_cons_zero, List.set_cons_succ])
      (refine tkI 5 (by (simp only [List.getElem?_toArray, List.getElem?_cons_succ, List.getElem?_cons_zero]; rfl)) (by kernel_rfl) (by kernel_rfl) (by kernel_rfl) (by exact fun _ _ _ h => h) (by rfl) (by (intro w hSw; (try dsimp only at hSw); go_simp <;> with_reducible rfl)) (by assumption) ?_; try simp only [Act.put, List.setIfInBounds_toArray, List.set_cons_zero, List.set_cons_succ])
      refine wpAnyH_ready (rs := [6]) (by kernel_rfl) (by simp) ?_
      refine AllReadyH.cons (by (simp only [List.getElem?_toArray, List.getElem?_cons_succ, List.getElem?_cons_zero]; rfl)) (fun K hK => ?_) AllReadyH.nil
      go_simp
      refine hK.out _ _ sd9 (fun hHeld2 => ?_)
      clear hK K hHeld
      have hHeld := hHeld2
      clear hHeld2
      try simp only [Act.put, List.setIfInBounds_toArray, List.set_cons_zero, List.set_cons_succ]
      refine wpAnyH_done (by kernel_rfl) ?_ _
      have hT9 := hT4.kept hk9 (by omega) (fun ad e => by have := hA2' _ hs68 ad e; omega)
      have hb9 := hb4.trans (hk9.below (B := w.heap.size) hb4.size (fun i hi e => by omega))
      clear sd sd9 hrun9 hS4 hT4 hb4 hR4 hk9
      go_wp2
      go_roundw
      case measure => simp [intOf]; omega
      case rel => exact ⟨k + 1, s, _, _, st8, A8, c8, rfl, by go_num, by omega, hS9, hT9, hs68, hb9, hgo⟩
    · have hlz : decide ((k : Int) < (NN : Int)) = false := decide_eq_false (by omega)
      have hkN : NN - k = 0 := by omega
      have hD' := hD.out
      rw [hkN] at hD'
      unfold unpT at hD'
      have htd := tdone_any wr g A6 c6 st hT
      unfold tdoneN at htd
      by_cases hst : st = some []
      · rw [if_pos hst] at htd hD'
        clear hD hlt hst
        go_wp2_with fail
        refine htd.mono ?_
        rintro e w9 ⟨rfl, rfl⟩
        go_wp2
        go_ret2
        exact ⟨hb, .inr ⟨f, ks, p, b, k, hD', rfl, hS, by omega, hpw, hbw⟩⟩
      · rw [if_neg hst] at htd hD'
        clear hD hlt hst
        go_wp2_with fail
        refine htd.mono ?_
        rintro e w9 ⟨rfl, rfl⟩
        go_wp2
        go_ret2
        exact ⟨hb, .inl ⟨hD', rfl⟩⟩
end
end Go.Proofs.YtfpcnenohidfpaaGreat
