/- Pack of a backlog. No condition but that it lies in memory, and is one that may be. -/
import Derived.Test.YtnkekjaljhpmjaaBkK
import Derived.Test.YtnkekjaljhpmjaaBkE
import Derived.Deep.CutRange
namespace Go.Proofs.Ytnkekjaljhpmjaa
open Go.RowKit Go.Shelf
set_option linter.unusedVariables false
set_option linter.unusedSimpArgs false
attribute [local go_sem] Oper.semAt_some

theorem MK.low {base B : Nat} {w : World} {g : Nat} {v : Value} {st : Option (List UInt8)} (h : MK base w g v st) (hB : B ≤ base) : MK B w g v st := ⟨h.blk, Nat.le_trans hB h.ge, h.own.mono hB, h.short⟩
theorem put_some {a b : List UInt8} (h : a.length + b.length ≤ 262144) : put (some a) b = some (a ++ b) := by unfold put; dsimp only; rw [if_neg (by omega)]
/-- The code's beginning. -/
def headC (l : List Wt) (o : Int) : List UInt8 := numCell o ++ numCell (l.length : Int)
/-- Behind the making of the code's beginning. -/
def HeadR (w : World) (l : List Wt) (o : Int) (s3 : Value) (wc : World) : Prop :=
  ∃ bm g v, s3 = .pointer (some ⟨bm, 0, none⟩) ∧ Blk wc bm 70 #[.pointer (some ⟨g, 0, none⟩)] ∧ MK w.heap.size wc g v (some (headC l o)) ∧ ¬ MF g v bm ∧ Below w.heap.size w wc ∧ w.heap.size ≤ bm
/-- What Pack answers. -/
def PackPost (w : World) (c : List UInt8) (e : Ending) (w' : World) : Prop :=
  ∃ A cap, e = .returned (.slice A c.length cap) ∧ c.length ≤ cap ∧ cap ≤ maxLen ∧ RB w' A c.length c ∧ Below w.heap.size w w' ∧ ∀ ad, A = some ad → w.heap.size ≤ ad.block
theorem MK.cells {base : Nat} {w : World} {g : Nat} {v : Value} {st : Option (List UInt8)} (h : MK base w g v st) {i : Nat} (hi : MF g v i) : ∃ cs t, w.heap[i]? = some (.cells cs t (0, 0)) ∧ t ≠ 60 := by
  rcases hi with rfl | hi
  · exact ⟨_, _, h.blk, by decide⟩
  · rcases h.own.2 with ⟨rfl, _⟩ | ⟨g', cap, cur, rfl, _, hgg, _⟩
    · cases hi
    · have e : g' = i := by simpa [Value.ownBlock] using hi
      subst e
      exact ⟨_, _, hgg, by decide⟩
theorem MK.row {base n : Nat} {w W : World} {g : Nat} {v : Value} {st : Option (List UInt8)} {row : Option Nat} (h : MK base w g v st) (hg : w.grownBy W row) (hr : ∀ r, row = some r → n ≤ r ∧ ∃ o : Obj, w.heap[r]? = some o ∧ o.isCells = false) : MK base W g v st :=
  h.kept (Keep.of_grown hg) fun i hi => by
    obtain ⟨cs, t, h1, _⟩ := h.cells hi
    exact row_not hr h1 rfl
theorem MK.kt {base : Nat} {w W : World} {g : Nat} {v : Value} {st : Option (List UInt8)} (h : MK base w g v st) (hk : Keep (MF g v) w W) : KT w W :=
  KT.keep hk fun k cs e hc => by
    obtain ⟨cs', t, h1, h2⟩ := h.cells e
    rw [hc] at h1
    injection h1 with h1
    injection h1 with _ h1
    exact h2 h1.symm
theorem MK.from_ {base B : Nat} {w W : World} {g : Nat} {v : Value} {st : Option (List UInt8)} (h : MK base w g v st) (hk : Keep (MF g v) w W) : KeepsFrom B w W :=
  hk.from fun k _ _ e => by
    obtain ⟨cs', t, h1, _⟩ := h.cells e
    exact ⟨_, h1, rfl⟩
theorem RB.putD {W : World} {A : Option Addr} {n D : Nat} {l : List UInt8} (h : RB W A n l) (hD : W.heap[D]? = some (.deferred (some []))) : RB (W.putObj D (.deferred none)) A n l :=
  ⟨h.1, fun hn => by
    obtain ⟨b, off, e, hc⟩ := h.2 hn
    exact ⟨b, off, e, fun j x hx => cell_kept (hc j x hx) (grownBy_putObj' _ D (.deferred none)) (fun r e => by cases e; exact ⟨_, hD, rfl⟩)⟩⟩
set_option maxRecDepth 100000 in
set_option maxHeartbeats 6400000 in
theorem bpack_any {F : Nat → Prop} {w : World} {p : Nat} {l : List Wt} {o : Int} (h : BK F w p l o) (hI : InvC l o) :
    Calls Try.prog 28 #[.pointer (some ⟨p, 0, none⟩)] w (PackPost w (encB l o)) := by
  have hll := hI.len
  have ho0 := hI.o0
  have hn1 := numCell_len o
  have hn2 := numCell_len (l.length : Int)
  have hp5 : put (some []) (numCell o) = some (numCell o) := put_some (by simp; omega)
  have hp11 : put (some (numCell o)) (numCell (l.length : Int)) = some (headC l o) := put_some (by omega)
  obtain ⟨vb, hV⟩ := h
  obtain ⟨A, c, rfl, hfm⟩ := hV.own.form
  clear hfm
  have hS : ∀ W, Below w.heap.size w W → (fun W => W.cell? ⟨p, 0, none⟩ = some (.slice A l.length c) ∧ W.cell? ⟨p, 1, none⟩ = some (.int .i64 o)) W := fun W hb => (hV.below hb).fields
  have hbd : Below w.heap.size w w.drew := (Below.refl w.heap.size w).drew
  unfold topM at ho0
  refine (callsIn_wide (n := 9)).1 ?_
  refine callsIn_of_wp_marks Try.func28 rfl trivial ?_ rfl
  simp only [Try.ntmps28, List.size_toArray, List.length_cons, List.length_nil, Nat.reduceAdd, Nat.reduceSub, Array.replicate_succ, Array.replicate_zero, List.push_toArray, List.append_toArray, List.nil_append, List.cons_append]
  refine wpIn_wide.2 ?_
  go_upto_region 3 with fail
  go_cut [3] from 10 to 21 (fun s3 wc => HeadR w l o s3 wc)
  case first =>
    refine wp_calm ?_
    refine wp_region_held_drew (S := (fun W => W.cell? ⟨p, 0, none⟩ = some (.slice A l.length c) ∧ W.cell? ⟨p, 1, none⟩ = some (.int .i64 o))) (by kernel_rfl) (hS _ hbd) (fun hHeld => ?_)
    refine wpAnyH_take (i := 1) (oi := ?oi1z1) (v := ?v1z1) ?hi1z1 (by kernel_rfl) (by kernel_rfl) (by kernel_rfl) ?hq1z1 (Or.inl ⟨?hw1z1, ?hy1z1⟩) (by assumption) ?rest1z1
    case hi1z1 => (simp only [List.getElem?_toArray, List.getElem?_cons_succ, List.getElem?_cons_zero]; rfl)
    case hq1z1 => exact fun _ _ _ h => h
    case hw1z1 => rfl
    case hy1z1 => (intro w hSw; (try dsimp only at hSw); go_simp <;> with_reducible rfl)
    try simp only [Act.put, List.setIfInBounds_toArray, List.set_cons_zero, List.set_cons_succ]
    refine wpAnyH_take (i := 2) (oi := ?oi2z2) (v := ?v2z2) ?hi2z2 (by kernel_rfl) (by kernel_rfl) (by kernel_rfl) ?hq2z2 (Or.inl ⟨?hw2z2, ?hy2z2⟩) (by assumption) ?rest2z2
    case hi2z2 => (simp only [List.getElem?_toArray, List.getElem?_cons_succ, List.getElem?_cons_zero]; rfl)
    case hq2z2 => exact fun _ _ _ h => h
    case hw2z2 => rfl
    case hy2z2 => (intro w hSw; (try dsimp only at hSw); go_simp <;> with_reducible rfl)
    try simp only [Act.put, List.setIfInBounds_toArray, List.set_cons_zero, List.set_cons_succ]
    refine wpAnyH_take (i := 3) (oi := ?oi3z3) (v := ?v3z3) ?hi3z3 (by kernel_rfl) (by kernel_rfl) (by kernel_rfl) ?hq3z3 (Or.inl ⟨?hw3z3, ?hy3z3⟩) (by assumption) ?rest3z3
    case hi3z3 => (simp only [List.getElem?_toArray, List.getElem?_cons_succ, List.getElem?_cons_zero]; rfl)
    case hq3z3 => exact fun _ _ _ h => h
    case hw3z3 => rfl
    case hy3z3 => (intro w hSw; (try dsimp only at hSw); go_simp <;> with_reducible rfl)
    try simp only [Act.put, List.setIfInBounds_toArray, List.set_cons_zero, List.set_cons_succ]
    refine wpAnyH_take (i := 4) (oi := ?oi4z4) (v := ?v4z4) ?hi4z4 (by kernel_rfl) (by kernel_rfl) (by kernel_rfl) ?hq4z4 (Or.inl ⟨?hw4z4, ?hy4z4⟩) (by assumption) ?rest4z4
    case hi4z4 => (simp only [List.getElem?_toArray, List.getElem?_cons_succ, List.getElem?_cons_zero]; rfl)
    case hq4z4 => exact fun _ _ _ h => h
    case hw4z4 => rfl
    case hy4z4 => (intro w hSw; (try dsimp only at hSw); go_simp <;> with_reducible rfl)
    try simp only [Act.put, List.setIfInBounds_toArray, List.set_cons_zero, List.set_cons_succ]
    refine wpAnyH_take (i := 6) (oi := ?oi6z5) (v := ?v6z5) ?hi6z5 (by kernel_rfl) (by kernel_rfl) (by kernel_rfl) ?hq6z5 (Or.inl ⟨?hw6z5, ?hy6z5⟩) (by assumption) ?rest6z5
    case hi6z5 => (simp only [List.getElem?_toArray, List.getElem?_cons_succ, List.getElem?_cons_zero]; rfl)
    case hq6z5 => exact fun _ _ _ h => h
    case hw6z5 => rfl
    case hy6z5 => (intro w hSw; (try dsimp only at hSw); go_simp <;> with_reducible rfl)
    try simp only [Act.put, List.setIfInBounds_toArray, List.set_cons_zero, List.set_cons_succ]
    refine wpAnyH_take (i := 7) (oi := ?oi7z6) (v := ?v7z6) ?hi7z6 (by kernel_rfl) (by kernel_rfl) (by kernel_rfl) ?hq7z6 (Or.inl ⟨?hw7z6, ?hy7z6⟩) (by assumption) ?rest7z6
    case hi7z6 => (simp only [List.getElem?_toArray, List.getElem?_cons_succ, List.getElem?_cons_zero]; rfl)
    case hq7z6 => exact fun _ _ _ h => h
    case hw7z6 => rfl
    case hy7z6 => (intro w hSw; (try dsimp only at hSw); go_simp <;> with_reducible rfl)
    try simp only [Act.put, List.setIfInBounds_toArray, List.set_cons_zero, List.set_cons_succ]
    refine wpAnyH_take (i := 8) (oi := ?oi8z7) (v := ?v8z7) ?hi8z7 (by kernel_rfl) (by kernel_rfl) (by kernel_rfl) ?hq8z7 (Or.inl ⟨?hw8z7, ?hy8z7⟩) (by assumption) ?rest8z7
    case hi8z7 => (simp only [List.getElem?_toArray, List.getElem?_cons_succ, List.getElem?_cons_zero]; rfl)
    case hq8z7 => exact fun _ _ _ h => h
    case hw8z7 => rfl
    case hy8z7 => (intro w hSw; (try dsimp only at hSw); go_simp <;> with_reducible rfl)
    try simp only [Act.put, List.setIfInBounds_toArray, List.set_cons_zero, List.set_cons_succ]
    refine wpAnyH_take (i := 9) (oi := ?oi9z8) (v := ?v9z8) ?hi9z8 (by kernel_rfl) (by kernel_rfl) (by kernel_rfl) ?hq9z8 (Or.inl ⟨?hw9z8, ?hy9z8⟩) (by assumption) ?rest9z8
    case hi9z8 => (simp only [List.getElem?_toArray, List.getElem?_cons_succ, List.getElem?_cons_zero]; rfl)
    case hq9z8 => exact fun _ _ _ h => h
    case hw9z8 => rfl
    case hy9z8 => (intro w hSw; (try dsimp only at hSw); go_simp <;> with_reducible rfl)
    try simp only [Act.put, List.setIfInBounds_toArray, List.set_cons_zero, List.set_cons_succ]
    refine wpAnyH_take (i := 10) (oi := ?oi10z9) (v := ?v10z9) ?hi10z9 (by kernel_rfl) (by kernel_rfl) (by kernel_rfl) ?hq10z9 (Or.inl ⟨?hw10z9, ?hy10z9⟩) (by assumption) ?rest10z9
    case hi10z9 => (simp only [List.getElem?_toArray, List.getElem?_cons_succ, List.getElem?_cons_zero]; rfl)
    case hq10z9 => exact fun _ _ _ h => h
    case hw10z9 => rfl
    case hy10z9 => (intro w hSw; (try dsimp only at hSw); go_simp <;> with_reducible rfl)
    try simp only [Act.put, List.setIfInBounds_toArray, List.set_cons_zero, List.set_cons_succ]
    refine wpAnyH_ready (rs := [0, 12]) (by kernel_rfl) (by simp) ?_
    refine AllReadyH.cons (by (simp only [List.getElem?_toArray, List.getElem?_cons_succ, List.getElem?_cons_zero]; rfl)) (fun K hK => ?_) (AllReadyH.cons (by (simp only [List.getElem?_toArray, List.getElem?_cons_succ, List.getElem?_cons_zero]; rfl)) (fun K hK => ?_) AllReadyH.nil)
    · go_simp
      refine (new_any (w.drew)).mono ?_
      rintro e W10 ⟨rfl, hm10', hx10⟩
      have hb10 := hbd.trans (hx10.mono hbd.size)
      have hm10 := hm10'.low hbd.size
      refine hK.out _ _ (hS _ hb10) (fun hHeld2 => ?_)
      clear hK K hHeld
      have hHeld := hHeld2
      clear hHeld2
      try simp only [Act.put, List.setIfInBounds_toArray, List.set_cons_zero, List.set_cons_succ]
      refine wpAnyH_ready (rs := [5, 12]) (by kernel_rfl) (by simp) ?_
      refine AllReadyH.cons (by (simp only [List.getElem?_toArray, List.getElem?_cons_succ, List.getElem?_cons_zero]; rfl)) (fun K hK => ?_) (AllReadyH.cons (by (simp only [List.getElem?_toArray, List.getElem?_cons_succ, List.getElem?_cons_zero]; rfl)) (fun K hK => ?_) AllReadyH.nil)
      · go_simp
        refine (mnum_any w.heap.size _ _ _ o _ hm10 (by omega) (by omega)).mono ?_
        rintro e W11 ⟨v11, rfl, hm11, hk11, hf11⟩
        rw [hp5] at hm11
        have hb11 := hb10.trans (hk11.below hb10.size (fun i hi e => by have := (hm10.foot i e).1; omega))
        refine hK.out _ _ (hS _ hb11) (fun hHeld2 => ?_)
        clear hK K hHeld
        have hHeld := hHeld2
        clear hHeld2
        try simp only [Act.put, List.setIfInBounds_toArray, List.set_cons_zero, List.set_cons_succ]
        refine wpAnyH_ready (rs := [11, 12]) (by kernel_rfl) (by simp) ?_
        refine AllReadyH.cons (by (simp only [List.getElem?_toArray, List.getElem?_cons_succ, List.getElem?_cons_zero]; rfl)) (fun K hK => ?_) (AllReadyH.cons (by (simp only [List.getElem?_toArray, List.getElem?_cons_succ, List.getElem?_cons_zero]; rfl)) (fun K hK => ?_) AllReadyH.nil)
        · go_simp
          refine (mnum_any w.heap.size _ _ _ (l.length : Int) _ hm11 (by omega) (by omega)).mono ?_
          rintro e W12 ⟨v12, rfl, hm12, hk12, hf12⟩
          rw [hp11] at hm12
          have hb12 := hb11.trans (hk12.below hb11.size (fun i hi e => by have := (hm11.foot i e).1; omega))
          refine hK.out _ _ (hS _ hb12) (fun hHeld2 => ?_)
          clear hK K hHeld
          have hHeld := hHeld2
          clear hHeld2
          try simp only [Act.put, List.setIfInBounds_toArray, List.set_cons_zero, List.set_cons_succ]
          refine wpAnyH_ready (rs := [12]) (by kernel_rfl) (by simp) ?_
          refine AllReadyH.cons (by (simp only [List.getElem?_toArray, List.getElem?_cons_succ, List.getElem?_cons_zero]; rfl)) (fun K hK => ?_) AllReadyH.nil
          go_simp
          have hbx13 := Blk.new (W12) 70 #[.pointer none]
          have hb13 := hb12.alloc hb12.size (.cells #[.pointer none] 70)
          have hne13 : ¬ MF w.heap.size v12 (W12).heap.size := fun e => by have := (hm12.foot _ e).2; omega
          have hm13 := hm12.alloc_ (.cells #[.pointer none] 70)
          have hz13 := hb12.size
          generalize hW13 : (W12).alloc (.cells #[.pointer none] 70) = W13 at *
          clear hW13
          refine hK.out _ _ (hS _ hb13) (fun hHeld2 => ?_)
          clear hK K hHeld
          have hHeld := hHeld2
          clear hHeld2
          try simp only [Act.put, List.setIfInBounds_toArray, List.set_cons_zero, List.set_cons_succ]
          have f0 := hbx13.frozen 0
          have q0 := hbx13.cell 0
          simp at q0
          have hlx := hbx13.lt
          refine wpAnyH_ready (rs := [13]) (by kernel_rfl) (by simp) ?_
          refine AllReadyH.cons (by (simp only [List.getElem?_toArray, List.getElem?_cons_succ, List.getElem?_cons_zero]; rfl)) (fun K hK => ?_) AllReadyH.nil
          go_simp
          have hbs := hbx13.set_ 0 (.pointer (some ⟨w.heap.size, 0, none⟩))
          simp only [List.setIfInBounds_toArray, List.set_cons_zero] at hbs
          have kS : Keep (fun k => k = (W12).heap.size) (W13) ((W13).setCell ⟨(W12).heap.size, 0, none⟩ (.pointer (some ⟨w.heap.size, 0, none⟩))) := (Keep.refl (fun k => k = (W12).heap.size) (W13)).setCell (p := ⟨(W12).heap.size, 0, none⟩) (fun _ => rfl) _
          have hmS := hm13.kept kS (fun i hi e => hne13 (by rw [← e]; exact hi))
          have hbS := hb13.setCell (p := ⟨(W12).heap.size, 0, none⟩) (by dsimp only; omega) (.pointer (some ⟨w.heap.size, 0, none⟩))
          refine hK.out _ _ (hS _ hbS) (fun hHeld2 => ?_)
          clear hK K hHeld
          have hHeld := hHeld2
          clear hHeld2
          try simp only [Act.put, List.setIfInBounds_toArray, List.set_cons_zero, List.set_cons_succ]
          refine wpAnyH_done (by kernel_rfl) ?_ _
          go_wp2_with fail
          go_meet
          exact ⟨(W12).heap.size, w.heap.size, v12, rfl, hbs, hmS, hne13, hbS, by omega⟩
        · go_simp
          have hbx14 := Blk.new (W11) 70 #[.pointer none]
          have hb14 := hb11.alloc hb11.size (.cells #[.pointer none] 70)
          have hne14 : ¬ MF w.heap.size v11 (W11).heap.size := fun e => by have := (hm11.foot _ e).2; omega
          have hm14 := hm11.alloc_ (.cells #[.pointer none] 70)
          have hz14 := hb11.size
          generalize hW14 : (W11).alloc (.cells #[.pointer none] 70) = W14 at *
          clear hW14
          refine hK.out _ _ (hS _ hb14) (fun hHeld2 => ?_)
          clear hK K hHeld
          have hHeld := hHeld2
          clear hHeld2
          try simp only [Act.put, List.setIfInBounds_toArray, List.set_cons_zero, List.set_cons_succ]
          refine wpAnyH_ready (rs := [11]) (by kernel_rfl) (by simp) ?_
          refine AllReadyH.cons (by (simp only [List.getElem?_toArray, List.getElem?_cons_succ, List.getElem?_cons_zero]; rfl)) (fun K hK => ?_) AllReadyH.nil
          go_simp
          refine (mnum_any w.heap.size _ _ _ (l.length : Int) _ hm14 (by omega) (by omega)).mono ?_
          rintro e W15 ⟨v15, rfl, hm15, hk15, hf15⟩
          rw [hp11] at hm15
          have hb15 := hb14.trans (hk15.below hb14.size (fun i hi e => by have := (hm14.foot i e).1; omega))
          have hbx15 := hbx14.kept hk15 hne14
          have hne15 : ¬ MF w.heap.size v15 (W11).heap.size := fun e => by
            have := hbx14.lt
            rcases hf15 _ e with e | e
            · exact hne14 e
            · omega
          refine hK.out _ _ (hS _ hb15) (fun hHeld2 => ?_)
          clear hK K hHeld
          have hHeld := hHeld2
          clear hHeld2
          try simp only [Act.put, List.setIfInBounds_toArray, List.set_cons_zero, List.set_cons_succ]
          have f0 := hbx15.frozen 0
          have q0 := hbx15.cell 0
          simp at q0
          have hlx := hbx15.lt
          refine wpAnyH_ready (rs := [13]) (by kernel_rfl) (by simp) ?_
          refine AllReadyH.cons (by (simp only [List.getElem?_toArray, List.getElem?_cons_succ, List.getElem?_cons_zero]; rfl)) (fun K hK => ?_) AllReadyH.nil
          go_simp
          have hbs := hbx15.set_ 0 (.pointer (some ⟨w.heap.size, 0, none⟩))
          simp only [List.setIfInBounds_toArray, List.set_cons_zero] at hbs
          have kS : Keep (fun k => k = (W11).heap.size) (W15) ((W15).setCell ⟨(W11).heap.size, 0, none⟩ (.pointer (some ⟨w.heap.size, 0, none⟩))) := (Keep.refl (fun k => k = (W11).heap.size) (W15)).setCell (p := ⟨(W11).heap.size, 0, none⟩) (fun _ => rfl) _
          have hmS := hm15.kept kS (fun i hi e => hne15 (by rw [← e]; exact hi))
          have hbS := hb15.setCell (p := ⟨(W11).heap.size, 0, none⟩) (by dsimp only; omega) (.pointer (some ⟨w.heap.size, 0, none⟩))
          refine hK.out _ _ (hS _ hbS) (fun hHeld2 => ?_)
          clear hK K hHeld
          have hHeld := hHeld2
          clear hHeld2
          try simp only [Act.put, List.setIfInBounds_toArray, List.set_cons_zero, List.set_cons_succ]
          refine wpAnyH_done (by kernel_rfl) ?_ _
          go_wp2_with fail
          go_meet
          exact ⟨(W11).heap.size, w.heap.size, v15, rfl, hbs, hmS, hne15, hbS, by omega⟩
      · go_simp
        have hbx16 := Blk.new (W10) 70 #[.pointer none]
        have hb16 := hb10.alloc hb10.size (.cells #[.pointer none] 70)
        have hne16 : ¬ MF w.heap.size (.slice none 0 0) (W10).heap.size := fun e => by have := (hm10.foot _ e).2; omega
        have hm16 := hm10.alloc_ (.cells #[.pointer none] 70)
        have hz16 := hb10.size
        generalize hW16 : (W10).alloc (.cells #[.pointer none] 70) = W16 at *
        clear hW16
        refine hK.out _ _ (hS _ hb16) (fun hHeld2 => ?_)
        clear hK K hHeld
        have hHeld := hHeld2
        clear hHeld2
        try simp only [Act.put, List.setIfInBounds_toArray, List.set_cons_zero, List.set_cons_succ]
        refine wpAnyH_ready (rs := [5]) (by kernel_rfl) (by simp) ?_
        refine AllReadyH.cons (by (simp only [List.getElem?_toArray, List.getElem?_cons_succ, List.getElem?_cons_zero]; rfl)) (fun K hK => ?_) AllReadyH.nil
        go_simp
        refine (mnum_any w.heap.size _ _ _ o _ hm16 (by omega) (by omega)).mono ?_
        rintro e W17 ⟨v17, rfl, hm17, hk17, hf17⟩
        rw [hp5] at hm17
        have hb17 := hb16.trans (hk17.below hb16.size (fun i hi e => by have := (hm16.foot i e).1; omega))
        have hbx17 := hbx16.kept hk17 hne16
        have hne17 : ¬ MF w.heap.size v17 (W10).heap.size := fun e => by
          have := hbx16.lt
          rcases hf17 _ e with e | e
          · exact hne16 e
          · omega
        refine hK.out _ _ (hS _ hb17) (fun hHeld2 => ?_)
        clear hK K hHeld
        have hHeld := hHeld2
        clear hHeld2
        try simp only [Act.put, List.setIfInBounds_toArray, List.set_cons_zero, List.set_cons_succ]
        refine wpAnyH_ready (rs := [11]) (by kernel_rfl) (by simp) ?_
        refine AllReadyH.cons (by (simp only [List.getElem?_toArray, List.getElem?_cons_succ, List.getElem?_cons_zero]; rfl)) (fun K hK => ?_) AllReadyH.nil
        go_simp
        refine (mnum_any w.heap.size _ _ _ (l.length : Int) _ hm17 (by omega) (by omega)).mono ?_
        rintro e W18 ⟨v18, rfl, hm18, hk18, hf18⟩
        rw [hp11] at hm18
        have hb18 := hb17.trans (hk18.below hb17.size (fun i hi e => by have := (hm17.foot i e).1; omega))
        have hbx18 := hbx17.kept hk18 hne17
        have hne18 : ¬ MF w.heap.size v18 (W10).heap.size := fun e => by
          have := hbx17.lt
          rcases hf18 _ e with e | e
          · exact hne17 e
          · omega
        refine hK.out _ _ (hS _ hb18) (fun hHeld2 => ?_)
        clear hK K hHeld
        have hHeld := hHeld2
        clear hHeld2
        try simp only [Act.put, List.setIfInBounds_toArray, List.set_cons_zero, List.set_cons_succ]
        have f0 := hbx18.frozen 0
        have q0 := hbx18.cell 0
        simp at q0
        have hlx := hbx18.lt
        refine wpAnyH_ready (rs := [13]) (by kernel_rfl) (by simp) ?_
        refine AllReadyH.cons (by (simp only [List.getElem?_toArray, List.getElem?_cons_succ, List.getElem?_cons_zero]; rfl)) (fun K hK => ?_) AllReadyH.nil
        go_simp
        have hbs := hbx18.set_ 0 (.pointer (some ⟨w.heap.size, 0, none⟩))
        simp only [List.setIfInBounds_toArray, List.set_cons_zero] at hbs
        have kS : Keep (fun k => k = (W10).heap.size) (W18) ((W18).setCell ⟨(W10).heap.size, 0, none⟩ (.pointer (some ⟨w.heap.size, 0, none⟩))) := (Keep.refl (fun k => k = (W10).heap.size) (W18)).setCell (p := ⟨(W10).heap.size, 0, none⟩) (fun _ => rfl) _
        have hmS := hm18.kept kS (fun i hi e => hne18 (by rw [← e]; exact hi))
        have hbS := hb18.setCell (p := ⟨(W10).heap.size, 0, none⟩) (by dsimp only; omega) (.pointer (some ⟨w.heap.size, 0, none⟩))
        refine hK.out _ _ (hS _ hbS) (fun hHeld2 => ?_)
        clear hK K hHeld
        have hHeld := hHeld2
        clear hHeld2
        try simp only [Act.put, List.setIfInBounds_toArray, List.set_cons_zero, List.set_cons_succ]
        refine wpAnyH_done (by kernel_rfl) ?_ _
        go_wp2_with fail
        go_meet
        exact ⟨(W10).heap.size, w.heap.size, v18, rfl, hbs, hmS, hne18, hbS, by omega⟩
    · go_simp
      have hbx19 := (Blk.new w 70 #[.pointer none]).drew
      have hb19 := ((Below.refl w.heap.size w).alloc (Nat.le_refl _) (.cells #[.pointer none] 70)).drew
      have hz19 := hbd.size
      generalize hW19 : (w.alloc (.cells #[.pointer none] 70)).drew = W19 at *
      clear hW19
      refine hK.out _ _ (hS _ hb19) (fun hHeld2 => ?_)
      clear hK K hHeld
      have hHeld := hHeld2
      clear hHeld2
      try simp only [Act.put, List.setIfInBounds_toArray, List.set_cons_zero, List.set_cons_succ]
      refine wpAnyH_ready (rs := [0]) (by kernel_rfl) (by simp) ?_
      refine AllReadyH.cons (by (simp only [List.getElem?_toArray, List.getElem?_cons_succ, List.getElem?_cons_zero]; rfl)) (fun K hK => ?_) AllReadyH.nil
      go_simp
      refine (new_any (W19)).mono ?_
      rintro e W20 ⟨rfl, hm20', hx20⟩
      have hb20 := hb19.trans (hx20.mono hb19.size)
      have hm20 := hm20'.low hb19.size
      have hbx20 := hbx19.kept (Keep.of_below hx20) (Nat.not_le.2 hbx19.lt)
      have hne20 : ¬ MF (W19).heap.size (.slice none 0 0) w.heap.size := fun e => by
        have := hbx19.lt
        rcases e with e | e
        · omega
        · cases e
      refine hK.out _ _ (hS _ hb20) (fun hHeld2 => ?_)
      clear hK K hHeld
      have hHeld := hHeld2
      clear hHeld2
      try simp only [Act.put, List.setIfInBounds_toArray, List.set_cons_zero, List.set_cons_succ]
      refine wpAnyH_ready (rs := [5]) (by kernel_rfl) (by simp) ?_
      refine AllReadyH.cons (by (simp only [List.getElem?_toArray, List.getElem?_cons_succ, List.getElem?_cons_zero]; rfl)) (fun K hK => ?_) AllReadyH.nil
      go_simp
      refine (mnum_any w.heap.size _ _ _ o _ hm20 (by omega) (by omega)).mono ?_
      rintro e W21 ⟨v21, rfl, hm21, hk21, hf21⟩
      rw [hp5] at hm21
      have hb21 := hb20.trans (hk21.below hb20.size (fun i hi e => by have := (hm20.foot i e).1; omega))
      have hbx21 := hbx20.kept hk21 hne20
      have hne21 : ¬ MF (W19).heap.size v21 w.heap.size := fun e => by
        have := hbx20.lt
        rcases hf21 _ e with e | e
        · exact hne20 e
        · omega
      refine hK.out _ _ (hS _ hb21) (fun hHeld2 => ?_)
      clear hK K hHeld
      have hHeld := hHeld2
      clear hHeld2
      try simp only [Act.put, List.setIfInBounds_toArray, List.set_cons_zero, List.set_cons_succ]
      refine wpAnyH_ready (rs := [11]) (by kernel_rfl) (by simp) ?_
      refine AllReadyH.cons (by (simp only [List.getElem?_toArray, List.getElem?_cons_succ, List.getElem?_cons_zero]; rfl)) (fun K hK => ?_) AllReadyH.nil
      go_simp
      refine (mnum_any w.heap.size _ _ _ (l.length : Int) _ hm21 (by omega) (by omega)).mono ?_
      rintro e W22 ⟨v22, rfl, hm22, hk22, hf22⟩
      rw [hp11] at hm22
      have hb22 := hb21.trans (hk22.below hb21.size (fun i hi e => by have := (hm21.foot i e).1; omega))
      have hbx22 := hbx21.kept hk22 hne21
      have hne22 : ¬ MF (W19).heap.size v22 w.heap.size := fun e => by
        have := hbx21.lt
        rcases hf22 _ e with e | e
        · exact hne21 e
        · omega
      refine hK.out _ _ (hS _ hb22) (fun hHeld2 => ?_)
      clear hK K hHeld
      have hHeld := hHeld2
      clear hHeld2
      try simp only [Act.put, List.setIfInBounds_toArray, List.set_cons_zero, List.set_cons_succ]
      have f0 := hbx22.frozen 0
      have q0 := hbx22.cell 0
      simp at q0
      have hlx := hbx22.lt
      refine wpAnyH_ready (rs := [13]) (by kernel_rfl) (by simp) ?_
      refine AllReadyH.cons (by (simp only [List.getElem?_toArray, List.getElem?_cons_succ, List.getElem?_cons_zero]; rfl)) (fun K hK => ?_) AllReadyH.nil
      go_simp
      have hbs := hbx22.set_ 0 (.pointer (some ⟨(W19).heap.size, 0, none⟩))
      simp only [List.setIfInBounds_toArray, List.set_cons_zero] at hbs
      have kS : Keep (fun k => k = w.heap.size) (W22) ((W22).setCell ⟨w.heap.size, 0, none⟩ (.pointer (some ⟨(W19).heap.size, 0, none⟩))) := (Keep.refl (fun k => k = w.heap.size) (W22)).setCell (p := ⟨w.heap.size, 0, none⟩) (fun _ => rfl) _
      have hmS := hm22.kept kS (fun i hi e => hne22 (by rw [← e]; exact hi))
      have hbS := hb22.setCell (p := ⟨w.heap.size, 0, none⟩) (by dsimp only; omega) (.pointer (some ⟨(W19).heap.size, 0, none⟩))
      refine hK.out _ _ (hS _ hbS) (fun hHeld2 => ?_)
      clear hK K hHeld
      have hHeld := hHeld2
      clear hHeld2
      try simp only [Act.put, List.setIfInBounds_toArray, List.set_cons_zero, List.set_cons_succ]
      refine wpAnyH_done (by kernel_rfl) ?_ _
      go_wp2_with fail
      go_meet
      exact ⟨w.heap.size, (W19).heap.size, v22, rfl, hbs, hmS, hne22, hbS, by omega⟩
  case rest =>
    obtain ⟨bm, g, v, rfl, hbx, hm, hne, hb, hbm⟩ := hcut
    go_wp2_with fail
    refine (ball_make (some ⟨p, 0, none⟩) _).mono ?_
    rintro e w2 ⟨rfl, hww⟩
    subst w2
    have hbc := hb.size
    have e0 := hbx.alloc (.cells #[.pointer (some ⟨p, 0, none⟩)] 23)
    have e1 := hm.alloc_ (.cells #[.pointer (some ⟨p, 0, none⟩)] 23)
    have hb1 := hb.alloc hb.size (.cells #[.pointer (some ⟨p, 0, none⟩)] 23)
    have e2 := Blk.new wc 23 #[.pointer (some ⟨p, 0, none⟩)]
    have hz1 : (wc.alloc (.cells #[.pointer (some ⟨p, 0, none⟩)] 23)).heap.size = wc.heap.size + 1 := by simp
    generalize hW1 : wc.alloc (.cells #[.pointer (some ⟨p, 0, none⟩)] 23) = W1 at *
    clear hW1 hbx hm hb
    have c2 := e2.cell 0
    simp at c2
    go_wp2
    refine (wpIn_wide (n := 9)).1 ?_
    refine range_backlog p o l wc.heap.size (by first | rfl | simp [go_sem]) rfl c2 ⟨_, hV.below hb1⟩ (by omega)
      (fun pre W => ∃ v', MK w.heap.size W g v' (some (headC l o ++ rowsC pre)) ∧ ¬ MF g v' bm ∧ Blk W bm 70 #[.pointer (some ⟨g, 0, none⟩)] ∧ RowKit.Below w.heap.size w W)
      (fun c pre W => False)
      (fun s X Y row h hg hr => h.elim fun v' h => ⟨v', h.1.row hg hr, h.2.1, h.2.2.1.rowW hg hr, bel_rowW h.2.2.2 hg (by have := h.2.2.1.lt; omega) (by omega) hr⟩)
      (fun c s X Y row h hg hr => h)
      ⟨v, by rw [show rowsC [] = [] from rfl, List.append_nil]; exact e1, hne, e0, hb1⟩ ?round ?done ?stop
    case round =>
      apply Exists.intro
      constructor
      · intro l' u W K hx hK
        gi_wp2
        exact hK
      · rintro l' pre ⟨kk, kr⟩ W hx hzW ⟨v', hm, hne, hbx, hb⟩ hlen
        dsimp only
        have hk1 := hI.one _ hx
        unfold topM at hk1
        dsimp only at hk1
        have hc0 := hbx.cell 0
        simp at hc0
        have hpl := rowsC_len pre
        have hk9 := numCell_len kk
        have hf9 := numCell_len (flagN kr)
        have hhl : (headC l o).length ≤ 18 := by unfold headC; rw [List.length_append]; omega
        have hq1 : put (some (headC l o ++ rowsC pre)) (numCell kk) = some (headC l o ++ rowsC pre ++ numCell kk) := put_some (by rw [List.length_append]; omega)
        have hq2 : put (some (headC l o ++ rowsC pre ++ numCell kk)) (numCell (flagN kr)) = some (headC l o ++ rowsC (pre ++ [⟨kk, kr⟩])) := by
          rw [put_some (by rw [List.length_append, List.length_append]; omega), rowsC_snoc]
          simp [rowC]
        gi_wp2_with (first | (refine ⟨trivial, ?_⟩; gi_at_call 40; refine ((callsIn_wide.2 (mnum_any w.heap.size g v' _ kk _ hm (by omega) (by omega))).inRound _).mono ?_; rintro e W2 ⟨v2, rfl, hm2, hk2, hf2⟩; rw [hq1] at hm2) | (refine ⟨trivial, ?_⟩; gi_at_call 41; refine ((callsIn_wide.2 (mflag_any w.heap.size g v2 _ kr _ hm2)).inRound _).mono ?_; rintro e W3 ⟨v3, rfl, hm3, hk3, hf3⟩; rw [hq2] at hm3))
        have hne2 : ¬ MF g v2 bm := fun e => by
          have := hbx.lt
          rcases hf2 _ e with e | e
          · exact hne e
          · omega
        have hbx2 := hbx.kept hk2 hne
        have hb2 := hb.trans (hk2.below (B := w.heap.size) hb.size (fun i hi e => by have := (hm.foot i e).1; omega))
        have hne3 : ¬ MF g v3 bm := fun e => by
          have := hbx2.lt
          rcases hf3 _ e with e | e
          · exact hne2 e
          · omega
        have hb3 := hb2.trans (hk3.below (B := w.heap.size) hb2.size (fun i hi e => by have := (hm2.foot i e).1; omega))
        exact ⟨(hm.from_ hk2).trans (hm2.from_ hk3), (hm.kt hk2).trans (hm2.kt hk3), v3, hm3, hne3, hbx2.kept hk3 hne2, hb3⟩
    case done =>
      rintro D W hD ⟨v', hm, hne, hbx, hb⟩ hDf
      have hc0 := hbx.cell 0
      simp at hc0
      have hd := mdone_any w.heap.size g v' _ W hm
      have he : headC l o ++ rowsC l = encB l o := by unfold headC encB; rw [List.append_assoc]
      rw [he] at hd
      go_wp2_with fail
      refine hd.mono ?_
      rintro e W4 ⟨hb4, A4, c4, rfl, h41, h42, h43, h44⟩
      have hb5 := hb.trans (hb4.mono hb.size)
      have hDE := (hb4.block D (Array.getElem?_eq_some_iff.1 hDf).1).trans hDf
      go_wp2
      refine ⟨by simp, .inl ⟨_, _, rfl, run_takeDeferred hDE, ?_⟩⟩
      exact ⟨.slice A4 (encB l o).length c4, by simp [results, Try.results28, go_sem], A4, c4, rfl, h41, h42, h43.putD hDE, bel_putD hb5 (by omega) hDE, fun ad e => by have := (h44 ad e).1; have := hb.size; omega⟩
    case stop =>
      rintro D c pre W hD hpre hno hDf
      exact hno.elim
end Go.Proofs.Ytnkekjaljhpmjaa
