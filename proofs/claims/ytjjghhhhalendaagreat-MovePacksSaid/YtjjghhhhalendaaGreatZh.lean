/- Texts of this proof in one: MxB, TakeI, MxC, MxD, MxE, ReadI, MxF, MxG. No condition. -/
import Derived.Test.YtjjghhhhalendaaGreatZd
import Derived.Test.YtjjghhhhalendaaGreatMxP
import Derived.Test.YtjjghhhhalendaaGreatMwK
import Derived.Test.YtjjghhhhalendaaGreatPutI
import Derived.Test.YtjjghhhhalendaaGreatRgT
namespace Go.Proofs.YtjjghhhhalendaaGreat
section
open Go.RowKit Go.Maps Go.Shelf Go.Sort
set_option linter.unusedVariables false
set_option linter.unusedSimpArgs false
attribute [local go_sem] Oper.semAt_some

theorem MK.drewY {base : Nat} {w : World} {g : Nat} {v : Value} {st : Option (List UInt8)} (h : MK base w g v st) : MK base w.drew g v st := ⟨h.blk.drew, h.ge, h.own, h.short⟩
/-- The types of what a maker writes. -/
def YM (t : TypeId) : Prop := t = 104 ∨ t = 5
theorem MK.cellsY {base : Nat} {w : World} {g : Nat} {v : Value} {st : Option (List UInt8)} (h : MK base w g v st) {i : Nat} (hi : MF g v i) : ∃ cs t, w.heap[i]? = some (.cells cs t (0, 0)) ∧ YM t := by
  rcases hi with rfl | hi
  · exact ⟨_, _, h.blk, .inl rfl⟩
  · rcases h.own.2 with ⟨rfl, _⟩ | ⟨g', cap, cur, rfl, _, hgg, _⟩
    · cases hi
    · have e : g' = i := by simpa [Value.ownBlock] using hi
      subst e
      exact ⟨_, _, hgg, .inr rfl⟩
theorem MK.kpY {base : Nat} {S : Nat → Prop} {w W : World} {g : Nat} {v : Value} {st : Option (List UInt8)} (h : MK base w g v st) (hk : Keep (MF g v) w W) : KP YM S w W :=
  hk.kp fun k _ hS => by
    obtain ⟨cs, t, h1, h2⟩ := h.cellsY hS
    exact .inr ⟨cs, t, _, h1, h2⟩
theorem RB.putD {W : World} {A : Option Addr} {n D : Nat} {l : List UInt8} (h : RB W A n l) (hD : W.heap[D]? = some (.deferred (some []))) : RB (W.putObj D (.deferred none)) A n l :=
  ⟨h.1, fun hn => by
    obtain ⟨b, off, e, hc⟩ := h.2 hn
    exact ⟨b, off, e, fun j x hx => cell_kept (hc j x hx) (grownBy_putObj' _ D (.deferred none)) (fun r e => by cases e; exact ⟨_, hD, rfl⟩)⟩⟩
/-- What Pack answers. -/
def PackPost (w : World) (c : List UInt8) (e : Ending) (w' : World) : Prop :=
  ∃ A cap, e = .returned (.slice A c.length cap) ∧ c.length ≤ cap ∧ cap ≤ maxLen ∧ RB w' A c.length c ∧ Below w.heap.size w w' ∧ ∀ ad, A = some ad → w.heap.size ≤ ad.block
theorem below_rowY {n B : Nat} {w A A' : World} {row : Option Nat} (h : Below n w A) (hB : n ≤ B) (hn : n ≤ w.heap.size) (hg : A.grownBy A' row) (hr : ∀ r, row = some r → B ≤ r ∧ ∃ o : Obj, A.heap[r]? = some o ∧ o.isCells = false) : Below n w A' :=
  ⟨hg.os.trans h.os, hg.tape.trans h.tape, hg.output.trans h.output, Nat.le_trans h.size hg.size, fun k hk => (hg.block k (by have := h.size; omega) (fun e => by have := (hr k e.symm).1; omega)).trans (h.block k hk)⟩
set_option maxRecDepth 100000 in
set_option maxHeartbeats 6400000 in
theorem mvpack_any {F : Nat → Prop} {w : World} {p b N : Nat} {f : Int → Rec} {ks : List Int} (h : PS F w p b N f ks) (hks : ks.length ≤ 256) (hI : ∀ k ∈ ks, OkC (core (f k))) :
    Calls Tryz.prog 13 #[.pointer (some ⟨p, 0, none⟩)] w (PackPost w (encW ((sortI ks).map fun k => core (f k)))) := by
  obtain ⟨KS, hKS⟩ : ∃ KS, sortI ks = KS := ⟨_, rfl⟩
  have hmem : ∀ x, x ∈ KS → x ∈ ks := fun x hx => (List.mem_mergeSort).1 (show x ∈ sortI ks by rw [hKS]; exact hx)
  have hlen : KS.length = ks.length := by rw [← hKS, sortI_len]
  have hokl : ∀ x ∈ KS.map (fun k => core (f k)), OkC x := fun x hx => by
    obtain ⟨k, hk, rfl⟩ := List.mem_map.1 hx
    exact hI k (hmem k hk)
  obtain ⟨C, hC⟩ : ∃ C, encW (KS.map fun k => core (f k)) = C := ⟨_, rfl⟩
  have hfit : putsW (put (some []) (numCell (ks.length : Int))) (KS.map fun k => core (f k)) = some C := by
    have h1 := encW_len _ hokl
    rw [List.length_map, hlen] at h1
    have h2 : encW (KS.map fun k => core (f k)) = numCell (ks.length : Int) ++ waysC (KS.map fun k => core (f k)) := by unfold encW; rw [List.length_map, hlen]
    rw [h2, List.length_append] at h1
    rw [put_fits _ _ (by simp; omega), List.nil_append, putsW_fits _ _ (by omega), ← hC, h2]
  rw [hKS, hC]
  have HF := Lib.hid hfit
  replace hKS := Lib.hid hKS
  clear hfit hC hokl
  have hlt := h.lt
  refine (callsIn_wide (n := 9)).1 ?_
  refine callsIn_of_wp_marks Tryz.func13 rfl trivial ?_ rfl
  simp only [Tryz.ntmps13, List.size_toArray, List.length_cons, List.length_nil, Nat.reduceAdd, Nat.reduceSub, Array.replicate_succ, Array.replicate_zero, List.push_toArray, List.append_toArray, List.nil_append, List.cons_append]
  gi_wp2_with (first
    | (refine ⟨trivial, ?_⟩; gi_at_call 31; refine (callsIn_wide.2 (new_any w)).mono ?_; rintro e w1 ⟨rfl, hm1, hx1⟩)
    | (refine ⟨trivial, ?_⟩; gi_at_call 21; refine (callsIn_wide.2 (mlen_any (h.below hx1))).mono ?_; rintro e w2 ⟨rfl, rfl⟩)
    | (refine ⟨trivial, ?_⟩; gi_at_call 32; refine (callsIn_wide.2 (mnum_any w.heap.size _ _ _ (ks.length : Int) _ hm1 (by omega) (by omega))).mono ?_; rintro e w3 ⟨v3, rfl, hm3, hk3, hf3⟩;
       (have hb3 := hx1.trans (hk3.below (B := w.heap.size) hx1.size (fun i hi e => by have := (hm1.foot i e).1; omega)));
       (have hb4 := hb3.alloc hb3.size (.cells #[.pointer (some ⟨w.heap.size, 0, none⟩)] 69)))
    | (refine ⟨trivial, ?_⟩; gi_at_call 33; refine (callsIn_wide.2 (prising_any (h.below hb4))).mono ?_; rintro e w5 ⟨W, D, rfl, rfl, hmD, hD, hbW⟩))
  obtain ⟨g, hg⟩ : ∃ g, w.heap.size = g := ⟨_, rfl⟩
  obtain ⟨bm, hbm⟩ : ∃ bm, w3.heap.size = bm := ⟨_, rfl⟩
  have hz4 : (w3.alloc (.cells #[.pointer (some ⟨w.heap.size, 0, none⟩)] 69)).heap.size = w3.heap.size + 1 := by simp
  rw [hz4] at hmD
  have hM4 := hm3.alloc_ (.cells #[.pointer (some ⟨w.heap.size, 0, none⟩)] 69)
  have hX4 := Blk.new w3 69 #[.pointer (some ⟨w.heap.size, 0, none⟩)]
  have hne4 : ¬ MF w.heap.size v3 w3.heap.size := fun e => by have := (hm3.foot _ e).2; omega
  generalize w3.alloc (.cells #[.pointer (some ⟨w.heap.size, 0, none⟩)] 69) = w4 at *
  have hzW := hbW.size
  have hM5 := (hM4.kept (Keep.of_below hbW) (fun i hi e => by have := (hM4.foot i hi).2; omega)).alloc_ (.cells #[.map (some (w3.heap.size + 1))] 107)
  have hX5 := (hX4.kept (Keep.of_below hbW) (by omega)).alloc (.cells #[.map (some (w3.heap.size + 1))] 107)
  have hb5 := (hb4.trans (hbW.mono hb4.size)).alloc (by have := hb4.size; omega) (.cells #[.map (some (w3.heap.size + 1))] 107)
  have hI5 := Blk.new W 107 #[.map (some (w3.heap.size + 1))]
  have hm5 := hmD.alloc (.cells #[.map (some (w3.heap.size + 1))] 107)
  have hz5 : (W.alloc (.cells #[.map (some (w3.heap.size + 1))] 107)).heap.size = W.heap.size + 1 := by simp
  have hgv := kmap_givesT YM (by unfold YM; decide) (by unfold YM; decide) (by unfold YM; decide) W.heap.size (w3.heap.size + 1) N D f ks (fun _ => False) (W.alloc (.cells #[.map (some (w3.heap.size + 1))] 107)) (fun k e => e.elim) hI5 hm5 hD (by omega) id id
  have hsrt : sortI (intKeys D) = sortI ks := hD.sorted
  rw [hsrt, hKS.out] at hgv
  obtain ⟨w5, hw5⟩ : ∃ w5, W.alloc (.cells #[.map (some (w3.heap.size + 1))] 107) = w5 := ⟨_, rfl⟩
  rw [hw5] at hM5 hX5 hb5 hz5 hgv ⊢
  rw [hg] at hM5 hX5 hne4 hlt hX4
  rw [hbm] at hX5 hne4 hX4
  have hX4b := hX4.lt
  clear hw5 hI5 hm5 hmD hD hsrt hbW hb4 hM4 hX4 hm3 hk3 hf3 hm1 hx1 hb3
  obtain ⟨st0, hst0⟩ : ∃ st0, put (some []) (numCell (ks.length : Int)) = st0 := ⟨_, rfl⟩
  rw [hst0] at hM5 HF
  clear hst0
  refine range_ownTB (Y := YM) (a := _) (w := w5) (w0 := w5) (gf := 77) (lb := #[.pointer (some ⟨W.heap.size, 0, none⟩)]) (by first | rfl | simp [go_sem]) (enters_of Tryz.func77 (by kernel_rfl) rfl) hgv (Below.refl _ _) (fun k e => e.elim) (fun _ => rfl)
    (fun pre W' => ∃ v', MK w.heap.size W' g v' (putsW st0 (pre.map fun k => core (f k))) ∧ ¬ MF g v' bm ∧ Blk W' bm 69 #[.pointer (some ⟨g, 0, none⟩)] ∧ Below w.heap.size w W')
    (fun c pre W' => False)
    (fun s X Y row h hg hr => h.elim fun v' h => ⟨v', h.1.row hg hr, h.2.1, blk_row h.2.2.1 hg hr, below_rowY h.2.2.2 hb5.size (Nat.le_refl _) hg hr⟩)
    (fun c s X Y row h hg hr => h)
    ⟨v3, by rw [hg]; exact hM5, hne4, hX5, hb5⟩ 59 (fun x => (f x).cs.toArray) ?round ?done ?stop
  case round =>
    apply Exists.intro
    constructor
    · rintro l' pre x W' K hpre hz ⟨v, hM, hne, hbx, hb⟩ hK
      obtain ⟨r, hr⟩ : ∃ r, f x = r := ⟨_, rfl⟩
      obtain ⟨rm, rf, rt, ⟨A0, n0, c0, l0⟩, rc⟩ := r
      have hv : (f x).v = .agg #[.int .i64 rm, .int .i64 rf, .int .i64 rt, .slice A0 n0 c0, .bool rc] := by rw [hr]; rfl
      have hcs : (f x).cs.toArray = #[.int .i64 rm, .int .i64 rf, .int .i64 rt, .slice A0 n0 c0, .bool rc] := by rw [hr]; rfl
      rw [hv]
      rw [hcs] at hK
      have hz2 : w5.heap.size ≤ W'.heap.size := hz
      obtain ⟨Bx, hBx⟩ : ∃ Bx, Bx = W'.heap.size := ⟨_, rfl⟩
      have hK2 := hK Bx (W'.alloc (.cells #[.int .i64 rm, .int .i64 rf, .int .i64 rt, .slice A0 n0 c0, .bool rc] 59)) (((Keep.refl (fun _ => False) W').alloc _).kp (fun k _ h => h.elim)) ⟨v, hM.alloc_ _, hne, hbx.alloc _, hb.alloc hb.size _⟩ (by omega) (by rw [hBx]; exact Blk.new W' _ _)
      gi_wp2
      rw [← hBx, ← hv]
      exact hK2
    · rintro l' pre x Bx W' hpre hz ⟨v, hM, hne, hbx0, hbW⟩ hBx hB
      have hxks : x ∈ ks := hmem x (hpre.subset (by simp))
      have hrc := h.ok x hxks
      have hOK := hI x hxks
      have hr : core (f x) = core (f x) := rfl
      obtain ⟨r, hr2⟩ : ∃ r, f x = r := ⟨_, rfl⟩
      rw [hr2] at hrc hOK hB
      have hr3 : core (f x) = core r := by rw [hr2]
      clear hr
      have hr := Lib.hid hr3
      clear hr3 hr2
      obtain ⟨rm, rf, rt, ⟨A0, n0, c0, l0⟩, rc⟩ := r
      change Blk W' Bx 59 #[.int .i64 rm, .int .i64 rf, .int .i64 rt, .slice A0 n0 c0, .bool rc] at hB
      have hmay := hOK.may
      obtain ⟨n1, n2, n3, n4⟩ := hOK.nums
      dsimp only [core] at hmay n1 n2 n3
      clear n4 hOK
      have hil : IL w A0 n0 l0 := hrc.l_.il
      have hilt := hil.lt
      have h16 : l0.length ≤ 16 := hrc.l_.few
      have hn0 : l0.length = n0 := hil.len
      clear hrc
      have hnB : ¬ MF g v Bx := fun e => by
        obtain ⟨cs, t, h1, h2⟩ := hM.cellsY e
        rw [show W'.heap[Bx]? = _ from hB] at h1
        cases h1
        exact absurd h2 (by unfold YM; decide)
      have hmD := hM.drewY
      have hbxD := hbx0.drew
      have hbBD := hB.drew
      have hbD := hbW.drew
      have hneD := hne
      have hnBD := hnB
      have hKPd : KP YM (fun _ => False) W' W'.drew := (Keep.ofB (S := fun _ => False) (Below.refl W'.heap.size W').drew).kp (fun k hk h => h.elim)
      have hSB : ∀ W, Blk W bm 69 #[.pointer (some ⟨g, 0, none⟩)] → Blk W Bx 59 #[.int .i64 rm, .int .i64 rf, .int .i64 rt, .slice A0 n0 c0, .bool rc] → (fun W => W.cell? ⟨bm, 0, none⟩ = some (.pointer (some ⟨g, 0, none⟩)) ∧ W.cell? ⟨Bx, 0, none⟩ = some (.int .i64 rm) ∧ W.cell? ⟨Bx, 1, none⟩ = some (.int .i64 rf) ∧ W.cell? ⟨Bx, 2, none⟩ = some (.int .i64 rt) ∧ W.cell? ⟨Bx, 3, none⟩ = some (.slice A0 n0 c0) ∧ W.cell? ⟨Bx, 4, none⟩ = some (.bool rc)) W := fun W h1 h2 => ⟨h1.cell 0, h2.cell 0, h2.cell 1, h2.cell 2, h2.cell 3, h2.cell 4⟩
      clear hne hnB
      gi_wp2
      refine wpIn_region_round (S := (fun W => W.cell? ⟨bm, 0, none⟩ = some (.pointer (some ⟨g, 0, none⟩)) ∧ W.cell? ⟨Bx, 0, none⟩ = some (.int .i64 rm) ∧ W.cell? ⟨Bx, 1, none⟩ = some (.int .i64 rf) ∧ W.cell? ⟨Bx, 2, none⟩ = some (.int .i64 rt) ∧ W.cell? ⟨Bx, 3, none⟩ = some (.slice A0 n0 c0) ∧ W.cell? ⟨Bx, 4, none⟩ = some (.bool rc))) (by kernel_rfl) (by kernel_rfl) (by rintro ⟨a, w, h⟩; exact h) (hSB _ hbxD hbBD) (fun hHeld => ?_)
      clear hM hbx0 hB hbW
      generalize W'.drew = wz at *
      (refine tkI 0 (by (simp only [List.getElem?_toArray, List.getElem?_cons_succ, List.getElem?_cons_zero]; rfl)) (by kernel_rfl) (by kernel_rfl) (by kernel_rfl) (by exact fun _ _ _ h => h) (by rfl) (by (intro w hSw; (try dsimp only at hSw); go_simp <;> with_reducible rfl)) (by assumption) ?_; try simp only [Act.put, List.setIfInBounds_toArray, List.set_cons_zero, List.set_cons_succ])
      (refine tkI 1 (by (simp only [List.getElem?_toArray, List.getElem?_cons_succ, List.getElem?_cons_zero]; rfl)) (by kernel_rfl) (by kernel_rfl) (by kernel_rfl) (by exact fun _ _ _ h => h) (by rfl) (by (intro w hSw; (try dsimp only at hSw); go_simp <;> with_reducible rfl)) (by assumption) ?_; try simp only [Act.put, List.setIfInBounds_toArray, List.set_cons_zero, List.set_cons_succ])
      (refine tkI 2 (by (simp only [List.getElem?_toArray, List.getElem?_cons_succ, List.getElem?_cons_zero]; rfl)) (by kernel_rfl) (by kernel_rfl) (by kernel_rfl) (by exact fun _ _ _ h => h) (by rfl) (by (intro w hSw; (try dsimp only at hSw); go_simp <;> with_reducible rfl)) (by assumption) ?_; try simp only [Act.put, List.setIfInBounds_toArray, List.set_cons_zero, List.set_cons_succ])
      (refine tkI 4 (by (simp only [List.getElem?_toArray, List.getElem?_cons_succ, List.getElem?_cons_zero]; rfl)) (by kernel_rfl) (by kernel_rfl) (by kernel_rfl) (by exact fun _ _ _ h => h) (by rfl) (by (intro w hSw; (try dsimp only at hSw); go_simp <;> with_reducible rfl)) (by assumption) ?_; try simp only [Act.put, List.setIfInBounds_toArray, List.set_cons_zero, List.set_cons_succ])
      (refine tkI 5 (by (simp only [List.getElem?_toArray, List.getElem?_cons_succ, List.getElem?_cons_zero]; rfl)) (by kernel_rfl) (by kernel_rfl) (by kernel_rfl) (by exact fun _ _ _ h => h) (by rfl) (by (intro w hSw; (try dsimp only at hSw); go_simp <;> with_reducible rfl)) (by assumption) ?_; try simp only [Act.put, List.setIfInBounds_toArray, List.set_cons_zero, List.set_cons_succ])
      (refine tkI 7 (by (simp only [List.getElem?_toArray, List.getElem?_cons_succ, List.getElem?_cons_zero]; rfl)) (by kernel_rfl) (by kernel_rfl) (by kernel_rfl) (by exact fun _ _ _ h => h) (by rfl) (by (intro w hSw; (try dsimp only at hSw); go_simp <;> with_reducible rfl)) (by assumption) ?_; try simp only [Act.put, List.setIfInBounds_toArray, List.set_cons_zero, List.set_cons_succ])
      (refine tkI 8 (by (simp only [List.getElem?_toArray, List.getElem?_cons_succ, List.getElem?_cons_zero]; rfl)) (by kernel_rfl) (by kernel_rfl) (by kernel_rfl) (by exact fun _ _ _ h => h) (by rfl) (by (intro w hSw; (try dsimp only at hSw); go_simp <;> with_reducible rfl)) (by assumption) ?_; try simp only [Act.put, List.setIfInBounds_toArray, List.set_cons_zero, List.set_cons_succ])
      (refine tkI 10 (by (simp only [List.getElem?_toArray, List.getElem?_cons_succ, List.getElem?_cons_zero]; rfl)) (by kernel_rfl) (by kernel_rfl) (by kernel_rfl) (by exact fun _ _ _ h => h) (by rfl) (by (intro w hSw; (try dsimp only at hSw); go_simp <;> with_reducible rfl)) (by assumption) ?_; try simp only [Act.put, List.setIfInBounds_toArray, List.set_cons_zero, List.set_cons_succ])
      (refine tkI 11 (by (simp only [List.getElem?_toArray, List.getElem?_cons_succ, List.getElem?_cons_zero]; rfl)) (by kernel_rfl) (by kernel_rfl) (by kernel_rfl) (by exact fun _ _ _ h => h) (by rfl) (by (intro w hSw; (try dsimp only at hSw); go_simp <;> with_reducible rfl)) (by assumption) ?_; try simp only [Act.put, List.setIfInBounds_toArray, List.set_cons_zero, List.set_cons_succ])
      (refine tkI 13 (by (simp only [List.getElem?_toArray, List.getElem?_cons_succ, List.getElem?_cons_zero]; rfl)) (by kernel_rfl) (by kernel_rfl) (by kernel_rfl) (by exact fun _ _ _ h => h) (by rfl) (by (intro w hSw; (try dsimp only at hSw); go_simp <;> with_reducible rfl)) (by assumption) ?_; try simp only [Act.put, List.setIfInBounds_toArray, List.set_cons_zero, List.set_cons_succ])
      (refine tkI 14 (by (simp only [List.getElem?_toArray, List.getElem?_cons_succ, List.getElem?_cons_zero]; rfl)) (by kernel_rfl) (by kernel_rfl) (by kernel_rfl) (by exact fun _ _ _ h => h) (by rfl) (by (intro w hSw; (try dsimp only at hSw); go_simp <;> with_reducible rfl)) (by assumption) ?_; try simp only [Act.put, List.setIfInBounds_toArray, List.set_cons_zero, List.set_cons_succ])
      refine wpAnyH_ready (rs := [3]) (by kernel_rfl) (by simp) ?_
      refine AllReadyH.cons (by (simp only [List.getElem?_toArray, List.getElem?_cons_succ, List.getElem?_cons_zero]; rfl)) (fun K hK => ?_) AllReadyH.nil
      go_simp
      refine (mnum_any w.heap.size g _ _ rm _ hmD (by omega) (by omega)).mono ?_
      rintro e w1 ⟨v1, rfl, hm1, hk1, hf1⟩
      have hb1 := hbD.trans (hk1.below (B := w.heap.size) hbD.size (fun i hi e => by have := (hmD.foot i e).1; omega))
      have hbx1 := hbxD.kept hk1 hneD
      have hbB1 := hbBD.kept hk1 hnBD
      have hne1 : ¬ MF g v1 bm := fun e => by
        have := hbxD.lt
        rcases hf1 _ e with e | e
        · exact hneD e
        · omega
      have hnB1 : ¬ MF g v1 Bx := fun e => by
        have := hbBD.lt
        rcases hf1 _ e with e | e
        · exact hnBD e
        · omega
      refine hK.out _ _ (hSB _ hbx1 hbB1) (fun hHeld2 => ?_)
      clear hK K hHeld
      have hHeld := hHeld2
      clear hHeld2
      try simp only [Act.put, List.setIfInBounds_toArray, List.set_cons_zero, List.set_cons_succ]
      refine wpAnyH_ready (rs := [6]) (by kernel_rfl) (by simp) ?_
      refine AllReadyH.cons (by (simp only [List.getElem?_toArray, List.getElem?_cons_succ, List.getElem?_cons_zero]; rfl)) (fun K hK => ?_) AllReadyH.nil
      go_simp
      refine (mnum_any w.heap.size g _ _ rf _ hm1 (by omega) (by omega)).mono ?_
      rintro e w2 ⟨v2, rfl, hm2, hk2, hf2⟩
      have hb2 := hb1.trans (hk2.below (B := w.heap.size) hb1.size (fun i hi e => by have := (hm1.foot i e).1; omega))
      have hbx2 := hbx1.kept hk2 hne1
      have hbB2 := hbB1.kept hk2 hnB1
      have hne2 : ¬ MF g v2 bm := fun e => by
        have := hbx1.lt
        rcases hf2 _ e with e | e
        · exact hne1 e
        · omega
      have hnB2 : ¬ MF g v2 Bx := fun e => by
        have := hbB1.lt
        rcases hf2 _ e with e | e
        · exact hnB1 e
        · omega
      refine hK.out _ _ (hSB _ hbx2 hbB2) (fun hHeld2 => ?_)
      clear hK K hHeld
      have hHeld := hHeld2
      clear hHeld2
      try simp only [Act.put, List.setIfInBounds_toArray, List.set_cons_zero, List.set_cons_succ]
      refine wpAnyH_ready (rs := [9]) (by kernel_rfl) (by simp) ?_
      refine AllReadyH.cons (by (simp only [List.getElem?_toArray, List.getElem?_cons_succ, List.getElem?_cons_zero]; rfl)) (fun K hK => ?_) AllReadyH.nil
      go_simp
      refine (mnum_any w.heap.size g _ _ rt _ hm2 (by omega) (by omega)).mono ?_
      rintro e w3 ⟨v3, rfl, hm3, hk3, hf3⟩
      have hb3 := hb2.trans (hk3.below (B := w.heap.size) hb2.size (fun i hi e => by have := (hm2.foot i e).1; omega))
      have hbx3 := hbx2.kept hk3 hne2
      have hbB3 := hbB2.kept hk3 hnB2
      have hne3 : ¬ MF g v3 bm := fun e => by
        have := hbx2.lt
        rcases hf3 _ e with e | e
        · exact hne2 e
        · omega
      have hnB3 : ¬ MF g v3 Bx := fun e => by
        have := hbB2.lt
        rcases hf3 _ e with e | e
        · exact hnB2 e
        · omega
      refine hK.out _ _ (hSB _ hbx3 hbB3) (fun hHeld2 => ?_)
      clear hK K hHeld
      have hHeld := hHeld2
      clear hHeld2
      try simp only [Act.put, List.setIfInBounds_toArray, List.set_cons_zero, List.set_cons_succ]
      refine wpAnyH_ready (rs := [12]) (by kernel_rfl) (by simp) ?_
      refine AllReadyH.cons (by (simp only [List.getElem?_toArray, List.getElem?_cons_succ, List.getElem?_cons_zero]; rfl)) (fun K hK => ?_) AllReadyH.nil
      go_simp
      refine (iput_any w.heap.size g _ _ A0 n0 c0 l0 _ hm3 (hil.below hb3) (mayL_SI hmay) (by omega) (fun ad e hn e2 => by have h1 := hilt ad e hn; have h2 := (hm3.foot _ e2).1; omega)).mono ?_
      rintro e w4 ⟨v4, rfl, hm4, hk4, hf4⟩
      have hb4 := hb3.trans (hk4.below (B := w.heap.size) hb3.size (fun i hi e => by have := (hm3.foot i e).1; omega))
      have hbx4 := hbx3.kept hk4 hne3
      have hbB4 := hbB3.kept hk4 hnB3
      have hne4 : ¬ MF g v4 bm := fun e => by
        have := hbx3.lt
        rcases hf4 _ e with e | e
        · exact hne3 e
        · omega
      have hnB4 : ¬ MF g v4 Bx := fun e => by
        have := hbB3.lt
        rcases hf4 _ e with e | e
        · exact hnB3 e
        · omega
      refine hK.out _ _ (hSB _ hbx4 hbB4) (fun hHeld2 => ?_)
      clear hK K hHeld
      have hHeld := hHeld2
      clear hHeld2
      try simp only [Act.put, List.setIfInBounds_toArray, List.set_cons_zero, List.set_cons_succ]
      refine wpAnyH_ready (rs := [15]) (by kernel_rfl) (by simp) ?_
      refine AllReadyH.cons (by (simp only [List.getElem?_toArray, List.getElem?_cons_succ, List.getElem?_cons_zero]; rfl)) (fun K hK => ?_) AllReadyH.nil
      go_simp
      refine (mflag_any w.heap.size g _ _ rc _ hm4).mono ?_
      rintro e w5 ⟨v5, rfl, hm5, hk5, hf5⟩
      have hb5 := hb4.trans (hk5.below (B := w.heap.size) hb4.size (fun i hi e => by have := (hm4.foot i e).1; omega))
      have hbx5 := hbx4.kept hk5 hne4
      have hbB5 := hbB4.kept hk5 hnB4
      have hne5 : ¬ MF g v5 bm := fun e => by
        have := hbx4.lt
        rcases hf5 _ e with e | e
        · exact hne4 e
        · omega
      have hnB5 : ¬ MF g v5 Bx := fun e => by
        have := hbB4.lt
        rcases hf5 _ e with e | e
        · exact hnB4 e
        · omega
      refine hK.out _ _ (hSB _ hbx5 hbB5) (fun hHeld2 => ?_)
      clear hK K hHeld
      have hHeld := hHeld2
      clear hHeld2
      try simp only [Act.put, List.setIfInBounds_toArray, List.set_cons_zero, List.set_cons_succ]
      refine wpAnyH_done (by kernel_rfl) ?_ _
      gi_wp2
      exact ⟨((((hKPd.trans (hmD.kpY hk1) (fun _ _ h => h)).trans (hm1.kpY hk2) (fun _ _ h => h)).trans (hm2.kpY hk3) (fun _ _ h => h)).trans (hm3.kpY hk4) (fun _ _ h => h)).trans (hm4.kpY hk5) (fun _ _ h => h), v5, by rw [List.map_append, List.map_singleton, putsW_snoc, hr.out]; exact hm5, hne5, hbx5, hb5⟩
  case done =>
    rintro E W' hE ⟨v, hM, hne, hbx, hb⟩ hDf
    have q0 := hbx.cell 0
    simp at q0
    rw [HF.out] at hM
    have hbz := hb.size
    gi_wp2_with (refine ⟨trivial, ?_⟩; gi_at_call 36; refine (callsIn_wide.2 (mdone_any w.heap.size g v _ W' hM)).mono ?_; rintro e W4 ⟨hb4, A4, c4, rfl, h41, h42, h43, h44⟩; (have hDE := (hb4.block E (Array.getElem?_eq_some_iff.1 hDf).1).trans hDf))
    have hbE := hb.trans (hb4.mono hbz)
    have h5E := hb5.size
    refine ⟨by simp, .inl ⟨_, _, rfl, run_takeDeferred hDE, ?_⟩⟩
    exact ⟨_, results_tmp rfl _ _ _, A4, c4, rfl, h41, h42, h43.putD hDE, bel_putD hbE (by omega) hDE, fun ad e => by have := (h44 ad e).1; omega⟩
  case stop =>
    rintro E c pre W' hE hpre hno hDf
    exact hno.elim
end
section
open Go.RowKit Go.Maps Go.Shelf
set_option linter.unusedVariables false
set_option linter.unusedSimpArgs false

theorem tnum_len (st : Option (List UInt8)) (a b : Int) : ((tnum st a b).2.getD []).length ≤ (st.getD []).length := by
  cases hf : first (st.getD []) with
  | none => rw [pt_none_first st a b hf]; simp
  | some p =>
    obtain ⟨z, k⟩ := p
    rw [pt_some_first a b hf]
    split
    · simp
    · simp
theorem ttext_len (st : Option (List UInt8)) (b : Int) : ((ttext st b).2.getD []).length ≤ (st.getD []).length := by
  cases hf : ft (st.getD []) with
  | none => rw [pt_none_ft st b hf]; simp
  | some p =>
    obtain ⟨k, m⟩ := p
    rw [pt_some_ft b hf]
    split
    · simp
    · simp
theorem PT.lt {w : World} {g : Nat} {A : Option Addr} {c : Nat} {st : Option (List UInt8)} (h : PT w g A c st) : 0 < (st.getD []).length → ∀ ad, A = some ad → ad.block < w.heap.size := fun hp ad ha => h.rd.addr_lt ha hp
/-- Where a taker's bytes lie: in old memory. -/
def OldA (B : Nat) (A : Option Addr) (st : Option (List UInt8)) : Prop := 0 < (st.getD []).length → ∀ ad, A = some ad → ad.block < B
theorem OldA.next {B : Nat} {A A' : Option Addr} {st st' : Option (List UInt8)} (h : OldA B A st) (hs : SameBlock A A') (hl : (st'.getD []).length ≤ (st.getD []).length) : OldA B A' st' := fun hp ad ha => by
  obtain ⟨a0, h0, e⟩ := hs ad ha
  rw [e]
  exact h (by omega) a0 h0
theorem PT.keep {S : Nat → Prop} {w w' : World} {g : Nat} {A : Option Addr} {c : Nat} {st : Option (List UInt8)} {B : Nat} (h : PT w g A c st) (ho : OldA B A st) (k : Keep S w w') (hg : ¬ S g) (hS : ∀ i, i < B → ¬ S i) : PT w' g A c st :=
  ⟨h.blk.kept k hg, h.rd.kept' k fun hp ad ha => hS _ (ho hp ad ha), h.cap, h.apart⟩

def TakePost (w : World) (g : Nat) (A : Option Addr) (st : Option (List UInt8)) (l : List It) (e : Ending) (w' : World) : Prop :=
  ∃ v A' c', e = .returned v ∧ OI w.heap.size w' v l ∧ PT w' g A' c' st ∧ Keep (fun k => k = g) w w' ∧ SameBlock A A'

theorem tnum_refuse (st : Option (List UInt8)) : (tnum st 1 0).2 = none := by
  cases hf : first (st.getD []) with
  | none => rw [pt_none_first st 1 0 hf]
  | some p =>
    obtain ⟨z, k⟩ := p
    rw [pt_some_first 1 0 hf, if_pos (by omega)]
theorem refuse_any (w : World) (g : Nat) (A : Option Addr) (c : Nat) (st : Option (List UInt8)) (h : PT w g A c st) :
    Calls Tryz.prog 81 #[.pointer (some ⟨g, 0, none⟩)] w (TPost w g A none (.tuple #[])) := by
  go_enter Tryz.func81, Tryz.ntmps81
  go_wp2_with fail
  refine (tnum_any w g A c st 1 0 h).mono ?_
  rintro e w1 ⟨A', c', rfl, r1, r2, r3⟩
  rw [tnum_refuse] at r1
  go_wp2
  go_end0
  exact ⟨A', c', rfl, r1, r2, r3⟩

theorem strV_eq (l : List UInt8) : strV l = .string ⟨l.toArray⟩ := rfl

set_option maxRecDepth 100000 in
set_option maxHeartbeats 1600000 in
theorem itake_any (w : World) (g : Nat) (A : Option Addr) (c : Nat) (st : Option (List UInt8)) (h : PT w g A c st) :
    Calls Tryz.prog 64 #[.pointer (some ⟨g, 0, none⟩)] w (TakePost w g A (takeL st).2 (takeL st).1) := by
  have hgw := h.blk.lt
  have hold : OldA w.heap.size A st := h.lt
  obtain ⟨hb0, hb1⟩ := takeN_bound st
  obtain ⟨N, hN⟩ := Int.eq_ofNat_of_zero_le hb0
  obtain ⟨st1, hst1⟩ : ∃ s, (takeN st).2 = s := ⟨_, rfl⟩
  have key := tnum_any w g A c st 0 16 h
  rw [show tnum st 0 16 = ((N : Int), st1) from Prod.ext hN hst1] at key
  have hlen1 : (st1.getD []).length ≤ (st.getD []).length := by rw [← hst1]; exact tnum_len st 0 16
  have hR : takeR st = itIter st1 N := by unfold takeR; rw [hst1, hN]; rfl
  have hL : takeL st = if mayL (itIter st1 N).1 then itIter st1 N else ([], none) := by unfold takeL; rw [hR]
  have hN16 : N ≤ 16 := by omega
  have HL := Lib.hid hL
  have KEY := Lib.hid key
  clear key hL hR hst1 hN hb0 hb1
  go_enter Tryz.func64, Tryz.ntmps64
  go_wp2_with fail
  refine KEY.out.mono ?_
  rintro e w1 ⟨A1, c1, rfl, h1, hk1, hs1⟩
  have ho1 := hold.next hs1 hlen1
  clear KEY
  go_wp2_with fail
  go_loopw [3, 7] (fun v i wr => ∃ (k : Nat) (A' : Option Addr) (c' : Nat), i = .int .i64 (k : Int) ∧ k ≤ N ∧ OI w.heap.size wr v (itIter st1 k).1 ∧ PT wr g A' c' (itIter st1 k).2 ∧ OldA w.heap.size A' (itIter st1 k).2 ∧ Keep (fun k => k = g) w wr ∧ SameBlock A A') (fun v i _ => N - (intOf i).toNat)
  case atStart => exact ⟨0, A1, c1, by go_num, by omega, OI.nil _ _, h1, ho1, hk1, hs1⟩
  case round =>
    obtain ⟨k, A2, c2, rfl, hk, hO, hP, ho2, hk2, hs2⟩ := hrel
    by_cases hlt : k < N
    · have hlz : (k : Int) < (N : Int) := by omega
      obtain ⟨l2, st2, hp2⟩ : ∃ l s, itIter st1 k = (l, s) := ⟨_, _, rfl⟩
      have hl2 : l2.length = k := by have := itIter_len st1 k; rw [hp2] at this; exact this
      rw [hp2] at hO hP ho2
      dsimp only at hO hP ho2
      obtain ⟨s, st3, hT⟩ : ∃ s t, ttext st2 16 = (s, t) := ⟨_, _, rfl⟩
      obtain ⟨q, st4, hQ⟩ : ∃ s t, tnum st3 1 1099511627776 = (s, t) := ⟨_, _, rfl⟩
      have hI : itIter st1 (k + 1) = (l2 ++ [(s, q)], st4) := by rw [itIter, hp2, itStep, hT]; simp only []; rw [hQ]
      have key2 := ttext_any wr g A2 c2 st2 16 hP
      rw [hT] at key2
      have hlen3 : (st3.getD []).length ≤ (st2.getD []).length := by have := ttext_len st2 16; rw [hT] at this; exact this
      have hlen4 : (st4.getD []).length ≤ (st3.getD []).length := by have := tnum_len st3 1 1099511627776; rw [hQ] at this; exact this
      have HI := Lib.hid hI
      have HQ := Lib.hid hQ
      clear hI hT hp2 hQ
      have hz2 := hk2.size
      go_wp2_with fail
      refine key2.mono ?_
      rintro e w3 ⟨A3, c3, rfl, h3, hk3, hs3⟩
      have hO3 := hO.kept hk3 fun gg hg e => by have := (hO.lt gg hg).1; omega
      have ho3 := ho2.next hs3 hlen3
      have key3 := tnum_any w3 g A3 c3 st3 1 1099511627776 h3
      rw [HQ.out] at key3
      rw [strV_eq]
      clear key2
      go_wp2_with fail
      refine key3.mono ?_
      rintro e w4 ⟨A4, c4, rfl, h4, hk4, hs4⟩
      have hO4 := hO3.kept hk4 fun gg hg e => by have := (hO3.lt gg hg).1; omega
      have ho4 := ho3.next hs4 hlen4
      have hk24 := (hk2.trans hk3 fun i hi e => e).trans hk4 fun i hi e => e
      have hs24 := (hs2.trans hs3).trans hs4
      have hz4 := hk24.size
      clear key3 hO hO3 hP h3
      go_wp2_with (at_builtin; refine wpAppI rfl _ _ rfl w.heap.size _ _ rfl (hO4.alloc _) _ 1 1 [(s, q)] rfl (IL.one w4 s q _) (fun h => by cases h) (by omega) (by simp; omega) ?_; rintro v' w5 hO5 hk5 hl5)
      go_roundw
      case rel =>
        have hv : ∀ i, i < w.heap.size → ¬ u3.ownBlock = some i := fun i hi e => by have := (hO4.lt i e).1; omega
        have hk45 : Keep (fun i => u3.ownBlock = some i) w4 w5 := ((Keep.refl (fun i => u3.ownBlock = some i) w4).alloc _).trans hk5 fun _ _ e => e
        refine ⟨k + 1, A4, c4, by go_num, by omega, ?_, ?_, ?_, hk24.trans hk45 fun i hi e => absurd e (hv i hi), hs24⟩
        · rw [HI.out]; exact hO5
        · rw [HI.out]; exact h4.keep ho4 hk45 (hv g hgw) hv
        · rw [HI.out]; exact ho4
      case measure => simp [intOf]; omega
    · have hlz : ¬ (k : Int) < (N : Int) := by omega
      have hkN : k = N := by omega
      subst hkN
      have hl2 := itIter_len st1 k
      obtain ⟨l2, st2, hp2⟩ : ∃ l s, itIter st1 k = (l, s) := ⟨_, _, rfl⟩
      rw [hp2] at hO hP ho2 HL hl2
      dsimp only at hO hP ho2 HL hl2
      obtain ⟨A5, c5, rfl, _, _, hi5, hAd⟩ := hO.form
      rw [hl2] at hi5 hO
      rw [hl2]
      have hz2 := hk2.size
      cases hm : mayL l2 with
      | true =>
        go_wp2_with fail
        refine (mayI_any A5 k c5 l2 wr hi5 (by omega)).mono ?_
        rintro e w6 ⟨rfl, hb6⟩
        rw [hm]
        go_wp2
        go_ret
        have HL' := HL.out
        rw [hm, if_pos rfl] at HL'
        rw [HL']
        have hk6 := Keep.of_below' (S := fun i => i = g) hb6
        refine ⟨_, A2, c2, rfl, hO.below hb6, TK.below hP hb6, hk2.trans hk6 fun _ _ e => e, hs2⟩
      | false =>
        go_wp2_with fail
        refine (mayI_any A5 k c5 l2 wr hi5 (by omega)).mono ?_
        rintro e w6 ⟨rfl, hb6⟩
        rw [hm]
        go_wp2_with fail
        refine (refuse_any w6 g A2 c2 st2 (TK.below hP hb6)).mono ?_
        rintro e w7 ⟨A7, c7, rfl, h7, hk7, hs7⟩
        go_wp2
        go_ret
        have HL' := HL.out
        rw [hm, if_neg (by decide)] at HL'
        rw [HL']
        have hk6 := Keep.of_below' (S := fun i => i = g) hb6
        exact ⟨_, A7, c7, rfl, OI.nil _ _, h7, (hk2.trans hk6 fun _ _ e => e).trans hk7 fun _ _ e => e, hs2.trans hs7⟩
end
section
open Go.RowKit Go.Maps Go.Shelf Go.Sort
set_option linter.unusedVariables false
set_option linter.unusedSimpArgs false

theorem PT.allocY {w : World} {g : Nat} {A : Option Addr} {c : Nat} {st : Option (List UInt8)} (h : PT w g A c st) (o : Obj) : PT (w.alloc o) g A c st :=
  ⟨h.blk.alloc o, h.rd.alloc o, h.cap, h.apart⟩
theorem PT.drewY {w : World} {g : Nat} {A : Option Addr} {c : Nat} {st : Option (List UInt8)} (h : PT w g A c st) : PT w.drew g A c st := ⟨h.blk, h.rd, h.cap, h.apart⟩
theorem takeL_len (st : Option (List UInt8)) : ((takeL st).2.getD []).length ≤ (st.getD []).length := by
  cases hd : takeL st with
  | mk l s =>
    cases s with
    | none => simp
    | some r =>
      obtain ⟨_, rfl⟩ := takeL_some hd
      simp
theorem takeL_may (st : Option (List UInt8)) : mayL (takeL st).1 = true := by
  unfold takeL
  split
  · assumption
  · decide
theorem tnum_rng {st : Option (List UInt8)} {a b : Int} (h : 0 ≤ a) (h0 : 0 ≤ b) : 0 ≤ (tnum st a b).1 ∧ (tnum st a b).1 ≤ b := by
  cases ht : tnum st a b with
  | mk n s =>
    cases s with
    | none =>
      have := tnum_bad (st := st) (a := a) (b := b) (by rw [ht])
      rw [ht] at this
      dsimp only at this ⊢
      omega
    | some r =>
      obtain ⟨_, h1, h2, _, _⟩ := num_taken ht
      dsimp only
      omega
theorem takeW_rng {st : Option (List UInt8)} {lo : Int} (h : 0 ≤ lo) : (0 ≤ (takeW st lo).1.1 ∧ (takeW st lo).1.1 ≤ 1099511627776) ∧ (0 ≤ (takeW st lo).1.2.1 ∧ (takeW st lo).1.2.1 ≤ 7) ∧ (0 ≤ (takeW st lo).1.2.2.1 ∧ (takeW st lo).1.2.2.1 ≤ 7) ∧ mayL (takeW st lo).1.2.2.2.1 = true :=
  ⟨tnum_rng h (by decide), tnum_rng (by decide) (by decide), tnum_rng (by decide) (by decide), takeL_may _⟩
theorem takeW_low {st : Option (List UInt8)} {lo : Int} (h : (takeW st lo).1.2.1 ≠ (takeW st lo).1.2.2.1) : lo ≤ (takeW st lo).1.1 := by
  unfold takeW at h ⊢
  cases ht : tnum st lo 1099511627776 with
  | mk n s =>
    rw [ht] at h
    cases s with
    | none => exact absurd rfl h
    | some r => exact (num_taken ht).2.1
/-- What take answers. -/
def TakeWP (w : World) (g : Nat) (A : Option Addr) (x : WC) (st : Option (List UInt8)) (e : Ending) (w' : World) : Prop :=
  ∃ A' c' Al cl, e = .returned (.agg #[.int .i64 x.1, .int .i64 x.2.1, .int .i64 x.2.2.1, .slice Al x.2.2.2.1.length cl, .bool x.2.2.2.2]) ∧ OI w.heap.size w' (.slice Al x.2.2.2.1.length cl) x.2.2.2.1 ∧ PT w' g A' c' st ∧ Keep (fun k => k = g) w w' ∧ SameBlock A A'
set_option maxRecDepth 100000 in
set_option maxHeartbeats 6400000 in
theorem wtake_any (g : Nat) (w : World) (A0 : Option Addr) (c0 : Nat) (s0 : Option (List UInt8)) (lo : Int) (h : PT w g A0 c0 s0) :
    Calls Tryz.prog 39 #[.pointer (some ⟨g, 0, none⟩), .int .i64 lo] w (TakeWP w g A0 (takeW s0 lo).1 (takeW s0 lo).2) := by
  unfold takeW
  obtain ⟨a, sa, ha⟩ : ∃ a s, tnum s0 lo 1099511627776 = (a, s) := ⟨_, _, rfl⟩
  obtain ⟨b, sb, hb⟩ : ∃ a s, tnum sa 0 7 = (a, s) := ⟨_, _, rfl⟩
  obtain ⟨c, sc, hc⟩ : ∃ a s, tnum sb 0 7 = (a, s) := ⟨_, _, rfl⟩
  obtain ⟨d, sd, hd⟩ : ∃ a s, takeL sc = (a, s) := ⟨_, _, rfl⟩
  obtain ⟨e, se, he⟩ : ∃ a s, tnum sd 0 1 = (a, s) := ⟨_, _, rfl⟩
  rw [ha]
  dsimp only
  rw [hb]
  dsimp only
  rw [hc]
  dsimp only
  rw [hd]
  dsimp only
  rw [he]
  dsimp only
  have la : (sa.getD []).length ≤ (s0.getD []).length := by have := tnum_len s0 lo 1099511627776; rw [ha] at this; exact this
  have lb : (sb.getD []).length ≤ (sa.getD []).length := by have := tnum_len sa 0 7; rw [hb] at this; exact this
  have lc : (sc.getD []).length ≤ (sb.getD []).length := by have := tnum_len sb 0 7; rw [hc] at this; exact this
  have ld : (sd.getD []).length ≤ (sc.getD []).length := by have := takeL_len sc; rw [hd] at this; exact this
  have hgl := h.blk.lt
  have hO0 : OldA w.heap.size A0 s0 := h.lt
  have hT0 := h.allocY (.cells #[.int .i64 0, .int .i64 0, .int .i64 0, .slice none 0 0, .bool false] 59)
  have hR0 := Blk.new w 59 #[.int .i64 0, .int .i64 0, .int .i64 0, .slice none 0 0, .bool false]
  have hK0 := (Keep.refl (fun k => k = g) w).alloc (.cells #[.int .i64 0, .int .i64 0, .int .i64 0, .slice none 0 0, .bool false] 59)
  have hz0 : (w.alloc (.cells #[.int .i64 0, .int .i64 0, .int .i64 0, .slice none 0 0, .bool false] 59)).heap.size = w.heap.size + 1 := by simp
  have n1 := tnum_any _ g A0 c0 s0 lo 1099511627776 hT0
  rw [ha] at n1
  replace n1 := Lib.hid n1
  replace hb := Lib.hid hb
  replace hc := Lib.hid hc
  replace hd := Lib.hid hd
  replace he := Lib.hid he
  clear ha hT0
  go_enter Tryz.func39, Tryz.ntmps39
  go_wp2_with fail
  refine n1.out.mono ?_
  rintro e9 W1 ⟨A1, c1, rfl, hT1, hk1, hs1⟩
  have hO1 := hO0.next hs1 la
  have hR1 := (hR0.kept hk1 (by omega)).alloc (.cells #[.int .i64 a, .int .i64 0, .int .i64 0, .slice none 0 0, .bool false] 59)
  have hX1 := Blk.new W1 59 #[.int .i64 a, .int .i64 0, .int .i64 0, .slice none 0 0, .bool false]
  have hK1 := (hK0.trans hk1 (fun _ _ e => e)).alloc (.cells #[.int .i64 a, .int .i64 0, .int .i64 0, .slice none 0 0, .bool false] 59)
  have hzw := hk1.size
  rw [hz0] at hzw
  have hT1a := hT1.allocY (.cells #[.int .i64 a, .int .i64 0, .int .i64 0, .slice none 0 0, .bool false] 59)
  have n2 := tnum_any _ g A1 c1 sa 0 7 hT1a
  rw [hb.out] at n2
  replace n2 := Lib.hid n2
  clear n1 hT1a hT1 hk1 hR0 hK0 hz0
  go_wp2_with fail
  refine n2.out.mono ?_
  rintro e9 W2 ⟨A2, c2, rfl, hT2, hk2, hs2⟩
  have hO2 := hO1.next hs2 lb
  have hR2 := hR1.kept hk2 (by omega)
  have hX2 := hX1.kept hk2 (by omega)
  have hK2 := hK1.trans hk2 (fun _ _ e => e)
  have n3 := tnum_any _ g A2 c2 sb 0 7 hT2
  rw [hc.out] at n3
  replace n3 := Lib.hid n3
  clear n2 hT2 hk2 hR1 hX1 hK1
  go_wp2_with fail
  refine n3.out.mono ?_
  rintro e9 W3 ⟨A3, c3, rfl, hT3, hk3, hs3⟩
  have hO3 := hO2.next hs3 lc
  have hR3 := hR2.kept hk3 (by omega)
  have hX3 := hX2.kept hk3 (by omega)
  have hK3 := hK2.trans hk3 (fun _ _ e => e)
  have x0 := hX3.cell 0
  have x1 := hX3.cell 1
  have x2 := hX3.cell 2
  have x3 := hX3.cell 3
  have x4 := hX3.cell 4
  simp only [List.getElem?_toArray, List.getElem?_cons_succ, List.getElem?_cons_zero] at x0 x1 x2 x3 x4
  have hf := fun i => hX3.frozen i
  have hl := hX3.lt
  clear n3 hk3 hR2 hX2 hK2
  go_wp2_with fail
  clear x0 x1 x2 x3 x4 hf
  have kX : Keep (fun k => k = W1.heap.size) W3 ((W3.setCell ⟨W1.heap.size, 1, none⟩ (.int .i64 b)).setCell ⟨W1.heap.size, 2, none⟩ (.int .i64 c)) := (((Keep.refl (fun k => k = W1.heap.size) W3).setCell (p := ⟨W1.heap.size, 1, none⟩) (fun _ => rfl) _).setCell (p := ⟨W1.heap.size, 2, none⟩) (fun _ => rfl) _)
  have hX4 : Blk ((W3.setCell ⟨W1.heap.size, 1, none⟩ (.int .i64 b)).setCell ⟨W1.heap.size, 2, none⟩ (.int .i64 c)) W1.heap.size 59 #[.int .i64 a, .int .i64 b, .int .i64 c, .slice none 0 0, .bool false] := by simpa using (hX3.set_ 1 (.int .i64 b)).set_ 2 (.int .i64 c)
  obtain ⟨V, hV⟩ : ∃ V, (W3.setCell ⟨W1.heap.size, 1, none⟩ (.int .i64 b)).setCell ⟨W1.heap.size, 2, none⟩ (.int .i64 c) = V := ⟨_, rfl⟩
  rw [hV] at kX hX4 ⊢
  have hR4 := hR3.kept kX (by omega)
  have hT4 : PT V g A3 c3 sc := hT3.keep hO3 kX (by omega) (fun i hi e => by omega)
  have hK4 := hK3.trans kX (fun i hi e => by omega)
  have hzV := hK4.size
  have hVl := hX4.lt
  have n4 := itake_any V g A3 c3 sc hT4
  rw [hd.out] at n4
  replace n4 := Lib.hid n4
  clear hV hX3 hR3 hT3 hK3 kX hT4
  refine n4.out.mono ?_
  rintro e9 W5 ⟨v5, A5, c5, rfl, hL5, hT5, hk5, hs5⟩
  have hO5 := hO3.next hs5 ld
  have hR5 := hR4.kept hk5 (by omega)
  have hX5 := hX4.kept hk5 (by omega)
  have hK5 := hK4.trans hk5 (fun _ _ e => e)
  obtain ⟨Al, cl, rfl, hcl1, hcl2, hil5, hal5⟩ := hL5.form
  have hzV5 := hk5.size
  have n5 := tflag_any W5 g A5 c5 sd hT5
  rw [he.out] at n5
  replace n5 := Lib.hid n5
  clear n4 hk5 hR4 hX4 hK4 hil5
  go_wp2_with fail
  refine n5.out.mono ?_
  rintro e9 W6 ⟨A6, c6, rfl, hT6, hk6, hs6⟩
  have hO6 : OldA w.heap.size A6 se := hO5.next hs6 (by have := tnum_len sd 0 1; rw [he.out] at this; exact this)
  have hL6 := hL5.kept hk6 (fun gg hg e => by have := (hL5.lt gg hg).1; omega)
  have hR6 := hR5.kept hk6 (by omega)
  have hX6 := hX5.kept hk6 (by omega)
  have hK6 := hK5.trans hk6 (fun _ _ e => e)
  have x0 := hX6.cell 0
  have x1 := hX6.cell 1
  have x2 := hX6.cell 2
  have x3 := hX6.cell 3
  have x4 := hX6.cell 4
  simp only [List.getElem?_toArray, List.getElem?_cons_succ, List.getElem?_cons_zero] at x0 x1 x2 x3 x4
  have hf := fun i => hX6.frozen i
  have hl6 := hX6.lt
  have y0 := hR6.cell 0
  have y1 := hR6.cell 1
  have y2 := hR6.cell 2
  have y3 := hR6.cell 3
  have y4 := hR6.cell 4
  simp only [List.getElem?_toArray, List.getElem?_cons_succ, List.getElem?_cons_zero] at y0 y1 y2 y3 y4
  have hg6 := fun i => hR6.frozen i
  have hlr := hR6.lt
  have hlv := fun g hg => (hL6.lt g hg).1
  clear n5 hk6 hR5 hX5 hK5 hL5 hT5
  go_wp2
  have kF : Keep (fun k => k = W1.heap.size ∨ k = w.heap.size) W6 (((((((W6.setCell ⟨W1.heap.size, 3, none⟩ (.slice Al d.length cl)).setCell ⟨W1.heap.size, 4, none⟩ (.bool (e == 1))).setCell ⟨w.heap.size, 0, none⟩ (.int .i64 a)).setCell ⟨w.heap.size, 1, none⟩ (.int .i64 b)).setCell ⟨w.heap.size, 2, none⟩ (.int .i64 c)).setCell ⟨w.heap.size, 3, none⟩ (.slice Al d.length cl)).setCell ⟨w.heap.size, 4, none⟩ (.bool (e == 1))) :=
    ((((((((Keep.refl _ W6).setCell (p := ⟨W1.heap.size, 3, none⟩) (fun _ => .inl rfl) _).setCell (p := ⟨W1.heap.size, 4, none⟩) (fun _ => .inl rfl) _).setCell (p := ⟨w.heap.size, 0, none⟩) (fun _ => .inr rfl) _).setCell (p := ⟨w.heap.size, 1, none⟩) (fun _ => .inr rfl) _).setCell (p := ⟨w.heap.size, 2, none⟩) (fun _ => .inr rfl) _).setCell (p := ⟨w.heap.size, 3, none⟩) (fun _ => .inr rfl) _).setCell (p := ⟨w.heap.size, 4, none⟩) (fun _ => .inr rfl) _)
  have kA : Keep (fun k => k = W1.heap.size) W6 ((W6.setCell ⟨W1.heap.size, 3, none⟩ (.slice Al d.length cl)).setCell ⟨W1.heap.size, 4, none⟩ (.bool (e == 1))) := (((Keep.refl (fun k => k = W1.heap.size) W6).setCell (p := ⟨W1.heap.size, 3, none⟩) (fun _ => rfl) _).setCell (p := ⟨W1.heap.size, 4, none⟩) (fun _ => rfl) _)
  have hRF := (((((hR6.kept kA (by omega)).set_ 0 (.int .i64 a)).set_ 1 (.int .i64 b)).set_ 2 (.int .i64 c)).set_ 3 (.slice Al d.length cl)).set_ 4 (.bool (e == 1))
  simp only [List.setIfInBounds_toArray, List.set_cons_zero, List.set_cons_succ] at hRF
  obtain ⟨WF, hWF⟩ : ∃ WF, ((((((W6.setCell ⟨W1.heap.size, 3, none⟩ (.slice Al d.length cl)).setCell ⟨W1.heap.size, 4, none⟩ (.bool (e == 1))).setCell ⟨w.heap.size, 0, none⟩ (.int .i64 a)).setCell ⟨w.heap.size, 1, none⟩ (.int .i64 b)).setCell ⟨w.heap.size, 2, none⟩ (.int .i64 c)).setCell ⟨w.heap.size, 3, none⟩ (.slice Al d.length cl)).setCell ⟨w.heap.size, 4, none⟩ (.bool (e == 1)) = WF := ⟨_, rfl⟩
  rw [hWF] at kF hRF ⊢
  clear hWF kA
  have z0 := hRF.cell 0
  have z1 := hRF.cell 1
  have z2 := hRF.cell 2
  have z3 := hRF.cell 3
  have z4 := hRF.cell 4
  simp only [List.getElem?_toArray, List.getElem?_cons_succ, List.getElem?_cons_zero] at z0 z1 z2 z3 z4
  refine bodyPost_ret (v := .agg #[.int .i64 a, .int .i64 b, .int .i64 c, .slice Al d.length cl, .bool (e == 1)]) (by simp [results, Tryz.results39, go_sem, z0, z1, z2, z3, z4]) rfl ⟨A6, c6, Al, cl, rfl, ?_, ?_, ?_, ?_⟩
  · exact (hL6.kept kF (fun gg hg e => by have := hlv gg hg; omega)).mono hzV
  · exact hT6.keep hO6 kF (by omega) (fun i hi e => by omega)
  · exact hK6.trans kF (fun i hi e => by omega)
  · exact ((((hs1.trans hs2).trans hs3).trans hs5).trans hs6)
end
section
open Go.RowKit Go.Maps Go.Shelf Go.Sort
set_option linter.unusedVariables false
set_option linter.unusedSimpArgs false

/-- What Unpack answers. -/
def UnpWP (w : World) (r : Option (List WC)) (e : Ending) (w' : World) : Prop :=
  Below w.heap.size w w' ∧ ((r = none ∧ e = .returned (.tuple #[.pointer none, .int .i64 10])) ∨
    ∃ l p b N f, r = some l ∧ e = .returned (.tuple #[.pointer (some ⟨p, 0, none⟩), .int .i64 0]) ∧ PS (fun k => w.heap.size ≤ k) w' p b N f (l.map fun x => x.1) ∧ N ≤ 256 ∧ (∀ x ∈ l, core (f x.1) = x) ∧ w.heap.size ≤ p ∧ w.heap.size ≤ b)
/-- What holds behind so many moves taken. -/
structure UpI (KB : Nat) (wr : World) (p b k : Nat) (f : Int → Rec) (acc : List WC) (last : Int) : Prop where
  ps : PS (fun i => KB ≤ i) wr p b k f (acc.map fun x => x.1)
  eq : ∀ x ∈ acc, core (f x.1) = x
  le : ∀ x ∈ acc, x.1 ≤ last
  lo : 0 ≤ last
  hi : last ≤ 1099511627776
theorem UpI.next {KB : Nat} {wr w' : World} {p b k : Nat} {f : Int → Rec} {acc : List WC} {last : Int} (h : UpI KB wr p b k f acc last) {r : Rec} (hl : last < r.m) (hh : r.m ≤ 1099511627776)
    (hp : PS (fun i => KB ≤ i) w' p b (k + 1) (fun i => if i = r.m then r else f i) (addK (acc.map fun x => x.1) r.m)) : UpI KB w' p b (k + 1) (fun i => if i = r.m then r else f i) (acc ++ [core r]) r.m := by
  have hn : r.m ∉ acc.map fun x => x.1 := fun e => by
    obtain ⟨x, hx, e⟩ := List.mem_map.1 e
    have := h.le x hx
    omega
  unfold addK at hp
  rw [if_neg hn] at hp
  refine ⟨?_, fun x hx => ?_, fun x hx => ?_, by have := h.lo; omega, hh⟩
  · rw [List.map_append]
    exact hp
  · rcases List.mem_append.1 hx with hx | hx
    · have := h.le x hx
      show core (if x.1 = r.m then r else f x.1) = x
      rw [if_neg (by omega)]
      exact h.eq x hx
    · rw [List.mem_singleton] at hx
      subst hx
      show core (if r.m = r.m then r else f r.m) = core r
      rw [if_pos rfl]
  · rcases List.mem_append.1 hx with hx | hx
    · have := h.le x hx
      omega
    · rw [List.mem_singleton] at hx
      subst hx
      exact Int.le_refl _
set_option maxRecDepth 100000 in
set_option maxHeartbeats 6400000 in
theorem wunpack_any (A : Option Addr) (n c : Nat) (l : List UInt8) (w : World) (hr : RB w A n l) (hn : n ≤ 140737488355328) :
    Calls Tryz.prog 14 #[.slice A n c] w (UnpWP w (decW l)) := by
  obtain ⟨r, hrd⟩ : ∃ r, decW l = r := ⟨_, rfl⟩
  have hdec : r = unpW (tnum (some l) 0 256).1.toNat 0 [] (tnum (some l) 0 256).2 := hrd.symm
  rw [hrd]
  clear hrd
  go_enter Tryz.func14, Tryz.ntmps14
  go_wp2_with fail
  refine (take_any A n c l w hr hn).mono ?_
  rintro e w1 ⟨g, A1, c1, rfl, hg1, hT1, hb1, hA1⟩
  have hO1 : OldA w1.heap.size A1 (some l) := hT1.lt
  have hgl := hT1.blk.lt
  go_wp2_with fail
  refine (pnew_any w1).mono ?_
  rintro e w2 ⟨p, b, rfl, hP2, hpw, hbw, hb2⟩
  obtain ⟨KB, hKB⟩ : ∃ KB, w1.heap.size = KB := ⟨_, rfl⟩
  rw [hKB] at hO1 hgl hP2 hpw hbw
  have hT2 : PT w2 g A1 c1 (some l) := hT1.keep (B := KB) hO1 (S := fun k => KB ≤ k) ((Keep.of_below hb2).mono fun i _ e => by omega) (by omega) (fun i hi e => by omega)
  have hbw2 := hb1.trans (hb2.mono hb1.size)
  have hKw : w.heap.size ≤ KB := by have := hb1.size; omega
  have htn := tnum_any w2 g A1 c1 (some l) 0 256 hT2
  have hrg := tnum_rng (st := some l) (a := 0) (b := 256) (by decide) (by decide)
  have hlen := tnum_len (some l) 0 256
  obtain ⟨st1, hst1⟩ : ∃ x, tnum (some l) 0 256 = x := ⟨_, rfl⟩
  rw [hst1] at hdec hrg htn hlen
  obtain ⟨nI, st1⟩ := st1
  dsimp only at hdec hrg htn hlen
  replace htn := Lib.hid htn
  clear hst1 hr hT1 hb1 hb2
  go_wp2_with fail
  refine htn.out.mono ?_
  rintro e w3 ⟨A3, c3, rfl, hT3, hk3, hs3⟩
  have hO3 := hO1.next hs3 hlen
  have hP3 := hP2.kept hk3 (fun i e e2 => by omega)
  have hbw3 := hbw2.trans (hk3.below (B := w.heap.size) hbw2.size (fun i hi e => by omega))
  obtain ⟨NN, hN⟩ : ∃ NN, nI.toNat = NN := ⟨_, rfl⟩
  have hNI : nI = (NN : Int) := by omega
  subst hNI
  rw [hN] at hdec
  have hDEC := Lib.hid hdec
  have hU3 : UpI KB w3 p b 0 (fun _ => rec0) [] 0 := ⟨hP3, fun x h => by simp at h, fun x h => by simp at h, by omega, by omega⟩
  clear hdec hN htn hk3 hT2 hP2 hbw2 hlen hP3
  go_wp2
  go_loopw [6, 13] (fun v6 i wr => ∃ (k : Nat) (last : Int) (f : Int → Rec) (acc : List WC) (st : Option (List UInt8)) (A' : Option Addr) (c' : Nat), v6 = .int .i64 last ∧ i = .int .i64 (k : Int) ∧ k ≤ NN ∧ UpI KB wr p b k f acc last ∧ PT wr g A' c' st ∧ OldA KB A' st ∧ Below w.heap.size w wr ∧ Hid (r = unpW (NN - k) last acc st)) (fun _ i _ => NN - (intOf i).toNat)
  case atStart => exact ⟨0, 0, _, [], st1, A3, c3, rfl, by go_num, by omega, hU3, hT3, hO3, hbw3, hDEC⟩
  case round =>
    obtain ⟨k, last, f, acc, st, A6, c6, rfl, rfl, hk, hU, hT, hO, hb, hD⟩ := hrel
    clear hU3 hT3 hO3 hbw3 hDEC
    by_cases hlt : k < NN
    · as_aux_lemma =>
      have hlz : decide ((k : Int) < (NN : Int)) = true := decide_eq_true (by omega)
      have hlo := hU.lo
      have hhi := hU.hi
      have htk := wtake_any g wr A6 c6 st (last + 1) hT
      obtain ⟨⟨n1, n1'⟩, ⟨n2, n2'⟩, ⟨n3, n3'⟩, hmay⟩ := takeW_rng (st := st) (lo := last + 1) (by omega)
      have hlow := takeW_low (st := st) (lo := last + 1)
      have hD' := hD.out
      rw [show NN - k = (NN - (k + 1)) + 1 by omega] at hD'
      unfold unpW at hD'
      have hlen : ((takeW st (last + 1)).2.getD []).length ≤ (st.getD []).length := by
        have h1 := tnum_len st (last + 1) 1099511627776
        have h2 := tnum_len (tnum st (last + 1) 1099511627776).2 0 7
        have h3 := tnum_len (tnum (tnum st (last + 1) 1099511627776).2 0 7).2 0 7
        have h4 := takeL_len (tnum (tnum (tnum st (last + 1) 1099511627776).2 0 7).2 0 7).2
        have h5 := tnum_len (takeL (tnum (tnum (tnum st (last + 1) 1099511627776).2 0 7).2 0 7).2).2 0 1
        unfold takeW
        dsimp only
        omega
      obtain ⟨x, st8, hx⟩ : ∃ x s, takeW st (last + 1) = (x, s) := ⟨_, _, rfl⟩
      rw [hx] at htk n1 n1' n2 n2' n3 n3' hmay hlow hD' hlen
      obtain ⟨xm, xf, xt, xl, xc⟩ := x
      dsimp only at htk n1 n1' n2 n2' n3 n3' hmay hlow hD' hlen
      have hw1 : wrap64 (last + 1) = last + 1 := by unfold wrap64; omega
      replace htk := Lib.hid htk
      replace hD' := Lib.hid hD'
      clear hx hD
      go_wp2_with fail
      try rw [hw1]
      refine htk.out.mono ?_
      rintro e w8 ⟨A8, c8, Al, cl, rfl, hL8, hT8, hk8, hs8⟩
      dsimp only at hL8
      obtain ⟨_, _, hv8, hcl, hcl2, hil8, hal8⟩ := hL8.form
      cases hv8
      have hP8 := hU.ps.kept hk8 (fun i e e2 => by omega)
      have hO8 := hO.next hs8 hlen
      have hb8 := hb.trans (hk8.below (B := w.heap.size) hb.size (fun i hi e => by omega))
      have hplt := hU.ps.lt
      have hz8 := hk8.size
      have hob : ¬ w8.heap.size = b := by omega
      have hB9 := Blk.new w8 59 #[.int .i64 xm, .int .i64 xf, .int .i64 xt, .slice Al xl.length cl, .bool xc]
      have hP9 := hP8.alloc (.cells #[.int .i64 xm, .int .i64 xf, .int .i64 xt, .slice Al xl.length cl, .bool xc] 59)
      have hT9 := hT8.allocY (.cells #[.int .i64 xm, .int .i64 xf, .int .i64 xt, .slice Al xl.length cl, .bool xc] 59)
      have hil9 := hil8.alloc (.cells #[.int .i64 xm, .int .i64 xf, .int .i64 xt, .slice Al xl.length cl, .bool xc] 59)
      have hb9 := hb8.alloc hb8.size (.cells #[.int .i64 xm, .int .i64 xf, .int .i64 xt, .slice Al xl.length cl, .bool xc] 59)
      obtain ⟨ob, hobz⟩ : ∃ ob, w8.heap.size = ob := ⟨_, rfl⟩
      rw [hobz] at hB9 hob
      clear htk hk8 hP8 hT8 hb8 hL8 hT hb hs8 hO hlen hil8
      have hobl := hB9.lt
      have x0 := hB9.cell 0
      have x1 := hB9.cell 1
      have x2 := hB9.cell 2
      have x3 := hB9.cell 3
      have x4 := hB9.cell 4
      simp only [List.getElem?_toArray, List.getElem?_cons_succ, List.getElem?_cons_zero] at x0 x1 x2 x3 x4
      go_upto_region 7 with fail
      try rw [hobz]
      clear hz8 hobz
      generalize w8.alloc (.cells #[.int .i64 xm, .int .i64 xf, .int .i64 xt, .slice Al xl.length cl, .bool xc] 59) = W8 at *
      by_cases hft : xf = xt
      · have b1 : (xf == xt) = true := by simp [hft]
        have hres := hD'.out.trans (if_pos (Or.inl hft))
        clear hD'
        go_wp2
        go_ret2
        exact ⟨hb9, .inl ⟨hres, rfl⟩⟩
      have b1 : (xf == xt) = false := by simp [hft]
      by_cases hxl : xl = []
      · have b2 : ((xl.length : Int) == 0) = true := by simp [hxl]
        have hres := hD'.out.trans (if_pos (Or.inr hxl))
        clear hD' hxl
        go_wp2
        go_ret2
        exact ⟨hb9, .inl ⟨hres, rfl⟩⟩
      have b2 : ((xl.length : Int) == 0) = false := by simp [hxl]
      have b3 : ¬ (xl.length : Int) = 0 := by simpa using hxl
      have hgo := Lib.hid (hD'.out.trans (if_neg (fun e => e.elim hft hxl)))
      have hlow' := hlow hft
      have hmy := MY.of_ hmay
      have h16 := hmy.len
      have hkw : (Lit.int .i64 xm).wf = true := by
        simp [Lit.wf, IntKind.min, IntKind.max, IntKind.signed, IntKind.bits]
        omega
      have hP4 := hP9.drew
      have hB4 := hB9.drew
      have hT4 := hT9.drewY
      have hb4 := hb9.drew
      have hil4 := hil9.drew
      have hal := hal8
      have sd : (fun W => W.cell? ⟨p, 0, none⟩ = some (.map (some b)) ∧ W.cell? ⟨ob, 0, none⟩ = some (.int .i64 xm) ∧ W.cell? ⟨ob, 1, none⟩ = some (.int .i64 xf) ∧ W.cell? ⟨ob, 2, none⟩ = some (.int .i64 xt) ∧ W.cell? ⟨ob, 3, none⟩ = some (.slice Al xl.length cl) ∧ W.cell? ⟨ob, 4, none⟩ = some (.bool xc)) W8.drew := ⟨hP4.pc.cell 0, hB4.cell 0, hB4.cell 1, hB4.cell 2, hB4.cell 3, hB4.cell 4⟩
      clear hD' hlow hft hxl hP9 hB9 hT9 hb9 hil9 hal8
      go_wp2
      clear x0 x1 x2 x3 x4
      refine wp_region_held_drew (S := (fun W => W.cell? ⟨p, 0, none⟩ = some (.map (some b)) ∧ W.cell? ⟨ob, 0, none⟩ = some (.int .i64 xm) ∧ W.cell? ⟨ob, 1, none⟩ = some (.int .i64 xf) ∧ W.cell? ⟨ob, 2, none⟩ = some (.int .i64 xt) ∧ W.cell? ⟨ob, 3, none⟩ = some (.slice Al xl.length cl) ∧ W.cell? ⟨ob, 4, none⟩ = some (.bool xc))) (by kernel_rfl) sd (fun hHeld => ?_)
      generalize W8.drew = wz at *
      obtain ⟨w9, hrun9, hP9, hk9⟩ := hP4.upd (by unfold maxLen; omega) hkw ⟨xm, xf, xt, ⟨Al, xl.length, cl, xl⟩, xc⟩ ⟨⟨hil4, hcl, h16, hmay, my_wl hmy, fun ad e hn => by have := hal ad e; exact ⟨by omega, by omega, by omega⟩⟩⟩
      change Sem.run _ (Instr.mapUpdate _ _ _ (.agg #[.int .i64 xm, .int .i64 xf, .int .i64 xt, .slice Al xl.length cl, .bool xc])) _ = _ at hrun9
      have hB9 := hB4.kept hk9 hob
      have sd9 : (fun W => W.cell? ⟨p, 0, none⟩ = some (.map (some b)) ∧ W.cell? ⟨ob, 0, none⟩ = some (.int .i64 xm) ∧ W.cell? ⟨ob, 1, none⟩ = some (.int .i64 xf) ∧ W.cell? ⟨ob, 2, none⟩ = some (.int .i64 xt) ∧ W.cell? ⟨ob, 3, none⟩ = some (.slice Al xl.length cl) ∧ W.cell? ⟨ob, 4, none⟩ = some (.bool xc)) w9 := ⟨hP9.pc.cell 0, hB9.cell 0, hB9.cell 1, hB9.cell 2, hB9.cell 3, hB9.cell 4⟩
      (refine tkI 0 (by (simp only [List.getElem?_toArray, List.getElem?_cons_succ, List.getElem?_cons_zero]; rfl)) (by kernel_rfl) (by kernel_rfl) (by kernel_rfl) (by exact fun _ _ _ h => h) (by rfl) (by (intro w hSw; (try dsimp only at hSw); go_simp <;> with_reducible rfl)) (by assumption) ?_; try simp only [Act.put, List.setIfInBounds_toArray, List.set_cons_zero, List.set_cons_succ])
      (refine tkI 1 (by (simp only [List.getElem?_toArray, List.getElem?_cons_succ, List.getElem?_cons_zero]; rfl)) (by kernel_rfl) (by kernel_rfl) (by kernel_rfl) (by exact fun _ _ _ h => h) (by rfl) (by (intro w hSw; (try dsimp only at hSw); go_simp <;> with_reducible rfl)) (by assumption) ?_; try simp only [Act.put, List.setIfInBounds_toArray, List.set_cons_zero, List.set_cons_succ])
      (refine tkI 2 (by (simp only [List.getElem?_toArray, List.getElem?_cons_succ, List.getElem?_cons_zero]; rfl)) (by kernel_rfl) (by kernel_rfl) (by kernel_rfl) (by exact fun _ _ _ h => h) (by rfl) (by (intro w hSw; (try dsimp only at hSw); go_simp <;> with_reducible rfl)) (by assumption) ?_; try simp only [Act.put, List.setIfInBounds_toArray, List.set_cons_zero, List.set_cons_succ])
      (refine tkI 3 (by (simp only [List.getElem?_toArray, List.getElem?_cons_succ, List.getElem?_cons_zero]; rfl)) (by kernel_rfl) (by kernel_rfl) (by kernel_rfl) (by exact fun _ _ _ h => h) (by rfl) (by (intro w hSw; (try dsimp only at hSw); go_simp <;> with_reducible rfl)) (by assumption) ?_; try simp only [Act.put, List.setIfInBounds_toArray, List.set_cons_zero, List.set_cons_succ])
      (refine tkI 4 (by (simp only [List.getElem?_toArray, List.getElem?_cons_succ, List.getElem?_cons_zero]; rfl)) (by kernel_rfl) (by kernel_rfl) (by kernel_rfl) (by exact fun _ _ _ h => h) (by rfl) (by (intro w hSw; (try dsimp only at hSw); go_simp <;> with_reducible rfl)) (by assumption) ?_; try simp only [Act.put, List.setIfInBounds_toArray, List.set_cons_zero, List.set_cons_succ])
      (refine tkI 5 (by (simp only [List.getElem?_toArray, List.getElem?_cons_succ, List.getElem?_cons_zero]; rfl)) (by kernel_rfl) (by kernel_rfl) (by kernel_rfl) (by exact fun _ _ _ h => h) (by rfl) (by (intro w hSw; (try dsimp only at hSw); go_simp <;> with_reducible rfl)) (by assumption) ?_; try simp only [Act.put, List.setIfInBounds_toArray, List.set_cons_zero, List.set_cons_succ])
      (refine tkI 6 (by (simp only [List.getElem?_toArray, List.getElem?_cons_succ, List.getElem?_cons_zero]; rfl)) (by kernel_rfl) (by kernel_rfl) (by kernel_rfl) (by exact fun _ _ _ h => h) (by rfl) (by (intro w hSw; (try dsimp only at hSw); go_simp <;> with_reducible rfl)) (by assumption) ?_; try simp only [Act.put, List.setIfInBounds_toArray, List.set_cons_zero, List.set_cons_succ])
      refine wpAnyH_ready (rs := [7]) (by kernel_rfl) (by simp) ?_
      refine AllReadyH.cons (by (simp only [List.getElem?_toArray, List.getElem?_cons_succ, List.getElem?_cons_zero]; rfl)) (fun K hK => ?_) AllReadyH.nil
      go_simp
      refine hK.out _ _ sd9 (fun hHeld2 => ?_)
      clear hK K hHeld
      have hHeld := hHeld2
      clear hHeld2
      try simp only [Act.put, List.setIfInBounds_toArray, List.set_cons_zero, List.set_cons_succ]
      refine wpAnyH_done (by kernel_rfl) ?_ _
      have hT10 : PT w9 g A8 c8 st8 := hT4.keep (B := KB) hO8 hk9 (by omega) (fun i hi e => by omega)
      have hb10 := hb4.trans (hk9.below (B := w.heap.size) hb4.size (fun i hi e => by omega))
      have hU10 := hU.next (r := ⟨xm, xf, xt, ⟨Al, xl.length, cl, xl⟩, xc⟩) (by dsimp only; omega) n1' hP9
      have z0 := hB9.cell 0
      simp only [List.getElem?_toArray, List.getElem?_cons_succ, List.getElem?_cons_zero] at z0
      clear sd sd9 hrun9 hP4 hT4 hb4 hB4 hk9 hHeld hP9 hB9 hil4
      go_wp2
      go_roundw
      case measure => simp [intOf]; omega
      case rel => exact ⟨k + 1, xm, _, _, st8, A8, c8, rfl, by go_num, by omega, hU10, hT10, hO8, hb10, hgo⟩
    · have hlz : decide ((k : Int) < (NN : Int)) = false := decide_eq_false (by omega)
      have hkN : NN - k = 0 := by omega
      have hD' := hD.out
      rw [hkN] at hD'
      unfold unpW at hD'
      have htd := tdone_any wr g A6 c6 st hT
      unfold tdoneN at htd
      by_cases hst : st = some []
      · rw [if_pos hst] at htd hD'
        clear hD hlt hst
        go_wp2_with fail
        refine htd.mono ?_
        rintro e w9 ⟨rfl, rfl⟩
        go_wp2
        go_ret2
        exact ⟨hb, .inr ⟨acc, p, b, k, f, hD', rfl, hU.ps.mono (fun i _ e => by omega), by omega, hU.eq, by omega, by omega⟩⟩
      · rw [if_neg hst] at htd hD'
        clear hD hlt hst
        go_wp2_with fail
        refine htd.mono ?_
        rintro e w9 ⟨rfl, rfl⟩
        go_wp2
        go_ret2
        exact ⟨hb, .inl ⟨hD', rfl⟩⟩
end
section
open Go.RowKit
set_option linter.unusedVariables false
set_option linter.unusedSimpArgs false

theorem rst_some {l x : List UInt8} {long : Bool} (h : rst l long = some x) : long = false ∧ l = x := by
  unfold rst at h
  cases long
  · simp at h
    exact ⟨rfl, h⟩
  · simp at h
theorem RefPost.low {B : Nat} {w W : World} {g : Nat} {v v' : Value} {l : List UInt8} {long : Bool} (hm : RM B w g v l long) (hf : Foot (MF g v) w (MF g v') W) : Below B w W := by
  have h0 := hm.foot
  exact hf.1.below (B := B) (by have := (h0 g (.inl rfl)).1; have := (h0 g (.inl rfl)).2; omega) (fun i hi e => by have := (h0 i e).1; omega)
theorem RM.allocY {base : Nat} {w : World} {g : Nat} {v : Value} {l : List UInt8} {long : Bool} (h : RM base w g v l long) (o : Obj) : RM base (w.alloc o) g v l long := h.kept ((Keep.refl (fun _ => False) w).alloc o) (fun _ _ e => e)
set_option maxRecDepth 100000 in
set_option maxHeartbeats 6400000 in
theorem mrpack_any {F : Nat → Prop} {w : World} {q : Nat} {rs : List Rec} (h : QK F w q rs) (hl : rs.length ≤ 256) (hls : ∀ r ∈ rs, IL w r.l.A r.l.n r.l.l) (hok : ∀ r ∈ rs, OkC (core r)) :
    Calls Tryz.prog 15 #[.pointer (some ⟨q, 0, none⟩)] w (PackPost w (encW (rs.map core))) := by
  obtain ⟨v, h⟩ := h
  obtain ⟨A, c, rfl, hfm⟩ := h.own.form
  clear hfm
  have hB0 := Blk.new w 86 #[.slice none 0 0, .bool false]
  have hb0 := (Below.refl w.heap.size w).alloc (Nat.le_refl _) (.cells #[.slice none 0 0, .bool false] 86)
  have q0 := (h.below hb0).field
  obtain ⟨N, hN⟩ : ∃ N, rs.length = N := ⟨_, rfl⟩
  rw [hN] at h hl q0
  obtain ⟨HC, hHC⟩ : ∃ x, numCell (N : Int) = x := ⟨_, rfl⟩
  have hHL : HC.length ≤ 9 := by rw [← hHC]; exact (numCell_len _).2
  have hhid := Lib.hid (show encW (rs.map core) = HC ++ waysC (rs.map core) by unfold encW; rw [List.length_map, hN, hHC])
  have hp1 : put (rst [] false) (numCell (N : Int)) = some HC := by
    show put (some []) _ = _
    rw [put_fits _ _ (by rw [hHC]; simp; omega), hHC, List.nil_append]
  clear hHC
  replace hp1 := Lib.hid hp1
  go_enter Tryz.func15, Tryz.ntmps15
  go_wp2_with fail
  have hm0 : RM w.heap.size (w.alloc (.cells #[.slice none 0 0, .bool false] 86)) w.heap.size (.slice none 0 0) [] false := ⟨hB0, Nat.le_refl _, OB.nil _ _, by simp⟩
  refine (rnum_any w.heap.size _ _ _ _ (N : Int) _ hm0 (by omega) (by omega)).mono ?_
  rintro e w1 ⟨v1, l1, long1, rfl, hm1, hr1, hf1⟩
  rw [hp1.out] at hr1
  have hb1 := hb0.trans (RefPost.low hm0 hf1)
  replace hr1 := Lib.hid hr1
  clear hm0 hB0 hf1 hb0 q0 hp1
  go_wp2
  go_loopw [4] (fun i wr => ∃ (k : Nat) (v' : Value) (l' : List UInt8) (long' : Bool), i = .int .i64 (k : Int) ∧ k ≤ N ∧ RM w.heap.size wr w.heap.size v' l' long' ∧ Hid (rst l' long' = some (HC ++ waysC ((rs.take k).map core))) ∧ Below w.heap.size w wr) (fun i _ => N - (intOf i).toNat)
  case atStart => exact ⟨0, v1, l1, long1, by go_num, by omega, hm1, by simpa [waysC] using hr1, hb1⟩
  case round =>
    obtain ⟨k, v0, l0', long0, rfl, hk, hm, hr, hb⟩ := hrel
    clear hm1 hr1 hb1
    have hV := h.below hb
    have q0 := hV.field
    by_cases hlt : k < N
    · have hlz : (k : Int) < (N : Int) := by omega
      have hk0 : (0 : Int) ≤ (k : Int) := by omega
      obtain ⟨g, x, rfl, hx, d0, d1, d2, d3, d4⟩ := hV.own.place hlt
      have hxr := List.mem_of_getElem? hx
      have hil := hls x hxr
      have hOK := hok x hxr
      have htk : rs.take (k + 1) = rs.take k ++ [x] := by rw [List.take_add_one, hx]; rfl
      have hlenX := waysC_len ((rs.take k).map core) (fun y hy => by
        obtain ⟨r, hr, rfl⟩ := List.mem_map.1 hy
        exact hok r (List.mem_of_mem_take hr))
      rw [List.length_map, List.length_take] at hlenX
      have hlw := wayC_len hOK.may
      have hfin : putW (some (HC ++ waysC ((rs.take k).map core))) (core x) = some (HC ++ waysC ((rs.take (k + 1)).map core)) := by
        rw [putW_fits _ _ (by rw [List.length_append]; omega), htk, List.map_append, List.map_singleton, waysC_snoc, List.append_assoc]
      obtain ⟨X, hX⟩ : ∃ X, HC ++ waysC ((rs.take k).map core) = X := ⟨_, rfl⟩
      rw [hX] at hr hfin
      replace hfin := Lib.hid hfin
      obtain ⟨rm, rf, rt, ⟨A0, n0, c0, l0⟩, rc⟩ := x
      obtain ⟨m1, m2, m3, -⟩ := hOK.nums
      have hmay := hOK.may
      dsimp only [core] at m1 m2 m3 hmay hil d0 d1 d2 d3 d4
      change _ = some (Value.slice A0 n0 c0) at d3
      have h16 := (mayL_okI hmay).1
      have hlen0 := hil.len
      have hilt := hil.lt
      have hr0 := hr.out
      have hB0 := Blk.new wr 59 #[.int .i64 rm, .int .i64 rf, .int .i64 rt, .slice A0 n0 c0, .bool rc]
      have hm0 := hm.allocY (.cells #[.int .i64 rm, .int .i64 rf, .int .i64 rt, .slice A0 n0 c0, .bool rc] 59)
      have hb0 := hb.alloc hb.size (.cells #[.int .i64 rm, .int .i64 rf, .int .i64 rt, .slice A0 n0 c0, .bool rc] 59)
      have hn0 : ¬ MF w.heap.size v0 wr.heap.size := fun e => by have := (hm.foot _ e).2; omega
      clear htk hlenX hlw hX hOK hxr hx hr hm hb hV
      have hbig := Nat.le_refl wr.heap.size
      go_upto_region 7 with fail
      obtain ⟨B, hBB⟩ : ∃ B, wr.heap.size = B := ⟨_, rfl⟩
      rw [hBB] at hB0 hn0
      clear d0 d1 d2 d3 d4 q0
      try rw [hBB]
      generalize wr.alloc (.cells #[.int .i64 rm, .int .i64 rf, .int .i64 rt, .slice A0 n0 c0, .bool rc] 59) = W0 at *
      clear hBB hbig
      have f1 := hB0.cell 0
      simp only [List.getElem?_toArray, List.getElem?_cons_succ, List.getElem?_cons_zero] at f1
      go_wp2_with fail
      refine (rnum_any w.heap.size _ _ _ _ rm _ hm0 (by omega) (by omega)).mono ?_
      rintro e W1 ⟨v1, l1, long1, rfl, hm1, hr1, hf1⟩
      have hb1 := hb0.trans (RefPost.low hm0 hf1)
      have hB1 := hB0.kept hf1.1 hn0
      have hn1 : ¬ MF w.heap.size v1 B := fun e => by
        have := hB0.lt
        rcases hf1.2 _ e with e | e
        · exact hn0 e
        · omega
      rw [hr0] at hr1
      clear hm0 hf1 hb0 hn0 hB0 f1 hr0
      have f2 := hB1.cell 1
      simp only [List.getElem?_toArray, List.getElem?_cons_succ, List.getElem?_cons_zero] at f2
      go_wp2_with fail
      refine (rnum_any w.heap.size _ _ _ _ rf _ hm1 (by omega) (by omega)).mono ?_
      rintro e W2 ⟨v2, l2, long2, rfl, hm2, hr2, hf2⟩
      have hb2 := hb1.trans (RefPost.low hm1 hf2)
      have hB2 := hB1.kept hf2.1 hn1
      have hn2 : ¬ MF w.heap.size v2 B := fun e => by
        have := hB1.lt
        rcases hf2.2 _ e with e | e
        · exact hn1 e
        · omega
      rw [hr1] at hr2
      clear hm1 hf2 hb1 hn1 hB1 f2 hr1
      have f3 := hB2.cell 2
      simp only [List.getElem?_toArray, List.getElem?_cons_succ, List.getElem?_cons_zero] at f3
      go_wp2_with fail
      refine (rnum_any w.heap.size _ _ _ _ rt _ hm2 (by omega) (by omega)).mono ?_
      rintro e W3 ⟨v3, l3, long3, rfl, hm3, hr3, hf3⟩
      have hb3 := hb2.trans (RefPost.low hm2 hf3)
      have hB3 := hB2.kept hf3.1 hn2
      have hn3 : ¬ MF w.heap.size v3 B := fun e => by
        have := hB2.lt
        rcases hf3.2 _ e with e | e
        · exact hn2 e
        · omega
      rw [hr2] at hr3
      clear hm2 hf3 hb2 hn2 hB2 f3 hr2
      have f4 := hB3.cell 3
      simp only [List.getElem?_toArray, List.getElem?_cons_succ, List.getElem?_cons_zero] at f4
      go_wp2_with fail
      refine (riput_any w.heap.size _ _ _ _ A0 n0 c0 l0 _ hm3 (hil.below hb3) (mayL_SI hmay) (by omega) (fun ad e hn e2 => by have h1 := hilt ad e hn; have h2 := (hm3.foot _ e2).1; omega)).mono ?_
      rintro e W4 ⟨v4, l4, long4, rfl, hm4, hr4, hf4⟩
      have hb4 := hb3.trans (RefPost.low hm3 hf4)
      have hB4 := hB3.kept hf4.1 hn3
      have hn4 : ¬ MF w.heap.size v4 B := fun e => by
        have := hB3.lt
        rcases hf4.2 _ e with e | e
        · exact hn3 e
        · omega
      rw [hr3] at hr4
      clear hm3 hf4 hb3 hn3 hB3 f4 hr3
      have f5 := hB4.cell 4
      simp only [List.getElem?_toArray, List.getElem?_cons_succ, List.getElem?_cons_zero] at f5
      go_wp2_with fail
      refine (rflag_any w.heap.size _ _ _ _ rc _ hm4).mono ?_
      rintro e W5 ⟨v5, l5, long5, rfl, hm5, hr5, hf5⟩
      have hb5 := hb4.trans (RefPost.low hm4 hf5)
      have hB5 := hB4.kept hf5.1 hn4
      have hn5 : ¬ MF w.heap.size v5 B := fun e => by
        have := hB4.lt
        rcases hf5.2 _ e with e | e
        · exact hn4 e
        · omega
      rw [hr4] at hr5
      clear hm4 hf5 hb4 hn4 hB4 f5 hr4
      have hr6 := Lib.hid ((show rst l5 long5 = putW (some X) (core ⟨rm, rf, rt, ⟨A0, n0, c0, l0⟩, rc⟩) from hr5).trans hfin.out)
      clear hr5 hfin
      go_wp2
      go_roundw
      case measure => simp [intOf]; omega
      case rel => exact ⟨k + 1, v5, l5, long5, by go_num, by omega, hm5, hr6, hb5⟩
    · have hlz : ¬ (k : Int) < (N : Int) := by omega
      have hkn : k = N := by omega
      have hr' := hr.out
      rw [show rs.take k = rs from List.take_of_length_le (by omega), ← hhid.out] at hr'
      obtain ⟨rfl, rfl⟩ := rst_some hr'
      obtain ⟨A', c', rfl, h1, h2, h3, h4⟩ := hm.own.form
      have p0 := hm.blk.cell 0
      simp at p0
      clear hkn hr hhid hV hr'
      go_wp2
      go_ret
      exact ⟨A', c', rfl, h1, h2, h3, hb, fun ad e => (h4 ad e).1⟩
end
section
open Go.RowKit Go.Maps Go.Shelf
set_option linter.unusedVariables false
set_option linter.unusedSimpArgs false

theorem TK.keep {S : Nat → Prop} {t : TypeId} {w w' : World} {g : Nat} {A : Option Addr} {c : Nat} {l : List UInt8} {bad : Bool} {B : Nat} (h : TK t w g A c l bad) (ho : OldA B A (some l)) (k : Keep S w w') (hg : ¬ S g) (hS : ∀ i, i < B → ¬ S i) : TK t w' g A c l bad :=
  ⟨h.blk.kept k hg, h.rd.kept' k fun hp ad ha => hS _ (ho hp ad ha), h.cap, h.apart⟩
theorem TK.lt {t : TypeId} {w : World} {g : Nat} {A : Option Addr} {c : Nat} {l : List UInt8} {bad : Bool} (h : TK t w g A c l bad) : OldA w.heap.size A (some l) := fun hp ad ha => h.rd.addr_lt ha hp
theorem OldA.less {B : Nat} {A A' : Option Addr} {l l' : List UInt8} (h : OldA B A (some l)) (hs : SameBlock A A') (hl : l'.length ≤ l.length) : OldA B A' (some l') := h.next hs hl

def ReadPost (w : World) (g : Nat) (A : Option Addr) (n : Nat) (st : Option (List UInt8)) (e : Ending) (w' : World) : Prop :=
  ∃ v ok A' c' l' bad' lr, e = .returned (.tuple #[v, .bool ok]) ∧ OI w.heap.size w' v lr ∧ TK 93 w' g A' c' l' bad' ∧ Keep (fun k => k = g) w w' ∧ SameBlock A A' ∧ l'.length ≤ n ∧
    (ok = true → takeL st = (lr, some l') ∧ bad' = false) ∧ (ok = false → (takeL st).2 = none)

set_option maxRecDepth 100000 in
set_option maxHeartbeats 3200000 in
theorem rread_any (w : World) (g : Nat) (A : Option Addr) (c : Nat) (l : List UInt8) (bad : Bool) (h : TK 93 w g A c l bad) :
    Calls Tryz.prog 46 #[.pointer (some ⟨g, 0, none⟩)] w (ReadPost w g A l.length (rst l bad)) := by
  have hgw := h.blk.lt
  have hold := h.lt
  obtain ⟨hb0, hb1⟩ := takeN_bound (rst l bad)
  obtain ⟨N, hN⟩ := Int.eq_ofNat_of_zero_le hb0
  obtain ⟨st1, hst1⟩ : ∃ s, (takeN (rst l bad)).2 = s := ⟨_, rfl⟩
  have key := rtnum_any w g A c l bad 0 16 h
  rw [show tnum (rst l bad) 0 16 = ((N : Int), st1) from Prod.ext hN hst1] at key
  have hR : takeR (rst l bad) = itIter st1 N := by unfold takeR; rw [hst1, hN]; rfl
  have hL : takeL (rst l bad) = if mayL (itIter st1 N).1 then itIter st1 N else ([], none) := by unfold takeL; rw [hR]
  have hN16 : N ≤ 16 := by omega
  have HL := Lib.hid hL
  have KEY := Lib.hid key
  clear key hL hR hst1 hN hb0 hb1
  go_enter Tryz.func46, Tryz.ntmps46
  go_wp2_with fail
  refine KEY.out.mono ?_
  rintro e w1 ⟨A1, c1, l1, bad1, rfl, h1, hr1, hk1, hs1, hln1⟩
  have ho1 := hold.less hs1 hln1
  clear KEY
  go_wp2_with fail
  go_loopw [5, 6] (fun v i wr => ∃ (k : Nat) (A' : Option Addr) (c' : Nat) (l' : List UInt8) (bad' : Bool), i = .int .i64 (k : Int) ∧ k ≤ N ∧ OI w.heap.size wr v (itIter st1 k).1 ∧ TK 93 wr g A' c' l' bad' ∧ rst l' bad' = (itIter st1 k).2 ∧ OldA w.heap.size A' (some l') ∧ Keep (fun k => k = g) w wr ∧ SameBlock A A' ∧ l'.length ≤ l.length) (fun v i _ => N - (intOf i).toNat)
  case atStart => exact ⟨0, A1, c1, l1, bad1, by go_num, by omega, OI.nil _ _, h1, hr1, ho1, hk1, hs1, hln1⟩
  case round =>
    obtain ⟨k, A2, c2, l2, bad2, rfl, hk, hO, hP, hr2, ho2, hk2, hs2, hln2⟩ := hrel
    obtain ⟨li, st2, hp2⟩ : ∃ l s, itIter st1 k = (l, s) := ⟨_, _, rfl⟩
    have hli : li.length = k := by have := itIter_len st1 k; rw [hp2] at this; exact this
    rw [hp2] at hO hr2
    dsimp only at hO hr2
    subst hr2
    have hcb := hP.blk.cell 1
    simp at hcb
    have hz2 := hk2.size
    by_cases hlt : k < N
    case pos =>
      have hlz : (k : Int) < (N : Int) := by omega
      cases bad2 with
      | true =>
        have hnone : (takeL (rst l bad)).2 = none := by
          have h2 := itIter_none (st := st1) (k := k) (by rw [hp2]; rfl) N (by omega)
          rw [HL.out]
          split
          · exact h2
          · rfl
        go_wp2
        go_ret2
        exact ⟨_, false, A2, c2, l2, true, li, rfl, hO, hP, hk2, hs2, hln2, (fun h => by cases h), fun _ => hnone⟩
      | false =>
        obtain ⟨s, st3, hT⟩ : ∃ s t, ttext (rst l2 false) 16 = (s, t) := ⟨_, _, rfl⟩
        obtain ⟨q, st4, hQ⟩ : ∃ s t, tnum st3 1 1099511627776 = (s, t) := ⟨_, _, rfl⟩
        have hI : itIter st1 (k + 1) = (li ++ [(s, q)], st4) := by rw [itIter, hp2, itStep]; simp only []; rw [hT]; simp only []; rw [hQ]
        have HI := Lib.hid hI
        have HQ := Lib.hid hQ
        have HT := Lib.hid hT
        clear hI hp2 hQ hT
        have hP2 := hP.keep ho2 ((Keep.refl (fun _ => False) wr).alloc (.cells #[.string ⟨#[]⟩, .int .i64 0] 54)) id (fun _ _ => id)
        have hX2 := Blk.new wr 54 #[.string ⟨#[]⟩, .int .i64 0]
        have hO2 := hO.alloc (.cells #[.string ⟨#[]⟩, .int .i64 0] 54)
        have hK2 := hk2.alloc (.cells #[.string ⟨#[]⟩, .int .i64 0] 54)
        have key2 := rttext_any _ g A2 c2 l2 false 16 hP2
        rw [HT.out] at key2
        have hgb : g ≠ wr.heap.size := by omega
        have hx0 := hX2.cell 0
        have hx1 := hX2.cell 1
        have hxf0 := hX2.frozen 0
        have hxf1 := hX2.frozen 1
        simp at hx0 hx1
        go_wp2_with fail
        refine key2.mono ?_
        rintro e w3 ⟨A3, c3, l3, bad3, rfl, h3, hr3, hk3, hs3, hln3⟩
        have hz3 := hk3.size
        rw [World.size_alloc] at hz3
        have hO3 := hO2.kept hk3 fun gg hg e => by have := (hO2.lt gg hg).1; omega
        have hX3 := hX2.kept hk3 (fun e => hgb e.symm)
        have ho3 := ho2.less hs3 hln3
        have hK3 := hK2.trans hk3 fun _ _ e => e
        rw [strV_eq]
        subst hr3
        clear key2 hx0 hx1 hxf0 hxf1
        have hx0 := hX3.cell 0
        have hxf0 := hX3.frozen 0
        simp at hx0
        have hS3 := (Keep.refl (fun i => i = wr.heap.size) w3).setCell (p := ⟨wr.heap.size, 0, none⟩) (fun _ => rfl) (.string ⟨s.toArray⟩)
        have hX4 := hX3.set_ 0 (.string ⟨s.toArray⟩)
        simp at hX4
        have hP4 := h3.keep ho3 hS3 hgb (fun i hi e => by omega)
        have hO4 := hO3.kept hS3 fun gg hg e => by have := (hO.lt gg hg).2; omega
        have hK4 := hK3.setCell (p := ⟨wr.heap.size, 0, none⟩) (fun h => absurd h (by dsimp only; omega)) (.string ⟨s.toArray⟩)
        have key3 := rtnum_any _ g A3 c3 l3 bad3 1 1099511627776 hP4
        rw [HQ.out] at key3
        go_wp2_with fail
        refine key3.mono ?_
        rintro e w5 ⟨A5, c5, l5, bad5, rfl, h5, hr5, hk5, hs5, hln5⟩
        have hz5 := hk5.size
        have hz4 : (w3.setCell ⟨wr.heap.size, 0, none⟩ (.string ⟨s.toArray⟩)).heap.size = w3.heap.size := by simp [World.setCell]
        rw [hz4] at hz5
        have hO5 := hO4.kept hk5 fun gg hg e => by have := (hO4.lt gg hg).1; omega
        have hX5 := hX4.kept hk5 (fun e => hgb e.symm)
        have ho5 := ho3.less hs5 hln5
        have hK5 := hK4.trans hk5 fun _ _ e => e
        have hx1 := hX5.cell 1
        have hxf1 := hX5.frozen 1
        simp at hx1
        have hS5 := (Keep.refl (fun i => i = wr.heap.size) w5).setCell (p := ⟨wr.heap.size, 1, none⟩) (fun _ => rfl) (.int .i64 q)
        have hX6 := hX5.set_ 1 (.int .i64 q)
        simp at hX6
        have hP6 := h5.keep ho5 hS5 hgb (fun i hi e => by omega)
        have hO6 := hO5.kept hS5 fun gg hg e => by have := (hO.lt gg hg).2; omega
        have hK6 := hK5.setCell (p := ⟨wr.heap.size, 1, none⟩) (fun h => absurd h (by dsimp only; omega)) (.int .i64 q)
        have hx6 := hX6.cell 0
        have hx7 := hX6.cell 1
        simp at hx6 hx7
        clear hX2 hX3 hX4 hX5 hx0 hxf0
        have hsz5 : (w5.setCell ⟨wr.heap.size, 1, none⟩ (.int .i64 q)).heap.size = w5.heap.size := by simp [World.setCell]
        have hone := IL.one (w5.setCell ⟨wr.heap.size, 1, none⟩ (.int .i64 q)) s q 54
        rw [hsz5] at hone
        go_wp2_with (at_builtin; (refine wpAppI rfl _ _ rfl w.heap.size _ _ rfl (hO6.alloc _) _ 1 1 [(s, q)] rfl hone (fun h => by cases h) (by omega) (by simp [World.setCell]; omega) ?_); rintro v' w7 hO7 hk7 hl7)
        go_roundw
        case rel =>
          have hv : ∀ i, i < w.heap.size → ¬ u5.ownBlock = some i := fun i hi e => by have := (hO.lt i e).1; omega
          have hk67 := ((Keep.refl (fun i => u5.ownBlock = some i) (w5.setCell ⟨wr.heap.size, 1, none⟩ (.int .i64 q))).alloc _).trans hk7 fun _ _ e => e
          refine ⟨k + 1, A5, c5, l5, bad5, by go_num, by omega, ?_, hP6.keep ho5 hk67 (hv g hgw) hv, ?_, ho5, hK6.trans hk67 fun i hi e => absurd e (hv i hi), (hs2.trans hs3).trans hs5, by omega⟩
          · rw [HI.out]; exact hO7
          · rw [HI.out]; exact hr5
        case measure => simp [intOf]; omega
    case neg =>
      have hlz : ¬ (k : Int) < (N : Int) := by omega
      have hkN : k = N := by omega
      subst hkN
      obtain ⟨A5, c5, rfl, _, _, hi5, hAd⟩ := hO.form
      rw [hp2] at HL
      dsimp only at HL
      rw [hli] at hi5 hO
      rw [hli]
      cases bad2 with
      | true =>
        have hnone : (takeL (rst l bad)).2 = none := by
          rw [HL.out]
          split <;> rfl
        go_wp2
        go_ret2
        exact ⟨_, false, A2, c2, l2, true, li, rfl, hO, hP, hk2, hs2, hln2, (fun h => by cases h), fun _ => hnone⟩
      | false =>
        go_wp2_with fail
        refine (refmay_b A5 k c5 li wr hi5 (by omega) (fun x hx => by have := (itIter_ok k hp2 x hx).1; omega)).mono ?_
        rintro e w6 ⟨rfl, hb6⟩
        cases hm : mayL li with
        | true =>
          go_wp2
          go_ret2
          have HL' := HL.out
          rw [hm, if_pos rfl] at HL'
          have hk6 := Keep.of_below' (S := fun i => i = g) hb6
          exact ⟨_, true, A2, c2, l2, false, li, rfl, hO.below hb6, hP.below hb6, hk2.trans hk6 fun _ _ e => e, hs2, hln2, fun _ => ⟨HL', rfl⟩, fun h => by cases h⟩
        | false =>
          go_wp2
          go_ret2
          have HL' := HL.out
          rw [hm, if_neg (by decide)] at HL'
          have hk6 := Keep.of_below' (S := fun i => i = g) hb6
          exact ⟨_, false, A2, c2, l2, false, li, rfl, hO.below hb6, hP.below hb6, hk2.trans hk6 fun _ _ e => e, hs2, hln2, (fun h => by cases h), fun _ => by rw [HL']⟩
end
section
open Go.RowKit Go.Shelf
set_option linter.unusedVariables false
set_option linter.unusedSimpArgs false

theorem run_buildW (m f t : Int) (A : Option Addr) (n c : Nat) (b : Bool) (w : World) : (Instr.buildSlice 26 1 #[(0, .agg #[.int .i64 m, .int .i64 f, .int .i64 t, .slice A n c, .bool b])]).run Tryz.prog w = .ok (.slice (some ⟨w.heap.size, 0, none⟩) 1 1) (w.alloc (.cells #[.int .i64 m, .int .i64 f, .int .i64 t, .slice A n c, .bool b] 59)) := by
  kernel_rfl
theorem wp_buildW {w : World} {o : Oper} {a : Act} {K : Act → World → Prop} {Q : Exit → Act → World → Prop} (x : Operand) (ho : o.op = .buildSlice 26 1 #[(0, x)]) (m f t : Int) (A : Option Addr) (n c : Nat) (b : Bool)
    (hx : a.eval x = .agg #[.int .i64 m, .int .i64 f, .int .i64 t, .slice A n c, .bool b]) (h : K (a.put o.dst (.slice (some ⟨w.heap.size, 0, none⟩) 1 1)) (w.alloc (.cells #[.int .i64 m, .int .i64 f, .int .i64 t, .slice A n c, .bool b] 59))) : o.wp Tryz.prog a w K Q := by
  unfold Oper.wp execOp
  simp only [ho, Sem.run_bind, Sem.run_pure, List.map_toArray, List.map_cons, List.map_nil, hx, run_buildW, Result.andThen_ok]
  exact h
/-- Rows, and where they lie: their block and their row in F, their lists elsewhere. -/
structure RfI (KB : Nat) (wr : World) (q : Nat) (rs : List Rec) (F : Nat → Prop) : Prop where
  qk : QK F wr q rs
  lo : ∀ i, F i → KB ≤ i ∧ i < wr.heap.size
  ls : ∀ r ∈ rs, (IL wr r.l.A r.l.n r.l.l ∧ MY r.l.l) ∧ ∀ ad, r.l.A = some ad → 0 < r.l.n → KB ≤ ad.block ∧ ¬ F ad.block
theorem RfI.keep {KB q : Nat} {wr w' : World} {rs : List Rec} {F S : Nat → Prop} (h : RfI KB wr q rs F) (k : Keep S wr w') (hS : ∀ i, S i → i < KB ∨ wr.heap.size ≤ i) : RfI KB w' q rs F :=
  ⟨h.qk.kept k (fun g hg e => by have := h.lo g hg; have := hS g e; omega), fun i hi => by have := h.lo i hi; have := k.size; omega,
    fun r hr => ⟨⟨(h.ls r hr).1.1.kept k (fun ad e hn e2 => by have h1 := (h.ls r hr).2 ad e hn; have h2 := (h.ls r hr).1.1.lt ad e hn; have h3 := hS _ e2; omega), (h.ls r hr).1.2⟩, (h.ls r hr).2⟩⟩
theorem RfI.next {KB q : Nat} {wr w' : World} {rs : List Rec} {F : Nat → Prop} {r : Rec} (h : RfI KB wr q rs F) (k : Keep (fun i => F i ∨ wr.heap.size ≤ i) wr w') (hq : QK (fun i => F i ∨ wr.heap.size ≤ i) w' q (rs ++ [r])) (hKB : KB ≤ wr.heap.size)
    (hr : (IL wr r.l.A r.l.n r.l.l ∧ MY r.l.l) ∧ ∀ ad, r.l.A = some ad → 0 < r.l.n → KB ≤ ad.block ∧ ¬ F ad.block) : RfI KB w' q (rs ++ [r]) (fun i => (F i ∨ wr.heap.size ≤ i) ∧ i < w'.heap.size) :=
  ⟨hq.mono (fun i h1 h2 => ⟨h2, h1⟩), fun i hi => ⟨hi.1.elim (fun e => (h.lo i e).1) (fun e => by omega), hi.2⟩, fun x hx => by
    have hx' : (IL wr x.l.A x.l.n x.l.l ∧ MY x.l.l) ∧ ∀ ad, x.l.A = some ad → 0 < x.l.n → KB ≤ ad.block ∧ ¬ F ad.block := by
      rcases List.mem_append.1 hx with hx | hx
      · exact h.ls x hx
      · rw [List.mem_singleton] at hx
        subst hx
        exact hr
    refine ⟨⟨hx'.1.1.kept k (fun ad e hn e2 => e2.elim (hx'.2 ad e hn).2 (fun e3 => by have := hx'.1.1.lt ad e hn; omega)), hx'.1.2⟩, fun ad e hn => ⟨(hx'.2 ad e hn).1, fun e2 => e2.1.elim (hx'.2 ad e hn).2 (fun e3 => by have := hx'.1.1.lt ad e hn; omega)⟩⟩⟩
/-- What the document's Unpack answers. -/
def RUnpWP (w : World) (r : Option (List WC)) (e : Ending) (w' : World) : Prop :=
  Below w.heap.size w w' ∧ ((r = none ∧ e = .returned (.tuple #[.pointer none, .bool false])) ∨
    ∃ rs q F, r = some (rs.map core) ∧ e = .returned (.tuple #[.pointer (some ⟨q, 0, none⟩), .bool true]) ∧ RfI w.heap.size w' q rs F)
theorem unpW_bad {n : Nat} {last : Int} {acc : List WC} {st : Option (List UInt8)} (h0 : 0 ≤ last) (h : (takeW st 1).2 = none) : unpW (n + 1) last acc st = none := by
  rw [unpW_ref _ _ _ _ h0, h]
theorem TK.allocY {t : TypeId} {w : World} {g : Nat} {A : Option Addr} {c : Nat} {l : List UInt8} {bad : Bool} (h : TK t w g A c l bad) (o : Obj) : TK t (w.alloc o) g A c l bad := h.below ((Below.refl _ w).alloc (Nat.le_refl _) o)
set_option maxRecDepth 100000 in
set_option maxHeartbeats 12800000 in
theorem mrunpack_any (A : Option Addr) (n c : Nat) (l : List UInt8) (w : World) (hr : RB w A n l) (hc : n ≤ c) (hm : c ≤ 9223372036854775807) :
    Calls Tryz.prog 17 #[.slice A n c] w (RUnpWP w (decW l)) := by
  obtain ⟨r, hrd⟩ : ∃ r, decW l = r := ⟨_, rfl⟩
  have hdec : r = unpW (tnum (some l) 0 256).1.toNat 0 [] (tnum (some l) 0 256).2 := hrd.symm
  rw [hrd]
  have hn := hr.1
  subst hn
  have hA : 0 < l.length → ∀ ad, A = some ad → ad.block < w.heap.size := fun hp ad e => hr.addr_lt e hp
  have hT0 : TK 93 (w.alloc (.cells #[.slice A l.length c, .bool false] 93)) w.heap.size A c l false := ⟨Blk.new _ _ _, hr.alloc _, ⟨hc, hm⟩, fun hp ad e => by have := hA hp ad e; omega⟩
  have hT1 := hT0.allocY (.cells #[.slice none 0 0] 28)
  have hq1 : QK (fun i => i = w.heap.size + 1) ((w.alloc (.cells #[.slice A l.length c, .bool false] 93)).alloc (.cells #[.slice none 0 0] 28)) (w.heap.size + 1) [] := by
    have hB := Blk.new (w.alloc (.cells #[.slice A l.length c, .bool false] 93)) 28 #[.slice none 0 0]
    rw [World.size_alloc] at hB
    exact ⟨.slice none 0 0, hB, WO.nil _ _, by simp [Value.ownBlock], rfl, fun g hg => by simp [Value.ownBlock] at hg⟩
  have hb1 := ((Below.refl w.heap.size w).alloc (Nat.le_refl _) (.cells #[.slice A l.length c, .bool false] 93)).alloc (by simp) (.cells #[.slice none 0 0] 28)
  have hR1 : RfI (w.heap.size + 1) ((w.alloc (.cells #[.slice A l.length c, .bool false] 93)).alloc (.cells #[.slice none 0 0] 28)) (w.heap.size + 1) [] (fun i => i = w.heap.size + 1) := ⟨hq1, fun i e => by simp [e], fun r h => by simp at h⟩
  have hO1 : OldA w.heap.size A (some l) := fun hp ad e => hA hp ad e
  clear hT0 hq1 hr hrd hA
  go_enter Tryz.func17, Tryz.ntmps17
  go_wp2_with fail
  generalize (w.alloc (.cells #[.slice A l.length c, .bool false] 93)).alloc (.cells #[.slice none 0 0] 28) = w1 at *
  obtain ⟨q, hq⟩ : ∃ q, w.heap.size + 1 = q := ⟨_, rfl⟩
  rw [hq] at hR1
  obtain ⟨g, hg⟩ : ∃ g, w.heap.size = g := ⟨_, rfl⟩
  rw [hg] at hT1 hO1
  have htn := rtnum_any w1 g A c l false 0 256 hT1
  rw [show rst l false = some l from rfl] at htn
  have hrg := tnum_rng (st := some l) (a := 0) (b := 256) (by decide) (by decide)
  obtain ⟨st1, hst1⟩ : ∃ x, tnum (some l) 0 256 = x := ⟨_, rfl⟩
  rw [hst1] at hdec hrg htn
  obtain ⟨nI, st1⟩ := st1
  dsimp only at hdec hrg htn
  replace htn := Lib.hid htn
  clear hst1
  try rw [hq]
  try rw [hg]
  refine htn.out.mono ?_
  rintro e w2 ⟨A2, c2, l2, bad2, rfl, hT2, hr2, hk2, hs2, hl2⟩
  have hO2 := hO1.less hs2 hl2
  have hR2 := hR1.keep hk2 (fun i e => by omega)
  have hb2 := hb1.trans (hk2.below (B := w.heap.size) hb1.size (fun i hi e => by omega))
  obtain ⟨NN, hN⟩ : ∃ NN, nI.toNat = NN := ⟨_, rfl⟩
  have hNI : nI = (NN : Int) := by omega
  subst hNI
  rw [hN, ← hr2] at hdec
  have hDEC := Lib.hid hdec
  clear hdec hN htn hk2 hT1 hR1 hb1 hr2 hs2 hO1
  go_wp2
  go_loopw [7, 8] (fun v7 i wr => ∃ (k : Nat) (last : Int) (rs : List Rec) (F : Nat → Prop) (l' : List UInt8) (bad' : Bool) (A' : Option Addr) (c' : Nat), v7 = .int .i64 last ∧ i = .int .i64 (k : Int) ∧ k ≤ NN ∧ rs.length = k ∧ (0 ≤ last ∧ last ≤ 1099511627776) ∧ RfI q wr q rs F ∧ TK 93 wr g A' c' l' bad' ∧ OldA g A' (some l') ∧ Below w.heap.size w wr ∧ Hid (r = unpW (NN - k) last (rs.map core) (rst l' bad'))) (fun _ i _ => NN - (intOf i).toNat)
  case atStart => exact ⟨0, 0, [], _, l2, bad2, A2, c2, rfl, by go_num, by omega, rfl, by omega, hR2, hT2, hO2, hb2, hDEC⟩
  case round =>
    rename_i KK hKK
    replace hKK := Lib.hid hKK
    obtain ⟨k, last, rs, F, l', bad', A6, c6, rfl, rfl, hk, hrk, hlast, hR, hT, hO, hb, hD⟩ := hrel
    clear hR2 hT2 hO2 hb2 hDEC
    have t0 := hT.blk.cell 0
    have t1 := hT.blk.cell 1
    simp only [List.getElem?_toArray, List.getElem?_cons_succ, List.getElem?_cons_zero] at t0 t1
    by_cases hlt : k < NN ∧ bad' = false
    · as_aux_lemma =>
      obtain ⟨hkn, rfl⟩ := hlt
      have hlz : (k : Int) < (NN : Int) := by omega
      have hD' := hD.out
      rw [show NN - k = (NN - (k + 1)) + 1 by omega, show rst l' false = some l' from rfl] at hD'
      have hbadR := fun h => hD'.trans (unpW_bad hlast.1 h)
      have hgoR := hD'.trans (unpW_ref _ _ _ _ hlast.1)
      unfold takeW at hbadR hgoR
      have hrng := tnum_rng (st := some l') (a := 1) (b := 1099511627776) (by decide) (by decide)
      obtain ⟨xm, sa, ha⟩ : ∃ a s, tnum (some l') 1 1099511627776 = (a, s) := ⟨_, _, rfl⟩
      obtain ⟨xf, sb, hb'⟩ : ∃ a s, tnum sa 0 7 = (a, s) := ⟨_, _, rfl⟩
      obtain ⟨xt, sc, hc'⟩ : ∃ a s, tnum sb 0 7 = (a, s) := ⟨_, _, rfl⟩
      have hmay := takeL_may sc
      obtain ⟨xl, sd, hd⟩ : ∃ a s, takeL sc = (a, s) := ⟨_, _, rfl⟩
      obtain ⟨xe, se, he⟩ : ∃ a s, tnum sd 0 1 = (a, s) := ⟨_, _, rfl⟩
      rw [ha] at hbadR hgoR hrng
      dsimp only at hbadR hgoR hrng
      rw [hb'] at hbadR hgoR
      dsimp only at hbadR hgoR
      rw [hc'] at hbadR hgoR
      dsimp only at hbadR hgoR
      rw [hd] at hbadR hgoR hmay
      dsimp only at hbadR hgoR hmay
      rw [he] at hbadR hgoR
      dsimp only at hbadR hgoR
      obtain ⟨xc, hxc⟩ : ∃ xc, (xe == 1) = xc := ⟨_, rfl⟩
      replace hxc := Lib.hid hxc
      replace hbadR := Lib.hid hbadR
      replace hgoR := Lib.hid hgoR
      replace hd := Lib.hid hd
      replace he := Lib.hid he
      clear hD hD'
      have n1 := rtnum_any wr g A6 c6 l' false 1 1099511627776 hT
      rw [show rst l' false = some l' from rfl, ha] at n1
      replace n1 := Lib.hid n1
      clear ha
      go_wp2_with fail
      refine n1.out.mono ?_
      rintro e9 W1 ⟨A1, c1, l1, bad1, rfl, hT1, hr1, hk1, hs1, hl1⟩
      have hO1 := hO.less hs1 hl1
      have hR1 := hR.keep hk1 (fun i e => by omega)
      have hb1 := hb.trans (hk1.below (B := w.heap.size) hb.size (fun i hi e => by omega))
      have hB1 := Blk.new W1 59 #[.int .i64 xm, .int .i64 0, .int .i64 0, .slice none 0 0, .bool false]
      have hT1a := hT1.allocY (.cells #[.int .i64 xm, .int .i64 0, .int .i64 0, .slice none 0 0, .bool false] 59)
      have K1 := (Keep.refl (fun k => k = g ∨ W1.heap.size ≤ k) W1).alloc (.cells #[.int .i64 xm, .int .i64 0, .int .i64 0, .slice none 0 0, .bool false] 59)
      have hgW : g < W1.heap.size := hT1.blk.lt
      have n2 := rtnum_any _ g A1 c1 l1 bad1 0 7 hT1a
      rw [hr1, hb'] at n2
      replace n2 := Lib.hid n2
      clear n1 hT1 hT hk1 hR hb t0 t1 hO hs1 hr1 hb'
      go_wp2_with fail
      refine n2.out.mono ?_
      rintro e9 W2 ⟨A2, c2, l2, bad2, rfl, hT2, hr2, hk2, hs2, hl2⟩
      have hO2 := hO1.less hs2 hl2
      have hB2 := hB1.kept hk2 (by omega)
      have K2 := K1.trans hk2 (fun i _ e => .inl e)
      have x20 := hB2.cell 0
      have x21 := hB2.cell 1
      have x22 := hB2.cell 2
      have x23 := hB2.cell 3
      have x24 := hB2.cell 4
      simp only [List.getElem?_toArray, List.getElem?_cons_succ, List.getElem?_cons_zero] at x20 x21 x22 x23 x24
      have xf2 := fun i => hB2.frozen i
      have xl2 := hB2.lt
      have hS2 := hB2.set_ 1 (.int .i64 xf)
      simp only [List.setIfInBounds_toArray, List.set_cons_zero, List.set_cons_succ] at hS2
      have kS2 : Keep (fun k => k = W1.heap.size) W2 (W2.setCell ⟨W1.heap.size, 1, none⟩ (.int .i64 xf)) := (Keep.refl (fun k => k = W1.heap.size) W2).setCell (p := ⟨W1.heap.size, 1, none⟩) (fun _ => rfl) _
      have hU2 := hT2.keep (B := g) hO2 kS2 (by omega) (fun i hi e => by omega)
      have KS2 := K2.trans kS2 (fun i _ e => .inr (by omega))
      have n3 := rtnum_any _ g A2 c2 l2 bad2 0 7 hU2
      rw [hr2, hc'] at n3
      replace n3 := Lib.hid n3
      clear n2 hT1a hk2 K1 hB1 hT2 K2 kS2 hO1 hs2 hr2 hc'
      go_wp2_with fail
      clear x20 x21 x22 x23 x24 xf2
      clear hB2
      generalize (W2.setCell ⟨W1.heap.size, 1, none⟩ (.int .i64 xf)) = U2 at *
      refine n3.out.mono ?_
      rintro e9 W3 ⟨A3, c3, l3, bad3, rfl, hT3, hr3, hk3, hs3, hl3⟩
      have hO3 := hO2.less hs3 hl3
      have hB3 := hS2.kept hk3 (by omega)
      have K3 := KS2.trans hk3 (fun i _ e => .inl e)
      have x30 := hB3.cell 0
      have x31 := hB3.cell 1
      have x32 := hB3.cell 2
      have x33 := hB3.cell 3
      have x34 := hB3.cell 4
      simp only [List.getElem?_toArray, List.getElem?_cons_succ, List.getElem?_cons_zero] at x30 x31 x32 x33 x34
      have xf3 := fun i => hB3.frozen i
      have xl3 := hB3.lt
      have hS3 := hB3.set_ 2 (.int .i64 xt)
      simp only [List.setIfInBounds_toArray, List.set_cons_zero, List.set_cons_succ] at hS3
      have kS3 : Keep (fun k => k = W1.heap.size) W3 (W3.setCell ⟨W1.heap.size, 2, none⟩ (.int .i64 xt)) := (Keep.refl (fun k => k = W1.heap.size) W3).setCell (p := ⟨W1.heap.size, 2, none⟩) (fun _ => rfl) _
      have hU3 := hT3.keep (B := g) hO3 kS3 (by omega) (fun i hi e => by omega)
      have KS3 := K3.trans kS3 (fun i _ e => .inr (by omega))
      have n4 := rread_any _ g A3 c3 l3 bad3 hU3
      rw [hr3] at n4
      replace n4 := Lib.hid n4
      clear n3 hU2 hk3 KS2 hS2 hT3 K3 kS3 hO2 hs3 hr3
      go_wp2_with fail
      clear x30 x31 x32 x33 x34 xf3
      clear hB3
      generalize (W3.setCell ⟨W1.heap.size, 2, none⟩ (.int .i64 xt)) = U3 at *
      have hzU := KS3.size
      have hltU := hS3.lt
      refine n4.out.mono ?_
      rintro e9 W4 ⟨v4, ok, A4, c4, l4, bad4, lr, rfl, hL4, hT4, hk4, hs4, hl4, hyes, hno⟩
      have hO4 := hO3.less hs4 hl4
      have hB4 := hS3.kept hk4 (by omega)
      have K4 := KS3.trans hk4 (fun i _ e => .inl e)
      obtain ⟨Al, cl, rfl, hcl1, hcl2, hil4, hal4⟩ := hL4.form
      obtain ⟨n0, hn0⟩ : ∃ n0, lr.length = n0 := ⟨_, rfl⟩
      rw [hn0] at hL4 hcl1 ⊢
      replace hn0 := Lib.hid hn0
      clear hal4 hil4
      clear n4 hU3 hk4 KS3 hS3 hO3 hs4
      cases ok with
      | false =>
        have hres := Lib.hid (hbadR.out (by have := hno rfl; rw [hd.out] at this; dsimp only at this; have h2 := he.out; rw [this] at h2; cases h2; rfl))
        have hbF := hb1.trans (K4.below (B := w.heap.size) hb1.size (fun i hi e => by have := hb1.size; omega))
        clear hbadR hgoR hyes hno hd he
        go_wp2
        go_ret2
        exact ⟨hbF, .inl ⟨hres.out, rfl⟩⟩
      | true =>
      obtain ⟨htk, rfl⟩ := hyes rfl
      have hcs := htk.symm.trans hd.out
      cases hcs
      clear hyes hno hd htk
      have x40 := hB4.cell 0
      have x41 := hB4.cell 1
      have x42 := hB4.cell 2
      have x43 := hB4.cell 3
      have x44 := hB4.cell 4
      simp only [List.getElem?_toArray, List.getElem?_cons_succ, List.getElem?_cons_zero] at x40 x41 x42 x43 x44
      have xf4 := fun i => hB4.frozen i
      have xl4 := hB4.lt
      have hS4 := hB4.set_ 3 (.slice Al n0 cl)
      simp only [List.setIfInBounds_toArray, List.set_cons_zero, List.set_cons_succ] at hS4
      have kS4 : Keep (fun k => k = W1.heap.size) W4 (W4.setCell ⟨W1.heap.size, 3, none⟩ (.slice Al n0 cl)) := (Keep.refl (fun k => k = W1.heap.size) W4).setCell (p := ⟨W1.heap.size, 3, none⟩) (fun _ => rfl) _
      have hU4 := hT4.keep (B := g) hO4 kS4 (by omega) (fun i hi e => by omega)
      have KS4 := K4.trans kS4 (fun i _ e => .inr (by omega))
      have hLs := hL4.kept kS4 (fun gg hg e => by have := (hL4.lt gg hg).1; omega)
      have n5 := rtflag_any _ g A4 c4 l4 false hU4
      rw [show rst l4 false = some l4 from rfl, he.out] at n5
      dsimp only at n5
      rw [hxc.out] at n5
      replace n5 := Lib.hid n5
      clear K4 kS4 hT4 he hL4
      go_wp2_with fail
      clear x40 x41 x42 x43 x44 xf4
      clear hB4
      generalize (W4.setCell ⟨W1.heap.size, 3, none⟩ (.slice Al n0 cl)) = U4 at *
      refine n5.out.mono ?_
      rintro e9 W5 ⟨A5, c5, l5, bad5, rfl, hT5, hr5, hk5, hs5, hl5⟩
      have hO5 := hO4.less hs5 hl5
      have hB5 := hS4.kept hk5 (by omega)
      have K5 := KS4.trans hk5 (fun i _ e => .inl e)
      have hL5 := hLs.kept hk5 (fun gg hg e => by have := (hLs.lt gg hg).1; omega)
      have x50 := hB5.cell 0
      have x51 := hB5.cell 1
      have x52 := hB5.cell 2
      have x53 := hB5.cell 3
      have x54 := hB5.cell 4
      simp only [List.getElem?_toArray, List.getElem?_cons_succ, List.getElem?_cons_zero] at x50 x51 x52 x53 x54
      have xf5 := fun i => hB5.frozen i
      have xl5 := hB5.lt
      have hS5 := hB5.set_ 4 (.bool xc)
      simp only [List.setIfInBounds_toArray, List.set_cons_zero, List.set_cons_succ] at hS5
      have kS5 : Keep (fun k => k = W1.heap.size) W5 (W5.setCell ⟨W1.heap.size, 4, none⟩ (.bool xc)) := (Keep.refl (fun k => k = W1.heap.size) W5).setCell (p := ⟨W1.heap.size, 4, none⟩) (fun _ => rfl) _
      have hU5 := hT5.keep (B := g) hO5 kS5 (by omega) (fun i hi e => by omega)
      have KS5 := K5.trans kS5 (fun i _ e => .inr (by omega))
      have hL6 := hL5.kept kS5 (fun gg hg e => by have := (hL5.lt gg hg).1; omega)
      clear n5 hU4 hk5 KS4 hS4 hT5 K5 kS5 hO4 hs5 hL5 hLs
      go_upto_region 16 with fail
      clear x50 x51 x52 x53 x54 xf5
      clear hB5
      generalize (W5.setCell ⟨W1.heap.size, 4, none⟩ (.bool xc)) = U5 at *
      have u1 := hU5.blk.cell 1
      have x60 := hS5.cell 0
      have x61 := hS5.cell 1
      have x62 := hS5.cell 2
      have x63 := hS5.cell 3
      have x64 := hS5.cell 4
      simp only [List.getElem?_toArray, List.getElem?_cons_succ, List.getElem?_cons_zero] at x60 x61 x62 x63 x64
      have xf6 := fun i => hS5.frozen i
      have xl6 := hS5.lt
      simp only [List.getElem?_toArray, List.getElem?_cons_succ, List.getElem?_cons_zero] at u1
      have hbF := hb1.trans (KS5.below (B := w.heap.size) hb1.size (fun i hi e => by have := hb1.size; omega))
      cases bad5 with
      | true =>
        have hres := Lib.hid (hbadR.out (by rw [← hr5]; rfl))
        clear hbadR hgoR
        go_wp2
        go_ret2
        exact ⟨hbF, .inl ⟨hres.out, rfl⟩⟩
      | false =>
      have hgo1 := hgoR.out
      rw [← hr5, show rst l5 false = some l5 from rfl] at hgo1
      dsimp only at hgo1
      rw [hxc.out] at hgo1
      clear hbadR hgoR hr5
      by_cases g1 : xm ≤ last
      · have b1 : decide (xm ≤ last) = true := decide_eq_true g1
        have hres := Lib.hid (hgo1.trans (if_pos (Or.inl g1)))
        clear hgo1
        go_wp2
        go_ret2
        exact ⟨hbF, .inl ⟨hres.out, rfl⟩⟩
      have b1 : decide (xm ≤ last) = false := decide_eq_false g1
      by_cases g2 : xf = xt
      · have b2 : (xf == xt) = true := by simp [g2]
        have hres := Lib.hid (hgo1.trans (if_pos (Or.inr (Or.inl g2))))
        clear hgo1
        go_wp2
        go_ret2
        exact ⟨hbF, .inl ⟨hres.out, rfl⟩⟩
      have b2 : (xf == xt) = false := by simp [g2]
      by_cases g3 : xl = []
      · have b3 : ((n0 : Int) == 0) = true := by rw [← hn0.out]; simp [g3]
        have hres := Lib.hid (hgo1.trans (if_pos (Or.inr (Or.inr g3))))
        clear hgo1 g3
        go_wp2
        go_ret2
        exact ⟨hbF, .inl ⟨hres.out, rfl⟩⟩
      have b3 : ((n0 : Int) == 0) = false := by rw [← hn0.out]; simp [g3]
      have b4 : ¬ (n0 : Int) = 0 := by rw [← hn0.out]; simpa using g3
      have hgo := Lib.hid (hgo1.trans (if_neg (fun e => e.elim g1 (fun e => e.elim g2 g3))))
      clear hgo1 g2 g3
      go_wp2
      clear x60 x61 x62 x63 x64 xf6
      clear u1
      have Kz := KS5.trans ((Keep.ofB (S := fun k => k = g ∨ W1.heap.size ≤ k) (Below.refl U5.heap.size U5).drew)) (fun i _ e => e)
      have hRz := hR1.keep Kz (fun i e => by omega)
      have hTz : TK 93 U5.drew g A5 c5 l5 false := hU5.below (Below.refl _ U5).drew
      have hBz := hS5.drew
      have hLz := hL6.drew
      have hbz := hbF.drew
      obtain ⟨vq, hVz⟩ := hRz.qk
      obtain ⟨Aq, cq, rfl, -⟩ := hVz.own.form
      rw [hrk] at hVz
      have hneQ : ¬ (Value.slice Aq k cq).ownBlock = some q := hVz.ne
      have hneB : ¬ (Value.slice Aq k cq).ownBlock = some W1.heap.size := fun e => by have := (hR1.lo _ (hVz.fv _ e)).2; omega
      have hS11 : ∀ W, Below U5.drew.heap.size U5.drew W → (fun W => W.cell? ⟨q, 0, none⟩ = some (.slice Aq k cq) ∧ W.cell? ⟨W1.heap.size, 0, none⟩ = some (.int .i64 xm) ∧ W.cell? ⟨W1.heap.size, 1, none⟩ = some (.int .i64 xf) ∧ W.cell? ⟨W1.heap.size, 2, none⟩ = some (.int .i64 xt) ∧ W.cell? ⟨W1.heap.size, 3, none⟩ = some (.slice Al n0 cl) ∧ W.cell? ⟨W1.heap.size, 4, none⟩ = some (.bool xc)) W := fun W hq => ⟨(hVz.below hq).field, (hBz.kept (Keep.of_below hq) (Nat.not_le.2 hBz.lt)).cell 0, (hBz.kept (Keep.of_below hq) (Nat.not_le.2 hBz.lt)).cell 1, (hBz.kept (Keep.of_below hq) (Nat.not_le.2 hBz.lt)).cell 2, (hBz.kept (Keep.of_below hq) (Nat.not_le.2 hBz.lt)).cell 3, (hBz.kept (Keep.of_below hq) (Nat.not_le.2 hBz.lt)).cell 4⟩
      have sd := hS11 _ (Below.refl _ _)
      have hRl := hR1.lo
      have hWU : W1.heap.size ≤ U5.drew.heap.size := KS5.size
      clear hR1 KS5 hU5 hS5 hL6 hbF Kz hzU
      refine wp_region_z (S := (fun W => W.cell? ⟨q, 0, none⟩ = some (.slice Aq k cq) ∧ W.cell? ⟨W1.heap.size, 0, none⟩ = some (.int .i64 xm) ∧ W.cell? ⟨W1.heap.size, 1, none⟩ = some (.int .i64 xf) ∧ W.cell? ⟨W1.heap.size, 2, none⟩ = some (.int .i64 xt) ∧ W.cell? ⟨W1.heap.size, 3, none⟩ = some (.slice Al n0 cl) ∧ W.cell? ⟨W1.heap.size, 4, none⟩ = some (.bool xc))) 10 (by kernel_rfl) sd (fun hHeld => ?_)
      generalize U5.drew = wz at *
      refine wpAnyZ_take (i := 0) (oi := ?oi0) (u := ?v0) ?hi0 (by kernel_rfl) (by decide) (by kernel_rfl) (by kernel_rfl) (by kernel_rfl) ?hq0 (Or.inl ⟨?hw0, ?hy0⟩) (by assumption) ?rest0
      case hi0 => (simp only [List.getElem?_toArray, List.getElem?_cons_succ, List.getElem?_cons_zero]; rfl)
      case hq0 => exact fun _ _ _ h => h
      case hw0 => rfl
      case hy0 => (intro w hSw; (try dsimp only at hSw); go_simp <;> with_reducible rfl)
      try simp only [Act.put, List.setIfInBounds_toArray, List.set_cons_zero, List.set_cons_succ]
      refine wpAnyZ_take (i := 1) (oi := ?oi1) (u := ?v1) ?hi1 (by kernel_rfl) (by decide) (by kernel_rfl) (by kernel_rfl) (by kernel_rfl) ?hq1 (Or.inl ⟨?hw1, ?hy1⟩) (by assumption) ?rest1
      case hi1 => (simp only [List.getElem?_toArray, List.getElem?_cons_succ, List.getElem?_cons_zero]; rfl)
      case hq1 => exact fun _ _ _ h => h
      case hw1 => rfl
      case hy1 => (intro w hSw; (try dsimp only at hSw); go_simp <;> with_reducible rfl)
      try simp only [Act.put, List.setIfInBounds_toArray, List.set_cons_zero, List.set_cons_succ]
      refine wpAnyZ_take (i := 2) (oi := ?oi2) (u := ?v2) ?hi2 (by kernel_rfl) (by decide) (by kernel_rfl) (by kernel_rfl) (by kernel_rfl) ?hq2 (Or.inl ⟨?hw2, ?hy2⟩) (by assumption) ?rest2
      case hi2 => (simp only [List.getElem?_toArray, List.getElem?_cons_succ, List.getElem?_cons_zero]; rfl)
      case hq2 => exact fun _ _ _ h => h
      case hw2 => rfl
      case hy2 => (intro w hSw; (try dsimp only at hSw); go_simp <;> with_reducible rfl)
      try simp only [Act.put, List.setIfInBounds_toArray, List.set_cons_zero, List.set_cons_succ]
      refine wpAnyZ_take (i := 3) (oi := ?oi3) (u := ?v3) ?hi3 (by kernel_rfl) (by decide) (by kernel_rfl) (by kernel_rfl) (by kernel_rfl) ?hq3 (Or.inl ⟨?hw3, ?hy3⟩) (by assumption) ?rest3
      case hi3 => (simp only [List.getElem?_toArray, List.getElem?_cons_succ, List.getElem?_cons_zero]; rfl)
      case hq3 => exact fun _ _ _ h => h
      case hw3 => rfl
      case hy3 => (intro w hSw; (try dsimp only at hSw); go_simp <;> with_reducible rfl)
      try simp only [Act.put, List.setIfInBounds_toArray, List.set_cons_zero, List.set_cons_succ]
      refine wpAnyZ_take (i := 4) (oi := ?oi4) (u := ?v4) ?hi4 (by kernel_rfl) (by decide) (by kernel_rfl) (by kernel_rfl) (by kernel_rfl) ?hq4 (Or.inl ⟨?hw4, ?hy4⟩) (by assumption) ?rest4
      case hi4 => (simp only [List.getElem?_toArray, List.getElem?_cons_succ, List.getElem?_cons_zero]; rfl)
      case hq4 => exact fun _ _ _ h => h
      case hw4 => rfl
      case hy4 => (intro w hSw; (try dsimp only at hSw); go_simp <;> with_reducible rfl)
      try simp only [Act.put, List.setIfInBounds_toArray, List.set_cons_zero, List.set_cons_succ]
      refine wpAnyZ_take (i := 5) (oi := ?oi5) (u := ?v5) ?hi5 (by kernel_rfl) (by decide) (by kernel_rfl) (by kernel_rfl) (by kernel_rfl) ?hq5 (Or.inl ⟨?hw5, ?hy5⟩) (by assumption) ?rest5
      case hi5 => (simp only [List.getElem?_toArray, List.getElem?_cons_succ, List.getElem?_cons_zero]; rfl)
      case hq5 => exact fun _ _ _ h => h
      case hw5 => rfl
      case hy5 => (intro w hSw; (try dsimp only at hSw); go_simp <;> with_reducible rfl)
      try simp only [Act.put, List.setIfInBounds_toArray, List.set_cons_zero, List.set_cons_succ]
      rename_i Q3 K3 hK3
      replace hK3 := Lib.hid hK3
      refine wpAnyZ_one (i := 6) (o := ?o6) (by kernel_rfl) ?hi6 (fun K hK => ?st6)
      case hi6 => (simp only [List.getElem?_toArray, List.getElem?_cons_succ, List.getElem?_cons_zero]; rfl)
      rw [if_pos (by rfl)]
      refine wp_buildW (.tmp 82) rfl xm xf xt Al n0 cl xc rfl ?_
      have hb11 := (Below.refl wz.heap.size wz).alloc (Nat.le_refl _) (.cells #[.int .i64 xm, .int .i64 xf, .int .i64 xt, .slice Al n0 cl, .bool xc] 59)
      have hn11 := Blk.new wz 59 #[.int .i64 xm, .int .i64 xf, .int .i64 xt, .slice Al n0 cl, .bool xc]
      have s11 := hS11 _ hb11
      have hO11 := hVz.own.alloc (.cells #[.int .i64 xm, .int .i64 xf, .int .i64 xt, .slice Al n0 cl, .bool xc] 59)
      refine hK.out _ _ (fun _ => s11) (fun hHeld2 => ?_)
      clear hK K hHeld
      have hHeld := hHeld2 (by decide)
      clear hHeld2
      try simp only [Act.put, List.setIfInBounds_toArray, List.set_cons_zero, List.set_cons_succ]
      refine wpAnyZ_one (i := 7) (o := ?o7) (by kernel_rfl) ?hi7 (fun K hK => ?st7)
      case hi7 => (simp only [List.getElem?_toArray, List.getElem?_cons_succ, List.getElem?_cons_zero]; rfl)
      rw [if_pos (by rfl)]
      refine wp_appWOn (.tmp 81) (.tmp 83) rfl 0 (.slice Aq k cq) rs rfl hO11 (some ⟨wz.heap.size, 0, none⟩) 1 1 rfl [⟨xm, xf, xt, ⟨Al, n0, cl, xl⟩, xc⟩] (WR.one hn11) (.inr ⟨_, 0, rfl⟩) (by omega) (Nat.zero_le _) ?_
      intro v12 w12 hO12 hK12 e12
      change _ ∨ _ = some (wz.alloc (.cells #[.int .i64 xm, .int .i64 xf, .int .i64 xt, .slice Al n0 cl, .bool xc] 59)).heap.size at e12
      change Keep _ (wz.alloc (.cells #[.int .i64 xm, .int .i64 xf, .int .i64 xt, .slice Al n0 cl, .bool xc] 59)) w12 at hK12
      have s12 : (fun W => W.cell? ⟨q, 0, none⟩ = some (.slice Aq k cq) ∧ W.cell? ⟨W1.heap.size, 0, none⟩ = some (.int .i64 xm) ∧ W.cell? ⟨W1.heap.size, 1, none⟩ = some (.int .i64 xf) ∧ W.cell? ⟨W1.heap.size, 2, none⟩ = some (.int .i64 xt) ∧ W.cell? ⟨W1.heap.size, 3, none⟩ = some (.slice Al n0 cl) ∧ W.cell? ⟨W1.heap.size, 4, none⟩ = some (.bool xc)) w12 := ⟨hK12.cell s11.1 hneQ, hK12.cell s11.2.1 hneB, hK12.cell s11.2.2.1 hneB, hK12.cell s11.2.2.2.1 hneB, hK12.cell s11.2.2.2.2.1 hneB, hK12.cell s11.2.2.2.2.2 hneB⟩
      obtain ⟨A12, c12, rfl, hx12⟩ := hO12.form
      clear hx12
      refine hK.out _ _ (fun _ => s12) (fun hHeld2 => ?_)
      clear hK K hHeld
      have hHeld := hHeld2 (by decide)
      clear hHeld2
      try simp only [Act.put, List.setIfInBounds_toArray, List.set_cons_zero, List.set_cons_succ]
      refine wpAnyZ_one (i := 8) (o := ?o8) (by kernel_rfl) ?hi8 (fun K hK => ?st8)
      case hi8 => (simp only [List.getElem?_toArray, List.getElem?_cons_succ, List.getElem?_cons_zero]; rfl)
      go_simp
      refine hK.out _ _ (fun _ => s12) (fun hHeld2 => ?_)
      clear hK K hHeld
      have hHeld := hHeld2 (by decide)
      clear hHeld2
      try simp only [Act.put, List.setIfInBounds_toArray, List.set_cons_zero, List.set_cons_succ]
      refine wpAnyZ_take (i := 9) (oi := ?oi9) (u := ?v9) ?hi9 (by kernel_rfl) (by decide) (by kernel_rfl) (by kernel_rfl) (by kernel_rfl) ?hq9 (Or.inl ⟨?hw9, ?hy9⟩) (by assumption) ?rest9
      case hi9 => (simp only [List.getElem?_toArray, List.getElem?_cons_succ, List.getElem?_cons_zero]; rfl)
      case hq9 => exact fun _ _ _ h => h
      case hw9 => rfl
      case hy9 => (intro w hSw; (try dsimp only at hSw); go_simp <;> with_reducible rfl)
      try simp only [Act.put, List.setIfInBounds_toArray, List.set_cons_zero, List.set_cons_succ]
      refine wpAnyZ_one (i := 10) (o := ?o10) (by kernel_rfl) ?hi10 (fun K hK => ?st10)
      case hi10 => (simp only [List.getElem?_toArray, List.getElem?_cons_succ, List.getElem?_cons_zero]; rfl)
      have hpc12 := (hVz.pc.alloc (.cells #[.int .i64 xm, .int .i64 xf, .int .i64 xt, .slice Al n0 cl, .bool xc] 59)).kept hK12 hneQ
      have f12 := hpc12.frozen 0
      have hpl12 := hpc12.lt
      have q12 := hpc12.cell 0
      simp at q12
      go_simp
      refine hK.out _ _ (fun h => absurd rfl h) (fun hHeld2 => ?_)
      clear hK K hHeld
      clear hHeld2
      try simp only [Act.put, List.setIfInBounds_toArray, List.set_cons_zero, List.set_cons_succ]
      refine wpAnyZ_done (by kernel_rfl) ?_ _
      have hn0' := hn0.out
      subst hn0'
      have hpcE := hpc12.set_ 0 (.slice A12 (rs ++ [(⟨xm, xf, xt, ⟨Al, xl.length, cl, xl⟩, xc⟩ : Rec)]).length c12)
      simp only [List.setIfInBounds_toArray, List.set_cons_zero] at hpcE
      have kp : Keep (fun k => k = q) w12 (w12.setCell ⟨q, 0, none⟩ (.slice A12 (rs ++ [(⟨xm, xf, xt, ⟨Al, xl.length, cl, xl⟩, xc⟩ : Rec)]).length c12)) := (Keep.refl (fun k => k = q) w12).setCell (p := ⟨q, 0, none⟩) (fun _ => rfl) _
      have hqz := hVz.lt.1
      have hneE : (Value.slice A12 (rs ++ [(⟨xm, xf, xt, ⟨Al, xl.length, cl, xl⟩, xc⟩ : Rec)]).length c12).ownBlock ≠ some q := by
        rcases e12 with e | e
        · rw [e]; exact hVz.ne
        · rw [e, World.size_alloc]; exact fun h => by injection h with h; omega
      have hKz : Keep (fun i => F i ∨ wz.heap.size ≤ i) wz (w12.setCell ⟨q, 0, none⟩ (.slice A12 (rs ++ [(⟨xm, xf, xt, ⟨Al, xl.length, cl, xl⟩, xc⟩ : Rec)]).length c12)) := (((Keep.refl _ wz).alloc (.cells #[.int .i64 xm, .int .i64 xf, .int .i64 xt, .slice Al xl.length cl, .bool xc] 59)).trans hK12 (fun i _ e => .inl (hVz.fv i e))).trans kp (fun i _ e => .inl (by rw [e]; exact hVz.fp))
      have hQ : QK (fun i => F i ∨ wz.heap.size ≤ i) (w12.setCell ⟨q, 0, none⟩ (.slice A12 (rs ++ [(⟨xm, xf, xt, ⟨Al, xl.length, cl, xl⟩, xc⟩ : Rec)]).length c12)) q (rs ++ [(⟨xm, xf, xt, ⟨Al, xl.length, cl, xl⟩, xc⟩ : Rec)]) := ⟨_, hpcE, hO12.kept kp (fun g hg e => hneE (by rw [hg, e])), hneE, .inl hVz.fp, fun gg hg => by
        rcases e12 with e | e
        · rw [e] at hg; exact .inl (hVz.fv gg hg)
        · rw [e, World.size_alloc] at hg; injection hg with hg; exact .inr (by omega)⟩
      obtain ⟨_, _, hvz, -, -, hilz, halz⟩ := hLz.form
      cases hvz
      have hRN := hRz.next hKz hQ (by omega) (r := ⟨xm, xf, xt, ⟨Al, xl.length, cl, xl⟩, xc⟩) ⟨⟨hilz, MY.of_ hmay⟩, fun ad e hn => ⟨by have := (halz ad e).1; omega, fun e2 => by have h1 := (halz ad e).1; have h2 := (hRl _ e2).2; omega⟩⟩
      have hTN := hTz.keep (B := g) hO5 hKz (fun e => e.elim (fun e => by have := (hRz.lo _ e).1; omega) (fun e => by have := hTz.blk.lt; omega)) (fun i hi e => e.elim (fun e => by have := (hRz.lo _ e).1; omega) (fun e => by have := hTz.blk.lt; omega))
      have hbN := hbz.trans (hKz.below (B := w.heap.size) hbz.size (fun i hi e => e.elim (fun e => by have := (hRz.lo _ e).1; omega) (fun e => by have := hbz.size; omega)))
      have hlN : (rs ++ [(⟨xm, xf, xt, ⟨Al, xl.length, cl, xl⟩, xc⟩ : Rec)]).length = k + 1 := by rw [List.length_append, hrk]; rfl
      have hgoN : Hid (r = unpW (NN - (k + 1)) xm ((rs ++ [(⟨xm, xf, xt, ⟨Al, xl.length, cl, xl⟩, xc⟩ : Rec)]).map core) (rst l5 false)) := Lib.hid (by rw [List.map_append]; exact hgo.out)
      replace hKK := hKK.out
      replace hK3 := hK3.out
      rw [hlN] at hRN hTN hbN
      clear hcl1 hneQ hneB hRl hRz hTz hBz hLz hbz hVz hS11 sd hWU hb11 hn11 s11 hO11 hO12 hK12 e12 s12 hpc12 f12 hpl12 q12 hpcE kp hneE hKz hQ hgo hilz halz
      go_wp2
      go_roundw
      case measure => simp [intOf]; omega
      case rel => exact ⟨k + 1, xm, _, _, l5, false, A5, c5, rfl, by go_num, by omega, hlN, ⟨hrng.1, hrng.2⟩, hRN, hTN, hO5, hbN, hgoN⟩
    · replace hKK := hKK.out
      cases bad' with
      | true =>
        have hres := Lib.hid (hD.out.trans (unpW_none _ _ _))
        clear hD hR hT hO hlt
        by_cases hkn : k < NN
        · have hlz : (k : Int) < (NN : Int) := by omega
          go_wp2
          go_ret2
          exact ⟨hb, .inl ⟨hres.out, rfl⟩⟩
        · have hlz : ¬ (k : Int) < (NN : Int) := by omega
          go_wp2
          go_ret2
          exact ⟨hb, .inl ⟨hres.out, rfl⟩⟩
      | false =>
        have hkn : NN - k = 0 := by
          have : ¬ k < NN := fun h => hlt ⟨h, rfl⟩
          omega
        have hlz : ¬ (k : Int) < (NN : Int) := by omega
        have hD' := hD.out
        rw [hkn, show rst l' false = some l' from rfl, unpW] at hD'
        by_cases hl0 : l' = []
        · have hres := Lib.hid (hD'.trans (if_pos (by rw [hl0])))
          have hz0 : ¬ (0 : Int) < (l'.length : Int) := by rw [hl0]; decide
          have hRF : RfI w.heap.size wr q rs F := ⟨hR.qk, fun i hi => by have := hR.lo i hi; omega, fun r hr => ⟨(hR.ls r hr).1, fun ad e hn => ⟨by have := ((hR.ls r hr).2 ad e hn).1; omega, ((hR.ls r hr).2 ad e hn).2⟩⟩⟩
          clear hD' hD hl0 hT hO hlt hR
          go_wp2
          go_ret2
          exact ⟨hb, .inr ⟨rs, q, F, hres.out, rfl, hRF⟩⟩
        · have hres := Lib.hid (hD'.trans (if_neg (fun e => hl0 (Option.some.inj e))))
          have hz0 : (0 : Int) < (l'.length : Int) := by have := List.length_pos_iff.2 hl0; omega
          clear hD' hD hl0 hT hO hlt hR
          go_wp2
          go_ret2
          exact ⟨hb, .inl ⟨hres.out, rfl⟩⟩
end
section
open Go.RowKit
set_option linter.unusedVariables false
set_option linter.unusedSimpArgs false

theorem rise_le {l : List Int} (h : l.Pairwise (fun a b => a < b)) : l.Pairwise (fun a b => a ≤ b) := h.imp fun hab => Int.le_of_lt hab
theorem WJ.of_dec {f : Int → Rec} {rs : List Rec} {l : List WC} (h1 : rs.map core = l) (h2 : ∀ x ∈ l, core (f x.1) = x) (h3 : (l.map fun x => x.1).Pairwise (fun a b => a < b)) : WJ f (l.map fun x => x.1) rs := by
  refine ⟨h3.imp fun hab e => by subst e; exact absurd hab (Int.lt_irrefl _), ?_, fun r hr => ?_⟩
  · rw [sortI_self (rise_le h3), ← h1, List.map_map]
    rfl
  · have := h2 (core r) (by rw [← h1]; exact List.mem_map_of_mem hr)
    exact this.symm
theorem packed_back {f : Int → Rec} {l : List WC} (h2 : ∀ x ∈ l, core (f x.1) = x) (h3 : (l.map fun x => x.1).Pairwise (fun a b => a < b)) : (sortI (l.map fun x => x.1)).map (fun k => core (f k)) = l := by
  rw [sortI_self (rise_le h3), List.map_map]
  have : ∀ l' : List WC, (∀ x ∈ l', core (f x.1) = x) → l'.map ((fun k => core (f k)) ∘ fun x => x.1) = l' := fun l' => by
    induction l' with
    | nil => intro _; rfl
    | cons x t ih =>
      intro h
      rw [List.map_cons, ih (fun y hy => h y (by simp [hy]))]
      show core (f x.1) :: t = x :: t
      rw [h x (by simp)]
  exact this l h2
/-- The rows of moves that the map says, as what is told of them. -/
theorem WJ.cores {f : Int → Rec} {ks : List Int} {rs : List Rec} (h : WJ f ks rs) : (sortI ks).map (fun k => core (f k)) = rs.map core := by
  rw [← h.ms, List.map_map]
  have : ∀ rs' : List Rec, (∀ r ∈ rs', core r = core (f r.m)) → rs'.map ((fun k => core (f k)) ∘ Rec.m) = rs'.map core := fun rs' => by
    induction rs' with
    | nil => intro _; rfl
    | cons x t ih =>
      intro h
      rw [List.map_cons, List.map_cons, ih (fun y hy => h y (by simp [hy]))]
      show core (f x.m) :: _ = core x :: _
      rw [h x (by simp)]
  exact this rs h.eq
end
end Go.Proofs.YtjjghhhhalendaaGreat
