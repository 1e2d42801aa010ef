/- Moves: All of live ones gives each, in order, as a copy. No condition but that they lie in memory. -/
import Derived.Test.YtjjghhhhalendaaGreatZb
import Derived.Test.YtjjghhhhalendaaGreatMwJ
import Derived.OrdersIn
namespace Go.Proofs.YtjjghhhhalendaaGreat
open Go.RowKit Go.Maps Go.Shelf Go.Sort
set_option linter.unusedVariables false
set_option linter.unusedSimpArgs false
attribute [local go_sem] Oper.semAt_some

/-- What is handed on of move x. -/
def EncW (f : Int → Rec) (x : Int) (args : Array Value) (w : World) : Prop := ∃ u A c, args = #[u] ∧ u = .agg #[.int .i64 (f x).m, .int .i64 (f x).f, .int .i64 (f x).t, .slice A (f x).l.l.length c, .bool (f x).c] ∧ IL w A (f x).l.l.length (f x).l.l
set_option maxRecDepth 100000 in
set_option maxHeartbeats 6400000 in
theorem all_gives {F : Nat → Prop} {w : World} {p b N q : Nat} {f : Int → Rec} {ks : List Int} (h : PS F w p b N f ks) (hks : ks.length ≤ 1048576) (hc : w.cell? ⟨q, 0, none⟩ = some (.pointer (some ⟨p, 0, none⟩))) (S : Nat → Prop) (hS : ∀ k, S k → k < w.heap.size) (hSF : ∀ k, F k → k < w.heap.size ∧ ¬ S k) (hSq : ¬ S q) :
    SeqE 48 #[.pointer (some ⟨q, 0, none⟩)] (EncW f) (sortI ks) S w := fun l J Jx W hW hl0 hlW hJ hJx hY h0 => by
  have hqw := World.block_lt_of_cell? _ _ hc
  dsimp only at hqw
  have hc' := (hW.cell hqw).trans hc
  have hP := h.below hW
  have hlt := h.lt
  have hzW := hW.size
  obtain ⟨L, hL⟩ : ∃ L, sortI ks = L := ⟨_, rfl⟩
  rw [hL] at hY ⊢
  refine callsIn_wide.2 ((callsIn_wide (n := 9)).1 ?_)
  refine callsIn_of_wp_marks Tryz.func48 rfl trivial ?_ rfl
  simp only [Tryz.ntmps48, List.size_toArray, List.length_cons, List.length_nil, Nat.reduceAdd, Nat.reduceSub, Array.replicate_succ, Array.replicate_zero, List.push_toArray, List.append_toArray, List.nil_append, List.cons_append]
  have hc2 := cell_old (.cells #[.func (.yield l) #[] #[]] 96) hc'
  have hbx := Blk.new W 96 #[.func (.yield l) #[] #[]]
  have hP2 := hP.alloc (.cells #[.func (.yield l) #[] #[]] 96)
  have hb2 := (Below.refl W.heap.size W).alloc (Nat.le_refl _) (.cells #[.func (.yield l) #[] #[]] 96)
  generalize hW2 : W.alloc (.cells #[.func (.yield l) #[] #[]] 96) = W2 at hc2 hb2 hbx hP2
  have hz2 : W2.heap.size = W.heap.size + 1 := by rw [← hW2]; simp
  have hpr := prising_any hP2
  gi_wp2_with (refine ⟨trivial, ?_⟩; gi_at_call 33; refine (callsIn_wide.2 hpr).mono ?_; rintro e w2 ⟨W4, D, rfl, rfl, hmD, hD, hbW⟩)
  rw [hz2] at hmD
  have hI := (cell_new_a W4 (.map (some (W.heap.size + 1))) 107).1
  have hb4 := (hb2.trans (hbW.mono hb2.size)).alloc (Nat.le_trans hb2.size hbW.size) (.cells #[.map (some (W.heap.size + 1))] 107)
  have hm5 := hmD.alloc (.cells #[.map (some (W.heap.size + 1))] 107)
  have hP5 := (hP2.below hbW).alloc (.cells #[.map (some (W.heap.size + 1))] 107)
  have hbx5 := (hbx.kept (Keep.of_below hbW) (Nat.not_le.2 hbx.lt)).alloc (.cells #[.map (some (W.heap.size + 1))] 107)
  have hz4 := hbW.size
  have hz5 : (W4.alloc (.cells #[.map (some (W.heap.size + 1))] 107)).heap.size = W4.heap.size + 1 := by simp
  have hm2 := hmD.lt
  have hg := kmap_gives W4.heap.size (W.heap.size + 1) N D f ks (fun k => S k ∨ k = l) (W4.alloc (.cells #[.map (some (W.heap.size + 1))] 107)) (fun k h => h.elim (fun h => by have := hS k h; omega) (fun h => by omega)) hI hm5 hD hks (fun h => h.elim (fun h => by have := hS _ h; omega) (fun h => by omega)) (fun h => h.elim (fun h => by have := hS _ h; omega) (fun h => by omega))
  have hsrt : sortI (intKeys D) = sortI ks := hD.sorted
  rw [hsrt, hL] at hg
  have hmem : ∀ x, x ∈ L → x ∈ ks := fun x hx => (List.mem_mergeSort).1 (show x ∈ sortI ks by rw [hL]; exact hx)
  have hJ5 := hJ _ _ _ none h0 (grown_below hb4) (fun r e => by cases e)
  obtain ⟨W5, hW5⟩ : ∃ W5, W4.alloc (.cells #[.map (some (W.heap.size + 1))] 107) = W5 := ⟨_, rfl⟩
  rw [hW5] at hI hb4 hm5 hP5 hbx5 hz5 hg hJ5 ⊢
  clear hW5 hsrt hI hm5 hmD hD hpr hbW hP2 hbx hc2 hW2 hL hc' hP
  have hb5 := hb4.size
  refine range_ownB (a := _) (w := W5) (w0 := W5) (gf := 77) (lb := #[.pointer (some ⟨W4.heap.size, 0, none⟩)]) (by first | rfl | simp [go_sem]) (enters_of Tryz.func77 (by kernel_rfl) rfl) hg (Below.refl _ _) (fun k h => h.elim (fun h => by have := hS k h; omega) (fun h => by omega)) (fun _ => rfl)
    (fun pre W' => J pre W' ∧ Keep (fun k => S k ∨ k = l) W5 W') (fun c pre W' => c = .ret ∧ Jx pre W') ?hI ?hIx ⟨hJ5, Keep.refl _ _⟩ 59 (fun x => (f x).cs.toArray) ?round ?done ?stop
  case hI => exact fun s A A' row h hg hr => ⟨ownFrom_mono hJ (by omega) s A A' row h.1 hg hr, keep_own (β := List Int) _ W5 s A A' row h.2 hg hr⟩
  case hIx => exact fun c s A A' row h hg hr => ⟨h.1, ownFrom_mono hJx (by omega) s A A' row h.2 hg hr⟩
  case round =>
    apply Exists.intro
    constructor
    · rintro l' pre x W' K hpre hz ⟨hJ', hk⟩ hK
      obtain ⟨r, hr⟩ : ∃ r, f x = r := ⟨_, rfl⟩
      obtain ⟨rm, rf, rt, ⟨A0, n0, c0, l0⟩, rc⟩ := r
      have hv : (f x).v = .agg #[.int .i64 rm, .int .i64 rf, .int .i64 rt, .slice A0 n0 c0, .bool rc] := by rw [hr]; rfl
      have hcs : (f x).cs.toArray = #[.int .i64 rm, .int .i64 rf, .int .i64 rt, .slice A0 n0 c0, .bool rc] := by rw [hr]; rfl
      rw [hv]
      rw [hcs] at hK
      have hz2' : W5.heap.size ≤ W'.heap.size := hz
      obtain ⟨Bx, hBx⟩ : ∃ Bx, Bx = W'.heap.size := ⟨_, rfl⟩
      have hJA := hJ _ _ _ none hJ' (grown_below ((Below.refl W'.heap.size W').alloc (Nat.le_refl _) (.cells #[.int .i64 rm, .int .i64 rf, .int .i64 rt, .slice A0 n0 c0, .bool rc] 59))) (fun r e => by cases e)
      have hK2 := hK Bx (W'.alloc (.cells #[.int .i64 rm, .int .i64 rf, .int .i64 rt, .slice A0 n0 c0, .bool rc] 59)) ((Keep.refl _ W').alloc _) ⟨hJA, hk.alloc _⟩ (by omega) (by rw [hBx]; exact Blk.new W' _ _)
      gi_wp2
      rw [← hBx, ← hv]
      exact hK2
    · rintro l' pre x Bx W' hpre hz ⟨hJ', hk⟩ hBx hB
      have hxks : x ∈ ks := hmem x (hpre.subset (by simp))
      have hPW := hP5.kept hk (fun g hg e => e.elim (hSF g hg).2 (fun e => by have := (hSF g hg).1; omega))
      have hrc := hPW.ok x hxks
      have htd := told_any (f x) W'.drew hrc.1.il.drew (by have h1 := hrc.1.il.len; have h2 := hrc.1.few; omega)
      have hbc := (hbx5.kept hk (fun e => e.elim (fun e => by have := hS _ e; omega) (fun e => by omega))).drew.cell 0
      simp only [List.getElem?_toArray, List.getElem?_cons_zero] at hbc
      obtain ⟨r, hr⟩ : ∃ r, f x = r := ⟨_, rfl⟩
      have hYx := fun args W1 => hY pre x args W1 hpre
      unfold EncW at hYx
      rw [hr] at hB htd hYx
      obtain ⟨rm, rf, rt, ⟨A0, n0, c0, l0⟩, rc⟩ := r
      change Blk W' Bx 59 #[.int .i64 rm, .int .i64 rf, .int .i64 rt, .slice A0 n0 c0, .bool rc] at hB
      have hbL := (hbx5.kept hk (fun e => e.elim (fun e => by have := hS _ e; omega) (fun e => by omega))).drew
      have x0 := hB.drew.cell 0
      have x1 := hB.drew.cell 1
      have x2 := hB.drew.cell 2
      have x3 := hB.drew.cell 3
      have x4 := hB.drew.cell 4
      simp only [List.getElem?_toArray, List.getElem?_cons_succ, List.getElem?_cons_zero] at x0 x1 x2 x3 x4
      change Calls _ _ #[.agg #[.int .i64 rm, .int .i64 rf, .int .i64 rt, .slice A0 n0 c0, .bool rc]] _ _ at htd
      gi_wp2
      refine wpIn_region_any (by kernel_rfl) ?_
      change wpAnyIn _ _ _ _ _ _ _ _ _ (World.drew _)
      refine wpAnyIn_ready (rs := [0, 1]) (by kernel_rfl) (by simp) ?_
      refine AllReadyIn.cons (by (simp only [List.getElem?_toArray, List.getElem?_cons_succ, List.getElem?_cons_zero]; rfl)) (fun K hK => ?_) (AllReadyIn.cons (by (simp only [List.getElem?_toArray, List.getElem?_cons_succ, List.getElem?_cons_zero]; rfl)) (fun K hK => ?_) AllReadyIn.nil)
      · skip
        go_simp
        refine hK _ _ ?_
        clear hK K
        try simp only [Act.put, List.setIfInBounds_toArray, List.set_cons_zero, List.set_cons_succ]
        refine wpAnyIn_ready (rs := [1]) (by kernel_rfl) (by simp) ?_
        refine AllReadyIn.cons (by (simp only [List.getElem?_toArray, List.getElem?_cons_succ, List.getElem?_cons_zero]; rfl)) (fun K hK => ?_) AllReadyIn.nil
        go_simp
        refine hK _ _ ?_
        clear hK K
        try simp only [Act.put, List.setIfInBounds_toArray, List.set_cons_zero, List.set_cons_succ]
        refine wpAnyIn_ready (rs := [2]) (by kernel_rfl) (by simp) ?_
        refine AllReadyIn.cons (by (simp only [List.getElem?_toArray, List.getElem?_cons_succ, List.getElem?_cons_zero]; rfl)) (fun K hK => ?_) AllReadyIn.nil
        go_simp
        refine ⟨trivial, ?_⟩
        gi_at_call 49
        refine (callsIn_wide.2 htd).mono ?_
        rintro e W6 ⟨u, rfl, htw, hb6⟩
        refine hK _ _ ?_
        clear hK K
        try simp only [Act.put, List.setIfInBounds_toArray, List.set_cons_zero, List.set_cons_succ]
        obtain ⟨A6, c6, rfl, hO6⟩ := htw
        have hbc6 := (hbL.kept (Keep.of_below hb6) (Nat.not_le.2 hbL.lt)).cell 0
        simp only [List.getElem?_toArray, List.getElem?_cons_zero] at hbc6
        have hbD := (Below.refl W'.heap.size W').drew.trans hb6
        have hJ6 := hJ _ _ _ none hJ' (grown_below hbD) (fun r e => by cases e)
        obtain ⟨_, _, e1, -, -, hil6, -⟩ := hO6.form
        cases e1
        have hz6 := hbD.size
        obtain ⟨⟨fn, tmps, assign, body, hy, hR⟩, -⟩ : YieldAt (Fence.wide.inRound l') 6 Tryz.prog l #[.agg #[.int .i64 rm, .int .i64 rf, .int .i64 rt, .slice A6 l0.length c6, .bool rc]] W6 _ ∧ True := ⟨yieldAny 6 (hYx _ W6 (by omega) hJ6 ⟨_, A6, c6, rfl, rfl, hil6⟩), trivial⟩
        dsimp only at hil6 ⊢
        refine wpAnyIn_ready (rs := [3]) (by kernel_rfl) (by simp) ?_
        refine AllReadyIn.cons (by (simp only [List.getElem?_toArray, List.getElem?_cons_succ, List.getElem?_cons_zero]; rfl)) (fun K hK => ?_) AllReadyIn.nil
        go_simp
        refine hR.mono ?_
        rintro e W7 ⟨hk7, ⟨rfl, hJ7⟩ | ⟨rfl, hJ7⟩⟩
        all_goals have kk := (Keep.ofB (S := fun k => S k ∨ k = l) hbD).trans hk7 (fun _ _ e => e)
        · skip
          refine hK _ _ ?_
          clear hK K
          try simp only [Act.put, List.setIfInBounds_toArray, List.set_cons_zero, List.set_cons_succ]
          refine wpAnyIn_ready (rs := [4]) (by kernel_rfl) (by simp) ?_
          refine AllReadyIn.cons (by (simp only [List.getElem?_toArray, List.getElem?_cons_succ, List.getElem?_cons_zero]; rfl)) (fun K hK => ?_) AllReadyIn.nil
          go_simp
          refine hK _ _ ?_
          clear hK K
          try simp only [Act.put, List.setIfInBounds_toArray, List.set_cons_zero, List.set_cons_succ]
          refine wpAnyIn_done (by kernel_rfl) ?_ _
          gi_wp2
          exact ⟨kk, hJ7, hk.trans kk (fun _ _ e => e)⟩
        · skip
          refine hK _ _ ?_
          clear hK K
          try simp only [Act.put, List.setIfInBounds_toArray, List.set_cons_zero, List.set_cons_succ]
          refine wpAnyIn_ready (rs := [4]) (by kernel_rfl) (by simp) ?_
          refine AllReadyIn.cons (by (simp only [List.getElem?_toArray, List.getElem?_cons_succ, List.getElem?_cons_zero]; rfl)) (fun K hK => ?_) AllReadyIn.nil
          go_simp
          refine hK _ _ ?_
          clear hK K
          try simp only [Act.put, List.setIfInBounds_toArray, List.set_cons_zero, List.set_cons_succ]
          refine wpAnyIn_done (by kernel_rfl) ?_ _
          gi_wp2
          exact ⟨kk, rfl, hJ7⟩
      · skip
        go_simp
        refine hK _ _ ?_
        clear hK K
        try simp only [Act.put, List.setIfInBounds_toArray, List.set_cons_zero, List.set_cons_succ]
        refine wpAnyIn_ready (rs := [0, 2]) (by kernel_rfl) (by simp) ?_
        refine AllReadyIn.cons (by (simp only [List.getElem?_toArray, List.getElem?_cons_succ, List.getElem?_cons_zero]; rfl)) (fun K hK => ?_) (AllReadyIn.cons (by (simp only [List.getElem?_toArray, List.getElem?_cons_succ, List.getElem?_cons_zero]; rfl)) (fun K hK => ?_) AllReadyIn.nil)
        · skip
          go_simp
          refine hK _ _ ?_
          clear hK K
          try simp only [Act.put, List.setIfInBounds_toArray, List.set_cons_zero, List.set_cons_succ]
          refine wpAnyIn_ready (rs := [2]) (by kernel_rfl) (by simp) ?_
          refine AllReadyIn.cons (by (simp only [List.getElem?_toArray, List.getElem?_cons_succ, List.getElem?_cons_zero]; rfl)) (fun K hK => ?_) AllReadyIn.nil
          go_simp
          refine ⟨trivial, ?_⟩
          gi_at_call 49
          refine (callsIn_wide.2 htd).mono ?_
          rintro e W6 ⟨u, rfl, htw, hb6⟩
          refine hK _ _ ?_
          clear hK K
          try simp only [Act.put, List.setIfInBounds_toArray, List.set_cons_zero, List.set_cons_succ]
          obtain ⟨A6, c6, rfl, hO6⟩ := htw
          have hbc6 := (hbL.kept (Keep.of_below hb6) (Nat.not_le.2 hbL.lt)).cell 0
          simp only [List.getElem?_toArray, List.getElem?_cons_zero] at hbc6
          have hbD := (Below.refl W'.heap.size W').drew.trans hb6
          have hJ6 := hJ _ _ _ none hJ' (grown_below hbD) (fun r e => by cases e)
          obtain ⟨_, _, e1, -, -, hil6, -⟩ := hO6.form
          cases e1
          have hz6 := hbD.size
          obtain ⟨⟨fn, tmps, assign, body, hy, hR⟩, -⟩ : YieldAt (Fence.wide.inRound l') 6 Tryz.prog l #[.agg #[.int .i64 rm, .int .i64 rf, .int .i64 rt, .slice A6 l0.length c6, .bool rc]] W6 _ ∧ True := ⟨yieldAny 6 (hYx _ W6 (by omega) hJ6 ⟨_, A6, c6, rfl, rfl, hil6⟩), trivial⟩
          dsimp only at hil6 ⊢
          refine wpAnyIn_ready (rs := [3]) (by kernel_rfl) (by simp) ?_
          refine AllReadyIn.cons (by (simp only [List.getElem?_toArray, List.getElem?_cons_succ, List.getElem?_cons_zero]; rfl)) (fun K hK => ?_) AllReadyIn.nil
          go_simp
          refine hR.mono ?_
          rintro e W7 ⟨hk7, ⟨rfl, hJ7⟩ | ⟨rfl, hJ7⟩⟩
          all_goals have kk := (Keep.ofB (S := fun k => S k ∨ k = l) hbD).trans hk7 (fun _ _ e => e)
          · skip
            refine hK _ _ ?_
            clear hK K
            try simp only [Act.put, List.setIfInBounds_toArray, List.set_cons_zero, List.set_cons_succ]
            refine wpAnyIn_ready (rs := [4]) (by kernel_rfl) (by simp) ?_
            refine AllReadyIn.cons (by (simp only [List.getElem?_toArray, List.getElem?_cons_succ, List.getElem?_cons_zero]; rfl)) (fun K hK => ?_) AllReadyIn.nil
            go_simp
            refine hK _ _ ?_
            clear hK K
            try simp only [Act.put, List.setIfInBounds_toArray, List.set_cons_zero, List.set_cons_succ]
            refine wpAnyIn_done (by kernel_rfl) ?_ _
            gi_wp2
            exact ⟨kk, hJ7, hk.trans kk (fun _ _ e => e)⟩
          · skip
            refine hK _ _ ?_
            clear hK K
            try simp only [Act.put, List.setIfInBounds_toArray, List.set_cons_zero, List.set_cons_succ]
            refine wpAnyIn_ready (rs := [4]) (by kernel_rfl) (by simp) ?_
            refine AllReadyIn.cons (by (simp only [List.getElem?_toArray, List.getElem?_cons_succ, List.getElem?_cons_zero]; rfl)) (fun K hK => ?_) AllReadyIn.nil
            go_simp
            refine hK _ _ ?_
            clear hK K
            try simp only [Act.put, List.setIfInBounds_toArray, List.set_cons_zero, List.set_cons_succ]
            refine wpAnyIn_done (by kernel_rfl) ?_ _
            gi_wp2
            exact ⟨kk, rfl, hJ7⟩
        · skip
          go_simp
          refine ⟨trivial, ?_⟩
          gi_at_call 49
          refine (callsIn_wide.2 htd).mono ?_
          rintro e W6 ⟨u, rfl, htw, hb6⟩
          refine hK _ _ ?_
          clear hK K
          try simp only [Act.put, List.setIfInBounds_toArray, List.set_cons_zero, List.set_cons_succ]
          obtain ⟨A6, c6, rfl, hO6⟩ := htw
          have hbc6 := (hbL.kept (Keep.of_below hb6) (Nat.not_le.2 hbL.lt)).cell 0
          simp only [List.getElem?_toArray, List.getElem?_cons_zero] at hbc6
          have hbD := (Below.refl W'.heap.size W').drew.trans hb6
          have hJ6 := hJ _ _ _ none hJ' (grown_below hbD) (fun r e => by cases e)
          obtain ⟨_, _, e1, -, -, hil6, -⟩ := hO6.form
          cases e1
          have hz6 := hbD.size
          obtain ⟨⟨fn, tmps, assign, body, hy, hR⟩, -⟩ : YieldAt (Fence.wide.inRound l') 6 Tryz.prog l #[.agg #[.int .i64 rm, .int .i64 rf, .int .i64 rt, .slice A6 l0.length c6, .bool rc]] W6 _ ∧ True := ⟨yieldAny 6 (hYx _ W6 (by omega) hJ6 ⟨_, A6, c6, rfl, rfl, hil6⟩), trivial⟩
          dsimp only at hil6 ⊢
          refine wpAnyIn_ready (rs := [0]) (by kernel_rfl) (by simp) ?_
          refine AllReadyIn.cons (by (simp only [List.getElem?_toArray, List.getElem?_cons_succ, List.getElem?_cons_zero]; rfl)) (fun K hK => ?_) AllReadyIn.nil
          go_simp
          refine hK _ _ ?_
          clear hK K
          try simp only [Act.put, List.setIfInBounds_toArray, List.set_cons_zero, List.set_cons_succ]
          refine wpAnyIn_ready (rs := [3]) (by kernel_rfl) (by simp) ?_
          refine AllReadyIn.cons (by (simp only [List.getElem?_toArray, List.getElem?_cons_succ, List.getElem?_cons_zero]; rfl)) (fun K hK => ?_) AllReadyIn.nil
          go_simp
          refine hR.mono ?_
          rintro e W7 ⟨hk7, ⟨rfl, hJ7⟩ | ⟨rfl, hJ7⟩⟩
          all_goals have kk := (Keep.ofB (S := fun k => S k ∨ k = l) hbD).trans hk7 (fun _ _ e => e)
          · skip
            refine hK _ _ ?_
            clear hK K
            try simp only [Act.put, List.setIfInBounds_toArray, List.set_cons_zero, List.set_cons_succ]
            refine wpAnyIn_ready (rs := [4]) (by kernel_rfl) (by simp) ?_
            refine AllReadyIn.cons (by (simp only [List.getElem?_toArray, List.getElem?_cons_succ, List.getElem?_cons_zero]; rfl)) (fun K hK => ?_) AllReadyIn.nil
            go_simp
            refine hK _ _ ?_
            clear hK K
            try simp only [Act.put, List.setIfInBounds_toArray, List.set_cons_zero, List.set_cons_succ]
            refine wpAnyIn_done (by kernel_rfl) ?_ _
            gi_wp2
            exact ⟨kk, hJ7, hk.trans kk (fun _ _ e => e)⟩
          · skip
            refine hK _ _ ?_
            clear hK K
            try simp only [Act.put, List.setIfInBounds_toArray, List.set_cons_zero, List.set_cons_succ]
            refine wpAnyIn_ready (rs := [4]) (by kernel_rfl) (by simp) ?_
            refine AllReadyIn.cons (by (simp only [List.getElem?_toArray, List.getElem?_cons_succ, List.getElem?_cons_zero]; rfl)) (fun K hK => ?_) AllReadyIn.nil
            go_simp
            refine hK _ _ ?_
            clear hK K
            try simp only [Act.put, List.setIfInBounds_toArray, List.set_cons_zero, List.set_cons_succ]
            refine wpAnyIn_done (by kernel_rfl) ?_ _
            gi_wp2
            exact ⟨kk, rfl, hJ7⟩
  case done =>
    intro D W' hD8 ⟨hJ', hk⟩ hDf
    gi_wp2
    refine ⟨by simp, .inl ⟨_, _, rfl, run_takeDeferred hDf, ?_⟩⟩
    exact ⟨_, results_none rfl _ _ _, ⟨_, rfl⟩, .inl (hJ.putObj _ hJ' (by omega) hDf rfl)⟩
  case stop =>
    rintro D c pre W' hD8 hpre ⟨rfl, hJx'⟩ hDf
    gi_wp2
    refine ⟨by simp, .inl ⟨_, _, rfl, run_takeDeferred hDf, ?_⟩⟩
    exact ⟨_, results_none rfl _ _ _, ⟨_, rfl⟩, .inr ⟨pre, hpre, hJx.putObj _ hJx' (by omega) hDf rfl⟩⟩
end Go.Proofs.YtjjghhhhalendaaGreat
