/- Parcels: Open that is done; Parcel, Left, Len. No condition but that they lie in memory. -/
import Derived.Test.YthccfmlfofdaeaaPcT
namespace Go.Proofs.Ythccfmlfofdaeaa
open Go.RowKit Go.Maps Go.Shelf Go.Sort
set_option linter.unusedVariables false
set_option linter.unusedSimpArgs false

theorem wf_int {a : Int} (h : (Lit.int .i64 a).wf = true) : -9223372036854775808 ≤ a ∧ a ≤ 9223372036854775807 := by
  simpa [Lit.wf, IntKind.min, IntKind.max, IntKind.signed, IntKind.bits] using h
set_option maxRecDepth 100000 in
set_option maxHeartbeats 3200000 in
theorem popen_ok {F : Nat → Prop} {w : World} {p b N : Nat} {f : Int → Rec} {ks : List Int} (h : PS F w p b N f ks) (hN : N < maxLen) (k : Int) (A : Option Addr) (c : Nat) (l : List It) (hil : IL w A l.length l) (hlit : ∀ y ∈ l, y.1.length ≤ maxLen ∧ (Lit.int .i64 y.2).wf = true)
    (hkw : (Lit.int .i64 k).wf = true) (h1 : 1 ≤ k) (h2 : k ≤ 1099511627776) (hmay : mayL l = true) (hl0 : l ≠ []) (hks : k ∉ ks) :
    Calls Try.prog 9 #[.pointer (some ⟨p, 0, none⟩), .int .i64 k, .slice A l.length c] w fun e w' => e = .returned (.int .i64 0) ∧ ∃ x : Ls, x.l = l ∧ PS (fun k => F k ∨ w.heap.size ≤ k) w' p b (N + 1) (fun i => if i = k then ⟨k, x, ls0, ls0, fr0⟩ else f i) (addK ks k) ∧ Keep (fun i => i = b) w w' := by
  have hfew : l.length ≤ 16 := (mayL_from hmay).1
  have hlp : ((l.length : Int) == 0) = false := beq_eq_false_iff_ne.2 (fun e => hl0 (List.eq_nil_of_length_eq_zero (by omega)))
  have hkd : decide (k ∈ ks) = false := decide_eq_false hks
  have hlk := h.look hkw
  rw [h.no k hks, hkd, rec0_v] at hlk
  have hmy := mayI_any A l.length c l (w.alloc (.cells #[.int .i64 0, .slice none 0 0, .slice none 0 0, .slice none 0 0, .bool false, .bool false, .bool false, .bool false, .bool false, .bool false, .bool false, .bool false] 55)) (hil.alloc _) (by omega)
  rw [hmay] at hmy
  have g1 : ¬ k < 1 := by omega
  have g2 : ¬ (1099511627776 : Int) < k := by omega
  have HN := Lib.hid hN
  clear hks hl0 hkd h1 h2
  go_enter Try.func9, Try.ntmps9
  go_wp2_with fail
  refine (pall_any h).mono ?_
  rintro e w' ⟨rfl, hww⟩
  subst hww
  go_wp2_with fail
  refine hmy.mono ?_
  rintro e w1 ⟨rfl, hx1⟩
  have hb1 := ((Below.refl w'.heap.size w').alloc (Nat.le_refl _) (.cells #[.int .i64 0, .slice none 0 0, .slice none 0 0, .slice none 0 0, .bool false, .bool false, .bool false, .bool false, .bool false, .bool false, .bool false, .bool false] 55)).trans (hx1.mono (by simp))
  clear hmy hlk hx1
  go_upto_region 10 with fail
  have hP1 := h.below hb1
  have hil1 := hil.below hb1
  have s1 := hP1.pc.cell 0
  simp at s1
  have sd : (fun W => W.cell? ⟨p, 0, none⟩ = some (.map (some b))) w1.drew := s1
  have hP2 := hP1.drew
  have hil2 := hil1.drew
  have hb2 := hb1.drew
  have hNN : N < maxLen := HN.out
  refine wp_region_held_drew (S := (fun W => W.cell? ⟨p, 0, none⟩ = some (.map (some b)))) (by kernel_rfl) sd (fun hHeld => ?_)
  generalize w1.drew = w2 at *
  obtain ⟨KB, hKB⟩ : ∃ K, w2.heap.size = K := ⟨_, rfl⟩
  have hb20 := Below.refl w2.heap.size w2
  rw [hKB] at hb20
  have HKB := Lib.hid hKB
  have hKw : w'.heap.size ≤ KB := by have := hb2.size; omega
  clear hKB
  (refine tkI 0 (by (simp only [List.getElem?_toArray, List.getElem?_cons_succ, List.getElem?_cons_zero]; rfl)) (by kernel_rfl) (by kernel_rfl) (by kernel_rfl) (by exact fun _ _ _ h => h) (by rfl) (by (intro w hSw; (try dsimp only at hSw); go_simp <;> with_reducible rfl)) (by assumption) ?_; try simp only [Act.put, List.setIfInBounds_toArray, List.set_cons_zero, List.set_cons_succ])
  (refine tkI 1 (by (simp only [List.getElem?_toArray, List.getElem?_cons_succ, List.getElem?_cons_zero]; rfl)) (by kernel_rfl) (by kernel_rfl) (by kernel_rfl) (by exact fun _ _ _ h => h) (by rfl) (by (intro w hSw; (try dsimp only at hSw); go_simp <;> with_reducible rfl)) (by assumption) ?_; try simp only [Act.put, List.setIfInBounds_toArray, List.set_cons_zero, List.set_cons_succ])
  (refine tkI 2 (by (simp only [List.getElem?_toArray, List.getElem?_cons_succ, List.getElem?_cons_zero]; rfl)) (by kernel_rfl) (by kernel_rfl) (by kernel_rfl) (by exact fun _ _ _ h => h) (by rfl) (by (intro w hSw; (try dsimp only at hSw); go_simp <;> with_reducible rfl)) (by assumption) ?_; try simp only [Act.put, List.setIfInBounds_toArray, List.set_cons_zero, List.set_cons_succ])
  (refine tkI 3 (by (simp only [List.getElem?_toArray, List.getElem?_cons_succ, List.getElem?_cons_zero]; rfl)) (by kernel_rfl) (by kernel_rfl) (by kernel_rfl) (by exact fun _ _ _ h => h) (by rfl) (by (intro w hSw; (try dsimp only at hSw); go_simp <;> with_reducible rfl)) (by assumption) ?_; try simp only [Act.put, List.setIfInBounds_toArray, List.set_cons_zero, List.set_cons_succ])
  (refine tkI 4 (by (simp only [List.getElem?_toArray, List.getElem?_cons_succ, List.getElem?_cons_zero]; rfl)) (by kernel_rfl) (by kernel_rfl) (by kernel_rfl) (by exact fun _ _ _ h => h) (by rfl) (by (intro w hSw; (try dsimp only at hSw); go_simp <;> with_reducible rfl)) (by assumption) ?_; try simp only [Act.put, List.setIfInBounds_toArray, List.set_cons_zero, List.set_cons_succ])
  (refine tkI 5 (by (simp only [List.getElem?_toArray, List.getElem?_cons_succ, List.getElem?_cons_zero]; rfl)) (by kernel_rfl) (by kernel_rfl) (by kernel_rfl) (by exact fun _ _ _ h => h) (by rfl) (by (intro w hSw; (try dsimp only at hSw); go_simp <;> with_reducible rfl)) (by assumption) ?_; try simp only [Act.put, List.setIfInBounds_toArray, List.set_cons_zero, List.set_cons_succ])
  (refine tkI 6 (by (simp only [List.getElem?_toArray, List.getElem?_cons_succ, List.getElem?_cons_zero]; rfl)) (by kernel_rfl) (by kernel_rfl) (by kernel_rfl) (by exact fun _ _ _ h => h) (by rfl) (by (intro w hSw; (try dsimp only at hSw); go_simp <;> with_reducible rfl)) (by assumption) ?_; try simp only [Act.put, List.setIfInBounds_toArray, List.set_cons_zero, List.set_cons_succ])
  refine wpAnyH_ready (rs := [7]) (by kernel_rfl) (by simp) ?_
  refine AllReadyH.cons (by (simp only [List.getElem?_toArray, List.getElem?_cons_succ, List.getElem?_cons_zero]; rfl)) (fun K hK => ?_) AllReadyH.nil
  go_simp
  refine (clone_any A l.length c l _ (hil2.below (by rw [HKB.out]; exact hb20)) (by omega)).mono ?_
  rintro e W7 ⟨v7, rfl, ho7, hx7⟩
  obtain ⟨A7, c7, rfl, hcap7, hm7, hil7, hal7⟩ := ho7.form
  have hPS7 := (hP2.mono (G := fun k => F k ∨ KB ≤ k) (fun _ _ e => .inl e)).below hx7
  have hlz : ∀ ad, A7 = some ad → 0 < l.length → (F ad.block ∨ KB ≤ ad.block) ∧ ad.block ≠ p ∧ ad.block ≠ b := fun ad e _ => by have h1 := (hal7 ad e).1; have h2 := hP2.lt; rw [HKB.out] at h1 h2; exact ⟨.inr h1, by omega, by omega⟩
  obtain ⟨W9, hrun9, hPS9, hk9⟩ := hPS7.upd hN hkw ⟨k, ⟨A7, l.length, c7, l⟩, ls0, ls0, fr0⟩ ⟨⟨hil7, hcap7, hfew, hmay, hlit, hlz⟩, LsOK.zero, LsOK.zero⟩
  have hrun : (Instr.mapUpdate 48 (.map (some b)) (.int .i64 k) (.agg #[.int .i64 k, .slice A7 l.length c7, .slice none 0 0, .slice none 0 0, .bool false, .bool false, .bool false, .bool false, .bool false, .bool false, .bool false, .bool false])).run Try.prog W7 = .ok () W9 := hrun9
  have s7 := hPS7.pc.cell 0
  simp at s7
  have s9 := hPS9.pc.cell 0
  simp at s9
  refine hK.out _ _ s7 (fun hHeld2 => ?_)
  clear hK K hHeld
  have hHeld := hHeld2
  clear hHeld2
  try simp only [Act.put, List.setIfInBounds_toArray, List.set_cons_zero, List.set_cons_succ]
  (refine tkI 8 (by (simp only [List.getElem?_toArray, List.getElem?_cons_succ, List.getElem?_cons_zero]; rfl)) (by kernel_rfl) (by kernel_rfl) (by kernel_rfl) (by exact fun _ _ _ h => h) (by rfl) (by (intro w hSw; (try dsimp only at hSw); go_simp <;> with_reducible rfl)) (by assumption) ?_; try simp only [Act.put, List.setIfInBounds_toArray, List.set_cons_zero, List.set_cons_succ])
  (refine tkI 9 (by (simp only [List.getElem?_toArray, List.getElem?_cons_succ, List.getElem?_cons_zero]; rfl)) (by kernel_rfl) (by kernel_rfl) (by kernel_rfl) (by exact fun _ _ _ h => h) (by rfl) (by (intro w hSw; (try dsimp only at hSw); go_simp <;> with_reducible rfl)) (by assumption) ?_; try simp only [Act.put, List.setIfInBounds_toArray, List.set_cons_zero, List.set_cons_succ])
  refine wpAnyH_ready (rs := [10]) (by kernel_rfl) (by simp) ?_
  refine AllReadyH.cons (by (simp only [List.getElem?_toArray, List.getElem?_cons_succ, List.getElem?_cons_zero]; rfl)) (fun K hK => ?_) AllReadyH.nil
  go_simp
  refine hK.out _ _ s9 (fun hHeld2 => ?_)
  clear hK K hHeld
  have hHeld := hHeld2
  clear hHeld2
  try simp only [Act.put, List.setIfInBounds_toArray, List.set_cons_zero, List.set_cons_succ]
  refine wpAnyH_done (by kernel_rfl) ?_ _
  go_wp2
  go_ret
  refine ⟨rfl, ⟨A7, l.length, c7, l⟩, rfl, hPS9.mono (fun i _ e => ?_), ((Keep.ofB hb2).trans ((Keep.ofB (S := fun i => i = b) hx7)) (fun i hi e => e)).trans hk9 (fun i hi e => e)⟩
  rcases e with e | e
  · exact .inl e
  · exact .inr (by omega)
set_option maxRecDepth 100000 in
set_option maxHeartbeats 3200000 in
/-- Parcel: what is told of a record, or nothing. -/
theorem parcel_any {F : Nat → Prop} {w : World} {p b N : Nat} {f : Int → Rec} {ks : List Int} (h : PS F w p b N f ks) (k : Int) (hkw : (Lit.int .i64 k).wf = true) :
    Calls Try.prog 13 #[.pointer (some ⟨p, 0, none⟩), .int .i64 k] w fun e w' => ∃ u, e = .returned (.tuple #[u, .bool (decide (k ∈ ks))]) ∧ Told w.heap.size w' (f k).o (f k).w.l (f k).s.l (f k).b.l u ∧ Below w.heap.size w w' := by
  have hrc := h.rc k
  have hlk := (h.alloc (.cells #[.int .i64 0, .slice none 0 0, .slice none 0 0, .slice none 0 0] 35)).look hkw
  have hba := (Below.refl w.heap.size w).alloc (Nat.le_refl _) (.cells #[.int .i64 0, .slice none 0 0, .slice none 0 0, .slice none 0 0] 35)
  obtain ⟨I, hI⟩ : ∃ I, decide (k ∈ ks) = I := ⟨_, rfl⟩
  rw [hI] at hlk ⊢
  generalize f k = r at hrc hlk ⊢
  obtain ⟨o, ⟨wA, wn, wc, wl⟩, ⟨sA, sn, sc, sl⟩, ⟨bA, bn, bc, bl⟩, ⟨f0, f1, f2, f3, f4, f5, f6, f7⟩⟩ := r
  obtain ⟨hw, hs, hbk⟩ := hrc
  have n1 := hw.il.len
  have n2 := hs.il.len
  have n3 := hbk.il.len
  have m1 := hw.few
  have m2 := hs.few
  have m3 := hbk.few
  dsimp only at n1 n2 n3 m1 m2 m3 ⊢
  change (Instr.lookup _ _ _ _).run _ _ = Result.ok (.tuple #[.agg #[.int .i64 o, .slice wA wn wc, .slice sA sn sc, .slice bA bn bc, .bool f0, .bool f1, .bool f2, .bool f3, .bool f4, .bool f5, .bool f6, .bool f7], .bool I]) _ at hlk
  have hb2 := hba.alloc hba.size (.cells #[.int .i64 o, .slice wA wn wc, .slice sA sn sc, .slice bA bn bc, .bool f0, .bool f1, .bool f2, .bool f3, .bool f4, .bool f5, .bool f6, .bool f7] 55)
  have hzb := (Blk.new w 35 #[.int .i64 0, .slice none 0 0, .slice none 0 0, .slice none 0 0]).alloc (.cells #[.int .i64 o, .slice wA wn wc, .slice sA sn sc, .slice bA bn bc, .bool f0, .bool f1, .bool f2, .bool f3, .bool f4, .bool f5, .bool f6, .bool f7] 55)
  have htd := told_cells o wA sA bA wn wc sn sc bn bc wl sl bl f0 f1 f2 f3 f4 f5 f6 f7 ((w.alloc (.cells #[.int .i64 0, .slice none 0 0, .slice none 0 0, .slice none 0 0] 35)).alloc (.cells #[.int .i64 o, .slice wA wn wc, .slice sA sn sc, .slice bA bn bc, .bool f0, .bool f1, .bool f2, .bool f3, .bool f4, .bool f5, .bool f6, .bool f7] 55)) (hw.il.below hb2) (hs.il.below hb2) (hbk.il.below hb2) (by omega) (by omega) (by omega)
  have hpa := pall_any (h.alloc (.cells #[.int .i64 0, .slice none 0 0, .slice none 0 0, .slice none 0 0] 35))
  clear hI hw hs hbk h n1 n2 n3 m1 m2 m3
  go_enter Try.func13, Try.ntmps13
  go_wp2_with fail
  refine hpa.mono ?_
  rintro e w' ⟨rfl, hww⟩
  subst hww
  go_wp2_with fail
  refine htd.mono ?_
  rintro e w3 ⟨u, rfl, ⟨A6, c6, A10, c10, A14, c14, rfl, o6, o10, o14⟩, hx3⟩
  have hb3 := hb2.trans (hx3.mono hb2.size)
  have hz := hzb.kept (Keep.of_below hx3) (Nat.not_le.2 hzb.lt)
  have z0 := hz.cell 0
  have z1 := hz.cell 1
  have z2 := hz.cell 2
  have z3 := hz.cell 3
  have zf := fun i => hz.frozen i
  have zl := hz.lt
  simp at z0 z1 z2 z3
  clear htd hpa hlk hx3 hzb
  go_wp2_with fail
  have zE := fill4 hz (.int .i64 o) (.slice A6 wl.length c6) (.slice A10 sl.length c10) (.slice A14 bl.length c14)
  have kE := keep4 w3 w.heap.size (.int .i64 o) (.slice A6 wl.length c6) (.slice A10 sl.length c10) (.slice A14 bl.length c14)
  generalize (((w3.setCell ⟨w.heap.size, 0, none⟩ (.int .i64 o)).setCell ⟨w.heap.size, 1, none⟩ (.slice A6 wl.length c6)).setCell ⟨w.heap.size, 2, none⟩ (.slice A10 sl.length c10)).setCell ⟨w.heap.size, 3, none⟩ (.slice A14 bl.length c14) = WE at zE kE ⊢
  have y0 := zE.cell 0
  have y1 := zE.cell 1
  have y2 := zE.cell 2
  have y3 := zE.cell 3
  simp at y0 y1 y2 y3
  have hsz : ((w.alloc (.cells #[.int .i64 0, .slice none 0 0, .slice none 0 0, .slice none 0 0] 35)).alloc (.cells #[.int .i64 o, .slice wA wn wc, .slice sA sn sc, .slice bA bn bc, .bool f0, .bool f1, .bool f2, .bool f3, .bool f4, .bool f5, .bool f6, .bool f7] 55)).heap.size = w.heap.size + 2 := by simp
  rw [hsz] at o6 o10 o14
  have hbE := hb3.trans (kE.below (B := w.heap.size) hb3.size (fun i hi e => by omega))
  refine bodyPost_ret (v := .tuple #[.agg #[.int .i64 o, .slice A6 wl.length c6, .slice A10 sl.length c10, .slice A14 bl.length c14], .bool I]) (by simp [results, Try.results13, go_sem, y0, y1, y2, y3]) rfl ?_
  exact ⟨_, rfl, ⟨A6, c6, A10, c10, A14, c14, rfl, (o6.kept kE (fun g hg e => by have := (o6.lt g hg).1; omega)).mono (by omega), (o10.kept kE (fun g hg e => by have := (o10.lt g hg).1; omega)).mono (by omega), (o14.kept kE (fun g hg e => by have := (o14.lt g hg).1; omega)).mono (by omega)⟩, hbE⟩
set_option maxRecDepth 100000 in
/-- Left: what was shipped and is not back. -/
theorem left_any {F : Nat → Prop} {w : World} {p b N : Nat} {f : Int → Rec} {ks : List Int} (h : PS F w p b N f ks) (k : Int) (hkw : (Lit.int .i64 k).wf = true) :
    Calls Try.prog 16 #[.pointer (some ⟨p, 0, none⟩), .int .i64 k] w fun e w' => ∃ v, e = .returned v ∧ OI w.heap.size w' v (restL (f k).s.l (f k).b.l) ∧ Below w.heap.size w w' := by
  have hrc := h.rc k
  have hlk := h.look1 hkw
  generalize f k = r at hrc hlk ⊢
  obtain ⟨o, ⟨wA, wn, wc, wl⟩, ⟨sA, sn, sc, sl⟩, ⟨bA, bn, bc, bl⟩, ⟨f0, f1, f2, f3, f4, f5, f6, f7⟩⟩ := r
  obtain ⟨hw, hs, hbk⟩ := hrc
  have n2 := hs.il.len
  have n3 := hbk.il.len
  have m2 := hs.few
  have m3 := hbk.few
  have hli := hs.lit
  dsimp only at n2 n3 m2 m3 hli ⊢
  change (Instr.lookup _ _ _ _).run _ _ = Result.ok (.agg #[.int .i64 o, .slice wA wn wc, .slice sA sn sc, .slice bA bn bc, .bool f0, .bool f1, .bool f2, .bool f3, .bool f4, .bool f5, .bool f6, .bool f7]) _ at hlk
  have hb2 := (Below.refl w.heap.size w).alloc (Nat.le_refl _) (.cells #[.int .i64 o, .slice wA wn wc, .slice sA sn sc, .slice bA bn bc, .bool f0, .bool f1, .bool f2, .bool f3, .bool f4, .bool f5, .bool f6, .bool f7] 55)
  have hre := rest_any sA bA sn sc bn bc sl bl (w.alloc (.cells #[.int .i64 o, .slice wA wn wc, .slice sA sn sc, .slice bA bn bc, .bool f0, .bool f1, .bool f2, .bool f3, .bool f4, .bool f5, .bool f6, .bool f7] 55)) (hs.il.alloc _) (hbk.il.alloc _) (by omega) (by omega) hli
  have hpa := pall_any h
  clear hw hs hbk h hli n2 n3 m2 m3
  go_enter Try.func16, Try.ntmps16
  go_wp2_with fail
  refine hpa.mono ?_
  rintro e w' ⟨rfl, hww⟩
  subst hww
  go_wp2_with fail
  refine hre.mono ?_
  rintro e w3 ⟨v, rfl, ho, hx3⟩
  obtain ⟨A, c, rfl, hfm⟩ := ho.form
  clear hfm
  have hb3 := hb2.trans (hx3.mono hb2.size)
  go_wp2
  go_ret
  exact ⟨_, rfl, ho.mono (by simp), hb3⟩
set_option maxRecDepth 100000 in
theorem left_nil (k : Int) (w : World) (hkw : (Lit.int .i64 k).wf = true) :
    Calls Try.prog 16 #[.pointer none, .int .i64 k] w fun e w' => ∃ v, e = .returned v ∧ OI w.heap.size w' v [] ∧ Below w.heap.size w w' := by
  have hlk := look_nil1 w hkw
  have hb2 := (Below.refl w.heap.size w).alloc (Nat.le_refl _) (.cells #[.int .i64 0, .slice none 0 0, .slice none 0 0, .slice none 0 0, .bool false, .bool false, .bool false, .bool false, .bool false, .bool false, .bool false, .bool false] 55)
  have hre := rest_any none none 0 0 0 0 [] [] (w.alloc (.cells #[.int .i64 0, .slice none 0 0, .slice none 0 0, .slice none 0 0, .bool false, .bool false, .bool false, .bool false, .bool false, .bool false, .bool false, .bool false] 55)) (IL.nil _ _) (IL.nil _ _) (by omega) (by omega) (fun x hx => by cases hx)
  have hpa := pall_nil w
  go_enter Try.func16, Try.ntmps16
  go_wp2_with fail
  refine hpa.mono ?_
  rintro e w' ⟨rfl, hww⟩
  subst hww
  go_wp2_with fail
  refine hre.mono ?_
  rintro e w3 ⟨v, rfl, ho, hx3⟩
  obtain ⟨A, c, rfl, hfm⟩ := ho.form
  clear hfm
  have hb3 := hb2.trans (hx3.mono hb2.size)
  go_wp2
  go_ret
  exact ⟨_, rfl, (show OI _ _ _ [] from ho).mono (by simp), hb3⟩
theorem plen_any {F : Nat → Prop} {w : World} {p b N : Nat} {f : Int → Rec} {ks : List Int} (h : PS F w p b N f ks) : Calls Try.prog 17 #[.pointer (some ⟨p, 0, none⟩)] w fun e w' => e = .returned (.int .i64 (ks.length : Nat)) ∧ w' = w := by
  obtain ⟨D, hm, hD⟩ := h.mp
  have hln := fun ty => hm.len Try.underlying48 ty
  rw [hD.sz] at hln
  go_enter Try.func17, Try.ntmps17
  go_wp2_with fail
  refine (pall_any h).mono ?_
  rintro e w' ⟨rfl, hww⟩
  subst hww
  go_wp2
  go_ret
  exact ⟨rfl, rfl⟩
end Go.Proofs.Ythccfmlfofdaeaa
