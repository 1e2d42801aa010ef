/- Parcels: change of a record that is there, by any closure of which a contract is known. -/
import Derived.Test.YthccfmlfofdaeaaPcH
namespace Go.Proofs.Ythccfmlfofdaeaa
open Go.RowKit Go.Maps Go.Shelf Go.Sort
set_option linter.unusedVariables false
set_option linter.unusedSimpArgs false

set_option maxRecDepth 100000 in
set_option maxHeartbeats 3200000 in
theorem change_any {F : Nat → Prop} {w : World} {p b N : Nat} {f : Int → Rec} {ks : List Int} (h : PS F w p b N f ks) (hN : N < maxLen) (k : Int) (hkw : (Lit.int .i64 k).wf = true) (hks : k ∈ ks) (A : Option Addr) (c : Nat) (l : List It) (hil : IL w A l.length l) (hll : l.length ≤ 500000) (hmay : mayL l = true) (cf : Nat) (lb : Array Value) (Φ : Int → Rec → Prop)
    (ecf : ∀ args w, (callFunc cf args).run Try.prog w = .ok (.enter cf args) w)
    (hdo : ∀ W, Below w.heap.size w W → Blk W w.heap.size 55 (f k).cs.toArray → Calls Try.prog cf (#[.pointer (some ⟨w.heap.size, 0, none⟩)] ++ lb) W fun e W' => ∃ x r, e = .returned (.int .i64 x) ∧ Keep (fun k => k = w.heap.size) W W' ∧ Φ x r ∧ (x = 0 → Blk W' w.heap.size 55 r.cs.toArray ∧ RcOK (fun k => F k ∨ w.heap.size ≤ k) p b W' r)) :
    Calls Try.prog 21 #[.pointer (some ⟨p, 0, none⟩), .int .i64 k, .slice A l.length c, .func (.func cf) #[] lb] w fun e w' => ∃ x r, e = .returned (.int .i64 x) ∧ Φ x r ∧ Keep (fun i => i = b) w w' ∧ ((x = 0 ∧ PS (fun k => F k ∨ w.heap.size ≤ k) w' p b (N + 1) (fun i => if i = k then r else f i) (addK ks k)) ∨ (x ≠ 0 ∧ PS (fun k => F k ∨ w.heap.size ≤ k) w' p b N f ks)) := by
  have hlk := h.look hkw
  have hkd : decide (k ∈ ks) = true := decide_eq_true hks
  rw [hkd] at hlk
  have hmy := mayI_any A l.length c l (w.alloc (.cells (f k).cs.toArray 55)) (hil.alloc _) (by omega)
  rw [hmay] at hmy
  have hB0 := Blk.new w 55 (f k).cs.toArray
  have hb0 := (Below.refl w.heap.size w).alloc (Nat.le_refl _) (.cells (f k).cs.toArray 55)
  have HN := Lib.hid hN
  clear hks hkd
  generalize hr : f k = r0 at *
  obtain ⟨o, ⟨wA, wn, wc, wl⟩, ⟨sA, sn, sc, sl⟩, ⟨bA, bn, bc, bl⟩, ⟨f0, f1, f2, f3, f4, f5, f6, f7⟩⟩ := r0
  have HR := Lib.hid hr
  clear hr
  change (Instr.lookup _ _ _ _).run _ _ = Result.ok (.tuple #[.agg #[.int .i64 o, .slice wA wn wc, .slice sA sn sc, .slice bA bn bc, .bool f0, .bool f1, .bool f2, .bool f3, .bool f4, .bool f5, .bool f6, .bool f7], .bool true]) _ at hlk
  go_enter Try.func21, Try.ntmps21
  go_wp2_with fail
  refine (pall_any h).mono ?_
  rintro e w' ⟨rfl, hww⟩
  subst hww
  go_wp2_with fail
  refine hmy.mono ?_
  rintro e w1 ⟨rfl, hx1⟩
  have hb1 := hb0.trans (hx1.mono hb0.size)
  have hB1 := hB0.kept (Keep.of_below hx1) (Nat.not_le.2 hB0.lt)
  have hd := hdo w1 hb1 hB1
  clear hmy hlk hx1 hdo hb0 hB0
  go_wp2_with fail
  refine hd.mono ?_
  rintro e w2 ⟨x, r, rfl, hk2, hΦ, hx0⟩
  have hb2 := hb1.trans (hk2.below (B := w'.heap.size) hb1.size (fun i hi e => by omega))
  have hP2 := (h.mono (G := fun k => F k ∨ w'.heap.size ≤ k) (fun _ _ e => .inl e)).below hb2
  have hbz : ¬ w'.heap.size = b := fun e => by obtain ⟨D, hm, _⟩ := h.mp; have := hm.lt; omega
  clear hd hb1 hB1 h
  by_cases hxz : x = 0
  · subst hxz
    obtain ⟨hB2, hr2⟩ := hx0 rfl
    obtain ⟨o', ⟨wA', wn', wc', wl'⟩, ⟨sA', sn', sc', sl'⟩, ⟨bA', bn', bc', bl'⟩, ⟨g0, g1, g2, g3, g4, g5, g6, g7⟩⟩ := r
    have y0 := hB2.cell 0
    have y1 := hB2.cell 1
    have y2 := hB2.cell 2
    have y3 := hB2.cell 3
    have y4 := hB2.cell 4
    have y5 := hB2.cell 5
    have y6 := hB2.cell 6
    have y7 := hB2.cell 7
    have y8 := hB2.cell 8
    have y9 := hB2.cell 9
    have y10 := hB2.cell 10
    have y11 := hB2.cell 11
    simp [Rec.cs, Ls.v] at y0 y1 y2 y3 y4 y5 y6 y7 y8 y9 y10 y11
    have s7 := hP2.pc.cell 0
    simp at s7
    clear hx0
    go_upto_region 11 with fail
    have hpb : ¬ p = b := hP2.ne
    have hzb : ¬ w'.heap.size = b := fun e => hbz e
    have sd : (fun W => W.cell? ⟨p, 0, none⟩ = some (.map (some b)) ∧ W.cell? ⟨w'.heap.size, 0, none⟩ = some (.int .i64 o') ∧ W.cell? ⟨w'.heap.size, 1, none⟩ = some (.slice wA' wn' wc') ∧ W.cell? ⟨w'.heap.size, 2, none⟩ = some (.slice sA' sn' sc') ∧ W.cell? ⟨w'.heap.size, 3, none⟩ = some (.slice bA' bn' bc') ∧ W.cell? ⟨w'.heap.size, 4, none⟩ = some (.bool g0) ∧ W.cell? ⟨w'.heap.size, 5, none⟩ = some (.bool g1) ∧ W.cell? ⟨w'.heap.size, 6, none⟩ = some (.bool g2) ∧ W.cell? ⟨w'.heap.size, 7, none⟩ = some (.bool g3) ∧ W.cell? ⟨w'.heap.size, 8, none⟩ = some (.bool g4) ∧ W.cell? ⟨w'.heap.size, 9, none⟩ = some (.bool g5) ∧ W.cell? ⟨w'.heap.size, 10, none⟩ = some (.bool g6) ∧ W.cell? ⟨w'.heap.size, 11, none⟩ = some (.bool g7)) w2.drew := ⟨s7, y0, y1, y2, y3, y4, y5, y6, y7, y8, y9, y10, y11⟩
    have hP3 := hP2.drew
    have hb3 := hb2.drew
    have hr3 := hr2.below (Below.refl w2.heap.size w2).drew
    refine wp_region_held_drew (S := (fun W => W.cell? ⟨p, 0, none⟩ = some (.map (some b)) ∧ W.cell? ⟨w'.heap.size, 0, none⟩ = some (.int .i64 o') ∧ W.cell? ⟨w'.heap.size, 1, none⟩ = some (.slice wA' wn' wc') ∧ W.cell? ⟨w'.heap.size, 2, none⟩ = some (.slice sA' sn' sc') ∧ W.cell? ⟨w'.heap.size, 3, none⟩ = some (.slice bA' bn' bc') ∧ W.cell? ⟨w'.heap.size, 4, none⟩ = some (.bool g0) ∧ W.cell? ⟨w'.heap.size, 5, none⟩ = some (.bool g1) ∧ W.cell? ⟨w'.heap.size, 6, none⟩ = some (.bool g2) ∧ W.cell? ⟨w'.heap.size, 7, none⟩ = some (.bool g3) ∧ W.cell? ⟨w'.heap.size, 8, none⟩ = some (.bool g4) ∧ W.cell? ⟨w'.heap.size, 9, none⟩ = some (.bool g5) ∧ W.cell? ⟨w'.heap.size, 10, none⟩ = some (.bool g6) ∧ W.cell? ⟨w'.heap.size, 11, none⟩ = some (.bool g7))) (by kernel_rfl) sd (fun hHeld => ?_)
    generalize w2.drew = w3 at *
    (refine tkI 0 (by (simp only [List.getElem?_toArray, List.getElem?_cons_succ, List.getElem?_cons_zero]; rfl)) (by kernel_rfl) (by kernel_rfl) (by kernel_rfl) (by exact fun _ _ _ h => h) (by rfl) (by (intro w hSw; (try dsimp only at hSw); go_simp <;> with_reducible rfl)) (by assumption) ?_; try simp only [Act.put, List.setIfInBounds_toArray, List.set_cons_zero, List.set_cons_succ])
    (refine tkI 1 (by (simp only [List.getElem?_toArray, List.getElem?_cons_succ, List.getElem?_cons_zero]; rfl)) (by kernel_rfl) (by kernel_rfl) (by kernel_rfl) (by exact fun _ _ _ h => h) (by rfl) (by (intro w hSw; (try dsimp only at hSw); go_simp <;> with_reducible rfl)) (by assumption) ?_; try simp only [Act.put, List.setIfInBounds_toArray, List.set_cons_zero, List.set_cons_succ])
    (refine tkI 2 (by (simp only [List.getElem?_toArray, List.getElem?_cons_succ, List.getElem?_cons_zero]; rfl)) (by kernel_rfl) (by kernel_rfl) (by kernel_rfl) (by exact fun _ _ _ h => h) (by rfl) (by (intro w hSw; (try dsimp only at hSw); go_simp <;> with_reducible rfl)) (by assumption) ?_; try simp only [Act.put, List.setIfInBounds_toArray, List.set_cons_zero, List.set_cons_succ])
    (refine tkI 3 (by (simp only [List.getElem?_toArray, List.getElem?_cons_succ, List.getElem?_cons_zero]; rfl)) (by kernel_rfl) (by kernel_rfl) (by kernel_rfl) (by exact fun _ _ _ h => h) (by rfl) (by (intro w hSw; (try dsimp only at hSw); go_simp <;> with_reducible rfl)) (by assumption) ?_; try simp only [Act.put, List.setIfInBounds_toArray, List.set_cons_zero, List.set_cons_succ])
    (refine tkI 4 (by (simp only [List.getElem?_toArray, List.getElem?_cons_succ, List.getElem?_cons_zero]; rfl)) (by kernel_rfl) (by kernel_rfl) (by kernel_rfl) (by exact fun _ _ _ h => h) (by rfl) (by (intro w hSw; (try dsimp only at hSw); go_simp <;> with_reducible rfl)) (by assumption) ?_; try simp only [Act.put, List.setIfInBounds_toArray, List.set_cons_zero, List.set_cons_succ])
    (refine tkI 5 (by (simp only [List.getElem?_toArray, List.getElem?_cons_succ, List.getElem?_cons_zero]; rfl)) (by kernel_rfl) (by kernel_rfl) (by kernel_rfl) (by exact fun _ _ _ h => h) (by rfl) (by (intro w hSw; (try dsimp only at hSw); go_simp <;> with_reducible rfl)) (by assumption) ?_; try simp only [Act.put, List.setIfInBounds_toArray, List.set_cons_zero, List.set_cons_succ])
    refine wpAnyH_ready (rs := [6]) (by kernel_rfl) (by simp) ?_
    refine AllReadyH.cons (by (simp only [List.getElem?_toArray, List.getElem?_cons_succ, List.getElem?_cons_zero]; rfl)) (fun K hK => ?_) AllReadyH.nil
    skip
    obtain ⟨W9, hrun9, hPS9, hk9⟩ := hP3.upd HN.out hkw _ hr3
    have hrun : (Instr.mapUpdate 48 (.map (some b)) (.int .i64 k) (.agg #[.int .i64 o', .slice wA' wn' wc', .slice sA' sn' sc', .slice bA' bn' bc', .bool g0, .bool g1, .bool g2, .bool g3, .bool g4, .bool g5, .bool g6, .bool g7])).run Try.prog w3 = .ok () W9 := hrun9
    go_simp
    have s9 : (fun W => W.cell? ⟨p, 0, none⟩ = some (.map (some b)) ∧ W.cell? ⟨w'.heap.size, 0, none⟩ = some (.int .i64 o') ∧ W.cell? ⟨w'.heap.size, 1, none⟩ = some (.slice wA' wn' wc') ∧ W.cell? ⟨w'.heap.size, 2, none⟩ = some (.slice sA' sn' sc') ∧ W.cell? ⟨w'.heap.size, 3, none⟩ = some (.slice bA' bn' bc') ∧ W.cell? ⟨w'.heap.size, 4, none⟩ = some (.bool g0) ∧ W.cell? ⟨w'.heap.size, 5, none⟩ = some (.bool g1) ∧ W.cell? ⟨w'.heap.size, 6, none⟩ = some (.bool g2) ∧ W.cell? ⟨w'.heap.size, 7, none⟩ = some (.bool g3) ∧ W.cell? ⟨w'.heap.size, 8, none⟩ = some (.bool g4) ∧ W.cell? ⟨w'.heap.size, 9, none⟩ = some (.bool g5) ∧ W.cell? ⟨w'.heap.size, 10, none⟩ = some (.bool g6) ∧ W.cell? ⟨w'.heap.size, 11, none⟩ = some (.bool g7)) W9 := ⟨hk9.cell sd.1 hpb, hk9.cell sd.2.1 hzb, hk9.cell sd.2.2.1 hzb, hk9.cell sd.2.2.2.1 hzb, hk9.cell sd.2.2.2.2.1 hzb, hk9.cell sd.2.2.2.2.2.1 hzb, hk9.cell sd.2.2.2.2.2.2.1 hzb, hk9.cell sd.2.2.2.2.2.2.2.1 hzb, hk9.cell sd.2.2.2.2.2.2.2.2.1 hzb, hk9.cell sd.2.2.2.2.2.2.2.2.2.1 hzb, hk9.cell sd.2.2.2.2.2.2.2.2.2.2.1 hzb, hk9.cell sd.2.2.2.2.2.2.2.2.2.2.2.1 hzb, hk9.cell sd.2.2.2.2.2.2.2.2.2.2.2.2 hzb⟩
    refine hK.out _ _ s9 (fun hHeld2 => ?_)
    clear hK K hHeld
    have hHeld := hHeld2
    clear hHeld2
    try simp only [Act.put, List.setIfInBounds_toArray, List.set_cons_zero, List.set_cons_succ]
    refine wpAnyH_done (by kernel_rfl) ?_ _
    go_wp2
    go_ret
    exact ⟨0, rfl, _, hΦ, (Keep.ofB (S := fun i => i = b) hb3).trans hk9 (fun i hi e => e), .inl ⟨rfl, hPS9⟩⟩
  · have hxn : (x == 0) = false := by simpa using hxz
    clear hx0
    go_wp2
    go_ret
    exact ⟨x, r, rfl, hΦ, Keep.ofB hb2, .inr ⟨hxz, hP2⟩⟩
end Go.Proofs.Ythccfmlfofdaeaa
