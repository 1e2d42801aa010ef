/- 'MoveDoes' returns true for every input: the row of this law, proved. No condition. -/
import Derived.Test.YtligpmnpfdaknaaMwZ
import Derived.Test.YtligpmnpfdaknaaRgT
import Derived.Test.YtligpmnpfdaknaaROf
import Derived.Deep.CutBlock
import Derived.Deep.CutRange
import Derived.ProofKit
import Derived.OpenShut
import Derived.ShutString
import Derived.ChangeOld
import Derived.SizedLaws
namespace Go.Proofs.Ytligpmnpfdaknaa
open Go.RowKit
set_option linter.unusedVariables false
set_option linter.unusedSimpArgs false
open Go.Maps in
set_option maxRecDepth 100000 in
set_option maxHeartbeats 12800000 in
theorem moveDoes_walk {w : World} (a : Option Addr) (len cap : Nat) (fo : Nat → OpX) (ho : OPX w a len fo) (hc : len ≤ cap) (hm0 : cap ≤ 9223372036854775807) (hl : cap * 56 ≤ 140737488351232) :
    Calls Try.prog 3 #[.slice a len cap] w fun e w' => e = .returned (.bool true) ∧ Below w.heap.size w w' := by
  go_enter Try.func3, Try.ntmps3
  go_wp2_with fail
  refine (pnew_any _).mono ?_
  rintro e w1 ⟨p, b, rfl, hP, hpw, hbw, hb⟩
  have hq0 : QK (fun k => k = w1.heap.size) (w1.alloc (.cells #[.slice none 0 0] 28)) w1.heap.size [] := ⟨.slice none 0 0, Blk.new w1 _ _, WO.nil _ _, by simp [Value.ownBlock], rfl, fun g hg => by simp [Value.ownBlock] at hg⟩
  have hR0 : HR w p b w1.heap.size (w1.alloc (.cells #[.slice none 0 0] 28)) 0 (fun _ => rec0) [] [] (fun k => w.heap.size ≤ k ∧ k < w1.heap.size) (fun k => k = w1.heap.size) :=
    ⟨(hP.mono (fun k h1 h2 => ⟨h2, h1⟩)).alloc _, hq0, fun k e => by simp; omega, fun k e => by have := hb.size; simp; omega, fun k e e2 => by omega, hb.alloc hb.size _⟩
  go_wp2_with fail
  refine (lives_any _).mono ?_
  rintro e w3 ⟨rfl, hlv⟩
  replace hR0 := hR0.below hlv
  obtain ⟨q, hq⟩ : ∃ q, w1.heap.size = q := ⟨_, rfl⟩
  rw [hq] at hR0 ⊢
  clear hP hq0 hlv hb hpw hbw
  go_wp2
  go_loopw [5, 6, 7, 8, 9, 10, 11, 12, 13, 14, 15, 16] (fun i s6 s7 s8 s9 s10 s11 s12 s13 s14 s15 s16 wr => ∃ (k N : Nat) (f : Int → Rec) (ks : List Int) (rs : List Rec) (F G : Nat → Prop), i = .int .i64 (k : Int) ∧ k ≤ len ∧ HR w p b q wr N f ks rs F G ∧ N ≤ k ∧ WJ f ks rs ∧ LsW w rs ∧ Hid (ks.length ≤ 256)) (fun i _ _ _ _ _ _ _ _ _ _ _ _ => len - (intOf i).toNat)
  case atStart => exact ⟨0, 0, _, _, _, _, _, by go_num, by omega, hR0, Nat.le_refl _, WJ.start _, fun r hr => by simp at hr, Lib.hid (by simp)⟩
  case round =>
    clear hR0
    obtain ⟨k, N, f, ks, rs, F, G, rfl, hkl, hR, hN, hW, hL, hfew⟩ := hrel
    by_cases hlt : k < len
    · have hlz : (k : Int) < (len : Int) := by omega
      obtain ⟨rb, ro, rfl, hrb, hrow⟩ := ho (by omega)
      have hxw := hrow k hlt
      have hx := hxw.below hR.bel
      generalize fo k = x at hx hxw
      obtain ⟨⟨k0, k1, k2, k3, l⟩, A, c⟩ := x
      obtain ⟨x0, x1, x2, x3, x4, ⟨hil, hwl, hcap, hcapm, wk0, wk1, wk2, wk3⟩⟩ := hx
      obtain ⟨-, -, -, -, -, ⟨hilw, -, -, -, -, -, -, -⟩⟩ := hxw
      dsimp only at hilw
      dsimp only at x0 x1 x2 x3 x4 hil hwl hcap hcapm wk0 wk1 wk2 wk3
      clear hrow hil
      have hltR := hR.lt
      have hRa := hR.alloc (.cells #[.int .i64 k0, .int .i64 k1, .int .i64 k2, .int .i64 k3, .slice A l.length c] 32)
      have eO := Blk.new wr 32 #[.int .i64 k0, .int .i64 k1, .int .i64 k2, .int .i64 k3, .slice A l.length c]
      have hNm : N < maxLen := by unfold maxLen; omega
      obtain ⟨ob, hob⟩ : ∃ ob, wr.heap.size = ob := ⟨_, rfl⟩
      have hFo : ∀ i, F i → i ≠ ob := fun i hi => by have := hR.fF i hi; omega
      have hGo : ∀ i, G i → i ≠ ob := fun i hi => by have := hR.fG i hi; omega
      have hwo : w.heap.size ≤ ob := by rw [← hob]; exact hR.bel.size
      clear hR
      by_cases hll : 100 < l.length
      · have hlz3 : (100 : Int) < (l.length : Int) := by omega
        go_wp2
        go_roundw
        case measure => simp [intOf]; omega
        case rel => exact ⟨k + 1, N, f, ks, rs, F, G, by go_num, by omega, hRa, by omega, hW, hL, hfew⟩
      have hlz3 : ¬ (100 : Int) < (l.length : Int) := by omega
      have hlz4 : decide ((100 : Int) < (l.length : Int)) = false := decide_eq_false hlz3
      have e0 := eO.cell 0
      have e1 := eO.cell 1
      have e2 := eO.cell 2
      have e3 := eO.cell 3
      have e4 := eO.cell 4
      simp only [List.getElem?_toArray, List.getElem?_cons_succ, List.getElem?_cons_zero] at e0 e1 e2 e3 e4
      go_upto_block 2 with fail
      rw [hob] at e0 e1 e2 e3 e4 eO hltR
      generalize wr.alloc (.cells #[.int .i64 k0, .int .i64 k1, .int .i64 k2, .int .i64 k3, .slice A l.length c] 32) = w0 at *
      clear x0 x1 x2 x3 x4
      have hbol : ob < w0.heap.size := eO.lt
      have hobb : ¬ (ob = b) := fun e => hFo b hRa.ps.fp.2 e.symm
      go_cut [7, 8, 9, 10, 11, 12, 13] from 42 to 117 (fun s7 s8 s9 s10 s11 s12 s13 wc => s7 = .bool true ∧ ∃ (N' : Nat) (f' : Int → Rec) (ks' : List Int) (rs' : List Rec) (F' G' : Nat → Prop), HR w p b q wc N' f' ks' rs' F' G' ∧ N' ≤ k + 1 ∧ WJ f' ks' rs' ∧ LsW w rs' ∧ Hid (ks'.length ≤ 256) ∧ Blk wc ob 32 #[.int .i64 k0, .int .i64 k1, .int .i64 k2, .int .i64 k3, .slice A l.length c] ∧ (∀ i, F' i → i ≠ ob) ∧ ∀ i, G' i → i ≠ ob)
      case first =>
        by_cases h1 : k0 = 1
        · as_aux_lemma =>
            subst h1
            have hil0 := hilw.below hRa.bel
            go_upto_region 14 with (at_builtin; refine wpAppI rfl _ _ rfl w0.heap.size _ [] rfl (OI.made w0.heap.size w0 (Nat.le_refl _)) A l.length c l rfl (hil0.alloc _) hil0.none_zero (by simp; omega) (by simp) ?_; rintro va wa hoa ka _; rw [List.nil_append] at hoa; have hxa : Below w0.heap.size w0 wa := ((Below.refl w0.heap.size w0).alloc (Nat.le_refl _) (.cells #[] 36)).trans (ka.below (by simp) (own_lt rfl)))
            obtain ⟨A8, c8, rfl, -, -, hil8, hlie8⟩ := hoa.form
            have hzwa := hxa.size
            have hR1 := (hRa.below hxa).drew
            have eO1 := (eO.kept (Keep.of_below hxa) (Nat.not_le.2 eO.lt)).drew
            have m1 := eO1.cell 1
            have m2 := eO1.cell 2
            have m3 := eO1.cell 3
            have m4 := eO1.cell 4
            simp only [List.getElem?_toArray, List.getElem?_cons_succ, List.getElem?_cons_zero] at m1 m2 m3 m4
            have sd : (fun W => W.cell? ⟨ob, 1, none⟩ = some (.int .i64 k1) ∧ W.cell? ⟨ob, 2, none⟩ = some (.int .i64 k2) ∧ W.cell? ⟨ob, 3, none⟩ = some (.int .i64 k3) ∧ W.cell? ⟨ob, 4, none⟩ = some (.slice A l.length c)) wa.drew := ⟨m1, m2, m3, m4⟩
            obtain ⟨E, rs2, hg1, hg2, hL2⟩ := go_u hR1 hW hL hfew.out hNm k1 k2 k3 wk1 A8 A c8 c l hil8.drew hilw hwl (by omega)
            have hEE : (E == E) = true := beq_self_eq_true E
            have hz9 : w0.heap.size ≤ wa.drew.heap.size := hxa.size
            have hoad := hoa.drew
            clear m1 m2 m3 m4 e0 e1 e2 e3 e4 hil0 hil8 ka
            refine wp_region_held_drew (S := (fun W => W.cell? ⟨ob, 1, none⟩ = some (.int .i64 k1) ∧ W.cell? ⟨ob, 2, none⟩ = some (.int .i64 k2) ∧ W.cell? ⟨ob, 3, none⟩ = some (.int .i64 k3) ∧ W.cell? ⟨ob, 4, none⟩ = some (.slice A l.length c))) (by kernel_rfl) sd (fun hHeld => ?_)
            generalize wa.drew = wz at *
            (refine tkI 0 (by (simp only [List.getElem?_toArray, List.getElem?_cons_succ, List.getElem?_cons_zero]; rfl)) (by kernel_rfl) (by kernel_rfl) (by kernel_rfl) (by exact fun _ _ _ h => h) (by rfl) (by (intro w hSw; (try dsimp only at hSw); go_simp <;> with_reducible rfl)) (by assumption) ?_; try simp only [Act.put, List.setIfInBounds_toArray, List.set_cons_zero, List.set_cons_succ])
            (refine tkI 1 (by (simp only [List.getElem?_toArray, List.getElem?_cons_succ, List.getElem?_cons_zero]; rfl)) (by kernel_rfl) (by kernel_rfl) (by kernel_rfl) (by exact fun _ _ _ h => h) (by rfl) (by (intro w hSw; (try dsimp only at hSw); go_simp <;> with_reducible rfl)) (by assumption) ?_; try simp only [Act.put, List.setIfInBounds_toArray, List.set_cons_zero, List.set_cons_succ])
            (refine tkI 2 (by (simp only [List.getElem?_toArray, List.getElem?_cons_succ, List.getElem?_cons_zero]; rfl)) (by kernel_rfl) (by kernel_rfl) (by kernel_rfl) (by exact fun _ _ _ h => h) (by rfl) (by (intro w hSw; (try dsimp only at hSw); go_simp <;> with_reducible rfl)) (by assumption) ?_; try simp only [Act.put, List.setIfInBounds_toArray, List.set_cons_zero, List.set_cons_succ])
            (refine tkI 3 (by (simp only [List.getElem?_toArray, List.getElem?_cons_succ, List.getElem?_cons_zero]; rfl)) (by kernel_rfl) (by kernel_rfl) (by kernel_rfl) (by exact fun _ _ _ h => h) (by rfl) (by (intro w hSw; (try dsimp only at hSw); go_simp <;> with_reducible rfl)) (by assumption) ?_; try simp only [Act.put, List.setIfInBounds_toArray, List.set_cons_zero, List.set_cons_succ])
            (refine tkI 4 (by (simp only [List.getElem?_toArray, List.getElem?_cons_succ, List.getElem?_cons_zero]; rfl)) (by kernel_rfl) (by kernel_rfl) (by kernel_rfl) (by exact fun _ _ _ h => h) (by rfl) (by (intro w hSw; (try dsimp only at hSw); go_simp <;> with_reducible rfl)) (by assumption) ?_; try simp only [Act.put, List.setIfInBounds_toArray, List.set_cons_zero, List.set_cons_succ])
            (refine tkI 5 (by (simp only [List.getElem?_toArray, List.getElem?_cons_succ, List.getElem?_cons_zero]; rfl)) (by kernel_rfl) (by kernel_rfl) (by kernel_rfl) (by exact fun _ _ _ h => h) (by rfl) (by (intro w hSw; (try dsimp only at hSw); go_simp <;> with_reducible rfl)) (by assumption) ?_; try simp only [Act.put, List.setIfInBounds_toArray, List.set_cons_zero, List.set_cons_succ])
            (refine tkI 6 (by (simp only [List.getElem?_toArray, List.getElem?_cons_succ, List.getElem?_cons_zero]; rfl)) (by kernel_rfl) (by kernel_rfl) (by kernel_rfl) (by exact fun _ _ _ h => h) (by rfl) (by (intro w hSw; (try dsimp only at hSw); go_simp <;> with_reducible rfl)) (by assumption) ?_; try simp only [Act.put, List.setIfInBounds_toArray, List.set_cons_zero, List.set_cons_succ])
            (refine tkI 7 (by (simp only [List.getElem?_toArray, List.getElem?_cons_succ, List.getElem?_cons_zero]; rfl)) (by kernel_rfl) (by kernel_rfl) (by kernel_rfl) (by exact fun _ _ _ h => h) (by rfl) (by (intro w hSw; (try dsimp only at hSw); go_simp <;> with_reducible rfl)) (by assumption) ?_; try simp only [Act.put, List.setIfInBounds_toArray, List.set_cons_zero, List.set_cons_succ])
            (refine tkI 9 (by (simp only [List.getElem?_toArray, List.getElem?_cons_succ, List.getElem?_cons_zero]; rfl)) (by kernel_rfl) (by kernel_rfl) (by kernel_rfl) (by exact fun _ _ _ h => h) (by rfl) (by (intro w hSw; (try dsimp only at hSw); go_simp <;> with_reducible rfl)) (by assumption) ?_; try simp only [Act.put, List.setIfInBounds_toArray, List.set_cons_zero, List.set_cons_succ])
            (refine tkI 10 (by (simp only [List.getElem?_toArray, List.getElem?_cons_succ, List.getElem?_cons_zero]; rfl)) (by kernel_rfl) (by kernel_rfl) (by kernel_rfl) (by exact fun _ _ _ h => h) (by rfl) (by (intro w hSw; (try dsimp only at hSw); go_simp <;> with_reducible rfl)) (by assumption) ?_; try simp only [Act.put, List.setIfInBounds_toArray, List.set_cons_zero, List.set_cons_succ])
            (refine tkI 11 (by (simp only [List.getElem?_toArray, List.getElem?_cons_succ, List.getElem?_cons_zero]; rfl)) (by kernel_rfl) (by kernel_rfl) (by kernel_rfl) (by exact fun _ _ _ h => h) (by rfl) (by (intro w hSw; (try dsimp only at hSw); go_simp <;> with_reducible rfl)) (by assumption) ?_; try simp only [Act.put, List.setIfInBounds_toArray, List.set_cons_zero, List.set_cons_succ])
            (refine tkI 12 (by (simp only [List.getElem?_toArray, List.getElem?_cons_succ, List.getElem?_cons_zero]; rfl)) (by kernel_rfl) (by kernel_rfl) (by kernel_rfl) (by exact fun _ _ _ h => h) (by rfl) (by (intro w hSw; (try dsimp only at hSw); go_simp <;> with_reducible rfl)) (by assumption) ?_; try simp only [Act.put, List.setIfInBounds_toArray, List.set_cons_zero, List.set_cons_succ])
            (refine tkI 13 (by (simp only [List.getElem?_toArray, List.getElem?_cons_succ, List.getElem?_cons_zero]; rfl)) (by kernel_rfl) (by kernel_rfl) (by kernel_rfl) (by exact fun _ _ _ h => h) (by rfl) (by (intro w hSw; (try dsimp only at hSw); go_simp <;> with_reducible rfl)) (by assumption) ?_; try simp only [Act.put, List.setIfInBounds_toArray, List.set_cons_zero, List.set_cons_succ])
            (refine tkI 14 (by (simp only [List.getElem?_toArray, List.getElem?_cons_succ, List.getElem?_cons_zero]; rfl)) (by kernel_rfl) (by kernel_rfl) (by kernel_rfl) (by exact fun _ _ _ h => h) (by rfl) (by (intro w hSw; (try dsimp only at hSw); go_simp <;> with_reducible rfl)) (by assumption) ?_; try simp only [Act.put, List.setIfInBounds_toArray, List.set_cons_zero, List.set_cons_succ])
            (refine tkI 15 (by (simp only [List.getElem?_toArray, List.getElem?_cons_succ, List.getElem?_cons_zero]; rfl)) (by kernel_rfl) (by kernel_rfl) (by kernel_rfl) (by exact fun _ _ _ h => h) (by rfl) (by (intro w hSw; (try dsimp only at hSw); go_simp <;> with_reducible rfl)) (by assumption) ?_; try simp only [Act.put, List.setIfInBounds_toArray, List.set_cons_zero, List.set_cons_succ])
            (refine tkI 16 (by (simp only [List.getElem?_toArray, List.getElem?_cons_succ, List.getElem?_cons_zero]; rfl)) (by kernel_rfl) (by kernel_rfl) (by kernel_rfl) (by exact fun _ _ _ h => h) (by rfl) (by (intro w hSw; (try dsimp only at hSw); go_simp <;> with_reducible rfl)) (by assumption) ?_; try simp only [Act.put, List.setIfInBounds_toArray, List.set_cons_zero, List.set_cons_succ])
            (refine tkI 17 (by (simp only [List.getElem?_toArray, List.getElem?_cons_succ, List.getElem?_cons_zero]; rfl)) (by kernel_rfl) (by kernel_rfl) (by kernel_rfl) (by exact fun _ _ _ h => h) (by rfl) (by (intro w hSw; (try dsimp only at hSw); go_simp <;> with_reducible rfl)) (by assumption) ?_; try simp only [Act.put, List.setIfInBounds_toArray, List.set_cons_zero, List.set_cons_succ])
            refine wpAnyH_ready (rs := [8]) (by kernel_rfl) (by simp) ?_
            refine AllReadyH.cons (by (simp only [List.getElem?_toArray, List.getElem?_cons_succ, List.getElem?_cons_zero]; rfl)) (fun K hK => ?_) AllReadyH.nil
            go_simp
            refine hg1.mono ?_
            rintro e w4 ⟨rfl, N4, f4, ks4, F4, hN4, hk4, hR4, hF4, hW4, hK4⟩
            have eO4 := eO1.kept hK4 hobb
            have m1 := eO4.cell 1
            have m2 := eO4.cell 2
            have m3 := eO4.cell 3
            have m4 := eO4.cell 4
            simp only [List.getElem?_toArray, List.getElem?_cons_succ, List.getElem?_cons_zero] at m1 m2 m3 m4
            have sd4 : (fun W => W.cell? ⟨ob, 1, none⟩ = some (.int .i64 k1) ∧ W.cell? ⟨ob, 2, none⟩ = some (.int .i64 k2) ∧ W.cell? ⟨ob, 3, none⟩ = some (.int .i64 k3) ∧ W.cell? ⟨ob, 4, none⟩ = some (.slice A l.length c)) w4 := ⟨m1, m2, m3, m4⟩
            clear m1 m2 m3 m4 hg1
            refine hK.out _ _ sd4 (fun hHeld2 => ?_)
            clear hK K hHeld
            have hHeld := hHeld2
            clear hHeld2
            try simp only [Act.put, List.setIfInBounds_toArray, List.set_cons_zero, List.set_cons_succ]
            refine wpAnyH_ready (rs := [18]) (by kernel_rfl) (by simp) ?_
            refine AllReadyH.cons (by (simp only [List.getElem?_toArray, List.getElem?_cons_succ, List.getElem?_cons_zero]; rfl)) (fun K hK => ?_) AllReadyH.nil
            go_simp
            refine (hg2 _ _ _ _ _ hR4).mono ?_
            rintro e w5 ⟨rfl, G5, hR5, hK5, hG5⟩
            have eO5 := eO4.kept hK5 (fun e => hGo ob e rfl)
            have m1 := eO5.cell 1
            have m2 := eO5.cell 2
            have m3 := eO5.cell 3
            have m4 := eO5.cell 4
            simp only [List.getElem?_toArray, List.getElem?_cons_succ, List.getElem?_cons_zero] at m1 m2 m3 m4
            have sd5 : (fun W => W.cell? ⟨ob, 1, none⟩ = some (.int .i64 k1) ∧ W.cell? ⟨ob, 2, none⟩ = some (.int .i64 k2) ∧ W.cell? ⟨ob, 3, none⟩ = some (.int .i64 k3) ∧ W.cell? ⟨ob, 4, none⟩ = some (.slice A l.length c)) w5 := ⟨m1, m2, m3, m4⟩
            clear m1 m2 m3 m4 hg2
            refine hK.out _ _ sd5 (fun hHeld2 => ?_)
            clear hK K hHeld
            have hHeld := hHeld2
            clear hHeld2
            try simp only [Act.put, List.setIfInBounds_toArray, List.set_cons_zero, List.set_cons_succ]
            (refine tkI 19 (by (simp only [List.getElem?_toArray, List.getElem?_cons_succ, List.getElem?_cons_zero]; rfl)) (by kernel_rfl) (by kernel_rfl) (by kernel_rfl) (by exact fun _ _ _ h => h) (by rfl) (by (intro w hSw; (try dsimp only at hSw); go_simp <;> with_reducible rfl)) (by assumption) ?_; try simp only [Act.put, List.setIfInBounds_toArray, List.set_cons_zero, List.set_cons_succ])
            (refine tkI 20 (by (simp only [List.getElem?_toArray, List.getElem?_cons_succ, List.getElem?_cons_zero]; rfl)) (by kernel_rfl) (by kernel_rfl) (by kernel_rfl) (by exact fun _ _ _ h => h) (by rfl) (by (intro w hSw; (try dsimp only at hSw); go_simp <;> with_reducible rfl)) (by assumption) ?_; try simp only [Act.put, List.setIfInBounds_toArray, List.set_cons_zero, List.set_cons_succ])
            refine wpAnyH_done (by kernel_rfl) ?_ _
            have hO5 := (hoad.kept hK4 (fun g hg e => by have := (hoad.lt g hg).1; omega)).kept hK5 (fun g hg e => by have h1 := (hoad.lt g hg).1; have h2 := (hRa.fG g e).2; omega)
            have hg5z := hR4.ps.lt
            have hFo4 : ∀ i, F4 i → i ≠ ob := fun i hi e => by
              rcases hF4 i hi with h | h
              · exact hFo i h e
              · omega
            have hz4 := hK4.size
            have hGo5 : ∀ i, G5 i → i ≠ ob := fun i hi e => by
              rcases hG5 i hi with h | h
              · exact hGo i h e
              · omega
            have hFg4 : ∀ i, F4 i → w0.heap.size ≤ i → wz.heap.size ≤ i := fun i hi e => by
              rcases hF4 i hi with h | h
              · have := (hRa.fF i h).2; omega
              · exact h
            have hGg5 : ∀ i, G5 i → w0.heap.size ≤ i → wz.heap.size ≤ i := fun i hi e => by
              rcases hG5 i hi with h | h
              · have := (hRa.fG i h).2; omega
              · omega
            have hwz := hoad.lt
            clear sd sd4 sd5 hHeld hoad hoa hlie8 hR1 eO1 eO4 hK4 hK5 hF4 hG5 hR4
            go_wp2
            go_loopw [9] (fun i wl => ∃ (j : Nat) (lo : List It), i = .int .i64 (j : Int) ∧ j ≤ l.length ∧ lo.length = l.length ∧ OI w0.heap.size wl (.slice A8 l.length c8) lo ∧ HR w p b q wl N4 f4 ks4 rs2 F4 G5 ∧ Blk wl ob 32 #[.int .i64 1, .int .i64 k1, .int .i64 k2, .int .i64 k3, .slice A l.length c]) (fun i _ => l.length - (intOf i).toNat)
            case atStart => exact ⟨0, l, by go_num, by omega, rfl, hO5, hR5, eO5⟩
            case round =>
              clear hO5 hR5 eO5
              obtain ⟨j, lo, rfl, hjl, hlo, hO6, hR6, hB6⟩ := hrel
              by_cases hj : j < l.length
              · have hjz : (j : Int) < (l.length : Int) := by omega
                obtain ⟨⟨s8, q8⟩, hx8⟩ : ∃ x, lo[j]? = some x := ⟨_, List.getElem?_eq_getElem (by omega)⟩
                obtain ⟨g8, cap8, hv8, hg8, hc8, hf8, hset⟩ := OI.setAt hO6 hx8 hlo
                cases hv8
                have hO7 := hset (wrap64 (q8 + 1))
                have hgz := (hwz g8 (by simp [Value.ownBlock])).2
                have kk : Keep (fun i => i = g8) wr (wr.setCell ⟨g8, j * 2 + 1, none⟩ (.int .i64 (wrap64 (q8 + 1)))) := Keep.setCell (S := fun i => i = g8) (Keep.refl _ wr) (p := ⟨g8, j * 2 + 1, none⟩) (fun _ => rfl) _
                have hR7 := hR6.other kk (fun i e => by subst e; exact ⟨by have := hRa.bel.size; omega, fun h => by have := hFg4 _ h hg8; omega, fun h => by have := hGg5 _ h hg8; omega⟩)
                have hB7 := hB6.kept kk (by omega)
                have hlo2 : (lo.set j (s8, wrap64 (q8 + 1))).length = l.length := by rw [List.length_set]; exact hlo
                clear hset hO6 hR6 hB6 kk hlo hx8
                go_wp2
                go_roundw
                case measure => simp [intOf]; omega
                case rel => exact ⟨j + 1, _, by go_num, by omega, hlo2, hO7, hR7, hB7⟩
              · have hjz : ¬ (j : Int) < (l.length : Int) := by omega
                go_wp2
                go_meet
                exact ⟨rfl, N4, f4, ks4, rs2, F4, G5, hR6, by omega, hW4, hL2, Lib.hid hk4, hB6, hFo4, hGo5⟩
        by_cases h2 : k0 = 2
        · as_aux_lemma =>
            subst h2
            obtain ⟨E, lc, N4, f4, rs4, hN4, hl16, hc1, hc2, hW4, hL4⟩ := come_u hRa hW hL hfew.out hNm k1 wk1
            have hEE : (E == E) = true := beq_self_eq_true E
            go_wp2_with fail
            refine hc1.mono ?_
            rintro e w4 ⟨A4, c4, rfl, hil4, had4, hR4, hK4⟩
            have eO4 := eO.kept hK4 hobb
            have m1 := eO4.cell 1
            simp only [List.getElem?_toArray, List.getElem?_cons_succ, List.getElem?_cons_zero] at m1
            go_wp2_with fail
            refine (hc2 _ hR4).mono ?_
            rintro e w5 ⟨A5, c5, G5, rfl, hil5, hR5, hK5, hG5⟩
            have hil6 := hil4.kept hK5 (fun ad e h e2 => by have h1 := had4 ad e h; have h2 := (hRa.fG _ e2).2; omega)
            have hsm := same_b A4 A5 lc.length c4 lc.length c5 lc lc w5 hil6 (hil5.below hR5.bel) (by omega)
            rw [show decide (lc = lc) = true from decide_eq_true rfl] at hsm
            have eO5 := eO4.kept hK5 (fun e => hGo ob e rfl)
            have hGo5 : ∀ i, G5 i → i ≠ ob := fun i hi e => by
              rcases hG5 i hi with h | h
              · exact hGo i h e
              · have := eO4.lt; omega
            clear hc1 hc2 m1 hil4 had4 hR4 hK4 hK5 hG5 hil6 hil5 e0 e1 e2 e3 e4
            go_wp2_with fail
            refine hsm.mono ?_
            rintro e w6 ⟨rfl, hx6⟩
            have eO6 := eO5.kept (Keep.of_below hx6) (Nat.not_le.2 eO5.lt)
            go_wp2_with fail
            go_meet
            exact ⟨rfl, N4, f4, ks, rs4, F, G5, hR5.below hx6, by omega, hW4, hL4, hfew, eO6, hFo, hGo5⟩
        by_cases h3 : k0 = 3
        · as_aux_lemma =>
            subst h3
            go_upto_region 24 with fail
            have hR1 := hRa.drew
            have eO1 := eO.drew
            have sd := eO1.cell 1
            simp only [List.getElem?_toArray, List.getElem?_cons_succ, List.getElem?_cons_zero] at sd
            obtain ⟨E, f4, ks4, rs4, hg1, hg2, hW4, hL4, hk4⟩ := forget_u hR1 hW hL hfew.out k1 wk1
            have hEE : (E == E) = true := beq_self_eq_true E
            clear e0 e1 e2 e3 e4
            refine wp_region_held_drew (S := (fun W => W.cell? ⟨ob, 1, none⟩ = some (.int .i64 k1))) (by kernel_rfl) sd (fun hHeld => ?_)
            generalize w0.drew = wz at *
            (refine tkI 0 (by (simp only [List.getElem?_toArray, List.getElem?_cons_succ, List.getElem?_cons_zero]; rfl)) (by kernel_rfl) (by kernel_rfl) (by kernel_rfl) (by exact fun _ _ _ h => h) (by rfl) (by (intro w hSw; (try dsimp only at hSw); go_simp <;> with_reducible rfl)) (by assumption) ?_; try simp only [Act.put, List.setIfInBounds_toArray, List.set_cons_zero, List.set_cons_succ])
            (refine tkI 1 (by (simp only [List.getElem?_toArray, List.getElem?_cons_succ, List.getElem?_cons_zero]; rfl)) (by kernel_rfl) (by kernel_rfl) (by kernel_rfl) (by exact fun _ _ _ h => h) (by rfl) (by (intro w hSw; (try dsimp only at hSw); go_simp <;> with_reducible rfl)) (by assumption) ?_; try simp only [Act.put, List.setIfInBounds_toArray, List.set_cons_zero, List.set_cons_succ])
            (refine tkI 2 (by (simp only [List.getElem?_toArray, List.getElem?_cons_succ, List.getElem?_cons_zero]; rfl)) (by kernel_rfl) (by kernel_rfl) (by kernel_rfl) (by exact fun _ _ _ h => h) (by rfl) (by (intro w hSw; (try dsimp only at hSw); go_simp <;> with_reducible rfl)) (by assumption) ?_; try simp only [Act.put, List.setIfInBounds_toArray, List.set_cons_zero, List.set_cons_succ])
            (refine tkI 4 (by (simp only [List.getElem?_toArray, List.getElem?_cons_succ, List.getElem?_cons_zero]; rfl)) (by kernel_rfl) (by kernel_rfl) (by kernel_rfl) (by exact fun _ _ _ h => h) (by rfl) (by (intro w hSw; (try dsimp only at hSw); go_simp <;> with_reducible rfl)) (by assumption) ?_; try simp only [Act.put, List.setIfInBounds_toArray, List.set_cons_zero, List.set_cons_succ])
            (refine tkI 5 (by (simp only [List.getElem?_toArray, List.getElem?_cons_succ, List.getElem?_cons_zero]; rfl)) (by kernel_rfl) (by kernel_rfl) (by kernel_rfl) (by exact fun _ _ _ h => h) (by rfl) (by (intro w hSw; (try dsimp only at hSw); go_simp <;> with_reducible rfl)) (by assumption) ?_; try simp only [Act.put, List.setIfInBounds_toArray, List.set_cons_zero, List.set_cons_succ])
            (refine tkI 6 (by (simp only [List.getElem?_toArray, List.getElem?_cons_succ, List.getElem?_cons_zero]; rfl)) (by kernel_rfl) (by kernel_rfl) (by kernel_rfl) (by exact fun _ _ _ h => h) (by rfl) (by (intro w hSw; (try dsimp only at hSw); go_simp <;> with_reducible rfl)) (by assumption) ?_; try simp only [Act.put, List.setIfInBounds_toArray, List.set_cons_zero, List.set_cons_succ])
            refine wpAnyH_ready (rs := [3]) (by kernel_rfl) (by simp) ?_
            refine AllReadyH.cons (by (simp only [List.getElem?_toArray, List.getElem?_cons_succ, List.getElem?_cons_zero]; rfl)) (fun K hK => ?_) AllReadyH.nil
            go_simp
            refine hg1.mono ?_
            rintro e w4 ⟨rfl, hR4, hK4⟩
            have eO4 := eO1.kept hK4 hobb
            have m1 := eO4.cell 1
            simp only [List.getElem?_toArray, List.getElem?_cons_succ, List.getElem?_cons_zero] at m1
            refine hK.out _ _ m1 (fun hHeld2 => ?_)
            clear hK K hHeld
            have hHeld := hHeld2
            clear hHeld2
            try simp only [Act.put, List.setIfInBounds_toArray, List.set_cons_zero, List.set_cons_succ]
            refine wpAnyH_ready (rs := [7]) (by kernel_rfl) (by simp) ?_
            refine AllReadyH.cons (by (simp only [List.getElem?_toArray, List.getElem?_cons_succ, List.getElem?_cons_zero]; rfl)) (fun K hK => ?_) AllReadyH.nil
            go_simp
            refine (hg2 _ hR4).mono ?_
            rintro e w5 ⟨rfl, G5, hR5, hK5, hG5⟩
            have eO5 := eO4.kept hK5 (fun e => hGo ob e rfl)
            have m2 := eO5.cell 1
            simp only [List.getElem?_toArray, List.getElem?_cons_succ, List.getElem?_cons_zero] at m2
            refine hK.out _ _ m2 (fun hHeld2 => ?_)
            clear hK K hHeld
            have hHeld := hHeld2
            clear hHeld2
            try simp only [Act.put, List.setIfInBounds_toArray, List.set_cons_zero, List.set_cons_succ]
            (refine tkI 8 (by (simp only [List.getElem?_toArray, List.getElem?_cons_succ, List.getElem?_cons_zero]; rfl)) (by kernel_rfl) (by kernel_rfl) (by kernel_rfl) (by exact fun _ _ _ h => h) (by rfl) (by (intro w hSw; (try dsimp only at hSw); go_simp <;> with_reducible rfl)) (by assumption) ?_; try simp only [Act.put, List.setIfInBounds_toArray, List.set_cons_zero, List.set_cons_succ])
            (refine tkI 9 (by (simp only [List.getElem?_toArray, List.getElem?_cons_succ, List.getElem?_cons_zero]; rfl)) (by kernel_rfl) (by kernel_rfl) (by kernel_rfl) (by exact fun _ _ _ h => h) (by rfl) (by (intro w hSw; (try dsimp only at hSw); go_simp <;> with_reducible rfl)) (by assumption) ?_; try simp only [Act.put, List.setIfInBounds_toArray, List.set_cons_zero, List.set_cons_succ])
            refine wpAnyH_done (by kernel_rfl) ?_ _
            have hGo5 : ∀ i, G5 i → i ≠ ob := fun i hi e => by
              rcases hG5 i hi with h | h
              · exact hGo i h e
              · have := eO4.lt; omega
            go_wp2_with fail
            go_meet
            exact ⟨rfl, N, f4, ks4, rs4, F, G5, hR5, by omega, hW4, hL4, Lib.hid hk4, eO5, hFo, hGo5⟩
        as_aux_lemma =>
          go_wp2_with fail
          go_meet
          exact ⟨rfl, N, f, ks, rs, F, G, hRa, by omega, hW, hL, hfew, eO, hFo, hGo⟩
      case rest =>
        obtain ⟨rfl, N2, f2, ks2, rs2, F2, G2, hR2, hN2, hW2, hL2, hfew2, hB2, hF2o, hG2o⟩ := hcut
        clear hRa hW hL hfew hFo hGo eO e0 e1 e2 e3 e4 hNm hbol hN hF2o hG2o hobb
        have hfw := hfew2.out
        have hlen : rs2.length ≤ 1048576 := by have := hW2.len; omega
        have e1 := hB2.cell 1
        simp only [List.getElem?_toArray, List.getElem?_cons_succ, List.getElem?_cons_zero] at e1
        have hmv := move_any hR2.ps k1 wk1
        have hU := hW2.under k2 k3
        obtain ⟨U, hUU⟩ : ∃ U, underO f2 k2 k3 (sortI ks2) [] = U := ⟨_, rfl⟩
        replace hU := Lib.hid hU
        replace hUU := Lib.hid hUU
        by_cases hk : k1 ∈ ks2
        · as_aux_lemma =>
            obtain ⟨i, x, hp1, hp2, hp3, hp4⟩ := hW2.at_ hk
            rw [show decide (k1 ∈ ks2) = true from decide_eq_true hk] at hmv
            have hfd := fun (W : World) (h : HR w p b q W N2 f2 ks2 rs2 F2 G2) => rfind_any k1 h.qk hlen
            rw [hp1] at hfd
            obtain ⟨hil2, hmy2⟩ := hL2 x (List.mem_of_getElem? hp2)
            have hil16 := hmy2.len
            obtain ⟨r, hr⟩ : ∃ r, f2 k1 = r := ⟨_, rfl⟩
            rw [hr] at hmv hp4
            clear hr hp1 hp3 hk
            obtain ⟨rm, rf, rt, ⟨A0, n0, c0, l7⟩, rc⟩ := r
            obtain ⟨ym, yf, yt, ⟨A2, n2, c2, l2⟩, yc⟩ := x
            unfold core at hp4
            simp only [Prod.mk.injEq] at hp4
            obtain ⟨q0, q1, q2, q3, q4⟩ := hp4
            subst ym
            subst yf
            subst yt
            subst l2
            subst yc
            have hn2 := hil2.len
            dsimp only at hn2 hil2 hil16 hmy2
            subst n2
            go_wp2_with fail
            refine hmv.mono ?_
            rintro e w6 ⟨u, rfl, ⟨A7, c7, rfl, ho7⟩, hx6⟩
            dsimp only at ho7
            have hR6 := hR2.below hx6
            obtain ⟨_, _, hv7, -, -, hil7, -⟩ := ho7.form
            cases hv7
            have hB6 := hB2.kept (Keep.of_below hx6) (Nat.not_le.2 hB2.lt)
            have hR7 := hR6.alloc (.cells #[.int .i64 rm, .int .i64 rf, .int .i64 rt, .slice A7 l7.length c7, .bool rc] 42)
            have hB7 := hB6.alloc (.cells #[.int .i64 rm, .int .i64 rf, .int .i64 rt, .slice A7 l7.length c7, .bool rc] 42)
            have hV7 := Blk.new w6 42 #[.int .i64 rm, .int .i64 rf, .int .i64 rt, .slice A7 l7.length c7, .bool rc]
            have hil7b := hil7.alloc (.cells #[.int .i64 rm, .int .i64 rf, .int .i64 rt, .slice A7 l7.length c7, .bool rc] 42)
            obtain ⟨vb, hvb⟩ : ∃ vb, w6.heap.size = vb := ⟨_, rfl⟩
            rw [hvb] at hV7
            clear hmv ho7 hil7 hR6 hB6 hB2 e1
            have e1 := hB7.cell 1
            simp only [List.getElem?_toArray, List.getElem?_cons_succ, List.getElem?_cons_zero] at e1
            go_wp2_with fail
            generalize w6.alloc (.cells #[.int .i64 rm, .int .i64 rf, .int .i64 rt, .slice A7 l7.length c7, .bool rc] 42) = w8 at *
            clear hvb hx6 hR2
            refine (hfd _ hR7).mono ?_
            rintro e w' ⟨rfl, hww⟩
            subst w'
            clear hfd
            go_upto_region 27 with fail
            have hR9 := hR7.drew
            obtain ⟨vx, hQV⟩ := hR9.qk
            obtain ⟨Ax, cx, rfl, -⟩ := hQV.own.form
            obtain ⟨nn, hnn⟩ : ∃ nn, rs2.length = nn := ⟨_, rfl⟩
            have hii : i < nn := by have := (List.getElem?_eq_some_iff.1 hp2).1; omega
            have hxq := hQV.field
            have hown := hQV.own
            rw [hnn] at hxq hown
            obtain ⟨g, y, hAx, hy, z0, z1, z2, z3, z4⟩ := hown.place (by omega : i < _)
            cases hAx
            rw [hp2] at hy
            cases hy
            dsimp only at z0 z1 z2 z3 z4
            change _ = some (Value.slice A2 l7.length c2) at z3
            have hB9 := hB7.drew
            have hV9 := hV7.drew
            have hil7z := hil7b.drew
            have hil2z := hil2.below hR9.bel
            have o2 := hB9.cell 2
            have o3 := hB9.cell 3
            have v0 := hV9.cell 0
            have v1 := hV9.cell 1
            have v2 := hV9.cell 2
            have v3 := hV9.cell 3
            have v4 := hV9.cell 4
            simp only [List.getElem?_toArray, List.getElem?_cons_succ, List.getElem?_cons_zero] at o2 o3 v0 v1 v2 v3 v4
            have hiz : decide ((0 : Int) ≤ (i : Int)) = true := decide_eq_true (by omega)
            have hiz2 : decide ((i : Int) < (0 : Int)) = false := decide_eq_false (by omega)
            have hnz : decide (nn ≤ i) = false := decide_eq_false (by omega)
            have hnz2 : decide ((nn : Int) ≤ (i : Int)) = false := decide_eq_false (by omega)
            clear hQV hown hR7 hB7 hV7 hil7b hp2 hnn hil2
            have cB : ∀ {W' : World} (h : Below w8.drew.heap.size w8.drew W') {a : Addr} {u : Value}, w8.drew.cell? a = some u → W'.cell? a = some u := fun {W'} h {a u} hc => (h.cell (World.block_lt_of_cell? _ _ hc)).trans hc
            have hSB : ∀ W', Below w8.drew.heap.size w8.drew W' → (fun W => W.cell? ⟨ob, 2, none⟩ = some (.int .i64 k2) ∧ W.cell? ⟨ob, 3, none⟩ = some (.int .i64 k3) ∧ W.cell? ⟨vb, 0, none⟩ = some (.int .i64 rm) ∧ W.cell? ⟨vb, 1, none⟩ = some (.int .i64 rf) ∧ W.cell? ⟨vb, 2, none⟩ = some (.int .i64 rt) ∧ W.cell? ⟨vb, 3, none⟩ = some (.slice A7 l7.length c7) ∧ W.cell? ⟨vb, 4, none⟩ = some (.bool rc) ∧ W.cell? ⟨q, 0, none⟩ = some (.slice (some ⟨g, 0, none⟩) nn cx) ∧ W.cell? ⟨g, i * 5, none⟩ = some (.int .i64 rm) ∧ W.cell? ⟨g, i * 5 + 1, none⟩ = some (.int .i64 rf) ∧ W.cell? ⟨g, i * 5 + 2, none⟩ = some (.int .i64 rt) ∧ W.cell? ⟨g, i * 5 + 3, none⟩ = some (.slice A2 l7.length c2) ∧ W.cell? ⟨g, i * 5 + 4, none⟩ = some (.bool rc)) W' := fun W' hz => ⟨cB hz o2, cB hz o3, cB hz v0, cB hz v1, cB hz v2, cB hz v3, cB hz v4, cB hz hxq, cB hz z0, cB hz z1, cB hz z2, cB hz z3, cB hz z4⟩
            have sd := hSB w8.drew (Below.refl _ _)
            clear cB o2 o3 v0 v1 v2 v3 v4 hxq z0 z1 z2 z3 z4 hB9 hV9
            refine wp_region_held_drew (S := (fun W => W.cell? ⟨ob, 2, none⟩ = some (.int .i64 k2) ∧ W.cell? ⟨ob, 3, none⟩ = some (.int .i64 k3) ∧ W.cell? ⟨vb, 0, none⟩ = some (.int .i64 rm) ∧ W.cell? ⟨vb, 1, none⟩ = some (.int .i64 rf) ∧ W.cell? ⟨vb, 2, none⟩ = some (.int .i64 rt) ∧ W.cell? ⟨vb, 3, none⟩ = some (.slice A7 l7.length c7) ∧ W.cell? ⟨vb, 4, none⟩ = some (.bool rc) ∧ W.cell? ⟨q, 0, none⟩ = some (.slice (some ⟨g, 0, none⟩) nn cx) ∧ W.cell? ⟨g, i * 5, none⟩ = some (.int .i64 rm) ∧ W.cell? ⟨g, i * 5 + 1, none⟩ = some (.int .i64 rf) ∧ W.cell? ⟨g, i * 5 + 2, none⟩ = some (.int .i64 rt) ∧ W.cell? ⟨g, i * 5 + 3, none⟩ = some (.slice A2 l7.length c2) ∧ W.cell? ⟨g, i * 5 + 4, none⟩ = some (.bool rc))) (by kernel_rfl) sd (fun hHeld => ?_)
            generalize w8.drew = wz at *
            (refine tkI 0 (by (simp only [List.getElem?_toArray, List.getElem?_cons_succ, List.getElem?_cons_zero]; rfl)) (by kernel_rfl) (by kernel_rfl) (by kernel_rfl) (by exact fun _ _ _ h => h) (by rfl) (by (intro w hSw; (try dsimp only at hSw); go_simp <;> with_reducible rfl)) (by assumption) ?_; try simp only [Act.put, List.setIfInBounds_toArray, List.set_cons_zero, List.set_cons_succ])
            (refine tkI 1 (by (simp only [List.getElem?_toArray, List.getElem?_cons_succ, List.getElem?_cons_zero]; rfl)) (by kernel_rfl) (by kernel_rfl) (by kernel_rfl) (by exact fun _ _ _ h => h) (by rfl) (by (intro w hSw; (try dsimp only at hSw); go_simp <;> with_reducible rfl)) (by assumption) ?_; try simp only [Act.put, List.setIfInBounds_toArray, List.set_cons_zero, List.set_cons_succ])
            (refine tkI 2 (by (simp only [List.getElem?_toArray, List.getElem?_cons_succ, List.getElem?_cons_zero]; rfl)) (by kernel_rfl) (by kernel_rfl) (by kernel_rfl) (by exact fun _ _ _ h => h) (by rfl) (by (intro w hSw; (try dsimp only at hSw); go_simp <;> with_reducible rfl)) (by assumption) ?_; try simp only [Act.put, List.setIfInBounds_toArray, List.set_cons_zero, List.set_cons_succ])
            (refine tkI 3 (by (simp only [List.getElem?_toArray, List.getElem?_cons_succ, List.getElem?_cons_zero]; rfl)) (by kernel_rfl) (by kernel_rfl) (by kernel_rfl) (by exact fun _ _ _ h => h) (by rfl) (by (intro w hSw; (try dsimp only at hSw); go_simp <;> with_reducible rfl)) (by assumption) ?_; try simp only [Act.put, List.setIfInBounds_toArray, List.set_cons_zero, List.set_cons_succ])
            (refine tkI 4 (by (simp only [List.getElem?_toArray, List.getElem?_cons_succ, List.getElem?_cons_zero]; rfl)) (by kernel_rfl) (by kernel_rfl) (by kernel_rfl) (by exact fun _ _ _ h => h) (by rfl) (by (intro w hSw; (try dsimp only at hSw); go_simp <;> with_reducible rfl)) (by assumption) ?_; try simp only [Act.put, List.setIfInBounds_toArray, List.set_cons_zero, List.set_cons_succ])
            (refine tkI 5 (by (simp only [List.getElem?_toArray, List.getElem?_cons_succ, List.getElem?_cons_zero]; rfl)) (by kernel_rfl) (by kernel_rfl) (by kernel_rfl) (by exact fun _ _ _ h => h) (by rfl) (by (intro w hSw; (try dsimp only at hSw); go_simp <;> with_reducible rfl)) (by assumption) ?_; try simp only [Act.put, List.setIfInBounds_toArray, List.set_cons_zero, List.set_cons_succ])
            (refine tkI 6 (by (simp only [List.getElem?_toArray, List.getElem?_cons_succ, List.getElem?_cons_zero]; rfl)) (by kernel_rfl) (by kernel_rfl) (by kernel_rfl) (by exact fun _ _ _ h => h) (by rfl) (by (intro w hSw; (try dsimp only at hSw); go_simp <;> with_reducible rfl)) (by assumption) ?_; try simp only [Act.put, List.setIfInBounds_toArray, List.set_cons_zero, List.set_cons_succ])
            (refine tkI 7 (by (simp only [List.getElem?_toArray, List.getElem?_cons_succ, List.getElem?_cons_zero]; rfl)) (by kernel_rfl) (by kernel_rfl) (by kernel_rfl) (by exact fun _ _ _ h => h) (by rfl) (by (intro w hSw; (try dsimp only at hSw); go_simp <;> with_reducible rfl)) (by assumption) ?_; try simp only [Act.put, List.setIfInBounds_toArray, List.set_cons_zero, List.set_cons_succ])
            (refine tkI 8 (by (simp only [List.getElem?_toArray, List.getElem?_cons_succ, List.getElem?_cons_zero]; rfl)) (by kernel_rfl) (by kernel_rfl) (by kernel_rfl) (by exact fun _ _ _ h => h) (by rfl) (by (intro w hSw; (try dsimp only at hSw); go_simp <;> with_reducible rfl)) (by assumption) ?_; try simp only [Act.put, List.setIfInBounds_toArray, List.set_cons_zero, List.set_cons_succ])
            (refine tkI 9 (by (simp only [List.getElem?_toArray, List.getElem?_cons_succ, List.getElem?_cons_zero]; rfl)) (by kernel_rfl) (by kernel_rfl) (by kernel_rfl) (by exact fun _ _ _ h => h) (by rfl) (by (intro w hSw; (try dsimp only at hSw); go_simp <;> with_reducible rfl)) (by assumption) ?_; try simp only [Act.put, List.setIfInBounds_toArray, List.set_cons_zero, List.set_cons_succ])
            (refine tkI 10 (by (simp only [List.getElem?_toArray, List.getElem?_cons_succ, List.getElem?_cons_zero]; rfl)) (by kernel_rfl) (by kernel_rfl) (by kernel_rfl) (by exact fun _ _ _ h => h) (by rfl) (by (intro w hSw; (try dsimp only at hSw); go_simp <;> with_reducible rfl)) (by assumption) ?_; try simp only [Act.put, List.setIfInBounds_toArray, List.set_cons_zero, List.set_cons_succ])
            (refine tkI 11 (by (simp only [List.getElem?_toArray, List.getElem?_cons_succ, List.getElem?_cons_zero]; rfl)) (by kernel_rfl) (by kernel_rfl) (by kernel_rfl) (by exact fun _ _ _ h => h) (by rfl) (by (intro w hSw; (try dsimp only at hSw); go_simp <;> with_reducible rfl)) (by assumption) ?_; try simp only [Act.put, List.setIfInBounds_toArray, List.set_cons_zero, List.set_cons_succ])
            (refine tkI 12 (by (simp only [List.getElem?_toArray, List.getElem?_cons_succ, List.getElem?_cons_zero]; rfl)) (by kernel_rfl) (by kernel_rfl) (by kernel_rfl) (by exact fun _ _ _ h => h) (by rfl) (by (intro w hSw; (try dsimp only at hSw); go_simp <;> with_reducible rfl)) (by assumption) ?_; try simp only [Act.put, List.setIfInBounds_toArray, List.set_cons_zero, List.set_cons_succ])
            (refine tkI 13 (by (simp only [List.getElem?_toArray, List.getElem?_cons_succ, List.getElem?_cons_zero]; rfl)) (by kernel_rfl) (by kernel_rfl) (by kernel_rfl) (by exact fun _ _ _ h => h) (by rfl) (by (intro w hSw; (try dsimp only at hSw); go_simp <;> with_reducible rfl)) (by assumption) ?_; try simp only [Act.put, List.setIfInBounds_toArray, List.set_cons_zero, List.set_cons_succ])
            (refine tkI 14 (by (simp only [List.getElem?_toArray, List.getElem?_cons_succ, List.getElem?_cons_zero]; rfl)) (by kernel_rfl) (by kernel_rfl) (by kernel_rfl) (by exact fun _ _ _ h => h) (by rfl) (by (intro w hSw; (try dsimp only at hSw); go_simp <;> with_reducible rfl)) (by assumption) ?_; try simp only [Act.put, List.setIfInBounds_toArray, List.set_cons_zero, List.set_cons_succ])
            (refine tkI 15 (by (simp only [List.getElem?_toArray, List.getElem?_cons_succ, List.getElem?_cons_zero]; rfl)) (by kernel_rfl) (by kernel_rfl) (by kernel_rfl) (by exact fun _ _ _ h => h) (by rfl) (by (intro w hSw; (try dsimp only at hSw); go_simp <;> with_reducible rfl)) (by assumption) ?_; try simp only [Act.put, List.setIfInBounds_toArray, List.set_cons_zero, List.set_cons_succ])
            (refine tkI 16 (by (simp only [List.getElem?_toArray, List.getElem?_cons_succ, List.getElem?_cons_zero]; rfl)) (by kernel_rfl) (by kernel_rfl) (by kernel_rfl) (by exact fun _ _ _ h => h) (by rfl) (by (intro w hSw; (try dsimp only at hSw); go_simp <;> with_reducible rfl)) (by assumption) ?_; try simp only [Act.put, List.setIfInBounds_toArray, List.set_cons_zero, List.set_cons_succ])
            (refine tkI 17 (by (simp only [List.getElem?_toArray, List.getElem?_cons_succ, List.getElem?_cons_zero]; rfl)) (by kernel_rfl) (by kernel_rfl) (by kernel_rfl) (by exact fun _ _ _ h => h) (by rfl) (by (intro w hSw; (try dsimp only at hSw); go_simp <;> with_reducible rfl)) (by assumption) ?_; try simp only [Act.put, List.setIfInBounds_toArray, List.set_cons_zero, List.set_cons_succ])
            (refine tkI 18 (by (simp only [List.getElem?_toArray, List.getElem?_cons_succ, List.getElem?_cons_zero]; rfl)) (by kernel_rfl) (by kernel_rfl) (by kernel_rfl) (by exact fun _ _ _ h => h) (by rfl) (by (intro w hSw; (try dsimp only at hSw); go_simp <;> with_reducible rfl)) (by assumption) ?_; try simp only [Act.put, List.setIfInBounds_toArray, List.set_cons_zero, List.set_cons_succ])
            (refine tkI 19 (by (simp only [List.getElem?_toArray, List.getElem?_cons_succ, List.getElem?_cons_zero]; rfl)) (by kernel_rfl) (by kernel_rfl) (by kernel_rfl) (by exact fun _ _ _ h => h) (by rfl) (by (intro w hSw; (try dsimp only at hSw); go_simp <;> with_reducible rfl)) (by assumption) ?_; try simp only [Act.put, List.setIfInBounds_toArray, List.set_cons_zero, List.set_cons_succ])
            refine wpAnyH_ready (rs := [20]) (by kernel_rfl) (by simp) ?_
            refine AllReadyH.cons (by (simp only [List.getElem?_toArray, List.getElem?_cons_succ, List.getElem?_cons_zero]; rfl)) (fun K hK => ?_) AllReadyH.nil
            go_simp
            refine (rsame_yes rm rf rt A7 A2 l7.length c7 c2 rc l7 _ hil7z hil2z (by omega)).mono ?_
            rintro e w10 ⟨rfl, hz10⟩
            have hR10 := hR9.below hz10
            refine hK.out _ _ (hSB w10 hz10) (fun hHeld2 => ?_)
            clear hK K hHeld
            have hHeld := hHeld2
            clear hHeld2
            try simp only [Act.put, List.setIfInBounds_toArray, List.set_cons_zero, List.set_cons_succ]
            (refine tkI 21 (by (simp only [List.getElem?_toArray, List.getElem?_cons_succ, List.getElem?_cons_zero]; rfl)) (by kernel_rfl) (by kernel_rfl) (by kernel_rfl) (by exact fun _ _ _ h => h) (by rfl) (by (intro w hSw; (try dsimp only at hSw); go_simp <;> with_reducible rfl)) (by assumption) ?_; try simp only [Act.put, List.setIfInBounds_toArray, List.set_cons_zero, List.set_cons_succ])
            (refine tkI 22 (by (simp only [List.getElem?_toArray, List.getElem?_cons_succ, List.getElem?_cons_zero]; rfl)) (by kernel_rfl) (by kernel_rfl) (by kernel_rfl) (by exact fun _ _ _ h => h) (by rfl) (by (intro w hSw; (try dsimp only at hSw); go_simp <;> with_reducible rfl)) (by assumption) ?_; try simp only [Act.put, List.setIfInBounds_toArray, List.set_cons_zero, List.set_cons_succ])
            (refine tkI 23 (by (simp only [List.getElem?_toArray, List.getElem?_cons_succ, List.getElem?_cons_zero]; rfl)) (by kernel_rfl) (by kernel_rfl) (by kernel_rfl) (by exact fun _ _ _ h => h) (by rfl) (by (intro w hSw; (try dsimp only at hSw); go_simp <;> with_reducible rfl)) (by assumption) ?_; try simp only [Act.put, List.setIfInBounds_toArray, List.set_cons_zero, List.set_cons_succ])
            (refine tkI 24 (by (simp only [List.getElem?_toArray, List.getElem?_cons_succ, List.getElem?_cons_zero]; rfl)) (by kernel_rfl) (by kernel_rfl) (by kernel_rfl) (by exact fun _ _ _ h => h) (by rfl) (by (intro w hSw; (try dsimp only at hSw); go_simp <;> with_reducible rfl)) (by assumption) ?_; try simp only [Act.put, List.setIfInBounds_toArray, List.set_cons_zero, List.set_cons_succ])
            (refine tkI 25 (by (simp only [List.getElem?_toArray, List.getElem?_cons_succ, List.getElem?_cons_zero]; rfl)) (by kernel_rfl) (by kernel_rfl) (by kernel_rfl) (by exact fun _ _ _ h => h) (by rfl) (by (intro w hSw; (try dsimp only at hSw); go_simp <;> with_reducible rfl)) (by assumption) ?_; try simp only [Act.put, List.setIfInBounds_toArray, List.set_cons_zero, List.set_cons_succ])
            (refine tkI 26 (by (simp only [List.getElem?_toArray, List.getElem?_cons_succ, List.getElem?_cons_zero]; rfl)) (by kernel_rfl) (by kernel_rfl) (by kernel_rfl) (by exact fun _ _ _ h => h) (by rfl) (by (intro w hSw; (try dsimp only at hSw); go_simp <;> with_reducible rfl)) (by assumption) ?_; try simp only [Act.put, List.setIfInBounds_toArray, List.set_cons_zero, List.set_cons_succ])
            (refine tkI 27 (by (simp only [List.getElem?_toArray, List.getElem?_cons_succ, List.getElem?_cons_zero]; rfl)) (by kernel_rfl) (by kernel_rfl) (by kernel_rfl) (by exact fun _ _ _ h => h) (by rfl) (by (intro w hSw; (try dsimp only at hSw); go_simp <;> with_reducible rfl)) (by assumption) ?_; try simp only [Act.put, List.setIfInBounds_toArray, List.set_cons_zero, List.set_cons_succ])
            (refine tkIN 28 (by (simp only [List.getElem?_toArray, List.getElem?_cons_succ, List.getElem?_cons_zero]; rfl)) (by kernel_rfl) (by kernel_rfl) (by kernel_rfl) (by exact fun _ _ _ h => h) (by rfl) (by assumption) ?_; try simp only [Act.put, List.setIfInBounds_toArray, List.set_cons_zero, List.set_cons_succ])
            (refine tkIN 29 (by (simp only [List.getElem?_toArray, List.getElem?_cons_succ, List.getElem?_cons_zero]; rfl)) (by kernel_rfl) (by kernel_rfl) (by kernel_rfl) (by exact fun _ _ _ h => h) (by rfl) (by assumption) ?_; try simp only [Act.put, List.setIfInBounds_toArray, List.set_cons_zero, List.set_cons_succ])
            (refine tkIN 30 (by (simp only [List.getElem?_toArray, List.getElem?_cons_succ, List.getElem?_cons_zero]; rfl)) (by kernel_rfl) (by kernel_rfl) (by kernel_rfl) (by exact fun _ _ _ h => h) (by rfl) (by assumption) ?_; try simp only [Act.put, List.setIfInBounds_toArray, List.set_cons_zero, List.set_cons_succ])
            (refine tkIN 31 (by (simp only [List.getElem?_toArray, List.getElem?_cons_succ, List.getElem?_cons_zero]; rfl)) (by kernel_rfl) (by kernel_rfl) (by kernel_rfl) (by exact fun _ _ _ h => h) (by rfl) (by assumption) ?_; try simp only [Act.put, List.setIfInBounds_toArray, List.set_cons_zero, List.set_cons_succ])
            (refine tkI 32 (by (simp only [List.getElem?_toArray, List.getElem?_cons_succ, List.getElem?_cons_zero]; rfl)) (by kernel_rfl) (by kernel_rfl) (by kernel_rfl) (by exact fun _ _ _ h => h) (by rfl) (by (intro w hSw; (try dsimp only at hSw); go_simp <;> with_reducible rfl)) (by assumption) ?_; try simp only [Act.put, List.setIfInBounds_toArray, List.set_cons_zero, List.set_cons_succ])
            (refine tkI 33 (by (simp only [List.getElem?_toArray, List.getElem?_cons_succ, List.getElem?_cons_zero]; rfl)) (by kernel_rfl) (by kernel_rfl) (by kernel_rfl) (by exact fun _ _ _ h => h) (by rfl) (by (intro w hSw; (try dsimp only at hSw); go_simp <;> with_reducible rfl)) (by assumption) ?_; try simp only [Act.put, List.setIfInBounds_toArray, List.set_cons_zero, List.set_cons_succ])
            (refine tkI 34 (by (simp only [List.getElem?_toArray, List.getElem?_cons_succ, List.getElem?_cons_zero]; rfl)) (by kernel_rfl) (by kernel_rfl) (by kernel_rfl) (by exact fun _ _ _ h => h) (by rfl) (by (intro w hSw; (try dsimp only at hSw); go_simp <;> with_reducible rfl)) (by assumption) ?_; try simp only [Act.put, List.setIfInBounds_toArray, List.set_cons_zero, List.set_cons_succ])
            (refine tkI 35 (by (simp only [List.getElem?_toArray, List.getElem?_cons_succ, List.getElem?_cons_zero]; rfl)) (by kernel_rfl) (by kernel_rfl) (by kernel_rfl) (by exact fun _ _ _ h => h) (by rfl) (by (intro w hSw; (try dsimp only at hSw); go_simp <;> with_reducible rfl)) (by assumption) ?_; try simp only [Act.put, List.setIfInBounds_toArray, List.set_cons_zero, List.set_cons_succ])
            (refine tkI 36 (by (simp only [List.getElem?_toArray, List.getElem?_cons_succ, List.getElem?_cons_zero]; rfl)) (by kernel_rfl) (by kernel_rfl) (by kernel_rfl) (by exact fun _ _ _ h => h) (by rfl) (by (intro w hSw; (try dsimp only at hSw); go_simp <;> with_reducible rfl)) (by assumption) ?_; try simp only [Act.put, List.setIfInBounds_toArray, List.set_cons_zero, List.set_cons_succ])
            (refine tkI 37 (by (simp only [List.getElem?_toArray, List.getElem?_cons_succ, List.getElem?_cons_zero]; rfl)) (by kernel_rfl) (by kernel_rfl) (by kernel_rfl) (by exact fun _ _ _ h => h) (by rfl) (by (intro w hSw; (try dsimp only at hSw); go_simp <;> with_reducible rfl)) (by assumption) ?_; try simp only [Act.put, List.setIfInBounds_toArray, List.set_cons_zero, List.set_cons_succ])
            (refine tkI 38 (by (simp only [List.getElem?_toArray, List.getElem?_cons_succ, List.getElem?_cons_zero]; rfl)) (by kernel_rfl) (by kernel_rfl) (by kernel_rfl) (by exact fun _ _ _ h => h) (by rfl) (by (intro w hSw; (try dsimp only at hSw); go_simp <;> with_reducible rfl)) (by assumption) ?_; try simp only [Act.put, List.setIfInBounds_toArray, List.set_cons_zero, List.set_cons_succ])
            (refine tkI 39 (by (simp only [List.getElem?_toArray, List.getElem?_cons_succ, List.getElem?_cons_zero]; rfl)) (by kernel_rfl) (by kernel_rfl) (by kernel_rfl) (by exact fun _ _ _ h => h) (by rfl) (by (intro w hSw; (try dsimp only at hSw); go_simp <;> with_reducible rfl)) (by assumption) ?_; try simp only [Act.put, List.setIfInBounds_toArray, List.set_cons_zero, List.set_cons_succ])
            (refine tkI 41 (by (simp only [List.getElem?_toArray, List.getElem?_cons_succ, List.getElem?_cons_zero]; rfl)) (by kernel_rfl) (by kernel_rfl) (by kernel_rfl) (by exact fun _ _ _ h => h) (by rfl) (by (intro w hSw; (try dsimp only at hSw); go_simp <;> with_reducible rfl)) (by assumption) ?_; try simp only [Act.put, List.setIfInBounds_toArray, List.set_cons_zero, List.set_cons_succ])
            (refine tkI 42 (by (simp only [List.getElem?_toArray, List.getElem?_cons_succ, List.getElem?_cons_zero]; rfl)) (by kernel_rfl) (by kernel_rfl) (by kernel_rfl) (by exact fun _ _ _ h => h) (by rfl) (by (intro w hSw; (try dsimp only at hSw); go_simp <;> with_reducible rfl)) (by assumption) ?_; try simp only [Act.put, List.setIfInBounds_toArray, List.set_cons_zero, List.set_cons_succ])
            (refine tkI 43 (by (simp only [List.getElem?_toArray, List.getElem?_cons_succ, List.getElem?_cons_zero]; rfl)) (by kernel_rfl) (by kernel_rfl) (by kernel_rfl) (by exact fun _ _ _ h => h) (by rfl) (by (intro w hSw; (try dsimp only at hSw); go_simp <;> with_reducible rfl)) (by assumption) ?_; try simp only [Act.put, List.setIfInBounds_toArray, List.set_cons_zero, List.set_cons_succ])
            (refine tkI 44 (by (simp only [List.getElem?_toArray, List.getElem?_cons_succ, List.getElem?_cons_zero]; rfl)) (by kernel_rfl) (by kernel_rfl) (by kernel_rfl) (by exact fun _ _ _ h => h) (by rfl) (by (intro w hSw; (try dsimp only at hSw); go_simp <;> with_reducible rfl)) (by assumption) ?_; try simp only [Act.put, List.setIfInBounds_toArray, List.set_cons_zero, List.set_cons_succ])
            (refine tkI 45 (by (simp only [List.getElem?_toArray, List.getElem?_cons_succ, List.getElem?_cons_zero]; rfl)) (by kernel_rfl) (by kernel_rfl) (by kernel_rfl) (by exact fun _ _ _ h => h) (by rfl) (by (intro w hSw; (try dsimp only at hSw); go_simp <;> with_reducible rfl)) (by assumption) ?_; try simp only [Act.put, List.setIfInBounds_toArray, List.set_cons_zero, List.set_cons_succ])
            refine wpAnyH_ready (rs := [40]) (by kernel_rfl) (by simp) ?_
            refine AllReadyH.cons (by (simp only [List.getElem?_toArray, List.getElem?_cons_succ, List.getElem?_cons_zero]; rfl)) (fun K hK => ?_) AllReadyH.nil
            go_simp
            refine (under_any hR10.ps (by omega) k2 k3).mono ?_
            rintro e w11 ⟨v11, rfl, ho11, hb11⟩
            rw [hUU.out] at ho11
            obtain ⟨A11, c11, rfl, hlc11, hcm11, hil11, -⟩ := ho11.form
            have hz11 := hz10.trans (hb11.mono hz10.size)
            have hR11 := hR10.below hb11
            refine hK.out _ _ (hSB w11 hz11) (fun hHeld2 => ?_)
            clear hK K hHeld
            have hHeld := hHeld2
            clear hHeld2
            try simp only [Act.put, List.setIfInBounds_toArray, List.set_cons_zero, List.set_cons_succ]
            refine wpAnyH_ready (rs := [46]) (by kernel_rfl) (by simp) ?_
            refine AllReadyH.cons (by (simp only [List.getElem?_toArray, List.getElem?_cons_succ, List.getElem?_cons_zero]; rfl)) (fun K hK => ?_) AllReadyH.nil
            go_simp
            refine (runder_any hR11.qk hlen (hL2.at hR11.bel) k2 k3).mono ?_
            rintro e w12 ⟨v12, rfl, ho12, hb12⟩
            rw [hU.out, hUU.out] at ho12
            obtain ⟨A12, c12, rfl, -, -, hil12, -⟩ := ho12.form
            have hz12 := hz11.trans (hb12.mono hz11.size)
            have hR12 := hR11.below hb12
            refine hK.out _ _ (hSB w12 hz12) (fun hHeld2 => ?_)
            clear hK K hHeld
            have hHeld := hHeld2
            clear hHeld2
            try simp only [Act.put, List.setIfInBounds_toArray, List.set_cons_zero, List.set_cons_succ]
            refine wpAnyH_ready (rs := [47]) (by kernel_rfl) (by simp) ?_
            refine AllReadyH.cons (by (simp only [List.getElem?_toArray, List.getElem?_cons_succ, List.getElem?_cons_zero]; rfl)) (fun K hK => ?_) AllReadyH.nil
            go_simp
            have hsm := same_b A11 A12 U.length c11 U.length c12 U U w12 (hil11.below hb12) hil12 (by unfold maxLen at hcm11; omega)
            rw [show decide (U = U) = true from decide_eq_true rfl] at hsm
            refine hsm.mono ?_
            rintro e w13 ⟨rfl, hb13⟩
            have hz13 := hz12.trans (hb13.mono hz12.size)
            have hR13 := hR12.below hb13
            refine hK.out _ _ (hSB w13 hz13) (fun hHeld2 => ?_)
            clear hK K hHeld
            have hHeld := hHeld2
            clear hHeld2
            try simp only [Act.put, List.setIfInBounds_toArray, List.set_cons_zero, List.set_cons_succ]
            (refine tkI 48 (by (simp only [List.getElem?_toArray, List.getElem?_cons_succ, List.getElem?_cons_zero]; rfl)) (by kernel_rfl) (by kernel_rfl) (by kernel_rfl) (by exact fun _ _ _ h => h) (by rfl) (by (intro w hSw; (try dsimp only at hSw); go_simp <;> with_reducible rfl)) (by assumption) ?_; try simp only [Act.put, List.setIfInBounds_toArray, List.set_cons_zero, List.set_cons_succ])
            (refine tkI 49 (by (simp only [List.getElem?_toArray, List.getElem?_cons_succ, List.getElem?_cons_zero]; rfl)) (by kernel_rfl) (by kernel_rfl) (by kernel_rfl) (by exact fun _ _ _ h => h) (by rfl) (by (intro w hSw; (try dsimp only at hSw); go_simp <;> with_reducible rfl)) (by assumption) ?_; try simp only [Act.put, List.setIfInBounds_toArray, List.set_cons_zero, List.set_cons_succ])
            (refine tkI 50 (by (simp only [List.getElem?_toArray, List.getElem?_cons_succ, List.getElem?_cons_zero]; rfl)) (by kernel_rfl) (by kernel_rfl) (by kernel_rfl) (by exact fun _ _ _ h => h) (by rfl) (by (intro w hSw; (try dsimp only at hSw); go_simp <;> with_reducible rfl)) (by assumption) ?_; try simp only [Act.put, List.setIfInBounds_toArray, List.set_cons_zero, List.set_cons_succ])
            (refine tkI 51 (by (simp only [List.getElem?_toArray, List.getElem?_cons_succ, List.getElem?_cons_zero]; rfl)) (by kernel_rfl) (by kernel_rfl) (by kernel_rfl) (by exact fun _ _ _ h => h) (by rfl) (by (intro w hSw; (try dsimp only at hSw); go_simp <;> with_reducible rfl)) (by assumption) ?_; try simp only [Act.put, List.setIfInBounds_toArray, List.set_cons_zero, List.set_cons_succ])
            (refine tkI 52 (by (simp only [List.getElem?_toArray, List.getElem?_cons_succ, List.getElem?_cons_zero]; rfl)) (by kernel_rfl) (by kernel_rfl) (by kernel_rfl) (by exact fun _ _ _ h => h) (by rfl) (by (intro w hSw; (try dsimp only at hSw); go_simp <;> with_reducible rfl)) (by assumption) ?_; try simp only [Act.put, List.setIfInBounds_toArray, List.set_cons_zero, List.set_cons_succ])
            refine wpAnyH_ready (rs := [53]) (by kernel_rfl) (by simp) ?_
            refine AllReadyH.cons (by (simp only [List.getElem?_toArray, List.getElem?_cons_succ, List.getElem?_cons_zero]; rfl)) (fun K hK => ?_) AllReadyH.nil
            go_simp
            refine (walks_any hR13.ps hR13.qk hW2 hlen (hL2.at hR13.bel)).mono ?_
            rintro e w14 ⟨rfl, hb14⟩
            have hz14 := hz13.trans (hb14.mono hz13.size)
            have hR14 := hR13.below hb14
            refine hK.out _ _ (hSB w14 hz14) (fun hHeld2 => ?_)
            clear hK K hHeld
            have hHeld := hHeld2
            clear hHeld2
            try simp only [Act.put, List.setIfInBounds_toArray, List.set_cons_zero, List.set_cons_succ]
            (refine tkI 54 (by (simp only [List.getElem?_toArray, List.getElem?_cons_succ, List.getElem?_cons_zero]; rfl)) (by kernel_rfl) (by kernel_rfl) (by kernel_rfl) (by exact fun _ _ _ h => h) (by rfl) (by (intro w hSw; (try dsimp only at hSw); go_simp <;> with_reducible rfl)) (by assumption) ?_; try simp only [Act.put, List.setIfInBounds_toArray, List.set_cons_zero, List.set_cons_succ])
            (refine tkI 55 (by (simp only [List.getElem?_toArray, List.getElem?_cons_succ, List.getElem?_cons_zero]; rfl)) (by kernel_rfl) (by kernel_rfl) (by kernel_rfl) (by exact fun _ _ _ h => h) (by rfl) (by (intro w hSw; (try dsimp only at hSw); go_simp <;> with_reducible rfl)) (by assumption) ?_; try simp only [Act.put, List.setIfInBounds_toArray, List.set_cons_zero, List.set_cons_succ])
            refine wpAnyH_done (by kernel_rfl) ?_ _
            clear hHeld hSB
            go_wp2
            go_roundw
            case measure => simp [intOf]; omega
            case rel => exact ⟨k + 1, N2, f2, ks2, rs2, F2, G2, by go_num, by omega, hR14, by omega, hW2, hL2, hfew2⟩
        · as_aux_lemma =>
            rw [show decide (k1 ∈ ks2) = false from decide_eq_false hk, hR2.ps.no k1 hk] at hmv
            have hfd := fun (W : World) (h : HR w p b q W N2 f2 ks2 rs2 F2 G2) => rfind_any k1 h.qk hlen
            rw [hW2.not hk] at hfd
            clear hk
            go_wp2_with fail
            refine hmv.mono ?_
            rintro e w6 ⟨u, rfl, ⟨A7, c7, rfl, ho7⟩, hx6⟩
            dsimp only [rec0, ls0, List.length_nil] at ho7 ⊢
            have hR6 := hR2.below hx6
            have hB6 := hB2.kept (Keep.of_below hx6) (Nat.not_le.2 hB2.lt)
            have hR7 := hR6.alloc (.cells #[.int .i64 0, .int .i64 0, .int .i64 0, .slice A7 0 c7, .bool false] 42)
            have hB7 := hB6.alloc (.cells #[.int .i64 0, .int .i64 0, .int .i64 0, .slice A7 0 c7, .bool false] 42)
            have hV7 := Blk.new w6 42 #[.int .i64 0, .int .i64 0, .int .i64 0, .slice A7 0 c7, .bool false]
            obtain ⟨vb, hvb⟩ : ∃ vb, w6.heap.size = vb := ⟨_, rfl⟩
            rw [hvb] at hV7
            clear hmv ho7 hR6 hB6 hB2 e1
            have e1 := hB7.cell 1
            simp only [List.getElem?_toArray, List.getElem?_cons_succ, List.getElem?_cons_zero] at e1
            go_wp2_with fail
            generalize w6.alloc (.cells #[.int .i64 0, .int .i64 0, .int .i64 0, .slice A7 0 c7, .bool false] 42) = w8 at *
            clear hvb hx6 hR2
            refine (hfd _ hR7).mono ?_
            rintro e w' ⟨rfl, hww⟩
            subst w'
            clear hfd
            go_upto_region 27 with fail
            have hR9 := hR7.drew
            have hB9 := hB7.drew
            have hV9 := hV7.drew
            have o2 := hB9.cell 2
            have o3 := hB9.cell 3
            have v0 := hV9.cell 0
            have v1 := hV9.cell 1
            have v2 := hV9.cell 2
            have v3 := hV9.cell 3
            have v4 := hV9.cell 4
            simp only [List.getElem?_toArray, List.getElem?_cons_succ, List.getElem?_cons_zero] at o2 o3 v0 v1 v2 v3 v4
            clear hR7 hB7 hV7
            have cB : ∀ {W' : World} (h : Below w8.drew.heap.size w8.drew W') {a : Addr} {u : Value}, w8.drew.cell? a = some u → W'.cell? a = some u := fun {W'} h {a u} hc => (h.cell (World.block_lt_of_cell? _ _ hc)).trans hc
            have hSB : ∀ W', Below w8.drew.heap.size w8.drew W' → (fun W => W.cell? ⟨ob, 2, none⟩ = some (.int .i64 k2) ∧ W.cell? ⟨ob, 3, none⟩ = some (.int .i64 k3) ∧ W.cell? ⟨vb, 0, none⟩ = some (.int .i64 0) ∧ W.cell? ⟨vb, 1, none⟩ = some (.int .i64 0) ∧ W.cell? ⟨vb, 2, none⟩ = some (.int .i64 0) ∧ W.cell? ⟨vb, 3, none⟩ = some (.slice A7 0 c7) ∧ W.cell? ⟨vb, 4, none⟩ = some (.bool false)) W' := fun W' hz => ⟨cB hz o2, cB hz o3, cB hz v0, cB hz v1, cB hz v2, cB hz v3, cB hz v4⟩
            have sd := hSB w8.drew (Below.refl _ _)
            clear cB o2 o3 v0 v1 v2 v3 v4 hB9 hV9
            refine wp_region_held_drew (S := (fun W => W.cell? ⟨ob, 2, none⟩ = some (.int .i64 k2) ∧ W.cell? ⟨ob, 3, none⟩ = some (.int .i64 k3) ∧ W.cell? ⟨vb, 0, none⟩ = some (.int .i64 0) ∧ W.cell? ⟨vb, 1, none⟩ = some (.int .i64 0) ∧ W.cell? ⟨vb, 2, none⟩ = some (.int .i64 0) ∧ W.cell? ⟨vb, 3, none⟩ = some (.slice A7 0 c7) ∧ W.cell? ⟨vb, 4, none⟩ = some (.bool false))) (by kernel_rfl) sd (fun hHeld => ?_)
            generalize w8.drew = wz at *
            (refine tkI 0 (by (simp only [List.getElem?_toArray, List.getElem?_cons_succ, List.getElem?_cons_zero]; rfl)) (by kernel_rfl) (by kernel_rfl) (by kernel_rfl) (by exact fun _ _ _ h => h) (by rfl) (by (intro w hSw; (try dsimp only at hSw); go_simp <;> with_reducible rfl)) (by assumption) ?_; try simp only [Act.put, List.setIfInBounds_toArray, List.set_cons_zero, List.set_cons_succ])
            (refine tkI 1 (by (simp only [List.getElem?_toArray, List.getElem?_cons_succ, List.getElem?_cons_zero]; rfl)) (by kernel_rfl) (by kernel_rfl) (by kernel_rfl) (by exact fun _ _ _ h => h) (by rfl) (by (intro w hSw; (try dsimp only at hSw); go_simp <;> with_reducible rfl)) (by assumption) ?_; try simp only [Act.put, List.setIfInBounds_toArray, List.set_cons_zero, List.set_cons_succ])
            (refine tkI 2 (by (simp only [List.getElem?_toArray, List.getElem?_cons_succ, List.getElem?_cons_zero]; rfl)) (by kernel_rfl) (by kernel_rfl) (by kernel_rfl) (by exact fun _ _ _ h => h) (by rfl) (by (intro w hSw; (try dsimp only at hSw); go_simp <;> with_reducible rfl)) (by assumption) ?_; try simp only [Act.put, List.setIfInBounds_toArray, List.set_cons_zero, List.set_cons_succ])
            (refine tkI 3 (by (simp only [List.getElem?_toArray, List.getElem?_cons_succ, List.getElem?_cons_zero]; rfl)) (by kernel_rfl) (by kernel_rfl) (by kernel_rfl) (by exact fun _ _ _ h => h) (by rfl) (by (intro w hSw; (try dsimp only at hSw); go_simp <;> with_reducible rfl)) (by assumption) ?_; try simp only [Act.put, List.setIfInBounds_toArray, List.set_cons_zero, List.set_cons_succ])
            (refine tkI 4 (by (simp only [List.getElem?_toArray, List.getElem?_cons_succ, List.getElem?_cons_zero]; rfl)) (by kernel_rfl) (by kernel_rfl) (by kernel_rfl) (by exact fun _ _ _ h => h) (by rfl) (by (intro w hSw; (try dsimp only at hSw); go_simp <;> with_reducible rfl)) (by assumption) ?_; try simp only [Act.put, List.setIfInBounds_toArray, List.set_cons_zero, List.set_cons_succ])
            (refine tkI 5 (by (simp only [List.getElem?_toArray, List.getElem?_cons_succ, List.getElem?_cons_zero]; rfl)) (by kernel_rfl) (by kernel_rfl) (by kernel_rfl) (by exact fun _ _ _ h => h) (by rfl) (by (intro w hSw; (try dsimp only at hSw); go_simp <;> with_reducible rfl)) (by assumption) ?_; try simp only [Act.put, List.setIfInBounds_toArray, List.set_cons_zero, List.set_cons_succ])
            (refine tkI 6 (by (simp only [List.getElem?_toArray, List.getElem?_cons_succ, List.getElem?_cons_zero]; rfl)) (by kernel_rfl) (by kernel_rfl) (by kernel_rfl) (by exact fun _ _ _ h => h) (by rfl) (by (intro w hSw; (try dsimp only at hSw); go_simp <;> with_reducible rfl)) (by assumption) ?_; try simp only [Act.put, List.setIfInBounds_toArray, List.set_cons_zero, List.set_cons_succ])
            (refine tkI 7 (by (simp only [List.getElem?_toArray, List.getElem?_cons_succ, List.getElem?_cons_zero]; rfl)) (by kernel_rfl) (by kernel_rfl) (by kernel_rfl) (by exact fun _ _ _ h => h) (by rfl) (by (intro w hSw; (try dsimp only at hSw); go_simp <;> with_reducible rfl)) (by assumption) ?_; try simp only [Act.put, List.setIfInBounds_toArray, List.set_cons_zero, List.set_cons_succ])
            (refine tkI 8 (by (simp only [List.getElem?_toArray, List.getElem?_cons_succ, List.getElem?_cons_zero]; rfl)) (by kernel_rfl) (by kernel_rfl) (by kernel_rfl) (by exact fun _ _ _ h => h) (by rfl) (by (intro w hSw; (try dsimp only at hSw); go_simp <;> with_reducible rfl)) (by assumption) ?_; try simp only [Act.put, List.setIfInBounds_toArray, List.set_cons_zero, List.set_cons_succ])
            (refine tkI 9 (by (simp only [List.getElem?_toArray, List.getElem?_cons_succ, List.getElem?_cons_zero]; rfl)) (by kernel_rfl) (by kernel_rfl) (by kernel_rfl) (by exact fun _ _ _ h => h) (by rfl) (by (intro w hSw; (try dsimp only at hSw); go_simp <;> with_reducible rfl)) (by assumption) ?_; try simp only [Act.put, List.setIfInBounds_toArray, List.set_cons_zero, List.set_cons_succ])
            (refine tkI 10 (by (simp only [List.getElem?_toArray, List.getElem?_cons_succ, List.getElem?_cons_zero]; rfl)) (by kernel_rfl) (by kernel_rfl) (by kernel_rfl) (by exact fun _ _ _ h => h) (by rfl) (by (intro w hSw; (try dsimp only at hSw); go_simp <;> with_reducible rfl)) (by assumption) ?_; try simp only [Act.put, List.setIfInBounds_toArray, List.set_cons_zero, List.set_cons_succ])
            (refine tkI 11 (by (simp only [List.getElem?_toArray, List.getElem?_cons_succ, List.getElem?_cons_zero]; rfl)) (by kernel_rfl) (by kernel_rfl) (by kernel_rfl) (by exact fun _ _ _ h => h) (by rfl) (by (intro w hSw; (try dsimp only at hSw); go_simp <;> with_reducible rfl)) (by assumption) ?_; try simp only [Act.put, List.setIfInBounds_toArray, List.set_cons_zero, List.set_cons_succ])
            (refine tkIN 12 (by (simp only [List.getElem?_toArray, List.getElem?_cons_succ, List.getElem?_cons_zero]; rfl)) (by kernel_rfl) (by kernel_rfl) (by kernel_rfl) (by exact fun _ _ _ h => h) (by rfl) (by assumption) ?_; try simp only [Act.put, List.setIfInBounds_toArray, List.set_cons_zero, List.set_cons_succ])
            (refine tkIN 13 (by (simp only [List.getElem?_toArray, List.getElem?_cons_succ, List.getElem?_cons_zero]; rfl)) (by kernel_rfl) (by kernel_rfl) (by kernel_rfl) (by exact fun _ _ _ h => h) (by rfl) (by assumption) ?_; try simp only [Act.put, List.setIfInBounds_toArray, List.set_cons_zero, List.set_cons_succ])
            (refine tkIN 14 (by (simp only [List.getElem?_toArray, List.getElem?_cons_succ, List.getElem?_cons_zero]; rfl)) (by kernel_rfl) (by kernel_rfl) (by kernel_rfl) (by exact fun _ _ _ h => h) (by rfl) (by assumption) ?_; try simp only [Act.put, List.setIfInBounds_toArray, List.set_cons_zero, List.set_cons_succ])
            (refine tkIN 15 (by (simp only [List.getElem?_toArray, List.getElem?_cons_succ, List.getElem?_cons_zero]; rfl)) (by kernel_rfl) (by kernel_rfl) (by kernel_rfl) (by exact fun _ _ _ h => h) (by rfl) (by assumption) ?_; try simp only [Act.put, List.setIfInBounds_toArray, List.set_cons_zero, List.set_cons_succ])
            (refine tkIN 16 (by (simp only [List.getElem?_toArray, List.getElem?_cons_succ, List.getElem?_cons_zero]; rfl)) (by kernel_rfl) (by kernel_rfl) (by kernel_rfl) (by exact fun _ _ _ h => h) (by rfl) (by assumption) ?_; try simp only [Act.put, List.setIfInBounds_toArray, List.set_cons_zero, List.set_cons_succ])
            (refine tkIN 17 (by (simp only [List.getElem?_toArray, List.getElem?_cons_succ, List.getElem?_cons_zero]; rfl)) (by kernel_rfl) (by kernel_rfl) (by kernel_rfl) (by exact fun _ _ _ h => h) (by rfl) (by assumption) ?_; try simp only [Act.put, List.setIfInBounds_toArray, List.set_cons_zero, List.set_cons_succ])
            (refine tkIN 18 (by (simp only [List.getElem?_toArray, List.getElem?_cons_succ, List.getElem?_cons_zero]; rfl)) (by kernel_rfl) (by kernel_rfl) (by kernel_rfl) (by exact fun _ _ _ h => h) (by rfl) (by assumption) ?_; try simp only [Act.put, List.setIfInBounds_toArray, List.set_cons_zero, List.set_cons_succ])
            (refine tkIN 19 (by (simp only [List.getElem?_toArray, List.getElem?_cons_succ, List.getElem?_cons_zero]; rfl)) (by kernel_rfl) (by kernel_rfl) (by kernel_rfl) (by exact fun _ _ _ h => h) (by rfl) (by assumption) ?_; try simp only [Act.put, List.setIfInBounds_toArray, List.set_cons_zero, List.set_cons_succ])
            (refine tkIN 20 (by (simp only [List.getElem?_toArray, List.getElem?_cons_succ, List.getElem?_cons_zero]; rfl)) (by kernel_rfl) (by kernel_rfl) (by kernel_rfl) (by exact fun _ _ _ h => h) (by rfl) (by assumption) ?_; try simp only [Act.put, List.setIfInBounds_toArray, List.set_cons_zero, List.set_cons_succ])
            (refine tkIN 21 (by (simp only [List.getElem?_toArray, List.getElem?_cons_succ, List.getElem?_cons_zero]; rfl)) (by kernel_rfl) (by kernel_rfl) (by kernel_rfl) (by exact fun _ _ _ h => h) (by rfl) (by assumption) ?_; try simp only [Act.put, List.setIfInBounds_toArray, List.set_cons_zero, List.set_cons_succ])
            (refine tkI 22 (by (simp only [List.getElem?_toArray, List.getElem?_cons_succ, List.getElem?_cons_zero]; rfl)) (by kernel_rfl) (by kernel_rfl) (by kernel_rfl) (by exact fun _ _ _ h => h) (by rfl) (by (intro w hSw; (try dsimp only at hSw); go_simp <;> with_reducible rfl)) (by assumption) ?_; try simp only [Act.put, List.setIfInBounds_toArray, List.set_cons_zero, List.set_cons_succ])
            (refine tkI 23 (by (simp only [List.getElem?_toArray, List.getElem?_cons_succ, List.getElem?_cons_zero]; rfl)) (by kernel_rfl) (by kernel_rfl) (by kernel_rfl) (by exact fun _ _ _ h => h) (by rfl) (by (intro w hSw; (try dsimp only at hSw); go_simp <;> with_reducible rfl)) (by assumption) ?_; try simp only [Act.put, List.setIfInBounds_toArray, List.set_cons_zero, List.set_cons_succ])
            (refine tkI 24 (by (simp only [List.getElem?_toArray, List.getElem?_cons_succ, List.getElem?_cons_zero]; rfl)) (by kernel_rfl) (by kernel_rfl) (by kernel_rfl) (by exact fun _ _ _ h => h) (by rfl) (by (intro w hSw; (try dsimp only at hSw); go_simp <;> with_reducible rfl)) (by assumption) ?_; try simp only [Act.put, List.setIfInBounds_toArray, List.set_cons_zero, List.set_cons_succ])
            (refine tkI 25 (by (simp only [List.getElem?_toArray, List.getElem?_cons_succ, List.getElem?_cons_zero]; rfl)) (by kernel_rfl) (by kernel_rfl) (by kernel_rfl) (by exact fun _ _ _ h => h) (by rfl) (by (intro w hSw; (try dsimp only at hSw); go_simp <;> with_reducible rfl)) (by assumption) ?_; try simp only [Act.put, List.setIfInBounds_toArray, List.set_cons_zero, List.set_cons_succ])
            (refine tkI 26 (by (simp only [List.getElem?_toArray, List.getElem?_cons_succ, List.getElem?_cons_zero]; rfl)) (by kernel_rfl) (by kernel_rfl) (by kernel_rfl) (by exact fun _ _ _ h => h) (by rfl) (by (intro w hSw; (try dsimp only at hSw); go_simp <;> with_reducible rfl)) (by assumption) ?_; try simp only [Act.put, List.setIfInBounds_toArray, List.set_cons_zero, List.set_cons_succ])
            (refine tkI 27 (by (simp only [List.getElem?_toArray, List.getElem?_cons_succ, List.getElem?_cons_zero]; rfl)) (by kernel_rfl) (by kernel_rfl) (by kernel_rfl) (by exact fun _ _ _ h => h) (by rfl) (by (intro w hSw; (try dsimp only at hSw); go_simp <;> with_reducible rfl)) (by assumption) ?_; try simp only [Act.put, List.setIfInBounds_toArray, List.set_cons_zero, List.set_cons_succ])
            (refine tkI 28 (by (simp only [List.getElem?_toArray, List.getElem?_cons_succ, List.getElem?_cons_zero]; rfl)) (by kernel_rfl) (by kernel_rfl) (by kernel_rfl) (by exact fun _ _ _ h => h) (by rfl) (by (intro w hSw; (try dsimp only at hSw); go_simp <;> with_reducible rfl)) (by assumption) ?_; try simp only [Act.put, List.setIfInBounds_toArray, List.set_cons_zero, List.set_cons_succ])
            (refine tkI 29 (by (simp only [List.getElem?_toArray, List.getElem?_cons_succ, List.getElem?_cons_zero]; rfl)) (by kernel_rfl) (by kernel_rfl) (by kernel_rfl) (by exact fun _ _ _ h => h) (by rfl) (by (intro w hSw; (try dsimp only at hSw); go_simp <;> with_reducible rfl)) (by assumption) ?_; try simp only [Act.put, List.setIfInBounds_toArray, List.set_cons_zero, List.set_cons_succ])
            refine wpAnyH_ready (rs := [30]) (by kernel_rfl) (by simp) ?_
            refine AllReadyH.cons (by (simp only [List.getElem?_toArray, List.getElem?_cons_succ, List.getElem?_cons_zero]; rfl)) (fun K hK => ?_) AllReadyH.nil
            go_simp
            refine (rsame_nil A7 c7 _).mono ?_
            rintro e w10 ⟨rfl, hz10⟩
            have hR10 := hR9.below hz10
            refine hK.out _ _ (hSB w10 hz10) (fun hHeld2 => ?_)
            clear hK K hHeld
            have hHeld := hHeld2
            clear hHeld2
            try simp only [Act.put, List.setIfInBounds_toArray, List.set_cons_zero, List.set_cons_succ]
            (refine tkI 31 (by (simp only [List.getElem?_toArray, List.getElem?_cons_succ, List.getElem?_cons_zero]; rfl)) (by kernel_rfl) (by kernel_rfl) (by kernel_rfl) (by exact fun _ _ _ h => h) (by rfl) (by (intro w hSw; (try dsimp only at hSw); go_simp <;> with_reducible rfl)) (by assumption) ?_; try simp only [Act.put, List.setIfInBounds_toArray, List.set_cons_zero, List.set_cons_succ])
            (refine tkI 32 (by (simp only [List.getElem?_toArray, List.getElem?_cons_succ, List.getElem?_cons_zero]; rfl)) (by kernel_rfl) (by kernel_rfl) (by kernel_rfl) (by exact fun _ _ _ h => h) (by rfl) (by (intro w hSw; (try dsimp only at hSw); go_simp <;> with_reducible rfl)) (by assumption) ?_; try simp only [Act.put, List.setIfInBounds_toArray, List.set_cons_zero, List.set_cons_succ])
            (refine tkI 33 (by (simp only [List.getElem?_toArray, List.getElem?_cons_succ, List.getElem?_cons_zero]; rfl)) (by kernel_rfl) (by kernel_rfl) (by kernel_rfl) (by exact fun _ _ _ h => h) (by rfl) (by (intro w hSw; (try dsimp only at hSw); go_simp <;> with_reducible rfl)) (by assumption) ?_; try simp only [Act.put, List.setIfInBounds_toArray, List.set_cons_zero, List.set_cons_succ])
            (refine tkI 34 (by (simp only [List.getElem?_toArray, List.getElem?_cons_succ, List.getElem?_cons_zero]; rfl)) (by kernel_rfl) (by kernel_rfl) (by kernel_rfl) (by exact fun _ _ _ h => h) (by rfl) (by (intro w hSw; (try dsimp only at hSw); go_simp <;> with_reducible rfl)) (by assumption) ?_; try simp only [Act.put, List.setIfInBounds_toArray, List.set_cons_zero, List.set_cons_succ])
            (refine tkI 35 (by (simp only [List.getElem?_toArray, List.getElem?_cons_succ, List.getElem?_cons_zero]; rfl)) (by kernel_rfl) (by kernel_rfl) (by kernel_rfl) (by exact fun _ _ _ h => h) (by rfl) (by (intro w hSw; (try dsimp only at hSw); go_simp <;> with_reducible rfl)) (by assumption) ?_; try simp only [Act.put, List.setIfInBounds_toArray, List.set_cons_zero, List.set_cons_succ])
            (refine tkI 36 (by (simp only [List.getElem?_toArray, List.getElem?_cons_succ, List.getElem?_cons_zero]; rfl)) (by kernel_rfl) (by kernel_rfl) (by kernel_rfl) (by exact fun _ _ _ h => h) (by rfl) (by (intro w hSw; (try dsimp only at hSw); go_simp <;> with_reducible rfl)) (by assumption) ?_; try simp only [Act.put, List.setIfInBounds_toArray, List.set_cons_zero, List.set_cons_succ])
            (refine tkI 37 (by (simp only [List.getElem?_toArray, List.getElem?_cons_succ, List.getElem?_cons_zero]; rfl)) (by kernel_rfl) (by kernel_rfl) (by kernel_rfl) (by exact fun _ _ _ h => h) (by rfl) (by (intro w hSw; (try dsimp only at hSw); go_simp <;> with_reducible rfl)) (by assumption) ?_; try simp only [Act.put, List.setIfInBounds_toArray, List.set_cons_zero, List.set_cons_succ])
            (refine tkI 38 (by (simp only [List.getElem?_toArray, List.getElem?_cons_succ, List.getElem?_cons_zero]; rfl)) (by kernel_rfl) (by kernel_rfl) (by kernel_rfl) (by exact fun _ _ _ h => h) (by rfl) (by (intro w hSw; (try dsimp only at hSw); go_simp <;> with_reducible rfl)) (by assumption) ?_; try simp only [Act.put, List.setIfInBounds_toArray, List.set_cons_zero, List.set_cons_succ])
            (refine tkI 39 (by (simp only [List.getElem?_toArray, List.getElem?_cons_succ, List.getElem?_cons_zero]; rfl)) (by kernel_rfl) (by kernel_rfl) (by kernel_rfl) (by exact fun _ _ _ h => h) (by rfl) (by (intro w hSw; (try dsimp only at hSw); go_simp <;> with_reducible rfl)) (by assumption) ?_; try simp only [Act.put, List.setIfInBounds_toArray, List.set_cons_zero, List.set_cons_succ])
            (refine tkI 41 (by (simp only [List.getElem?_toArray, List.getElem?_cons_succ, List.getElem?_cons_zero]; rfl)) (by kernel_rfl) (by kernel_rfl) (by kernel_rfl) (by exact fun _ _ _ h => h) (by rfl) (by (intro w hSw; (try dsimp only at hSw); go_simp <;> with_reducible rfl)) (by assumption) ?_; try simp only [Act.put, List.setIfInBounds_toArray, List.set_cons_zero, List.set_cons_succ])
            (refine tkI 42 (by (simp only [List.getElem?_toArray, List.getElem?_cons_succ, List.getElem?_cons_zero]; rfl)) (by kernel_rfl) (by kernel_rfl) (by kernel_rfl) (by exact fun _ _ _ h => h) (by rfl) (by (intro w hSw; (try dsimp only at hSw); go_simp <;> with_reducible rfl)) (by assumption) ?_; try simp only [Act.put, List.setIfInBounds_toArray, List.set_cons_zero, List.set_cons_succ])
            (refine tkI 43 (by (simp only [List.getElem?_toArray, List.getElem?_cons_succ, List.getElem?_cons_zero]; rfl)) (by kernel_rfl) (by kernel_rfl) (by kernel_rfl) (by exact fun _ _ _ h => h) (by rfl) (by (intro w hSw; (try dsimp only at hSw); go_simp <;> with_reducible rfl)) (by assumption) ?_; try simp only [Act.put, List.setIfInBounds_toArray, List.set_cons_zero, List.set_cons_succ])
            (refine tkI 44 (by (simp only [List.getElem?_toArray, List.getElem?_cons_succ, List.getElem?_cons_zero]; rfl)) (by kernel_rfl) (by kernel_rfl) (by kernel_rfl) (by exact fun _ _ _ h => h) (by rfl) (by (intro w hSw; (try dsimp only at hSw); go_simp <;> with_reducible rfl)) (by assumption) ?_; try simp only [Act.put, List.setIfInBounds_toArray, List.set_cons_zero, List.set_cons_succ])
            (refine tkI 45 (by (simp only [List.getElem?_toArray, List.getElem?_cons_succ, List.getElem?_cons_zero]; rfl)) (by kernel_rfl) (by kernel_rfl) (by kernel_rfl) (by exact fun _ _ _ h => h) (by rfl) (by (intro w hSw; (try dsimp only at hSw); go_simp <;> with_reducible rfl)) (by assumption) ?_; try simp only [Act.put, List.setIfInBounds_toArray, List.set_cons_zero, List.set_cons_succ])
            refine wpAnyH_ready (rs := [40]) (by kernel_rfl) (by simp) ?_
            refine AllReadyH.cons (by (simp only [List.getElem?_toArray, List.getElem?_cons_succ, List.getElem?_cons_zero]; rfl)) (fun K hK => ?_) AllReadyH.nil
            go_simp
            refine (under_any hR10.ps (by omega) k2 k3).mono ?_
            rintro e w11 ⟨v11, rfl, ho11, hb11⟩
            rw [hUU.out] at ho11
            obtain ⟨A11, c11, rfl, hlc11, hcm11, hil11, -⟩ := ho11.form
            have hz11 := hz10.trans (hb11.mono hz10.size)
            have hR11 := hR10.below hb11
            refine hK.out _ _ (hSB w11 hz11) (fun hHeld2 => ?_)
            clear hK K hHeld
            have hHeld := hHeld2
            clear hHeld2
            try simp only [Act.put, List.setIfInBounds_toArray, List.set_cons_zero, List.set_cons_succ]
            refine wpAnyH_ready (rs := [46]) (by kernel_rfl) (by simp) ?_
            refine AllReadyH.cons (by (simp only [List.getElem?_toArray, List.getElem?_cons_succ, List.getElem?_cons_zero]; rfl)) (fun K hK => ?_) AllReadyH.nil
            go_simp
            refine (runder_any hR11.qk hlen (hL2.at hR11.bel) k2 k3).mono ?_
            rintro e w12 ⟨v12, rfl, ho12, hb12⟩
            rw [hU.out, hUU.out] at ho12
            obtain ⟨A12, c12, rfl, -, -, hil12, -⟩ := ho12.form
            have hz12 := hz11.trans (hb12.mono hz11.size)
            have hR12 := hR11.below hb12
            refine hK.out _ _ (hSB w12 hz12) (fun hHeld2 => ?_)
            clear hK K hHeld
            have hHeld := hHeld2
            clear hHeld2
            try simp only [Act.put, List.setIfInBounds_toArray, List.set_cons_zero, List.set_cons_succ]
            refine wpAnyH_ready (rs := [47]) (by kernel_rfl) (by simp) ?_
            refine AllReadyH.cons (by (simp only [List.getElem?_toArray, List.getElem?_cons_succ, List.getElem?_cons_zero]; rfl)) (fun K hK => ?_) AllReadyH.nil
            go_simp
            have hsm := same_b A11 A12 U.length c11 U.length c12 U U w12 (hil11.below hb12) hil12 (by unfold maxLen at hcm11; omega)
            rw [show decide (U = U) = true from decide_eq_true rfl] at hsm
            refine hsm.mono ?_
            rintro e w13 ⟨rfl, hb13⟩
            have hz13 := hz12.trans (hb13.mono hz12.size)
            have hR13 := hR12.below hb13
            refine hK.out _ _ (hSB w13 hz13) (fun hHeld2 => ?_)
            clear hK K hHeld
            have hHeld := hHeld2
            clear hHeld2
            try simp only [Act.put, List.setIfInBounds_toArray, List.set_cons_zero, List.set_cons_succ]
            (refine tkI 48 (by (simp only [List.getElem?_toArray, List.getElem?_cons_succ, List.getElem?_cons_zero]; rfl)) (by kernel_rfl) (by kernel_rfl) (by kernel_rfl) (by exact fun _ _ _ h => h) (by rfl) (by (intro w hSw; (try dsimp only at hSw); go_simp <;> with_reducible rfl)) (by assumption) ?_; try simp only [Act.put, List.setIfInBounds_toArray, List.set_cons_zero, List.set_cons_succ])
            (refine tkI 49 (by (simp only [List.getElem?_toArray, List.getElem?_cons_succ, List.getElem?_cons_zero]; rfl)) (by kernel_rfl) (by kernel_rfl) (by kernel_rfl) (by exact fun _ _ _ h => h) (by rfl) (by (intro w hSw; (try dsimp only at hSw); go_simp <;> with_reducible rfl)) (by assumption) ?_; try simp only [Act.put, List.setIfInBounds_toArray, List.set_cons_zero, List.set_cons_succ])
            (refine tkI 50 (by (simp only [List.getElem?_toArray, List.getElem?_cons_succ, List.getElem?_cons_zero]; rfl)) (by kernel_rfl) (by kernel_rfl) (by kernel_rfl) (by exact fun _ _ _ h => h) (by rfl) (by (intro w hSw; (try dsimp only at hSw); go_simp <;> with_reducible rfl)) (by assumption) ?_; try simp only [Act.put, List.setIfInBounds_toArray, List.set_cons_zero, List.set_cons_succ])
            (refine tkI 51 (by (simp only [List.getElem?_toArray, List.getElem?_cons_succ, List.getElem?_cons_zero]; rfl)) (by kernel_rfl) (by kernel_rfl) (by kernel_rfl) (by exact fun _ _ _ h => h) (by rfl) (by (intro w hSw; (try dsimp only at hSw); go_simp <;> with_reducible rfl)) (by assumption) ?_; try simp only [Act.put, List.setIfInBounds_toArray, List.set_cons_zero, List.set_cons_succ])
            (refine tkI 52 (by (simp only [List.getElem?_toArray, List.getElem?_cons_succ, List.getElem?_cons_zero]; rfl)) (by kernel_rfl) (by kernel_rfl) (by kernel_rfl) (by exact fun _ _ _ h => h) (by rfl) (by (intro w hSw; (try dsimp only at hSw); go_simp <;> with_reducible rfl)) (by assumption) ?_; try simp only [Act.put, List.setIfInBounds_toArray, List.set_cons_zero, List.set_cons_succ])
            refine wpAnyH_ready (rs := [53]) (by kernel_rfl) (by simp) ?_
            refine AllReadyH.cons (by (simp only [List.getElem?_toArray, List.getElem?_cons_succ, List.getElem?_cons_zero]; rfl)) (fun K hK => ?_) AllReadyH.nil
            go_simp
            refine (walks_any hR13.ps hR13.qk hW2 hlen (hL2.at hR13.bel)).mono ?_
            rintro e w14 ⟨rfl, hb14⟩
            have hz14 := hz13.trans (hb14.mono hz13.size)
            have hR14 := hR13.below hb14
            refine hK.out _ _ (hSB w14 hz14) (fun hHeld2 => ?_)
            clear hK K hHeld
            have hHeld := hHeld2
            clear hHeld2
            try simp only [Act.put, List.setIfInBounds_toArray, List.set_cons_zero, List.set_cons_succ]
            (refine tkI 54 (by (simp only [List.getElem?_toArray, List.getElem?_cons_succ, List.getElem?_cons_zero]; rfl)) (by kernel_rfl) (by kernel_rfl) (by kernel_rfl) (by exact fun _ _ _ h => h) (by rfl) (by (intro w hSw; (try dsimp only at hSw); go_simp <;> with_reducible rfl)) (by assumption) ?_; try simp only [Act.put, List.setIfInBounds_toArray, List.set_cons_zero, List.set_cons_succ])
            (refine tkI 55 (by (simp only [List.getElem?_toArray, List.getElem?_cons_succ, List.getElem?_cons_zero]; rfl)) (by kernel_rfl) (by kernel_rfl) (by kernel_rfl) (by exact fun _ _ _ h => h) (by rfl) (by (intro w hSw; (try dsimp only at hSw); go_simp <;> with_reducible rfl)) (by assumption) ?_; try simp only [Act.put, List.setIfInBounds_toArray, List.set_cons_zero, List.set_cons_succ])
            refine wpAnyH_done (by kernel_rfl) ?_ _
            clear hHeld hSB
            go_wp2
            go_roundw
            case measure => simp [intOf]; omega
            case rel => exact ⟨k + 1, N2, f2, ks2, rs2, F2, G2, by go_num, by omega, hR14, by omega, hW2, hL2, hfew2⟩
    · have hlz : ¬ (k : Int) < (len : Int) := by omega
      have hb := hR.bel
      go_wp2
      go_ret
      exact ⟨rfl, hb⟩

namespace moveDoesDone
open Go.ChangeShapes Go.WideShapes Go.ChangeAt
set_option maxRecDepth 100000 in
theorem lifted (os : Os) (started : os.Started) (H : Type) (enc : TypeId × Value → H) :
    ReturnsInHanded {} Try.checked os 3 .any (Rows.moveDoesSpec.pre6 enc Try.prog Try.f3 Rows.moveDoesRow.domain false) (Rows.moveDoesSpec.post enc Try.prog Try.f3 false true false false) := by
  refine returnsInHanded_of_change_sized (C := Try.checked) own started (by kernel_rfl) Try.func3
    (ChangeSpec.witness6 (enc := enc) (C := Try.checked) false ⟨#[], #[Value.slice none 0 0], []⟩ 8 (by kernel_rfl) (by kernel_rfl) (by kernel_rfl) (by kernel_rfl)) ?_
  intro W base args ds gs before hval0 hW hcnd hsz0 _
  have hsz : (DataW.weightsEach Try.prog (Try.f3.params.toList ++ Rows.moveDoesSpec.plain.varTypes Try.prog) (ds ++ gs)).all (· ≤ reachBytes) = true := hsz0
  clear hsz0
  have hval : ∀ (j : Nat) t v, Try.f3.params[j]? = some t → args[j]? = some v → Value.okWide Try.prog W .any base t v := hval0
  have hW' := hW
  obtain ⟨p, q, hA0, hV, rfl, hfz, hnd⟩ := hW
  have hA : DataW.TrodAll enc Try.prog W 0 (fun _ => true) true Try.f3.params.toList args.toList ds p := hA0
  rw [Try.params3] at hA hval hsz
  obtain ⟨v0, vs0, d0, ds0, p0, q0, hargs, rfl, rfl, h0, r0⟩ := trodAll_cons hA
  obtain ⟨rfl, rfl, rfl⟩ := trodAll_nil r0
  obtain rfl : args = #[v0] := by cases args; simp_all
  obtain ⟨rfl, rfl⟩ := trodVars_none hV
  obtain ⟨a0, len0, cap0, rfl⟩ := okWide_slice Try.underlying22 (hval 0 22 v0 rfl rfl)
  have k0 := h0
  have lt0 : ∀ x ∈ p0, x.block < W.heap.size := by obtain ⟨m, hm⟩ := k0; exact DataW.trod_lt m _ _ _ hm
  obtain ⟨f0, ho0, hc0, hm0⟩ := ops_open h0
  have hd0 := ops_size h0
  have hl0 : cap0 * 56 ≤ 140737488351232 := by
    rcases hd0 with ⟨_, h⟩ | ⟨es, sp, rfl, h⟩
    · omega
    · have := sized_slice hsz (j := 0) (t := 22) (e := 32) rfl rfl Try.underlying22
      rw [bytes_op] at this
      simp only [reachBytes] at this
      omega
  clear hA0 hval0
  refine (moveDoes_walk (w := W) a0 len0 cap0 f0 ho0 hc0 hm0 hl0).mono fun e W' ⟨he, bel⟩ => ?_
  subst he
  exact ⟨_, rfl, _, _, _, [], _, [], hW', trodAll_mk1 (shut_bool Try.underlying4 _), (trodAll_cons_mk (Below.trod laidOut (by kernel_rfl) (of_decide_eq_true (by kernel_rfl)) k0 bel lt0) trodAll_mk0), rfl, bel.frame _, fun h => by cases h⟩

theorem over : Rows.moveDoesRow.holds Try.pinned (OpenSpec.ofChange Rows.moveDoesSpec) :=
  OpenClaim.holds_of_wide 3 Try.f3 rfl rfl rfl rfl rfl rfl rfl ⟨rfl, rfl, rfl, rfl, rfl⟩ rfl rfl rfl rfl rfl (by kernel_rfl) Try.func3 (by kernel_rfl)
    (of_decide_eq_true (by kernel_rfl)) (by unfold Func.isWrapper; first | (rw [if_pos (by decide +kernel)]; kernel_rfl) | (rw [if_neg (by decide +kernel)]; exact ⟨rfl, rfl⟩))
    (fun os started H enc _ => lifted os started H enc)

/-- The statement. -/
theorem proved : Rows.MoveDoesSaid := over
end moveDoesDone
end Go.Proofs.Ytligpmnpfdaknaa
