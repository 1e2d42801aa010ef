/- 'MovePacks' returns true for every input: the row of this law, proved. No condition. -/
import Derived.Test.YtjjghhhhalendaaGreatZi
import Derived.Test.YtjjghhhhalendaaGreatRgT
import Derived.Test.YtjjghhhhalendaaGreatROf
import Derived.Deep.CutBlock
import Derived.Deep.CutRange
import Derived.ProofKit
import Derived.OpenShut
import Derived.ShutString
import Derived.ChangeOld
import Derived.SizedLaws
namespace Go.Proofs.YtjjghhhhalendaaGreat
open Go.RowKit
set_option linter.unusedVariables false
set_option linter.unusedSimpArgs false
open Go.Maps in
set_option maxRecDepth 100000 in
set_option maxHeartbeats 12800000 in
theorem movePacks_walk {w : World} (a : Option Addr) (len cap : Nat) (fo : Nat → OpX) (ho : OPX w a len fo) (hc : len ≤ cap) (hm0 : cap ≤ 9223372036854775807) (hl : cap * 56 ≤ 140737488351232) :
    Calls Tryz.prog 3 #[.slice a len cap] w fun e w' => e = .returned (.bool true) ∧ Below w.heap.size w w' := by
  go_enter Tryz.func3, Tryz.ntmps3
  go_wp2_with fail
  refine (pnew_any _).mono ?_
  rintro e w1 ⟨p, b, rfl, hP, hpw, hbw, hb⟩
  have hq0 : QK (fun k => k = w1.heap.size) (w1.alloc (.cells #[.slice none 0 0] 28)) w1.heap.size [] := ⟨.slice none 0 0, Blk.new w1 _ _, WO.nil _ _, by simp [Value.ownBlock], rfl, fun g hg => by simp [Value.ownBlock] at hg⟩
  have hR0 : HR w p b w1.heap.size (w1.alloc (.cells #[.slice none 0 0] 28)) 0 (fun _ => rec0) [] [] (fun k => w.heap.size ≤ k ∧ k < w1.heap.size) (fun k => k = w1.heap.size) :=
    ⟨(hP.mono (fun k h1 h2 => ⟨h2, h1⟩)).alloc _, hq0, fun k e => by simp; omega, fun k e => by have := hb.size; simp; omega, fun k e e2 => by omega, hb.alloc hb.size _⟩
  go_wp2_with fail
  refine (lives_any _).mono ?_
  rintro e w3 ⟨rfl, hlv⟩
  replace hR0 := hR0.below hlv
  obtain ⟨q, hq⟩ : ∃ q, w1.heap.size = q := ⟨_, rfl⟩
  rw [hq] at hR0 ⊢
  clear hP hq0 hlv hb hpw hbw
  go_wp2
  go_loopw [3, 5] (fun v3 i wr => ∃ (k N p b : Nat) (f : Int → Rec) (ks : List Int) (rs : List Rec) (F G : Nat → Prop), v3 = .pointer (some ⟨p, 0, none⟩) ∧ i = .int .i64 (k : Int) ∧ k ≤ len ∧ HR w p b q wr N f ks rs F G ∧ N ≤ 256 ∧ WJ f ks rs ∧ LsW w rs ∧ OkR rs ∧ Hid (ks.length ≤ 256)) (fun _ i _ => len - (intOf i).toNat)
  case atStart => exact ⟨0, 0, p, b, _, _, _, _, _, rfl, by go_num, by omega, hR0, by omega, WJ.start _, fun r hr => by simp at hr, fun r hr => by simp at hr, Lib.hid (by simp)⟩
  case round =>
    clear hR0
    obtain ⟨k, N, p, b, f, ks, rs, F, G, rfl, rfl, hkl, hR, hN, hW, hL, hOK, hfew⟩ := hrel
    by_cases hlt : k < len
    · have hlz : (k : Int) < (len : Int) := by omega
      by_cases h60 : k < 60
      · have hlz2 : (k : Int) < 60 := by omega
        have hlz3 : decide ((k : Int) < 60) = true := decide_eq_true hlz2
        obtain ⟨rb, ro, rfl, hrb, hrow⟩ := ho (by omega)
        have hxw := hrow k hlt
        have hx := hxw.below hR.bel
        generalize fo k = x at hx hxw
        obtain ⟨⟨k0, k1, k2, k3, l⟩, A, c⟩ := x
        obtain ⟨x0, x1, x2, x3, x4, ⟨hil, hwl, hcap, hcapm, wk0, wk1, wk2, wk3⟩⟩ := hx
        obtain ⟨-, -, -, -, -, ⟨hilw, -, -, -, -, -, -, -⟩⟩ := hxw
        dsimp only at hilw
        dsimp only at x0 x1 x2 x3 x4 hil hwl hcap hcapm wk0 wk1 wk2 wk3
        clear hrow hil
        have hltR := hR.lt
        have hRa := hR.alloc (.cells #[.int .i64 k0, .int .i64 k1, .int .i64 k2, .int .i64 k3, .slice A l.length c] 32)
        have eO := Blk.new wr 32 #[.int .i64 k0, .int .i64 k1, .int .i64 k2, .int .i64 k3, .slice A l.length c]
        have hNm : N < maxLen := by unfold maxLen; omega
        obtain ⟨ob, hob⟩ : ∃ ob, wr.heap.size = ob := ⟨_, rfl⟩
        have hFo : ∀ i, F i → i ≠ ob := fun i hi => by have := hR.fF i hi; omega
        by_cases hll : 100 < l.length
        · have hlz3 : (100 : Int) < (l.length : Int) := by omega
          clear hR
          go_wp2
          go_roundw
          case measure => simp [intOf]; omega
          case rel => exact ⟨k + 1, N, p, b, f, ks, rs, F, G, rfl, by go_num, by omega, hRa, by omega, hW, hL, hOK, hfew⟩
        have hlz3 : ¬ (100 : Int) < (l.length : Int) := by omega
        have hlz4 : decide ((100 : Int) < (l.length : Int)) = false := decide_eq_false hlz3
        clear hR
        have e0 := eO.cell 0
        have e1 := eO.cell 1
        have e2 := eO.cell 2
        have e3 := eO.cell 3
        have e4 := eO.cell 4
        simp only [List.getElem?_toArray, List.getElem?_cons_succ, List.getElem?_cons_zero] at e0 e1 e2 e3 e4
        go_upto_block 2 with fail
        rw [hob] at e0 e1 e2 e3 e4 eO hltR
        try rw [hob]
        generalize wr.alloc (.cells #[.int .i64 k0, .int .i64 k1, .int .i64 k2, .int .i64 k3, .slice A l.length c] 32) = w0 at *
        clear x0 x1 x2 x3 x4
        have hobb : ¬ (ob = b) := fun e => hFo b hRa.ps.fp.2 e.symm
        go_cut [6] from 39 to 80 (fun s6 wc => s6 = .pointer (some ⟨ob, 0, none⟩) ∧ ∃ (N' : Nat) (f' : Int → Rec) (ks' : List Int) (rs' : List Rec) (F' G' : Nat → Prop), HR w p b q wc N' f' ks' rs' F' G' ∧ N' ≤ 300 ∧ WJ f' ks' rs' ∧ LsW w rs' ∧ OkR rs' ∧ Hid (ks'.length ≤ 256))
        case first =>
          by_cases h1 : k0 = 1
          · as_aux_lemma =>
              subst h1
              obtain ⟨E, rs2, hg1, hg2, hL2, hO2⟩ := go_o hRa hW hL hOK hfew.out hNm k1 k2 k3 wk1 A A c c l (hilw.below hRa.bel) hilw hwl (by omega)
              go_wp2_with fail
              refine hg1.mono ?_
              rintro e w4 ⟨rfl, N4, f4, ks4, F4, hN4, hk4, hR4, hF4, hW4, hK4⟩
              have eO4 := eO.kept hK4 hobb
              have m1 := eO4.cell 1
              have m2 := eO4.cell 2
              have m3 := eO4.cell 3
              have m4 := eO4.cell 4
              simp only [List.getElem?_toArray, List.getElem?_cons_succ, List.getElem?_cons_zero] at m1 m2 m3 m4
              clear hg1 e0 e1 e2 e3 e4
              go_wp2_with fail
              refine (hg2 _ _ _ _ _ hR4).mono ?_
              rintro e w5 ⟨rfl, G5, hR5, hK5, hG5⟩
              clear hg2 m1 m2 m3 m4
              go_wp2_with fail
              go_meet
              exact ⟨rfl, N4, f4, ks4, rs2, F4, G5, hR5, by omega, hW4, hL2, hO2, Lib.hid hk4⟩
          by_cases h2 : k0 = 2
          · as_aux_lemma =>
              subst h2
              obtain ⟨E, lc, N4, f4, rs4, hN4, hl16, hc1, hc2, hW4, hL4, hO4⟩ := come_o hRa hW hL hOK hfew.out hNm k1 wk1
              go_wp2_with fail
              refine hc1.mono ?_
              rintro e w4 ⟨A4, c4, rfl, hil4, had4, hR4, hK4⟩
              have eO4 := eO.kept hK4 hobb
              have m1 := eO4.cell 1
              simp only [List.getElem?_toArray, List.getElem?_cons_succ, List.getElem?_cons_zero] at m1
              clear hc1 e0 e1 e2 e3 e4
              go_wp2_with fail
              refine (hc2 _ hR4).mono ?_
              rintro e w5 ⟨A5, c5, G5, rfl, hil5, hR5, hK5, hG5⟩
              clear hc2 m1
              go_wp2_with fail
              go_meet
              exact ⟨rfl, N4, f4, ks, rs4, F, G5, hR5, by omega, hW4, hL4, hO4, hfew⟩
          by_cases h3 : k0 = 3
          · as_aux_lemma =>
              subst h3
              obtain ⟨E, f4, ks4, rs4, hg1, hg2, hW4, hL4, hk4, hO4⟩ := forget_o hRa hW hL hOK hfew.out k1 wk1
              go_wp2_with fail
              refine hg1.mono ?_
              rintro e w4 ⟨rfl, hR4, hK4⟩
              have eO4 := eO.kept hK4 hobb
              have m1 := eO4.cell 1
              simp only [List.getElem?_toArray, List.getElem?_cons_succ, List.getElem?_cons_zero] at m1
              clear hg1 e0 e1 e2 e3 e4
              go_wp2_with fail
              refine (hg2 _ hR4).mono ?_
              rintro e w5 ⟨rfl, G5, hR5, hK5, hG5⟩
              clear hg2 m1
              go_wp2_with fail
              go_meet
              exact ⟨rfl, N, f4, ks4, rs4, F, G5, hR5, by omega, hW4, hL4, hO4, Lib.hid hk4⟩
          as_aux_lemma =>
            go_wp2_with fail
            go_meet
            exact ⟨rfl, N, f, ks, rs, F, G, hRa, by omega, hW, hL, hOK, hfew⟩
        case rest =>
          obtain ⟨rfl, N2, f2, ks2, rs2, F2, G2, hR2, hN2, hW2, hL2, hO2, hfew2⟩ := hcut
          clear hRa hW hL hOK hfew hFo eO e0 e1 e2 e3 e4 hNm hN hobb hilw hwl
          have hfw := hfew2.out
          have hrl : rs2.length ≤ 256 := by rw [hW2.len]; exact hfw
          have hokk : ∀ k ∈ ks2, OkC (core (f2 k)) := fun i hi => by
            obtain ⟨j, x, _, h2, _, h4⟩ := hW2.at_ hi
            rw [← h4]
            exact hO2 x (List.mem_of_getElem? h2)
          have hpk := mvpack_any hR2.ps hfw hokk
          rw [hW2.cores] at hpk
          have hokc : ∀ x ∈ rs2.map core, OkC x := fun x hx => by
            obtain ⟨r, hr, rfl⟩ := List.mem_map.1 hx
            exact hO2 r hr
          have hdec := decW_enc (rs2.map core) (by rw [List.length_map]; exact hrl) hokc hW2.rise
          have hlc := encW_len (rs2.map core) hokc
          rw [List.length_map] at hlc
          have hrise := Lib.hid hW2.rise
          obtain ⟨C, hC⟩ : ∃ C, encW (rs2.map core) = C := ⟨_, rfl⟩
          rw [hC] at hpk hdec hlc
          replace hC := Lib.hid hC
          clear hokk hokc hW2 hfew2
          go_wp2_with fail
          refine hpk.mono ?_
          rintro e w3 ⟨A3, c3, rfl, hl3, hm3, hr3, hx3, hal3⟩
          have hR3 := hR2.below hx3
          have hun := wunpack_any A3 C.length c3 C w3 hr3 (by omega)
          rw [hdec] at hun
          clear hpk hR2 hx3 hdec
          go_wp2_with fail
          refine hun.mono ?_
          rintro e w4 ⟨hx4, ⟨h4, _⟩ | ⟨l4, p4, b4, N4, f4, h4, rfl, hP4, hN4, heq4, hpw4, hbw4⟩⟩
          · cases h4
          obtain rfl := Option.some.inj h4
          have hR4 := (hR3.fresh hx4 hP4).drew
          have hJ := WJ.of_dec rfl heq4 hrise.out
          have hfw4 : (((rs2.map core).map fun x => x.1)).length ≤ 256 := by rw [List.length_map, List.length_map]; exact hrl
          have hrz := (hr3.below hx4).drew
          have hs4 := run_str _ _ _ c3 _ hrz
          have hRz := hR4
          obtain ⟨ks4, hks4⟩ : ∃ ks4, ((rs2.map core).map fun x => x.1) = ks4 := ⟨_, rfl⟩
          rw [hks4] at hJ hfw4 hRz hR4
          replace hfw4 := Lib.hid hfw4
          clear hks4 hR3 hun hx4 h4 hP4 heq4 hrise hr3 hR4
          go_wp2
          refine wp_region_held_drew (S := (fun W => (convert 38 9 (.slice A3 C.length c3)).run Tryz.prog W = .ok (.string ⟨C.toArray⟩) W)) (by kernel_rfl) hs4 (fun hHeld => ?_)
          generalize w4.drew = wz at *
          refine wpAnyH_take (i := 0) (oi := ?oi0s) (v := ?v0s) ?hi0s (by kernel_rfl) (by kernel_rfl) (by kernel_rfl) ?hq0s (Or.inl ⟨?hw0s, ?hy0s⟩) (by assumption) ?rest0s
          case hi0s => (simp only [List.getElem?_toArray, List.getElem?_cons_succ, List.getElem?_cons_zero]; rfl)
          case hq0s => exact fun _ _ _ h => h
          case hw0s => rfl
          case hy0s => (intro w hSw; (try dsimp only at hSw); go_simp <;> with_reducible rfl)
          try simp only [Act.put, List.setIfInBounds_toArray, List.set_cons_zero, List.set_cons_succ]
          refine wpAnyH_take (i := 1) (oi := ?oi1s) (v := ?v1s) ?hi1s (by kernel_rfl) (by kernel_rfl) (by kernel_rfl) ?hq1s (Or.inl ⟨?hw1s, ?hy1s⟩) (by assumption) ?rest1s
          case hi1s => (simp only [List.getElem?_toArray, List.getElem?_cons_succ, List.getElem?_cons_zero]; rfl)
          case hq1s => exact fun _ _ _ h => h
          case hw1s => rfl
          case hy1s => (intro w hSw; (try dsimp only at hSw); go_simp <;> with_reducible rfl)
          try simp only [Act.put, List.setIfInBounds_toArray, List.set_cons_zero, List.set_cons_succ]
          refine wpAnyH_take (i := 2) (oi := ?oi2s) (v := ?v2s) ?hi2s (by kernel_rfl) (by kernel_rfl) (by kernel_rfl) ?hq2s (Or.inl ⟨?hw2s, ?hy2s⟩) (by assumption) ?rest2s
          case hi2s => (simp only [List.getElem?_toArray, List.getElem?_cons_succ, List.getElem?_cons_zero]; rfl)
          case hq2s => exact fun _ _ _ h => h
          case hw2s => rfl
          case hy2s => (intro w hSw; (try dsimp only at hSw); go_simp <;> with_reducible rfl)
          try simp only [Act.put, List.setIfInBounds_toArray, List.set_cons_zero, List.set_cons_succ]
          refine wpAnyH_ready (rs := [3]) (by kernel_rfl) (by simp) ?_
          refine AllReadyH.cons (o := ?o3s) ?hi3s (fun K hK => ?st3s) AllReadyH.nil
          case hi3s => (simp only [List.getElem?_toArray, List.getElem?_cons_succ, List.getElem?_cons_zero]; rfl)
          go_simp
          refine (mrpack_any hRz.qk hrl (fun r hr => (hL2.at hRz.bel r hr).1) hO2).mono ?_
          rw [hC.out]
          rintro e w6 ⟨A6, c6, rfl, hl6, hm6, hr6, hx6, _⟩
          have hb6 : Below wz.heap.size wz w6 := hx6
          have hs6 := run_str _ _ _ c3 _ (hrz.below hb6)
          have hs7 := run_str _ _ _ c6 _ hr6
          have hR6 := hRz.below hb6
          refine hK.out _ _ hs6 (fun hHeld2 => ?_)
          clear hK K hHeld
          have hHeld := hHeld2
          clear hHeld2
          try simp only [Act.put, List.setIfInBounds_toArray, List.set_cons_zero, List.set_cons_succ]
          refine wpAnyH_ready (rs := [4]) (by kernel_rfl) (by simp) ?_
          refine AllReadyH.cons (o := ?o4s) ?hi4s (fun K hK => ?st4s) AllReadyH.nil
          case hi4s => (simp only [List.getElem?_toArray, List.getElem?_cons_succ, List.getElem?_cons_zero]; rfl)
          go_simp
          refine hK.out _ _ hs6 (fun hHeld2 => ?_)
          clear hK K hHeld
          have hHeld := hHeld2
          clear hHeld2
          try simp only [Act.put, List.setIfInBounds_toArray, List.set_cons_zero, List.set_cons_succ]
          refine wpAnyH_take (i := 5) (oi := ?oi5s) (v := ?v5s) ?hi5s (by kernel_rfl) (by kernel_rfl) (by kernel_rfl) ?hq5s (Or.inl ⟨?hw5s, ?hy5s⟩) (by assumption) ?rest5s
          case hi5s => (simp only [List.getElem?_toArray, List.getElem?_cons_succ, List.getElem?_cons_zero]; rfl)
          case hq5s => exact fun _ _ _ h => h
          case hw5s => rfl
          case hy5s => (intro w hSw; (try dsimp only at hSw); go_simp <;> with_reducible rfl)
          try simp only [Act.put, List.setIfInBounds_toArray, List.set_cons_zero, List.set_cons_succ]
          refine wpAnyH_take (i := 6) (oi := ?oi6s) (v := ?v6s) ?hi6s (by kernel_rfl) (by kernel_rfl) (by kernel_rfl) ?hq6s (Or.inl ⟨?hw6s, ?hy6s⟩) (by assumption) ?rest6s
          case hi6s => (simp only [List.getElem?_toArray, List.getElem?_cons_succ, List.getElem?_cons_zero]; rfl)
          case hq6s => exact fun _ _ _ h => h
          case hw6s => rfl
          case hy6s => (intro w hSw; (try dsimp only at hSw); go_simp <;> with_reducible rfl)
          try simp only [Act.put, List.setIfInBounds_toArray, List.set_cons_zero, List.set_cons_succ]
          refine wpAnyH_take (i := 7) (oi := ?oi7s) (v := ?v7s) ?hi7s (by kernel_rfl) (by kernel_rfl) (by kernel_rfl) ?hq7s (Or.inl ⟨?hw7s, ?hy7s⟩) (by assumption) ?rest7s
          case hi7s => (simp only [List.getElem?_toArray, List.getElem?_cons_succ, List.getElem?_cons_zero]; rfl)
          case hq7s => exact fun _ _ _ h => h
          case hw7s => rfl
          case hy7s => (intro w hSw; (try dsimp only at hSw); go_simp <;> with_reducible rfl)
          try simp only [Act.put, List.setIfInBounds_toArray, List.set_cons_zero, List.set_cons_succ]
          refine wpAnyH_take (i := 8) (oi := ?oi8s) (v := ?v8s) ?hi8s (by kernel_rfl) (by kernel_rfl) (by kernel_rfl) ?hq8s (Or.inl ⟨?hw8s, ?hy8s⟩) (by assumption) ?rest8s
          case hi8s => (simp only [List.getElem?_toArray, List.getElem?_cons_succ, List.getElem?_cons_zero]; rfl)
          case hq8s => exact fun _ _ _ h => h
          case hw8s => rfl
          case hy8s => (intro w hSw; (try dsimp only at hSw); go_simp <;> with_reducible rfl)
          try simp only [Act.put, List.setIfInBounds_toArray, List.set_cons_zero, List.set_cons_succ]
          refine wpAnyH_take (i := 9) (oi := ?oi9s) (v := ?v9s) ?hi9s (by kernel_rfl) (by kernel_rfl) (by kernel_rfl) ?hq9s (Or.inl ⟨?hw9s, ?hy9s⟩) (by assumption) ?rest9s
          case hi9s => (simp only [List.getElem?_toArray, List.getElem?_cons_succ, List.getElem?_cons_zero]; rfl)
          case hq9s => exact fun _ _ _ h => h
          case hw9s => rfl
          case hy9s => (intro w hSw; (try dsimp only at hSw); go_simp <;> with_reducible rfl)
          try simp only [Act.put, List.setIfInBounds_toArray, List.set_cons_zero, List.set_cons_succ]
          refine wpAnyH_take (i := 10) (oi := ?oi10s) (v := ?v10s) ?hi10s (by kernel_rfl) (by kernel_rfl) (by kernel_rfl) ?hq10s (Or.inl ⟨?hw10s, ?hy10s⟩) (by assumption) ?rest10s
          case hi10s => (simp only [List.getElem?_toArray, List.getElem?_cons_succ, List.getElem?_cons_zero]; rfl)
          case hq10s => exact fun _ _ _ h => h
          case hw10s => rfl
          case hy10s => (intro w hSw; (try dsimp only at hSw); go_simp <;> with_reducible rfl)
          try simp only [Act.put, List.setIfInBounds_toArray, List.set_cons_zero, List.set_cons_succ]
          refine wpAnyH_take (i := 11) (oi := ?oi11s) (v := ?v11s) ?hi11s (by kernel_rfl) (by kernel_rfl) (by kernel_rfl) ?hq11s (Or.inl ⟨?hw11s, ?hy11s⟩) (by assumption) ?rest11s
          case hi11s => (simp only [List.getElem?_toArray, List.getElem?_cons_succ, List.getElem?_cons_zero]; rfl)
          case hq11s => exact fun _ _ _ h => h
          case hw11s => rfl
          case hy11s => (intro w hSw; (try dsimp only at hSw); go_simp <;> with_reducible rfl)
          try simp only [Act.put, List.setIfInBounds_toArray, List.set_cons_zero, List.set_cons_succ]
          refine wpAnyH_take (i := 12) (oi := ?oi12s) (v := ?v12s) ?hi12s (by kernel_rfl) (by kernel_rfl) (by kernel_rfl) ?hq12s (Or.inl ⟨?hw12s, ?hy12s⟩) (by assumption) ?rest12s
          case hi12s => (simp only [List.getElem?_toArray, List.getElem?_cons_succ, List.getElem?_cons_zero]; rfl)
          case hq12s => exact fun _ _ _ h => h
          case hw12s => rfl
          case hy12s => (intro w hSw; (try dsimp only at hSw); go_simp <;> with_reducible rfl)
          try simp only [Act.put, List.setIfInBounds_toArray, List.set_cons_zero, List.set_cons_succ]
          refine wpAnyH_take (i := 13) (oi := ?oi13s) (v := ?v13s) ?hi13s (by kernel_rfl) (by kernel_rfl) (by kernel_rfl) ?hq13s (Or.inl ⟨?hw13s, ?hy13s⟩) (by assumption) ?rest13s
          case hi13s => (simp only [List.getElem?_toArray, List.getElem?_cons_succ, List.getElem?_cons_zero]; rfl)
          case hq13s => exact fun _ _ _ h => h
          case hw13s => rfl
          case hy13s => (intro w hSw; (try dsimp only at hSw); go_simp <;> with_reducible rfl)
          try simp only [Act.put, List.setIfInBounds_toArray, List.set_cons_zero, List.set_cons_succ]
          refine wpAnyH_take (i := 14) (oi := ?oi14s) (v := ?v14s) ?hi14s (by kernel_rfl) (by kernel_rfl) (by kernel_rfl) ?hq14s (Or.inl ⟨?hw14s, ?hy14s⟩) (by assumption) ?rest14s
          case hi14s => (simp only [List.getElem?_toArray, List.getElem?_cons_succ, List.getElem?_cons_zero]; rfl)
          case hq14s => exact fun _ _ _ h => h
          case hw14s => rfl
          case hy14s => (intro w hSw; (try dsimp only at hSw); go_simp <;> with_reducible rfl)
          try simp only [Act.put, List.setIfInBounds_toArray, List.set_cons_zero, List.set_cons_succ]
          refine wpAnyH_take (i := 15) (oi := ?oi15s) (v := ?v15s) ?hi15s (by kernel_rfl) (by kernel_rfl) (by kernel_rfl) ?hq15s (Or.inl ⟨?hw15s, ?hy15s⟩) (by assumption) ?rest15s
          case hi15s => (simp only [List.getElem?_toArray, List.getElem?_cons_succ, List.getElem?_cons_zero]; rfl)
          case hq15s => exact fun _ _ _ h => h
          case hw15s => rfl
          case hy15s => (intro w hSw; (try dsimp only at hSw); go_simp <;> with_reducible rfl)
          try simp only [Act.put, List.setIfInBounds_toArray, List.set_cons_zero, List.set_cons_succ]
          refine wpAnyH_take (i := 16) (oi := ?oi16s) (v := ?v16s) ?hi16s (by kernel_rfl) (by kernel_rfl) (by kernel_rfl) ?hq16s (Or.inl ⟨?hw16s, ?hy16s⟩) (by assumption) ?rest16s
          case hi16s => (simp only [List.getElem?_toArray, List.getElem?_cons_succ, List.getElem?_cons_zero]; rfl)
          case hq16s => exact fun _ _ _ h => h
          case hw16s => rfl
          case hy16s => (intro w hSw; (try dsimp only at hSw); go_simp <;> with_reducible rfl)
          try simp only [Act.put, List.setIfInBounds_toArray, List.set_cons_zero, List.set_cons_succ]
          refine wpAnyH_ready (rs := [17]) (by kernel_rfl) (by simp) ?_
          refine AllReadyH.cons (o := ?o17s) ?hi17s (fun K hK => ?st17s) AllReadyH.nil
          case hi17s => (simp only [List.getElem?_toArray, List.getElem?_cons_succ, List.getElem?_cons_zero]; rfl)
          go_simp
          refine (walks_any hR6.ps hR6.qk hJ (by omega) (hL2.at hR6.bel)).mono ?_
          rintro e w8 ⟨rfl, hx8⟩
          have hs8 := run_str _ _ _ c3 _ ((hrz.below hb6).below hx8)
          have hR8 := hR6.below hx8
          refine hK.out _ _ hs8 (fun hHeld2 => ?_)
          clear hK K hHeld
          have hHeld := hHeld2
          clear hHeld2
          try simp only [Act.put, List.setIfInBounds_toArray, List.set_cons_zero, List.set_cons_succ]
          refine wpAnyH_take (i := 18) (oi := ?oi18s) (v := ?v18s) ?hi18s (by kernel_rfl) (by kernel_rfl) (by kernel_rfl) ?hq18s (Or.inl ⟨?hw18s, ?hy18s⟩) (by assumption) ?rest18s
          case hi18s => (simp only [List.getElem?_toArray, List.getElem?_cons_succ, List.getElem?_cons_zero]; rfl)
          case hq18s => exact fun _ _ _ h => h
          case hw18s => rfl
          case hy18s => (intro w hSw; (try dsimp only at hSw); go_simp <;> with_reducible rfl)
          try simp only [Act.put, List.setIfInBounds_toArray, List.set_cons_zero, List.set_cons_succ]
          refine wpAnyH_take (i := 19) (oi := ?oi19s) (v := ?v19s) ?hi19s (by kernel_rfl) (by kernel_rfl) (by kernel_rfl) ?hq19s (Or.inl ⟨?hw19s, ?hy19s⟩) (by assumption) ?rest19s
          case hi19s => (simp only [List.getElem?_toArray, List.getElem?_cons_succ, List.getElem?_cons_zero]; rfl)
          case hq19s => exact fun _ _ _ h => h
          case hw19s => rfl
          case hy19s => (intro w hSw; (try dsimp only at hSw); go_simp <;> with_reducible rfl)
          try simp only [Act.put, List.setIfInBounds_toArray, List.set_cons_zero, List.set_cons_succ]
          refine wpAnyH_done (by kernel_rfl) ?_ _
          clear hHeld
          go_wp2
          go_roundw
          case measure => simp [intOf]; omega
          case rel => exact ⟨k + 1, N4, p4, b4, f4, ks4, rs2, _, G2, rfl, by go_num, by omega, hR8, hN4, hJ, hL2, hO2, hfw4⟩
      · have hlz2 : ¬ (k : Int) < 60 := by omega
        have hb := hR.bel
        clear hR
        go_wp2
        go_ret
        exact ⟨rfl, hb⟩
    · have hlz : ¬ (k : Int) < (len : Int) := by omega
      have hb := hR.bel
      clear hR
      go_wp2
      go_ret
      exact ⟨rfl, hb⟩

namespace movePacksDone
open Go.ChangeShapes Go.WideShapes Go.ChangeAt
set_option maxRecDepth 100000 in
theorem lifted (os : Os) (started : os.Started) (H : Type) (enc : TypeId × Value → H) :
    ReturnsInHanded {} Tryz.checked os 3 .any (Rows.movePacksSpec.pre6 enc Tryz.prog Tryz.f3 Rows.movePacksRow.domain false) (Rows.movePacksSpec.post enc Tryz.prog Tryz.f3 false true false false) := by
  refine returnsInHanded_of_change_sized (C := Tryz.checked) own started (by kernel_rfl) Tryz.func3
    (ChangeSpec.witness6 (enc := enc) (C := Tryz.checked) false ⟨#[], #[Value.slice none 0 0], []⟩ 8 (by kernel_rfl) (by kernel_rfl) (by kernel_rfl) (by kernel_rfl)) ?_
  intro W base args ds gs before hval0 hW hcnd hsz0 _
  have hsz : (DataW.weightsEach Tryz.prog (Tryz.f3.params.toList ++ Rows.movePacksSpec.plain.varTypes Tryz.prog) (ds ++ gs)).all (· ≤ reachBytes) = true := hsz0
  clear hsz0
  have hval : ∀ (j : Nat) t v, Tryz.f3.params[j]? = some t → args[j]? = some v → Value.okWide Tryz.prog W .any base t v := hval0
  have hW' := hW
  obtain ⟨p, q, hA0, hV, rfl, hfz, hnd⟩ := hW
  have hA : DataW.TrodAll enc Tryz.prog W 0 (fun _ => true) true Tryz.f3.params.toList args.toList ds p := hA0
  rw [Tryz.params3] at hA hval hsz
  obtain ⟨v0, vs0, d0, ds0, p0, q0, hargs, rfl, rfl, h0, r0⟩ := trodAll_cons hA
  obtain ⟨rfl, rfl, rfl⟩ := trodAll_nil r0
  obtain rfl : args = #[v0] := by cases args; simp_all
  obtain ⟨rfl, rfl⟩ := trodVars_none hV
  obtain ⟨a0, len0, cap0, rfl⟩ := okWide_slice Tryz.underlying22 (hval 0 22 v0 rfl rfl)
  have k0 := h0
  have lt0 : ∀ x ∈ p0, x.block < W.heap.size := by obtain ⟨m, hm⟩ := k0; exact DataW.trod_lt m _ _ _ hm
  obtain ⟨f0, ho0, hc0, hm0⟩ := ops_open h0
  have hd0 := ops_size h0
  have hl0 : cap0 * 56 ≤ 140737488351232 := by
    rcases hd0 with ⟨_, h⟩ | ⟨es, sp, rfl, h⟩
    · omega
    · have := sized_slice hsz (j := 0) (t := 22) (e := 32) rfl rfl Tryz.underlying22
      rw [bytes_op] at this
      simp only [reachBytes] at this
      omega
  clear hA0 hval0
  refine (movePacks_walk (w := W) a0 len0 cap0 f0 ho0 hc0 hm0 hl0).mono fun e W' ⟨he, bel⟩ => ?_
  subst he
  exact ⟨_, rfl, _, _, _, [], _, [], hW', trodAll_mk1 (shut_bool Tryz.underlying4 _), (trodAll_cons_mk (Below.trod laidOut (by kernel_rfl) (of_decide_eq_true (by kernel_rfl)) k0 bel lt0) trodAll_mk0), rfl, bel.frame _, fun h => by cases h⟩

theorem over : Rows.movePacksRow.holds Tryz.pinned (OpenSpec.ofChange Rows.movePacksSpec) :=
  OpenClaim.holds_of_wide 3 Tryz.f3 rfl rfl rfl rfl rfl rfl rfl ⟨rfl, rfl, rfl, rfl, rfl⟩ rfl rfl rfl rfl rfl (by kernel_rfl) Tryz.func3 (by kernel_rfl)
    (of_decide_eq_true (by kernel_rfl)) (by unfold Func.isWrapper; first | (rw [if_pos (by decide +kernel)]; kernel_rfl) | (rw [if_neg (by decide +kernel)]; exact ⟨rfl, rfl⟩))
    (fun os started H enc _ => lifted os started H enc)

/-- The statement. -/
theorem proved : Rows.MovePacksSaid := over
end movePacksDone
end Go.Proofs.YtjjghhhhalendaaGreat
