/- 'BacklogPacks' returns true for every input: the row of this law, proved. No condition. -/
import Derived.Test.YtnkekjaljhpmjaaBkL
import Derived.Test.YtnkekjaljhpmjaaBkO
import Derived.Test.YtnkekjaljhpmjaaBkD
import Derived.Test.YtnkekjaljhpmjaaBkZ
import Derived.Deep.CutBlock
import Derived.ProofKit
import Derived.OpenShut
import Derived.ShutString
import Derived.ChangeOld
import Derived.SizedLaws
namespace Go.Proofs.Ytnkekjaljhpmjaa
open Go.RowKit
set_option linter.unusedVariables false
set_option linter.unusedSimpArgs false
theorem Below.drew5 {w w' : World} (h : Below w.drew.heap.size w.drew w') : Below w.heap.size w w' := (Below.refl w.heap.size w).drew.trans h
set_option maxRecDepth 100000 in
set_option maxHeartbeats 6400000 in
theorem backlogPacks_walk {w : World} (A : Option Addr) (n c : Nat) (f : Nat → OpV) (ho : OPS w A n f) (hc : n ≤ c) (hm : c ≤ 9223372036854775807) :
    Calls Try.prog 8 #[.slice A n c] w fun e w' => e = .returned (.bool true) ∧ Below w.heap.size w w' := by
  go_enter Try.func8, Try.ntmps8
  go_wp2_with fail
  refine (bnew_any _).mono ?_
  rintro e w1 ⟨rfl, h1, hb1⟩
  go_wp2_with fail
  refine (lives_any _).mono ?_
  rintro e w2 ⟨rfl, hx2⟩
  have hq1 : QK (fun k => k = w1.heap.size) (w1.alloc (.cells #[.slice none 0 0, .int .i64 0] 28)) w1.heap.size [] 0 :=
    ⟨_, Blk.new w1 _ _, QO.nil _ _, by simp [Value.ownBlock], rfl, fun g hg => by cases hg⟩
  have h2 := (h1.mono (G := fun k => w.heap.size ≤ k ∧ k < w1.heap.size) fun k hk e => ⟨e, hk⟩).alloc (.cells #[.slice none 0 0, .int .i64 0] 28)
  have hb2 := hb1.alloc hb1.size (.cells #[.slice none 0 0, .int .i64 0] 28)
  obtain ⟨B, hB⟩ : ∃ B, w.heap.size = B := ⟨_, rfl⟩
  obtain ⟨q, hq⟩ : ∃ q, w1.heap.size = q := ⟨_, rfl⟩
  have hBw : B ≤ w.heap.size := by omega
  have hwq : B ≤ q := by have := hb1.size; omega
  have hR : DoR B w B q w2 (fun k => B ≤ k ∧ k < q) (fun k => k = q) [] 0 [] 0 := by
    refine ⟨?_, ?_, fun k e e2 => by omega, fun k e => e.1, fun k e => by omega, ?_⟩
    · have := h2.below hx2
      rw [hB, hq] at this
      exact this
    · have := hq1.below hx2
      rw [hq] at this
      exact this
    · have := hb2.trans (hx2.mono hb2.size)
      rw [hB] at this
      exact this
  rw [hB, hq]
  clear h1 hb1 hx2 h2 hb2 hq1 hq
  go_wp2
  go_loopw [3, 5] (fun pv i wr => ∃ (k : Nat) (l : List Wt) (o : Int) (F G : Nat → Prop) (p : Nat), i = .int .i64 (k : Int) ∧ k ≤ n ∧ pv = .pointer (some ⟨p, 0, none⟩) ∧ DoR B w p q wr F G l o l o ∧ Hid (InvC l o)) (fun _ i _ => n - (intOf i).toNat)
  case atStart => exact ⟨0, [], 0, _, _, B, by go_num, by omega, rfl, hR, Lib.hid InvC.start⟩
  case round =>
    obtain ⟨k, l, o, F, G, p, rfl, hk, rfl, hR, hst⟩ := hrel
    have hlen0 := hst.out.len
    by_cases hlt : k < n
    · have hlz : (k : Int) < (n : Int) := by omega
      have hk0 : (0 : Int) ≤ (k : Int) := by omega
      by_cases h300 : k < 300
      · have h3z : (k : Int) < 300 := by omega
        obtain ⟨b, off, rfl, hbl, hat⟩ := ho (by omega)
        obtain ⟨c0, c1, hwf0⟩ := (hat k hlt).below (hB ▸ hR.bel) hbl
        have hblr : b < wr.heap.size := World.block_lt_of_cell? _ _ c0
        generalize f k = ov at c0 c1 hwf0
        obtain ⟨ok, on⟩ := ov
        dsimp only at c0 c1 hwf0
        have hwf : on ≤ topM := (wf_int hwf0).2
        have hR0 := hR.tight.below hBw ((Below.refl wr.heap.size wr).alloc (Nat.le_refl _) (.cells #[.int .i64 ok, .int .i64 on] 31))
        have hop0 := Blk.new wr 31 #[.int .i64 ok, .int .i64 on]
        obtain ⟨F0, hF0⟩ : ∃ F0, (fun k => F k ∧ k < wr.heap.size) = F0 := ⟨_, rfl⟩
        obtain ⟨G0, hG0⟩ : ∃ G0, (fun k => G k ∧ k < wr.heap.size) = G0 := ⟨_, rfl⟩
        have hFbo : ∀ k, F0 k → k ≠ wr.heap.size := fun k e => by rw [← hF0] at e; have := e.2; omega
        have hGbo : ∀ k, G0 k → k ≠ wr.heap.size := fun k e => by rw [← hG0] at e; have := e.2; omega
        rw [hF0, hG0] at hR0
        clear hR hF0 hG0
        go_upto_block 2 with fail
        generalize hbo : wr.heap.size = bo at *
        generalize wr.alloc (.cells #[.int .i64 ok, .int .i64 on] 31) = w0 at *
        clear c0 c1 hat ho
        have o0 := hop0.cell 0
        have o1 := hop0.cell 1
        simp at o0 o1
        have o1d : w0.drew.cell? ⟨bo, 1, none⟩ = some (.int .i64 on) := o1
        have hbol : bo < w0.heap.size := hop0.lt
        clear hop0
        go_cut [6] from 35 to 76 (fun s6 wc => ∃ (l2 : List Wt) (o2 : Int) (F2 G2 : Nat → Prop), DoR B w p q wc F2 G2 l2 o2 l2 o2 ∧ Hid (InvC l2 o2))
        case first =>
          by_cases h1 : ok = 1
          · as_aux_lemma =>
              subst h1
              have hinv := Lib.hid (hst.out.push on hwf)
              obtain ⟨E, hE⟩ : ∃ E, pushE l on = E := ⟨_, rfl⟩
              have hbp := bpush_any on hR0.bk (by omega)
              rw [hE] at hbp
              go_wp2_with fail
              refine hbp.mono ?_
              rintro e w3 ⟨rfl, hbk, hkp⟩
              have hR3 := hR0.callB hBw hkp hbk
              have p1 : w3.cell? ⟨bo, 1, none⟩ = some (.int .i64 on) := hkp.cell o1 (fun e => hFbo _ e rfl)
              have hqp := rpush_any on hR3.qk (by omega)
              rw [hE] at hqp
              go_wp2_with fail
              refine hqp.mono ?_
              rintro e w4 ⟨rfl, hqk, hkq⟩
              have hR4 := hR3.callQ hBw hkq hqk
              go_wp2_with fail
              go_meet
              exact ⟨_, _, _, _, hR4, hinv⟩
          · by_cases h2 : ok = 2
            · as_aux_lemma =>
                subst h2
                have hinv := Lib.hid (hst.out.drop on)
                obtain ⟨E, hE⟩ : ∃ E, decide (0 ≤ placeW l on) = E := ⟨_, rfl⟩
                have hbp := bdrop_any on hR0.bk (by omega)
                unfold DropPost at hbp
                rw [hE] at hbp
                go_wp2_with fail
                refine hbp.mono ?_
                rintro e w3 ⟨rfl, hbk, hkp⟩
                have hR3 := hR0.callB hBw hkp (hbk.widen _)
                have p1 : w3.cell? ⟨bo, 1, none⟩ = some (.int .i64 on) := hkp.cell o1 (fun e => hFbo _ e rfl)
                have hqp := rdrop_any on hR3.qk (by omega) hst.out.b.one
                unfold RDropPost at hqp
                rw [hE] at hqp
                go_wp2_with fail
                refine hqp.mono ?_
                rintro e w4 ⟨rfl, hqk, hkq⟩
                have hR4 := hR3.callQ hBw hkq hqk
                go_wp2_with fail
                go_meet
                exact ⟨_, _, _, _, hR4, hinv⟩
            · by_cases h3 : ok = 3
              · as_aux_lemma =>
                  subst h3
                  have hinv := Lib.hid (hst.out.news)
                  have hbp := bnews_any hR0.bk (by omega)
                  go_wp2_with fail
                  refine hbp.mono ?_
                  rintro e w3 ⟨⟨_, rfl⟩, hbk, hkp⟩
                  have hR3 := hR0.callB hBw hkp (hbk.widen _)
                  have p1 : w3.cell? ⟨bo, 1, none⟩ = some (.int .i64 on) := hkp.cell o1 (fun e => hFbo _ e rfl)
                  have hqp := rnews_any hR3.qk (by omega) hst.out.out
                  go_wp2_with fail
                  refine hqp.mono ?_
                  rintro e w4 ⟨⟨_, rfl⟩, hqk, hkq⟩
                  have hR4 := hR3.callQ hBw hkq hqk
                  go_wp2_with fail
                  go_meet
                  exact ⟨_, _, _, _, hR4, hinv⟩
              · by_cases h4 : ok = 4
                · as_aux_lemma =>
                    subst h4
                    have hinv := Lib.hid (hst.out.try_)
                    obtain ⟨T, hT⟩ : ∃ T, tryP l o = T := ⟨_, rfl⟩
                    rw [hT] at hinv
                    obtain ⟨tx, tok, tl, t4⟩ := T
                    dsimp only at hinv
                    have hbp := btry_any hR0.bk (by omega)
                    rw [hT] at hbp
                    go_wp2_with fail
                    refine hbp.mono ?_
                    rintro e w3 ⟨rfl, hbk, hkp⟩
                    dsimp only at hbk
                    have hR3 := hR0.callB hBw hkp (hbk.widen _)
                    have p1 : w3.cell? ⟨bo, 1, none⟩ = some (.int .i64 on) := hkp.cell o1 (fun e => hFbo _ e rfl)
                    have hqp := rtry_any hR3.qk (by omega) hst.out.o0.1
                    rw [hT] at hqp
                    go_wp2_with fail
                    refine hqp.mono ?_
                    rintro e w4 ⟨rfl, hqk, hkq⟩
                    dsimp only at hqk
                    have hR4 := hR3.callQ hBw hkq hqk
                    go_wp2_with fail
                    go_meet
                    exact ⟨_, _, _, _, hR4, hinv⟩
                · by_cases h5 : ok = 5
                  · as_aux_lemma =>
                      subst h5
                      have hinv := Lib.hid (hst.out.back on)
                      obtain ⟨E, hE⟩ : ∃ E, backB o on = E := ⟨_, rfl⟩
                      have hbp := bback_any on hR0.bk
                      rw [hE] at hbp
                      go_wp2_with fail
                      refine hbp.mono ?_
                      rintro e w3 ⟨rfl, hbk, hkp⟩
                      have hR3 := hR0.callB hBw hkp (hbk.widen _)
                      have p1 : w3.cell? ⟨bo, 1, none⟩ = some (.int .i64 on) := hkp.cell o1 (fun e => hFbo _ e rfl)
                      have hqp := rback_any on hR3.qk hst.out.o0.1
                      rw [hE] at hqp
                      go_wp2_with fail
                      refine hqp.mono ?_
                      rintro e w4 ⟨rfl, hqk, hkq⟩
                      have hR4 := hR3.callQ hBw hkq (hqk.widen _)
                      go_wp2_with fail
                      go_meet
                      exact ⟨_, _, _, _, hR4, hinv⟩
                  · as_aux_lemma =>
                      go_wp2_with fail
                      go_meet
                      exact ⟨l, o, F0, G0, hR0, hst⟩
        case rest =>
          obtain ⟨l2, o2, F2, G2, hR, hst2⟩ := hcut
          clear hR0 hst hFbo hGbo o0 o1 o1d hbol
          have hlen := hst2.out.len
          have hpk := bpack_any hR.bk hst2.out
          obtain ⟨EN, hEN⟩ : ∃ x, encB l2 o2 = x := ⟨_, rfl⟩
          rw [hEN] at hpk
          go_wp2_with fail
          refine hpk.mono ?_
          rintro e w5 ⟨A5, c5, rfl, hl5, hm5, hr5, hx5, _⟩
          have hR5 := hR.below hBw hx5
          have hrp := rpack_any hR5.drew.qk hst2.out
          rw [hEN] at hrp
          have hde := decB_enc hst2.out
          rw [hEN] at hde
          have hs5 := run_str w5.drew A5 _ c5 _ (hr5.below (Below.refl w5.heap.size w5).drew)
          have hel : EN.length ≤ 262144 := by rw [← hEN]; have := encB_len l2 o2; omega
          clear hR hx5 hpk
          go_wp2
          refine wp_region_held_drew (S := (fun W => (convert 49 9 (.slice A5 EN.length c5)).run Try.prog W = .ok (.string ⟨EN.toArray⟩) W)) (by kernel_rfl) hs5 (fun hHeld => ?_)
          refine wpAnyH_take (i := 0) (oi := ?oi0r) (v := ?v0r) ?hi0r (by kernel_rfl) (by kernel_rfl) (by kernel_rfl) ?hq0r (Or.inl ⟨?hw0r, ?hy0r⟩) (by assumption) ?rest0r
          case hi0r => (simp only [List.getElem?_toArray, List.getElem?_cons_succ, List.getElem?_cons_zero]; rfl)
          case hq0r => exact fun _ _ _ h => h
          case hw0r => rfl
          case hy0r => (intro w hSw; (try dsimp only at hSw); go_simp <;> with_reducible rfl)
          try simp only [Act.put, List.setIfInBounds_toArray, List.set_cons_zero, List.set_cons_succ]
          refine wpAnyH_take (i := 1) (oi := ?oi1r) (v := ?v1r) ?hi1r (by kernel_rfl) (by kernel_rfl) (by kernel_rfl) ?hq1r (Or.inl ⟨?hw1r, ?hy1r⟩) (by assumption) ?rest1r
          case hi1r => (simp only [List.getElem?_toArray, List.getElem?_cons_succ, List.getElem?_cons_zero]; rfl)
          case hq1r => exact fun _ _ _ h => h
          case hw1r => rfl
          case hy1r => (intro w hSw; (try dsimp only at hSw); go_simp <;> with_reducible rfl)
          try simp only [Act.put, List.setIfInBounds_toArray, List.set_cons_zero, List.set_cons_succ]
          refine wpAnyH_take (i := 2) (oi := ?oi2r) (v := ?v2r) ?hi2r (by kernel_rfl) (by kernel_rfl) (by kernel_rfl) ?hq2r (Or.inl ⟨?hw2r, ?hy2r⟩) (by assumption) ?rest2r
          case hi2r => (simp only [List.getElem?_toArray, List.getElem?_cons_succ, List.getElem?_cons_zero]; rfl)
          case hq2r => exact fun _ _ _ h => h
          case hw2r => rfl
          case hy2r => (intro w hSw; (try dsimp only at hSw); go_simp <;> with_reducible rfl)
          try simp only [Act.put, List.setIfInBounds_toArray, List.set_cons_zero, List.set_cons_succ]
          refine wpAnyH_ready (rs := [3]) (by kernel_rfl) (by simp) ?_
          refine AllReadyH.cons (o := ?o3r) ?hi3r (fun K hK => ?st3r) AllReadyH.nil
          case hi3r => (simp only [List.getElem?_toArray, List.getElem?_cons_succ, List.getElem?_cons_zero]; rfl)
          go_simp
          refine hrp.mono ?_
          rintro e w6 ⟨A6, c6, rfl, hl6, hm6, hr6, hx6, _⟩
          have hR6 := hR5.drew.below hBw hx6
          have hr56 := hr5.below (Below.drew5 hx6)
          have hs6 := run_str _ A5 _ c5 _ hr56
          have hs7 := run_str _ A6 _ c6 _ hr6
          refine hK.out _ _ hs6 (fun hHeld2 => ?_)
          clear hK K hHeld
          have hHeld := hHeld2
          clear hHeld2
          try simp only [Act.put, List.setIfInBounds_toArray, List.set_cons_zero, List.set_cons_succ]
          refine wpAnyH_ready (rs := [4]) (by kernel_rfl) (by simp) ?_
          refine AllReadyH.cons (o := ?o4r) ?hi4r (fun K hK => ?st4r) AllReadyH.nil
          case hi4r => (simp only [List.getElem?_toArray, List.getElem?_cons_succ, List.getElem?_cons_zero]; rfl)
          go_simp
          refine hK.out _ _ hs6 (fun hHeld2 => ?_)
          clear hK K hHeld
          have hHeld := hHeld2
          clear hHeld2
          try simp only [Act.put, List.setIfInBounds_toArray, List.set_cons_zero, List.set_cons_succ]
          refine wpAnyH_take (i := 5) (oi := ?oi5r) (v := ?v5r) ?hi5r (by kernel_rfl) (by kernel_rfl) (by kernel_rfl) ?hq5r (Or.inl ⟨?hw5r, ?hy5r⟩) (by assumption) ?rest5r
          case hi5r => (simp only [List.getElem?_toArray, List.getElem?_cons_succ, List.getElem?_cons_zero]; rfl)
          case hq5r => exact fun _ _ _ h => h
          case hw5r => rfl
          case hy5r => (intro w hSw; (try dsimp only at hSw); go_simp <;> with_reducible rfl)
          try simp only [Act.put, List.setIfInBounds_toArray, List.set_cons_zero, List.set_cons_succ]
          refine wpAnyH_done (by kernel_rfl) ?_ _
          have hun := bunpack_any A5 EN.length c5 EN w6 hr56 (by omega)
          rw [hde] at hun
          clear hrp hs5 hs6 hs7 hR5 hr5 hr6 hx6 hl6 hm6 hEN
          go_wp2_with fail
          refine hun.mono ?_
          rintro e w7 ⟨hx7, h7⟩
          rcases h7 with ⟨h, _⟩ | ⟨l3, o3, p3, h, rfl, hB7⟩
          case inl => cases h
          cases h
          have hQ7 := (hR6.qk.mono (G := fun k => G2 k ∧ k < w6.heap.size) fun k hk e => ⟨e, hk⟩).below hx7
          have hlk := looks_any hB7 hQ7 hst2.out.nd (by omega)
          clear hun
          go_wp2_with fail
          refine hlk.mono ?_
          rintro e w8 ⟨rfl, hx8⟩
          have hbs := hR6.bel.size
          have hR8 : DoR B w p3 q w8 (fun k => w6.heap.size ≤ k) (fun k => G2 k ∧ k < w6.heap.size) l2 o2 l2 o2 := ⟨hB7.below hx8, hQ7.below hx8, fun k e e2 => by have := e2.2; omega, fun k e => by omega, fun k e => hR6.lo2 k e.1, (hR6.bel.trans (hx7.mono (by omega))).trans (hx8.mono (by have := hx7.size; omega))⟩
          clear hlk hB7 hQ7 hx7 hx8 hR6 hr56
          go_wp2
          go_roundw
          case measure => simp [intOf]; omega
          case rel => exact ⟨k + 1, l2, o2, _, _, p3, by go_num, by omega, rfl, hR8, hst2⟩
      · have h3z : ¬ (k : Int) < 300 := by omega
        have hb := hR.bel
        clear hR
        go_wp2
        go_ret
        exact ⟨rfl, hB ▸ hb⟩
    · have hlz : ¬ (k : Int) < (n : Int) := by omega
      have hb := hR.bel
      clear hR
      go_wp2
      go_ret
      exact ⟨rfl, hB ▸ hb⟩

namespace backlogPacksDone
open Go.ChangeShapes Go.WideShapes Go.ChangeAt
set_option maxRecDepth 100000 in
theorem lifted (os : Os) (started : os.Started) (H : Type) (enc : TypeId × Value → H) :
    ReturnsInHanded {} Try.checked os 8 .any (Rows.backlogPacksSpec.pre6 enc Try.prog Try.f8 Rows.backlogPacksRow.domain false) (Rows.backlogPacksSpec.post enc Try.prog Try.f8 false true false false) := by
  refine returnsInHanded_of_change_sized (C := Try.checked) own started (by kernel_rfl) Try.func8
    (ChangeSpec.witness6 (enc := enc) (C := Try.checked) false ⟨#[], #[Value.slice none 0 0], []⟩ 8 (by kernel_rfl) (by kernel_rfl) (by kernel_rfl) (by kernel_rfl)) ?_
  intro W base args ds gs before hval0 hW hcnd hsz0 _
  have hsz : (DataW.weightsEach Try.prog (Try.f8.params.toList ++ Rows.backlogPacksSpec.plain.varTypes Try.prog) (ds ++ gs)).all (· ≤ reachBytes) = true := hsz0
  clear hsz0
  have hval : ∀ (j : Nat) t v, Try.f8.params[j]? = some t → args[j]? = some v → Value.okWide Try.prog W .any base t v := hval0
  have hW' := hW
  obtain ⟨p, q, hA0, hV, rfl, hfz, hnd⟩ := hW
  have hA : DataW.TrodAll enc Try.prog W 0 (fun _ => true) true Try.f8.params.toList args.toList ds p := hA0
  rw [Try.params8] at hA hval hsz
  obtain ⟨v0, vs0, d0, ds0, p0, q0, hargs, rfl, rfl, h0, r0⟩ := trodAll_cons hA
  obtain ⟨rfl, rfl, rfl⟩ := trodAll_nil r0
  obtain rfl : args = #[v0] := by cases args; simp_all
  obtain ⟨rfl, rfl⟩ := trodVars_none hV
  obtain ⟨a0, len0, cap0, rfl⟩ := okWide_slice Try.underlying22 (hval 0 22 v0 rfl rfl)
  have k0 := h0
  have lt0 : ∀ x ∈ p0, x.block < W.heap.size := by obtain ⟨m, hm⟩ := k0; exact DataW.trod_lt m _ _ _ hm
  obtain ⟨f0, ho0, hc0, hm0⟩ := ops_open h0
  clear hA0 hval0
  refine (backlogPacks_walk (w := W) a0 len0 cap0 f0 ho0 hc0 hm0).mono fun e W' ⟨he, bel⟩ => ?_
  subst he
  exact ⟨_, rfl, _, _, _, [], _, [], hW', trodAll_mk1 (shut_bool Try.underlying4 _), (trodAll_cons_mk (Below.trod laidOut (by kernel_rfl) (of_decide_eq_true (by kernel_rfl)) k0 bel lt0) trodAll_mk0), rfl, bel.frame _, fun h => by cases h⟩

theorem over : Rows.backlogPacksRow.holds Try.pinned (OpenSpec.ofChange Rows.backlogPacksSpec) :=
  OpenClaim.holds_of_wide 8 Try.f8 rfl rfl rfl rfl rfl rfl rfl ⟨rfl, rfl, rfl, rfl, rfl⟩ rfl rfl rfl rfl rfl (by kernel_rfl) Try.func8 (by kernel_rfl)
    (of_decide_eq_true (by kernel_rfl)) (by unfold Func.isWrapper; first | (rw [if_pos (by decide +kernel)]; kernel_rfl) | (rw [if_neg (by decide +kernel)]; exact ⟨rfl, rfl⟩))
    (fun os started H enc _ => lifted os started H enc)

/-- The statement. -/
theorem proved : Rows.BacklogPacksSaid := over
end backlogPacksDone
end Go.Proofs.Ytnkekjaljhpmjaa
