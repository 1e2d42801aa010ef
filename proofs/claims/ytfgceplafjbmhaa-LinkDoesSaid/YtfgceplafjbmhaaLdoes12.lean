/- 'LinkDoes' returns true for every input: the row of this law, proved. No condition. -/
import Derived.Test.YtfgceplafjbmhaaLqF
import Derived.Test.YtfgceplafjbmhaaLkL
import Derived.Test.YtfgceplafjbmhaaLkK
import Derived.Test.YtfgceplafjbmhaaRgT
import Derived.Deep.CutBlock
import Derived.Deep.CutRange
import Derived.ProofKit
import Derived.OpenShut
import Derived.ShutString
import Derived.ChangeOld
import Derived.SizedLaws
namespace Go.Proofs.Ytfgceplafjbmhaa
open Go.RowKit
set_option linter.unusedVariables false
set_option linter.unusedSimpArgs false
theorem DoE.kept {B : Nat} {w : World} {p q : Nat} {wr w' : World} {F G S : Nat → Prop} {l l2 : List Bd} {s m s2 m2 : Int} (h : DoE B w p q wr F G l s m l2 s2 m2) (hB : B ≤ w.heap.size) (hk : Keep S wr w') (h1 : ∀ g, S g → ¬ F g) (h2 : ∀ g, S g → ¬ G g) (h3 : ∀ g, S g → B ≤ g) : DoE B w p q w' F G l s m l2 s2 m2 :=
  ⟨h.ek.kept hk (fun g hg e => h1 g e hg), h.qn.kept hk (fun g hg e => h2 g e hg), h.ap, h.lo, h.lo2, h.bel.trans (hk.below (Nat.le_trans hB h.bel.size) fun i hi e => by have := h3 i e; omega)⟩
set_option maxRecDepth 100000 in
set_option maxHeartbeats 6400000 in
theorem linkDoes_walk {w : World} (A : Option Addr) (n c : Nat) (f : Nat → OpX) (ho : OPX w A n f) (hc : n ≤ c) (hm : c ≤ 9223372036854775807) (hsz : c * 56 ≤ 140737488351232) :
    Calls Try.prog 3 #[.slice A n c] w fun e w' => e = .returned (.bool true) ∧ Below w.heap.size w w' := by
  go_enter Try.func3, Try.ntmps3
  go_wp2_with fail
  refine (lnew_any _).mono ?_
  rintro e w1 ⟨rfl, h1, hb1⟩
  have hq1 : QN (fun k => w1.heap.size ≤ k) (w1.alloc (.cells #[.slice none 0 0, .int .i64 0, .int .i64 0] 28)) w1.heap.size [] 0 0 :=
    ⟨_, [], ⟨Blk.new w1 _ _, IO.nil _ _, by simp [Value.ownBlock], Nat.le_refl _, fun g hg => by simp [Value.ownBlock] at hg, fun x hx => by cases hx⟩, rfl⟩
  have he1 : EK (fun k => w.heap.size ≤ k ∧ k < w1.heap.size) w1 w.heap.size [] 0 0 := ⟨_, h1.mono' (Nat.zero_le _), ⟨Nat.le_refl _, h1.pc.lt⟩, fun g hg => by simp [Value.ownBlock] at hg⟩
  have he2 := he1.alloc (.cells #[.slice none 0 0, .int .i64 0, .int .i64 0] 28)
  have hb2 := hb1.alloc hb1.size (.cells #[.slice none 0 0, .int .i64 0, .int .i64 0] 28)
  go_wp2_with fail
  refine (lives_any _).mono ?_
  rintro e w2 ⟨rfl, hx2⟩
  obtain ⟨B, hB⟩ : ∃ B, w.heap.size = B := ⟨_, rfl⟩
  obtain ⟨q, hq⟩ : ∃ q, w1.heap.size = q := ⟨_, rfl⟩
  have hBw : B ≤ w.heap.size := by omega
  have hwq : B ≤ q := by have := hb1.size; omega
  have hR : DoE B w B q w2 (fun k => B ≤ k ∧ k < q) (fun k => q ≤ k) [] 0 0 [] 0 0 := by
    refine ⟨?_, ?_, fun k e e2 => by have := e.2; omega, fun k e => e.1, fun k e => by have h9 : q ≤ k := e; omega, ?_⟩
    · have := he2.below hx2
      rw [hB, hq] at this
      exact this
    · have := hq1.below hx2
      rw [hq] at this
      exact this
    · have := hb2.trans (hx2.mono hb2.size)
      rw [hB] at this
      exact this
  rw [hB, hq]
  clear h1 hb1 hx2 he1 he2 hb2 hq1 hq
  go_wp2
  go_loopw [5] (fun i wr => ∃ (k : Nat) (l : List Bd) (s m : Int) (F G : Nat → Prop), i = .int .i64 (k : Int) ∧ k ≤ n ∧ DoE B w B q wr F G l s m l s m ∧ Hid (InvT (k : Int) l s m)) (fun i _ => n - (intOf i).toNat)
  case atStart => exact ⟨0, [], 0, 0, _, _, by go_num, by omega, hR, Lib.hid InvT.start⟩
  case round =>
    obtain ⟨k, l, s, m, F, G, rfl, hkn, hR, hst⟩ := hrel
    by_cases hlt : k < n
    · have hlz : (k : Int) < (n : Int) := by omega
      have hk0 : (0 : Int) ≤ (k : Int) := by omega
      obtain ⟨b, off, rfl, hbl, hat⟩ := ho (by omega)
      have hox := (hat k hlt).below (hB ▸ hR.bel)
      have halx : 0 < (f k).o.p.body.length → ∀ ad, (f k).A = some ad → ad.block < B := fun hp ad e => hB ▸ (hat k hlt).at_.pk.rb.ltA hp ad e
      have hAT := hat k hlt
      generalize f k = ov at hox halx hAT
      obtain ⟨⟨ok, on, x⟩, oA, oc⟩ := ov
      obtain ⟨c0, c1, c2, c3, c4, hol⟩ := hox
      dsimp only at c0 c1 c2 c3 c4 hol halx hAT
      have hcap := hol.pk.cap
      have hwn := hol.wn
      dsimp only at hcap hwn
      have hbz : (B : Nat) ≤ wr.heap.size := by have := hR.bel.size; omega
      have hR0 := hR.tight.below hBw ((Below.refl wr.heap.size wr).alloc (Nat.le_refl _) (.cells #[.int .i64 ok, .int .i64 on, .int .i64 x.seq, .int .i64 x.ack, .slice oA x.body.length oc] 34))
      have hop := Blk.new wr 34 #[.int .i64 ok, .int .i64 on, .int .i64 x.seq, .int .i64 x.ack, .slice oA x.body.length oc]
      have HRB : Hid (RB w oA x.body.length x.body) := Lib.hid (hAT.at_.pk.rb)
      have B9 : Hid (∀ {W : World}, Below B w W → Below w.heap.size w W) := Lib.hid (fun h => hB.symm ▸ h)
      have hrb : RB (wr.alloc (.cells #[.int .i64 ok, .int .i64 on, .int .i64 x.seq, .int .i64 x.ack, .slice oA x.body.length oc] 34)) oA x.body.length x.body := hol.pk.rb.alloc _
      by_cases hbig : 10000 < x.body.length
      · have hbg : (10000 : Int) < (x.body.length : Int) := by omega
        have hst2 : Hid (InvT ((k + 1 : Nat) : Int) l s m) := Lib.hid (hst.out.up (by omega))
        go_wp2
        go_roundw
        case measure => simp [intOf]; omega
        case rel => exact ⟨k + 1, l, s, m, _, _, by go_num, by omega, hR0, hst2⟩
      have hbg : ¬ (10000 : Int) < (x.body.length : Int) := by omega
      have hI := hst.out
      have HK : Hid ((k : Int) < 4611686018427387904) := Lib.hid (by omega)
      have HX9 : Hid (x.body.length ≤ 9223372036854775807) := Lib.hid (by omega)
      obtain ⟨F0, hF0⟩ : ∃ F0, (fun k => F k ∧ k < wr.heap.size) = F0 := ⟨_, rfl⟩
      obtain ⟨G0, hG0⟩ : ∃ G0, (fun k => G k ∧ k < wr.heap.size) = G0 := ⟨_, rfl⟩
      have hFbo : ∀ k, F0 k → k < wr.heap.size := by rw [← hF0]; exact fun k e => e.2
      have hGbo : ∀ k, G0 k → k < wr.heap.size := by rw [← hG0]; exact fun k e => e.2
      have hlow : 0 < x.body.length → ∀ ad, oA = some ad → ¬ F0 ad.block := by rw [← hF0]; exact fun hp ad e e2 => by have := halx hp ad e; have := hR.lo _ e2.1; omega
      rw [hF0, hG0] at hR0
      clear hF0 hG0 hR hat ho hst hcap hm hAT
      go_upto_block 2 with fail
      generalize hbo : wr.heap.size = bo at *
      generalize wr.alloc (.cells #[.int .i64 ok, .int .i64 on, .int .i64 x.seq, .int .i64 x.ack, .slice oA x.body.length oc] 34) = w1 at *
      clear c0 c1 c2 c3 c4 hol
      have o1 := hop.cell 1
      have o2 := hop.cell 2
      have o3 := hop.cell 3
      have o4 := hop.cell 4
      simp at o1 o2 o3 o4
      have hbol : bo < w1.heap.size := hop.lt
      go_cut [7, 8, 9, 10, 11, 12, 13, 14, 15, 16, 17, 18, 19, 20] from 30 to 174 (fun s7 s8 s9 s10 s11 s12 s13 s14 s15 s16 s17 s18 s19 s20 wc => s7 = .bool true ∧ ∃ (l2 : List Bd) (s2 m2 : Int) (F2 G2 : Nat → Prop), DoE B w B q wc F2 G2 l2 s2 m2 l2 s2 m2 ∧ Hid (InvT ((k + 1 : Nat) : Int) l2 s2 m2))
      case first =>
        by_cases h1 : ok = 1
        · as_aux_lemma =>
            subst h1
            have hinv := Lib.hid (hI.send x.body on HK.out (wf_int hwn).1)
            obtain ⟨R, hRR⟩ : ∃ R, sendR l s m on x.body = R := ⟨_, rfl⟩
            rw [hRR] at hinv
            have HRR := Lib.hid hRR
            clear hRR
            obtain ⟨E, Pk, l', s'⟩ := R
            dsimp only at hinv
            have hEE : (E == E) = true := beq_self_eq_true E
            go_upto_region 13 with fail
            go_cut [8, 9] from 49 to 60 (fun s8 s9 wc => ∃ (bm : Nat) (A2 : Option Addr) (c2 : Nat) (F2 G2 : Nat → Prop), s8 = .pointer (some ⟨bm, 0, none⟩) ∧ s9 = .int .i64 E ∧ DoE B w B q wc F2 G2 l' s' m l s m ∧ Blk wc bm 32 #[.int .i64 Pk.seq, .int .i64 Pk.ack, .slice A2 Pk.body.length c2] ∧ RB wc A2 Pk.body.length Pk.body ∧ (0 < Pk.body.length → ∀ ad, A2 = some ad → w1.heap.size ≤ ad.block) ∧ Blk wc bo 34 #[.int .i64 1, .int .i64 on, .int .i64 x.seq, .int .i64 x.ack, .slice oA x.body.length oc] ∧ bm ≠ q)
            case first =>
              refine wp_calm ?_
              have sd : (fun W => W.cell? ⟨bo, 1, none⟩ = some (.int .i64 on) ∧ W.cell? ⟨bo, 4, none⟩ = some (.slice oA x.body.length oc)) w1.drew := ⟨o1, o4⟩
              have hR2 := hR0.drew
              have hopb := hop.drew
              replace hrb : RB w1.drew oA x.body.length x.body := hrb.below (Below.refl w1.heap.size w1).drew
              have HSZ : Hid (w1.drew.heap.size = w1.heap.size) := Lib.hid rfl
              refine wp_region_held_drew (S := (fun W => W.cell? ⟨bo, 1, none⟩ = some (.int .i64 on) ∧ W.cell? ⟨bo, 4, none⟩ = some (.slice oA x.body.length oc))) (by kernel_rfl) sd (fun hHeld => ?_)
              generalize w1.drew = w2 at *
              obtain ⟨KB, hKB⟩ : ∃ K, w2.heap.size = K := ⟨_, rfl⟩
              have hb20 := Below.refl w2.heap.size w2
              rw [hKB] at hb20
              have HKB := Lib.hid hKB
              have hboK : bo < KB := by have := HSZ.out; omega
              clear hKB
              have hF0lt : ∀ k, F0 k → k < KB := fun k e => by have := hFbo k e; omega
              have hG0lt : ∀ k, G0 k → k < KB := fun k e => by have := hGbo k e; omega
              have hBK : B ≤ KB := by omega
              have hS : ∀ W, Below KB w2 W → (fun W => W.cell? ⟨bo, 1, none⟩ = some (.int .i64 on) ∧ W.cell? ⟨bo, 4, none⟩ = some (.slice oA x.body.length oc)) W := fun W hb => by
                have h9 := hopb.kept (Keep.of_below (by rw [HKB.out]; exact hb)) (Nat.not_le.2 hopb.lt)
                have p1 := h9.cell 1
                have p4 := h9.cell 4
                simp at p1 p4
                exact ⟨p1, p4⟩
              have hK1 : w1.heap.size ≤ KB := by have := HSZ.out; have := HKB.out; omega
              clear sd o1 o2 o3 o4
              (refine tkI 0 (by (simp only [List.getElem?_toArray, List.getElem?_cons_succ, List.getElem?_cons_zero]; rfl)) (by kernel_rfl) (by kernel_rfl) (by kernel_rfl) (by exact fun _ _ _ h => h) (by rfl) (by (intro w hSw; (try dsimp only at hSw); go_simp <;> with_reducible rfl)) (by assumption) ?_; try simp only [Act.put, List.setIfInBounds_toArray, List.set_cons_zero, List.set_cons_succ])
              (refine tkI 2 (by (simp only [List.getElem?_toArray, List.getElem?_cons_succ, List.getElem?_cons_zero]; rfl)) (by kernel_rfl) (by kernel_rfl) (by kernel_rfl) (by exact fun _ _ _ h => h) (by rfl) (by (intro w hSw; (try dsimp only at hSw); go_simp <;> with_reducible rfl)) (by assumption) ?_; try simp only [Act.put, List.setIfInBounds_toArray, List.set_cons_zero, List.set_cons_succ])
              (refine tkI 3 (by (simp only [List.getElem?_toArray, List.getElem?_cons_succ, List.getElem?_cons_zero]; rfl)) (by kernel_rfl) (by kernel_rfl) (by kernel_rfl) (by exact fun _ _ _ h => h) (by rfl) (by (intro w hSw; (try dsimp only at hSw); go_simp <;> with_reducible rfl)) (by assumption) ?_; try simp only [Act.put, List.setIfInBounds_toArray, List.set_cons_zero, List.set_cons_succ])
              (refine tkI 4 (by (simp only [List.getElem?_toArray, List.getElem?_cons_succ, List.getElem?_cons_zero]; rfl)) (by kernel_rfl) (by kernel_rfl) (by kernel_rfl) (by exact fun _ _ _ h => h) (by rfl) (by (intro w hSw; (try dsimp only at hSw); go_simp <;> with_reducible rfl)) (by assumption) ?_; try simp only [Act.put, List.setIfInBounds_toArray, List.set_cons_zero, List.set_cons_succ])
              (refine tkI 6 (by (simp only [List.getElem?_toArray, List.getElem?_cons_succ, List.getElem?_cons_zero]; rfl)) (by kernel_rfl) (by kernel_rfl) (by kernel_rfl) (by exact fun _ _ _ h => h) (by rfl) (by (intro w hSw; (try dsimp only at hSw); go_simp <;> with_reducible rfl)) (by assumption) ?_; try simp only [Act.put, List.setIfInBounds_toArray, List.set_cons_zero, List.set_cons_succ])
              (refine tkI 7 (by (simp only [List.getElem?_toArray, List.getElem?_cons_succ, List.getElem?_cons_zero]; rfl)) (by kernel_rfl) (by kernel_rfl) (by kernel_rfl) (by exact fun _ _ _ h => h) (by rfl) (by (intro w hSw; (try dsimp only at hSw); go_simp <;> with_reducible rfl)) (by assumption) ?_; try simp only [Act.put, List.setIfInBounds_toArray, List.set_cons_zero, List.set_cons_succ])
              refine wpAnyH_ready (rs := [1, 12]) (by kernel_rfl) (by simp) ?_
              refine AllReadyH.cons (by (simp only [List.getElem?_toArray, List.getElem?_cons_succ, List.getElem?_cons_zero]; rfl)) (fun K hK => ?_) (AllReadyH.cons (by (simp only [List.getElem?_toArray, List.getElem?_cons_succ, List.getElem?_cons_zero]; rfl)) (fun K hK => ?_) AllReadyH.nil)
              · go_simp
                have ho1 : OB KB (w2.alloc (.cells #[] 5)) (.slice (some ⟨w2.heap.size, 0, none⟩) 0 0) [] := OB.built KB w2 [] (kle HKB hb20) (by simp [maxLen])
                have hb1 := hb20.alloc (kle HKB hb20) (.cells #[] 5)
                have hz1 := kle HKB hb1
                obtain ⟨g1, hg1⟩ : ∃ g, w2.heap.size = g := ⟨_, rfl⟩
                rw [hg1] at ho1 ⊢
                generalize hW1 : w2.alloc (.cells #[] 5) = W1 at *
                clear hW1
                refine hK.out _ _ (hS _ hb1) (fun hHeld2 => ?_)
                clear hK K hHeld
                have hHeld := hHeld2
                clear hHeld2
                try simp only [Act.put, List.setIfInBounds_toArray, List.set_cons_zero, List.set_cons_succ]
                refine wpAnyH_ready (rs := [5, 12]) (by kernel_rfl) (by simp) ?_
                refine AllReadyH.cons (by (simp only [List.getElem?_toArray, List.getElem?_cons_succ, List.getElem?_cons_zero]; rfl)) (fun K hK => ?_) (AllReadyH.cons (by (simp only [List.getElem?_toArray, List.getElem?_cons_succ, List.getElem?_cons_zero]; rfl)) (fun K hK => ?_) AllReadyH.nil)
                · rw [if_pos (by rfl)]
                  refine wp_appB (.tmp 51) (.tmp 54) rfl KB (.slice (some ⟨g1, 0, none⟩) 0 0) [] rfl ho1 oA x.body.length oc x.body rfl (hrb.below (by rw [HKB.out]; exact hb1)) (by simp; omega) (kle HKB hb1) ?_
                  intro v2 W2 hg2
                  have hb2 := hb1.trans (hg2.below ho1 (kle HKB hb1))
                  have ho2 := hg2.own
                  rw [List.nil_append] at ho2
                  clear hg2
                  obtain ⟨A6, c6, rfl, hq1, hq2, hrr2, hal2⟩ := ho2.form
                  have hz2 := kle HKB hb2
                  refine hK.out _ _ (hS _ hb2) (fun hHeld2 => ?_)
                  clear hK K hHeld
                  have hHeld := hHeld2
                  clear hHeld2
                  try simp only [Act.put, List.setIfInBounds_toArray, List.set_cons_zero, List.set_cons_succ]
                  refine wpAnyH_ready (rs := [8, 12]) (by kernel_rfl) (by simp) ?_
                  refine AllReadyH.cons (by (simp only [List.getElem?_toArray, List.getElem?_cons_succ, List.getElem?_cons_zero]; rfl)) (fun K hK => ?_) (AllReadyH.cons (by (simp only [List.getElem?_toArray, List.getElem?_cons_succ, List.getElem?_cons_zero]; rfl)) (fun K hK => ?_) AllReadyH.nil)
                  · go_simp
                    have hR3a := hR2.below hBw (w' := W2) (by rw [HKB.out]; exact hb2)
                    have hsd := send_u (F := F0) A6 c6 x.body on hI HK.out hrr2 (fun hp ad e e2 => by have h5 := (hal2 ad e).1; have h6 := hF0lt _ e2; omega) hR3a.ek HX9.out (wf_int hwn).1 (wf_int hwn).2
                    rw [HRR.out] at hsd
                    dsimp only at hsd
                    refine hsd.mono ?_
                    rintro e W3 ⟨⟨A2, c2, rfl, hr3, hL3⟩, hfr⟩
                    obtain ⟨A9, n9, c9, h91, h92⟩ := hfr _ rfl
                    injection h91 with h91
                    simp only [Array.mk.injEq, List.cons.injEq, Value.agg.injEq, Value.slice.injEq, and_true, true_and] at h91
                    obtain ⟨rfl, rfl, rfl⟩ := h91
                    clear hfr hsd
                    have hR3 := (hR3a.callE hBw hL3).tight
                    have hop3 := (hopb.kept (Keep.of_below (by rw [HKB.out]; exact hb2)) (Nat.not_le.2 hopb.lt)).kept hL3.2 (fun e => by have := hFbo _ e; omega)
                    have hzz3 := hL3.2.size
                    have hzw3 := kle HKB hb2
                    have hnG : ∀ g, KB ≤ g → ¬ ((G0 g ∧ g < W2.heap.size) ∧ g < W3.heap.size) := fun g hg e => by have := hG0lt _ e.1.1; omega
                    have p1 := hop3.cell 1
                    have p4 := hop3.cell 4
                    simp at p1 p4
                    refine hK.out _ _ ⟨p1, p4⟩ (fun hHeld2 => ?_)
                    clear hK K hHeld
                    have hHeld := hHeld2
                    clear hHeld2
                    try simp only [Act.put, List.setIfInBounds_toArray, List.set_cons_zero, List.set_cons_succ]
                    (refine tkI 9 (by (simp only [List.getElem?_toArray, List.getElem?_cons_succ, List.getElem?_cons_zero]; rfl)) (by kernel_rfl) (by kernel_rfl) (by kernel_rfl) (by exact fun _ _ _ h => h) (by rfl) (by (intro w hSw; (try dsimp only at hSw); go_simp <;> with_reducible rfl)) (by assumption) ?_; try simp only [Act.put, List.setIfInBounds_toArray, List.set_cons_zero, List.set_cons_succ])
                    (refine tkI 10 (by (simp only [List.getElem?_toArray, List.getElem?_cons_succ, List.getElem?_cons_zero]; rfl)) (by kernel_rfl) (by kernel_rfl) (by kernel_rfl) (by exact fun _ _ _ h => h) (by rfl) (by (intro w hSw; (try dsimp only at hSw); go_simp <;> with_reducible rfl)) (by assumption) ?_; try simp only [Act.put, List.setIfInBounds_toArray, List.set_cons_zero, List.set_cons_succ])
                    (refine tkI 11 (by (simp only [List.getElem?_toArray, List.getElem?_cons_succ, List.getElem?_cons_zero]; rfl)) (by kernel_rfl) (by kernel_rfl) (by kernel_rfl) (by exact fun _ _ _ h => h) (by rfl) (by (intro w hSw; (try dsimp only at hSw); go_simp <;> with_reducible rfl)) (by assumption) ?_; try simp only [Act.put, List.setIfInBounds_toArray, List.set_cons_zero, List.set_cons_succ])
                    refine wpAnyH_ready (rs := [12]) (by kernel_rfl) (by simp) ?_
                    refine AllReadyH.cons (by (simp only [List.getElem?_toArray, List.getElem?_cons_succ, List.getElem?_cons_zero]; rfl)) (fun K hK => ?_) AllReadyH.nil
                    go_simp
                    have hx4 := Blk.new W3 32 #[.int .i64 0, .int .i64 0, .slice none 0 0]
                    have hR4 := hR3.below hBw ((Below.refl W3.heap.size W3).alloc (Nat.le_refl _) (.cells #[.int .i64 0, .int .i64 0, .slice none 0 0] 32))
                    have hr4 := hr3.alloc (.cells #[.int .i64 0, .int .i64 0, .slice none 0 0] 32)
                    have hrl4 : 0 < Pk.body.length → ∀ ad, A2 = some ad → ad.block < W3.heap.size := fun hp ad e => hr3.ltA hp ad e
                    have hop4 := hop3.alloc (.cells #[.int .i64 0, .int .i64 0, .slice none 0 0] 32)
                    have p1 := hop4.cell 1
                    have p4 := hop4.cell 4
                    simp at p1 p4
                    obtain ⟨m4, hm4⟩ : ∃ g, W3.heap.size = g := ⟨_, rfl⟩
                    rw [hm4] at hx4 hR4 hrl4 hnG ⊢
                    generalize hW4 : W3.alloc (.cells #[.int .i64 0, .int .i64 0, .slice none 0 0] 32) = W4 at *
                    clear hW4
                    refine hK.out _ _ ⟨p1, p4⟩ (fun hHeld2 => ?_)
                    clear hK K hHeld
                    have hHeld := hHeld2
                    clear hHeld2
                    try simp only [Act.put, List.setIfInBounds_toArray, List.set_cons_zero, List.set_cons_succ]
                    have z0 := hx4.cell 0
                    have z1 := hx4.cell 1
                    have z2 := hx4.cell 2
                    have zf := fun i => hx4.frozen i
                    have zl := hx4.lt
                    simp at z0 z1 z2
                    refine wpAnyH_ready (rs := [13]) (by kernel_rfl) (by simp) ?_
                    refine AllReadyH.cons (by (simp only [List.getElem?_toArray, List.getElem?_cons_succ, List.getElem?_cons_zero]; rfl)) (fun K hK => ?_) AllReadyH.nil
                    go_simp
                    have zE := fill3 hx4 (.int .i64 Pk.seq) (.int .i64 Pk.ack) (.slice A2 Pk.body.length c2)
                    have kE := keep3 W4 m4 (.int .i64 Pk.seq) (.int .i64 Pk.ack) (.slice A2 Pk.body.length c2)
                    have hRE := hR4.kept hBw kE (fun g hg e => by have hg : g = m4 := hg; have := e.2; omega) (fun g hg e => by have hg : g = m4 := hg; have := e.2; omega) (fun g hg => by have hg : g = m4 := hg; omega)
                    have hrE := hr4.kept' kE (fun hp ad e e2 => by have := hrl4 hp ad e; omega)
                    have hopE := hop4.kept kE (fun e => by omega)
                    generalize ((W4.setCell ⟨m4, 0, none⟩ (.int .i64 Pk.seq)).setCell ⟨m4, 1, none⟩ (.int .i64 Pk.ack)).setCell ⟨m4, 2, none⟩ (.slice A2 Pk.body.length c2) = WE at zE kE hRE hrE hopE ⊢
                    have p1 := hopE.cell 1
                    have p4 := hopE.cell 4
                    simp at p1 p4
                    have hzE := zE.lt
                    refine hK.out _ _ ⟨p1, p4⟩ (fun hHeld2 => ?_)
                    clear hK K hHeld
                    have hHeld := hHeld2
                    clear hHeld2
                    try simp only [Act.put, List.setIfInBounds_toArray, List.set_cons_zero, List.set_cons_succ]
                    (refine tkI 14 (by (simp only [List.getElem?_toArray, List.getElem?_cons_succ, List.getElem?_cons_zero]; rfl)) (by kernel_rfl) (by kernel_rfl) (by kernel_rfl) (by exact fun _ _ _ h => h) (by rfl) (by (intro w hSw; (try dsimp only at hSw); go_simp <;> with_reducible rfl)) (by assumption) ?_; try simp only [Act.put, List.setIfInBounds_toArray, List.set_cons_zero, List.set_cons_succ])
                    refine wpAnyH_done (by kernel_rfl) ?_ _
                    go_wp2_with fail
                    go_meet
                    exact ⟨m4, A2, c2, _, _, rfl, rfl, hRE, zE, hrE, (fun hp ad e => by have := h92 hp ad e; omega), hopE, fun e9 => by have e := hRE.qn.fq; have hg : q = m4 := e9.symm; have := e.2; omega⟩
                  · go_simp
                    have hx5 := Blk.new W2 32 #[.int .i64 0, .int .i64 0, .slice none 0 0]
                    have hb5 := hb2.alloc (kle HKB hb2) (.cells #[.int .i64 0, .int .i64 0, .slice none 0 0] 32)
                    have hbge5 := kle HKB hb2
                    have hne5 : True := trivial
                    have hrr5 := hrr2.alloc (.cells #[.int .i64 0, .int .i64 0, .slice none 0 0] 32)
                    have hz5 := kle HKB hb5
                    obtain ⟨m5, hm5⟩ : ∃ g, W2.heap.size = g := ⟨_, rfl⟩
                    rw [hm5] at hx5 hbge5 ⊢
                    generalize hW5 : W2.alloc (.cells #[.int .i64 0, .int .i64 0, .slice none 0 0] 32) = W5 at *
                    clear hW5
                    refine hK.out _ _ (hS _ hb5) (fun hHeld2 => ?_)
                    clear hK K hHeld
                    have hHeld := hHeld2
                    clear hHeld2
                    try simp only [Act.put, List.setIfInBounds_toArray, List.set_cons_zero, List.set_cons_succ]
                    refine wpAnyH_ready (rs := [8]) (by kernel_rfl) (by simp) ?_
                    refine AllReadyH.cons (by (simp only [List.getElem?_toArray, List.getElem?_cons_succ, List.getElem?_cons_zero]; rfl)) (fun K hK => ?_) AllReadyH.nil
                    go_simp
                    have hR6a := hR2.below hBw (w' := W5) (by rw [HKB.out]; exact hb5)
                    have hsd := send_u (F := F0) A6 c6 x.body on hI HK.out hrr5 (fun hp ad e e2 => by have h5 := (hal2 ad e).1; have h6 := hF0lt _ e2; omega) hR6a.ek HX9.out (wf_int hwn).1 (wf_int hwn).2
                    rw [HRR.out] at hsd
                    dsimp only at hsd
                    refine hsd.mono ?_
                    rintro e W6 ⟨⟨A2, c2, rfl, hr6, hL6⟩, hfr⟩
                    obtain ⟨A9, n9, c9, h91, h92⟩ := hfr _ rfl
                    injection h91 with h91
                    simp only [Array.mk.injEq, List.cons.injEq, Value.agg.injEq, Value.slice.injEq, and_true, true_and] at h91
                    obtain ⟨rfl, rfl, rfl⟩ := h91
                    clear hfr hsd
                    have hR6 := (hR6a.callE hBw hL6).tight
                    have hop6 := (hopb.kept (Keep.of_below (by rw [HKB.out]; exact hb5)) (Nat.not_le.2 hopb.lt)).kept hL6.2 (fun e => by have := hFbo _ e; omega)
                    have hzz6 := hL6.2.size
                    have hzw6 := kle HKB hb5
                    have hnG : ∀ g, KB ≤ g → ¬ ((G0 g ∧ g < W5.heap.size) ∧ g < W6.heap.size) := fun g hg e => by have := hG0lt _ e.1.1; omega
                    have p1 := hop6.cell 1
                    have p4 := hop6.cell 4
                    simp at p1 p4
                    have hx6 := hx5.kept hL6.2 (fun e => by have := hF0lt _ e; have := hbge5; omega)
                    have hml : m5 < W5.heap.size := hx5.lt
                    have hmk := hbge5
                    refine hK.out _ _ ⟨p1, p4⟩ (fun hHeld2 => ?_)
                    clear hK K hHeld
                    have hHeld := hHeld2
                    clear hHeld2
                    try simp only [Act.put, List.setIfInBounds_toArray, List.set_cons_zero, List.set_cons_succ]
                    (refine tkI 9 (by (simp only [List.getElem?_toArray, List.getElem?_cons_succ, List.getElem?_cons_zero]; rfl)) (by kernel_rfl) (by kernel_rfl) (by kernel_rfl) (by exact fun _ _ _ h => h) (by rfl) (by (intro w hSw; (try dsimp only at hSw); go_simp <;> with_reducible rfl)) (by assumption) ?_; try simp only [Act.put, List.setIfInBounds_toArray, List.set_cons_zero, List.set_cons_succ])
                    (refine tkI 10 (by (simp only [List.getElem?_toArray, List.getElem?_cons_succ, List.getElem?_cons_zero]; rfl)) (by kernel_rfl) (by kernel_rfl) (by kernel_rfl) (by exact fun _ _ _ h => h) (by rfl) (by (intro w hSw; (try dsimp only at hSw); go_simp <;> with_reducible rfl)) (by assumption) ?_; try simp only [Act.put, List.setIfInBounds_toArray, List.set_cons_zero, List.set_cons_succ])
                    (refine tkI 11 (by (simp only [List.getElem?_toArray, List.getElem?_cons_succ, List.getElem?_cons_zero]; rfl)) (by kernel_rfl) (by kernel_rfl) (by kernel_rfl) (by exact fun _ _ _ h => h) (by rfl) (by (intro w hSw; (try dsimp only at hSw); go_simp <;> with_reducible rfl)) (by assumption) ?_; try simp only [Act.put, List.setIfInBounds_toArray, List.set_cons_zero, List.set_cons_succ])
                    have z0 := hx6.cell 0
                    have z1 := hx6.cell 1
                    have z2 := hx6.cell 2
                    have zf := fun i => hx6.frozen i
                    have zl := hx6.lt
                    simp at z0 z1 z2
                    refine wpAnyH_ready (rs := [13]) (by kernel_rfl) (by simp) ?_
                    refine AllReadyH.cons (by (simp only [List.getElem?_toArray, List.getElem?_cons_succ, List.getElem?_cons_zero]; rfl)) (fun K hK => ?_) AllReadyH.nil
                    go_simp
                    have zE := fill3 hx6 (.int .i64 Pk.seq) (.int .i64 Pk.ack) (.slice A2 Pk.body.length c2)
                    have kE := keep3 W6 m5 (.int .i64 Pk.seq) (.int .i64 Pk.ack) (.slice A2 Pk.body.length c2)
                    have hRE := hR6.kept hBw kE (fun g hg e => by have hg : g = m5 := hg; rcases e.1 with e | e; (have := hF0lt _ e; omega); omega) (fun g hg e => by have hg : g = m5 := hg; have := hG0lt _ e.1.1; omega) (fun g hg => by have hg : g = m5 := hg; omega)
                    have hrE := hr6.kept' kE (fun hp ad e e2 => by have := h92 hp ad e; omega)
                    have hopE := hop6.kept kE (fun e => by omega)
                    generalize ((W6.setCell ⟨m5, 0, none⟩ (.int .i64 Pk.seq)).setCell ⟨m5, 1, none⟩ (.int .i64 Pk.ack)).setCell ⟨m5, 2, none⟩ (.slice A2 Pk.body.length c2) = WE at zE kE hRE hrE hopE ⊢
                    have p1 := hopE.cell 1
                    have p4 := hopE.cell 4
                    simp at p1 p4
                    have hzE := zE.lt
                    refine hK.out _ _ ⟨p1, p4⟩ (fun hHeld2 => ?_)
                    clear hK K hHeld
                    have hHeld := hHeld2
                    clear hHeld2
                    try simp only [Act.put, List.setIfInBounds_toArray, List.set_cons_zero, List.set_cons_succ]
                    (refine tkI 14 (by (simp only [List.getElem?_toArray, List.getElem?_cons_succ, List.getElem?_cons_zero]; rfl)) (by kernel_rfl) (by kernel_rfl) (by kernel_rfl) (by exact fun _ _ _ h => h) (by rfl) (by (intro w hSw; (try dsimp only at hSw); go_simp <;> with_reducible rfl)) (by assumption) ?_; try simp only [Act.put, List.setIfInBounds_toArray, List.set_cons_zero, List.set_cons_succ])
                    refine wpAnyH_done (by kernel_rfl) ?_ _
                    go_wp2_with fail
                    go_meet
                    exact ⟨m5, A2, c2, _, _, rfl, rfl, hRE, zE, hrE, (fun hp ad e => by have := h92 hp ad e; omega), hopE, fun e9 => by have e := hRE.qn.fq; have hg : q = m5 := e9.symm; have := hG0lt _ e.1.1; omega⟩
                · go_simp
                  have hx7 := Blk.new W1 32 #[.int .i64 0, .int .i64 0, .slice none 0 0]
                  have hb7 := hb1.alloc (kle HKB hb1) (.cells #[.int .i64 0, .int .i64 0, .slice none 0 0] 32)
                  have hbge7 := kle HKB hb1
                  have hne7 : ¬ (Value.slice (some ⟨g1, 0, none⟩) 0 0).ownBlock = some W1.heap.size := fun e => by have := (ho1.lt _ e).2; omega
                  have ho7 := ho1.alloc (.cells #[.int .i64 0, .int .i64 0, .slice none 0 0] 32)
                  have hz7 := kle HKB hb7
                  obtain ⟨m7, hm7⟩ : ∃ g, W1.heap.size = g := ⟨_, rfl⟩
                  rw [hm7] at hx7 hbge7 hne7 ⊢
                  generalize hW7 : W1.alloc (.cells #[.int .i64 0, .int .i64 0, .slice none 0 0] 32) = W7 at *
                  clear hW7
                  refine hK.out _ _ (hS _ hb7) (fun hHeld2 => ?_)
                  clear hK K hHeld
                  have hHeld := hHeld2
                  clear hHeld2
                  try simp only [Act.put, List.setIfInBounds_toArray, List.set_cons_zero, List.set_cons_succ]
                  refine wpAnyH_ready (rs := [5]) (by kernel_rfl) (by simp) ?_
                  refine AllReadyH.cons (by (simp only [List.getElem?_toArray, List.getElem?_cons_succ, List.getElem?_cons_zero]; rfl)) (fun K hK => ?_) AllReadyH.nil
                  rw [if_pos (by rfl)]
                  refine wp_appB (.tmp 51) (.tmp 54) rfl KB (.slice (some ⟨g1, 0, none⟩) 0 0) [] rfl ho7 oA x.body.length oc x.body rfl (hrb.below (by rw [HKB.out]; exact hb7)) (by simp; omega) (kle HKB hb7) ?_
                  intro v8 W8 hg8
                  have hb8 := hb7.trans (hg8.below ho7 (kle HKB hb7))
                  have ho8 := hg8.own
                  rw [List.nil_append] at ho8
                  have hx8 := hx7.kept hg8.keep hne7
                  have hzx8 := hx8.lt
                  clear hg8
                  obtain ⟨A6, c6, rfl, hq1, hq2, hrr8, hal8⟩ := ho8.form
                  have hz8 := kle HKB hb8
                  refine hK.out _ _ (hS _ hb8) (fun hHeld2 => ?_)
                  clear hK K hHeld
                  have hHeld := hHeld2
                  clear hHeld2
                  try simp only [Act.put, List.setIfInBounds_toArray, List.set_cons_zero, List.set_cons_succ]
                  refine wpAnyH_ready (rs := [8]) (by kernel_rfl) (by simp) ?_
                  refine AllReadyH.cons (by (simp only [List.getElem?_toArray, List.getElem?_cons_succ, List.getElem?_cons_zero]; rfl)) (fun K hK => ?_) AllReadyH.nil
                  go_simp
                  have hR9a := hR2.below hBw (w' := W8) (by rw [HKB.out]; exact hb8)
                  have hsd := send_u (F := F0) A6 c6 x.body on hI HK.out hrr8 (fun hp ad e e2 => by have h5 := (hal8 ad e).1; have h6 := hF0lt _ e2; omega) hR9a.ek HX9.out (wf_int hwn).1 (wf_int hwn).2
                  rw [HRR.out] at hsd
                  dsimp only at hsd
                  refine hsd.mono ?_
                  rintro e W9 ⟨⟨A2, c2, rfl, hr9, hL9⟩, hfr⟩
                  obtain ⟨A9, n9, c9, h91, h92⟩ := hfr _ rfl
                  injection h91 with h91
                  simp only [Array.mk.injEq, List.cons.injEq, Value.agg.injEq, Value.slice.injEq, and_true, true_and] at h91
                  obtain ⟨rfl, rfl, rfl⟩ := h91
                  clear hfr hsd
                  have hR9 := (hR9a.callE hBw hL9).tight
                  have hop9 := (hopb.kept (Keep.of_below (by rw [HKB.out]; exact hb8)) (Nat.not_le.2 hopb.lt)).kept hL9.2 (fun e => by have := hFbo _ e; omega)
                  have hzz9 := hL9.2.size
                  have hzw9 := kle HKB hb8
                  have hnG : ∀ g, KB ≤ g → ¬ ((G0 g ∧ g < W8.heap.size) ∧ g < W9.heap.size) := fun g hg e => by have := hG0lt _ e.1.1; omega
                  have p1 := hop9.cell 1
                  have p4 := hop9.cell 4
                  simp at p1 p4
                  have hx9 := hx8.kept hL9.2 (fun e => by have := hF0lt _ e; have := hbge7; omega)
                  have hml : m7 < W8.heap.size := hx8.lt
                  have hmk := hbge7
                  refine hK.out _ _ ⟨p1, p4⟩ (fun hHeld2 => ?_)
                  clear hK K hHeld
                  have hHeld := hHeld2
                  clear hHeld2
                  try simp only [Act.put, List.setIfInBounds_toArray, List.set_cons_zero, List.set_cons_succ]
                  (refine tkI 9 (by (simp only [List.getElem?_toArray, List.getElem?_cons_succ, List.getElem?_cons_zero]; rfl)) (by kernel_rfl) (by kernel_rfl) (by kernel_rfl) (by exact fun _ _ _ h => h) (by rfl) (by (intro w hSw; (try dsimp only at hSw); go_simp <;> with_reducible rfl)) (by assumption) ?_; try simp only [Act.put, List.setIfInBounds_toArray, List.set_cons_zero, List.set_cons_succ])
                  (refine tkI 10 (by (simp only [List.getElem?_toArray, List.getElem?_cons_succ, List.getElem?_cons_zero]; rfl)) (by kernel_rfl) (by kernel_rfl) (by kernel_rfl) (by exact fun _ _ _ h => h) (by rfl) (by (intro w hSw; (try dsimp only at hSw); go_simp <;> with_reducible rfl)) (by assumption) ?_; try simp only [Act.put, List.setIfInBounds_toArray, List.set_cons_zero, List.set_cons_succ])
                  (refine tkI 11 (by (simp only [List.getElem?_toArray, List.getElem?_cons_succ, List.getElem?_cons_zero]; rfl)) (by kernel_rfl) (by kernel_rfl) (by kernel_rfl) (by exact fun _ _ _ h => h) (by rfl) (by (intro w hSw; (try dsimp only at hSw); go_simp <;> with_reducible rfl)) (by assumption) ?_; try simp only [Act.put, List.setIfInBounds_toArray, List.set_cons_zero, List.set_cons_succ])
                  have z0 := hx9.cell 0
                  have z1 := hx9.cell 1
                  have z2 := hx9.cell 2
                  have zf := fun i => hx9.frozen i
                  have zl := hx9.lt
                  simp at z0 z1 z2
                  refine wpAnyH_ready (rs := [13]) (by kernel_rfl) (by simp) ?_
                  refine AllReadyH.cons (by (simp only [List.getElem?_toArray, List.getElem?_cons_succ, List.getElem?_cons_zero]; rfl)) (fun K hK => ?_) AllReadyH.nil
                  go_simp
                  have zE := fill3 hx9 (.int .i64 Pk.seq) (.int .i64 Pk.ack) (.slice A2 Pk.body.length c2)
                  have kE := keep3 W9 m7 (.int .i64 Pk.seq) (.int .i64 Pk.ack) (.slice A2 Pk.body.length c2)
                  have hRE := hR9.kept hBw kE (fun g hg e => by have hg : g = m7 := hg; rcases e.1 with e | e; (have := hF0lt _ e; omega); omega) (fun g hg e => by have hg : g = m7 := hg; have := hG0lt _ e.1.1; omega) (fun g hg => by have hg : g = m7 := hg; omega)
                  have hrE := hr9.kept' kE (fun hp ad e e2 => by have := h92 hp ad e; omega)
                  have hopE := hop9.kept kE (fun e => by omega)
                  generalize ((W9.setCell ⟨m7, 0, none⟩ (.int .i64 Pk.seq)).setCell ⟨m7, 1, none⟩ (.int .i64 Pk.ack)).setCell ⟨m7, 2, none⟩ (.slice A2 Pk.body.length c2) = WE at zE kE hRE hrE hopE ⊢
                  have p1 := hopE.cell 1
                  have p4 := hopE.cell 4
                  simp at p1 p4
                  have hzE := zE.lt
                  refine hK.out _ _ ⟨p1, p4⟩ (fun hHeld2 => ?_)
                  clear hK K hHeld
                  have hHeld := hHeld2
                  clear hHeld2
                  try simp only [Act.put, List.setIfInBounds_toArray, List.set_cons_zero, List.set_cons_succ]
                  (refine tkI 14 (by (simp only [List.getElem?_toArray, List.getElem?_cons_succ, List.getElem?_cons_zero]; rfl)) (by kernel_rfl) (by kernel_rfl) (by kernel_rfl) (by exact fun _ _ _ h => h) (by rfl) (by (intro w hSw; (try dsimp only at hSw); go_simp <;> with_reducible rfl)) (by assumption) ?_; try simp only [Act.put, List.setIfInBounds_toArray, List.set_cons_zero, List.set_cons_succ])
                  refine wpAnyH_done (by kernel_rfl) ?_ _
                  go_wp2_with fail
                  go_meet
                  exact ⟨m7, A2, c2, _, _, rfl, rfl, hRE, zE, hrE, (fun hp ad e => by have := h92 hp ad e; omega), hopE, fun e9 => by have e := hRE.qn.fq; have hg : q = m7 := e9.symm; have := hG0lt _ e.1.1; omega⟩
              · go_simp
                have hx10 := Blk.new w2 32 #[.int .i64 0, .int .i64 0, .slice none 0 0]
                have hb10 := hb20.alloc (kle HKB hb20) (.cells #[.int .i64 0, .int .i64 0, .slice none 0 0] 32)
                have hbge10 := kle HKB hb20
                have hz10 := kle HKB hb10
                obtain ⟨m10, hm10⟩ : ∃ g, w2.heap.size = g := ⟨_, rfl⟩
                rw [hm10] at hx10 hbge10 ⊢
                generalize hW10 : w2.alloc (.cells #[.int .i64 0, .int .i64 0, .slice none 0 0] 32) = W10 at *
                clear hW10
                refine hK.out _ _ (hS _ hb10) (fun hHeld2 => ?_)
                clear hK K hHeld
                have hHeld := hHeld2
                clear hHeld2
                try simp only [Act.put, List.setIfInBounds_toArray, List.set_cons_zero, List.set_cons_succ]
                refine wpAnyH_ready (rs := [1]) (by kernel_rfl) (by simp) ?_
                refine AllReadyH.cons (by (simp only [List.getElem?_toArray, List.getElem?_cons_succ, List.getElem?_cons_zero]; rfl)) (fun K hK => ?_) AllReadyH.nil
                go_simp
                have ho11 : OB KB (W10.alloc (.cells #[] 5)) (.slice (some ⟨W10.heap.size, 0, none⟩) 0 0) [] := OB.built KB W10 [] (kle HKB hb10) (by simp [maxLen])
                have hb11 := hb10.alloc (kle HKB hb10) (.cells #[] 5)
                have hx11 := hx10.alloc (.cells #[] 5)
                have hne11 : ¬ (Value.slice (some ⟨W10.heap.size, 0, none⟩) 0 0).ownBlock = some m10 := fun e => by
                  have e : W10.heap.size = m10 := Option.some.inj e
                  have := hx10.lt
                  omega
                have hz11 := kle HKB hb11
                obtain ⟨g11, hg11⟩ : ∃ g, W10.heap.size = g := ⟨_, rfl⟩
                rw [hg11] at ho11 hne11 ⊢
                generalize hW11 : W10.alloc (.cells #[] 5) = W11 at *
                clear hW11
                refine hK.out _ _ (hS _ hb11) (fun hHeld2 => ?_)
                clear hK K hHeld
                have hHeld := hHeld2
                clear hHeld2
                try simp only [Act.put, List.setIfInBounds_toArray, List.set_cons_zero, List.set_cons_succ]
                refine wpAnyH_ready (rs := [5]) (by kernel_rfl) (by simp) ?_
                refine AllReadyH.cons (by (simp only [List.getElem?_toArray, List.getElem?_cons_succ, List.getElem?_cons_zero]; rfl)) (fun K hK => ?_) AllReadyH.nil
                rw [if_pos (by rfl)]
                refine wp_appB (.tmp 51) (.tmp 54) rfl KB (.slice (some ⟨g11, 0, none⟩) 0 0) [] rfl ho11 oA x.body.length oc x.body rfl (hrb.below (by rw [HKB.out]; exact hb11)) (by simp; omega) (kle HKB hb11) ?_
                intro v12 W12 hg12
                have hb12 := hb11.trans (hg12.below ho11 (kle HKB hb11))
                have ho12 := hg12.own
                rw [List.nil_append] at ho12
                have hx12 := hx11.kept hg12.keep hne11
                have hzx12 := hx12.lt
                clear hg12
                obtain ⟨A6, c6, rfl, hq1, hq2, hrr12, hal12⟩ := ho12.form
                have hz12 := kle HKB hb12
                refine hK.out _ _ (hS _ hb12) (fun hHeld2 => ?_)
                clear hK K hHeld
                have hHeld := hHeld2
                clear hHeld2
                try simp only [Act.put, List.setIfInBounds_toArray, List.set_cons_zero, List.set_cons_succ]
                refine wpAnyH_ready (rs := [8]) (by kernel_rfl) (by simp) ?_
                refine AllReadyH.cons (by (simp only [List.getElem?_toArray, List.getElem?_cons_succ, List.getElem?_cons_zero]; rfl)) (fun K hK => ?_) AllReadyH.nil
                go_simp
                have hR13a := hR2.below hBw (w' := W12) (by rw [HKB.out]; exact hb12)
                have hsd := send_u (F := F0) A6 c6 x.body on hI HK.out hrr12 (fun hp ad e e2 => by have h5 := (hal12 ad e).1; have h6 := hF0lt _ e2; omega) hR13a.ek HX9.out (wf_int hwn).1 (wf_int hwn).2
                rw [HRR.out] at hsd
                dsimp only at hsd
                refine hsd.mono ?_
                rintro e W13 ⟨⟨A2, c2, rfl, hr13, hL13⟩, hfr⟩
                obtain ⟨A9, n9, c9, h91, h92⟩ := hfr _ rfl
                injection h91 with h91
                simp only [Array.mk.injEq, List.cons.injEq, Value.agg.injEq, Value.slice.injEq, and_true, true_and] at h91
                obtain ⟨rfl, rfl, rfl⟩ := h91
                clear hfr hsd
                have hR13 := (hR13a.callE hBw hL13).tight
                have hop13 := (hopb.kept (Keep.of_below (by rw [HKB.out]; exact hb12)) (Nat.not_le.2 hopb.lt)).kept hL13.2 (fun e => by have := hFbo _ e; omega)
                have hzz13 := hL13.2.size
                have hzw13 := kle HKB hb12
                have hnG : ∀ g, KB ≤ g → ¬ ((G0 g ∧ g < W12.heap.size) ∧ g < W13.heap.size) := fun g hg e => by have := hG0lt _ e.1.1; omega
                have p1 := hop13.cell 1
                have p4 := hop13.cell 4
                simp at p1 p4
                have hx13 := hx12.kept hL13.2 (fun e => by have := hF0lt _ e; have := hbge10; omega)
                have hml : m10 < W12.heap.size := hx12.lt
                have hmk := hbge10
                refine hK.out _ _ ⟨p1, p4⟩ (fun hHeld2 => ?_)
                clear hK K hHeld
                have hHeld := hHeld2
                clear hHeld2
                try simp only [Act.put, List.setIfInBounds_toArray, List.set_cons_zero, List.set_cons_succ]
                (refine tkI 9 (by (simp only [List.getElem?_toArray, List.getElem?_cons_succ, List.getElem?_cons_zero]; rfl)) (by kernel_rfl) (by kernel_rfl) (by kernel_rfl) (by exact fun _ _ _ h => h) (by rfl) (by (intro w hSw; (try dsimp only at hSw); go_simp <;> with_reducible rfl)) (by assumption) ?_; try simp only [Act.put, List.setIfInBounds_toArray, List.set_cons_zero, List.set_cons_succ])
                (refine tkI 10 (by (simp only [List.getElem?_toArray, List.getElem?_cons_succ, List.getElem?_cons_zero]; rfl)) (by kernel_rfl) (by kernel_rfl) (by kernel_rfl) (by exact fun _ _ _ h => h) (by rfl) (by (intro w hSw; (try dsimp only at hSw); go_simp <;> with_reducible rfl)) (by assumption) ?_; try simp only [Act.put, List.setIfInBounds_toArray, List.set_cons_zero, List.set_cons_succ])
                (refine tkI 11 (by (simp only [List.getElem?_toArray, List.getElem?_cons_succ, List.getElem?_cons_zero]; rfl)) (by kernel_rfl) (by kernel_rfl) (by kernel_rfl) (by exact fun _ _ _ h => h) (by rfl) (by (intro w hSw; (try dsimp only at hSw); go_simp <;> with_reducible rfl)) (by assumption) ?_; try simp only [Act.put, List.setIfInBounds_toArray, List.set_cons_zero, List.set_cons_succ])
                have z0 := hx13.cell 0
                have z1 := hx13.cell 1
                have z2 := hx13.cell 2
                have zf := fun i => hx13.frozen i
                have zl := hx13.lt
                simp at z0 z1 z2
                refine wpAnyH_ready (rs := [13]) (by kernel_rfl) (by simp) ?_
                refine AllReadyH.cons (by (simp only [List.getElem?_toArray, List.getElem?_cons_succ, List.getElem?_cons_zero]; rfl)) (fun K hK => ?_) AllReadyH.nil
                go_simp
                have zE := fill3 hx13 (.int .i64 Pk.seq) (.int .i64 Pk.ack) (.slice A2 Pk.body.length c2)
                have kE := keep3 W13 m10 (.int .i64 Pk.seq) (.int .i64 Pk.ack) (.slice A2 Pk.body.length c2)
                have hRE := hR13.kept hBw kE (fun g hg e => by have hg : g = m10 := hg; rcases e.1 with e | e; (have := hF0lt _ e; omega); omega) (fun g hg e => by have hg : g = m10 := hg; have := hG0lt _ e.1.1; omega) (fun g hg => by have hg : g = m10 := hg; omega)
                have hrE := hr13.kept' kE (fun hp ad e e2 => by have := h92 hp ad e; omega)
                have hopE := hop13.kept kE (fun e => by omega)
                generalize ((W13.setCell ⟨m10, 0, none⟩ (.int .i64 Pk.seq)).setCell ⟨m10, 1, none⟩ (.int .i64 Pk.ack)).setCell ⟨m10, 2, none⟩ (.slice A2 Pk.body.length c2) = WE at zE kE hRE hrE hopE ⊢
                have p1 := hopE.cell 1
                have p4 := hopE.cell 4
                simp at p1 p4
                have hzE := zE.lt
                refine hK.out _ _ ⟨p1, p4⟩ (fun hHeld2 => ?_)
                clear hK K hHeld
                have hHeld := hHeld2
                clear hHeld2
                try simp only [Act.put, List.setIfInBounds_toArray, List.set_cons_zero, List.set_cons_succ]
                (refine tkI 14 (by (simp only [List.getElem?_toArray, List.getElem?_cons_succ, List.getElem?_cons_zero]; rfl)) (by kernel_rfl) (by kernel_rfl) (by kernel_rfl) (by exact fun _ _ _ h => h) (by rfl) (by (intro w hSw; (try dsimp only at hSw); go_simp <;> with_reducible rfl)) (by assumption) ?_; try simp only [Act.put, List.setIfInBounds_toArray, List.set_cons_zero, List.set_cons_succ])
                refine wpAnyH_done (by kernel_rfl) ?_ _
                go_wp2_with fail
                go_meet
                exact ⟨m10, A2, c2, _, _, rfl, rfl, hRE, zE, hrE, (fun hp ad e => by have := h92 hp ad e; omega), hopE, fun e9 => by have e := hRE.qn.fq; have hg : q = m10 := e9.symm; have := hG0lt _ e.1.1; omega⟩
            case rest =>
              obtain ⟨bm, A2, c2, F2, G2, rfl, rfl, hR3, hn3, hr3, h92, hop3, hbq⟩ := hcut
              obtain ⟨w3, hw3⟩ : ∃ W, W = wc := ⟨_, rfl⟩
              subst hw3
              have hq9 := hR0.qn.lt
              clear hR0 hop o1 o2 o3 o4
              have q1 := hop3.cell 1
              have q4 := hop3.cell 4
              simp at q1 q4
              have hrb3 : RB w3 oA x.body.length x.body := HRB.out.below (B9.out hR3.bel)
              have hqlow : 0 < x.body.length → ∀ ad, oA = some ad → ad.block ≠ q := fun hp ad e e2 => by
                have h1 := halx hp ad e
                have h2 := hR3.lo2 q hR3.qn.fq
                omega
              have hsq := rsend_u oA oc x.body on hI HK.out hrb3 hqlow hR3.qn HX9.out (wf_int hwn).1 (wf_int hwn).2
              rw [HRR.out] at hsq
              dsimp only at hsq
              go_wp2_with fail
              refine hsq.mono ?_
              rintro e w4 ⟨A4, c4, rfl, hr4, hL4⟩
              have hR4 := hR3.callQ hBw hL4
              have hn4 := hn3.kept hL4.2 (fun e => hbq e)
              have hr34 := hr3.kept' hL4.2 (fun hp ad e e2 => by have := h92 hp ad e; omega)
              have hR5 := hR4.below hBw ((Below.refl w4.heap.size w4).alloc (Nat.le_refl _) (.cells #[.int .i64 Pk.seq, .int .i64 Pk.ack, .slice A4 Pk.body.length c4] 32))
              have hn5 := hn4.alloc (.cells #[.int .i64 Pk.seq, .int .i64 Pk.ack, .slice A4 Pk.body.length c4] 32)
              have hr35 := hr34.alloc (.cells #[.int .i64 Pk.seq, .int .i64 Pk.ack, .slice A4 Pk.body.length c4] 32)
              have hr45 := hr4.alloc (.cells #[.int .i64 Pk.seq, .int .i64 Pk.ack, .slice A4 Pk.body.length c4] 32)
              clear hsq q1 q4 hop3
              have y0 := hn5.cell 0
              have y1 := hn5.cell 1
              have y2 := hn5.cell 2
              simp at y0 y1 y2
              go_wp2_with fail
              refine (rsame_any Pk Pk A2 A4 _ c2 _ c4 _ hr35 hr45).mono ?_
              rintro e w6 ⟨rfl, hb6⟩
              rw [sameP_self]
              have hR6 := hR5.below hBw hb6
              go_wp2_with fail
              go_meet
              exact ⟨rfl, l', s', m, _, _, hR6, hinv⟩
        · by_cases h2 : ok = 2
          · as_aux_lemma =>
              subst h2
              have hinv := Lib.hid (hI.ticked on HK.out (wf_int hwn).1)
              go_upto_region 17 with fail
              have o1d : w1.drew.cell? ⟨bo, 1, none⟩ = some (.int .i64 on) := o1
              have hFbo' : ¬ F0 bo := fun e => by have := hFbo _ e; omega
              have htk := tick_u (w := w1.drew) on hI hR0.drew.ek (wf_int hwn).1 (wf_int hwn).2
              refine wp_region_held_drew (S := (fun W => W.cell? ⟨bo, 1, none⟩ = some (.int .i64 on))) (by kernel_rfl) o1d (fun hHeld => ?_)
              (refine tkI 0 (by (simp only [List.getElem?_toArray, List.getElem?_cons_succ, List.getElem?_cons_zero]; rfl)) (by kernel_rfl) (by kernel_rfl) (by kernel_rfl) (by exact fun _ _ _ h => h) (by rfl) (by (intro w hSw; (try dsimp only at hSw); go_simp <;> with_reducible rfl)) (by assumption) ?_; try simp only [Act.put, List.setIfInBounds_toArray, List.set_cons_zero, List.set_cons_succ])
              (refine tkI 1 (by (simp only [List.getElem?_toArray, List.getElem?_cons_succ, List.getElem?_cons_zero]; rfl)) (by kernel_rfl) (by kernel_rfl) (by kernel_rfl) (by exact fun _ _ _ h => h) (by rfl) (by (intro w hSw; (try dsimp only at hSw); go_simp <;> with_reducible rfl)) (by assumption) ?_; try simp only [Act.put, List.setIfInBounds_toArray, List.set_cons_zero, List.set_cons_succ])
              (refine tkI 2 (by (simp only [List.getElem?_toArray, List.getElem?_cons_succ, List.getElem?_cons_zero]; rfl)) (by kernel_rfl) (by kernel_rfl) (by kernel_rfl) (by exact fun _ _ _ h => h) (by rfl) (by (intro w hSw; (try dsimp only at hSw); go_simp <;> with_reducible rfl)) (by assumption) ?_; try simp only [Act.put, List.setIfInBounds_toArray, List.set_cons_zero, List.set_cons_succ])
              (refine tkI 4 (by (simp only [List.getElem?_toArray, List.getElem?_cons_succ, List.getElem?_cons_zero]; rfl)) (by kernel_rfl) (by kernel_rfl) (by kernel_rfl) (by exact fun _ _ _ h => h) (by rfl) (by (intro w hSw; (try dsimp only at hSw); go_simp <;> with_reducible rfl)) (by assumption) ?_; try simp only [Act.put, List.setIfInBounds_toArray, List.set_cons_zero, List.set_cons_succ])
              (refine tkI 5 (by (simp only [List.getElem?_toArray, List.getElem?_cons_succ, List.getElem?_cons_zero]; rfl)) (by kernel_rfl) (by kernel_rfl) (by kernel_rfl) (by exact fun _ _ _ h => h) (by rfl) (by (intro w hSw; (try dsimp only at hSw); go_simp <;> with_reducible rfl)) (by assumption) ?_; try simp only [Act.put, List.setIfInBounds_toArray, List.set_cons_zero, List.set_cons_succ])
              (refine tkI 6 (by (simp only [List.getElem?_toArray, List.getElem?_cons_succ, List.getElem?_cons_zero]; rfl)) (by kernel_rfl) (by kernel_rfl) (by kernel_rfl) (by exact fun _ _ _ h => h) (by rfl) (by (intro w hSw; (try dsimp only at hSw); go_simp <;> with_reducible rfl)) (by assumption) ?_; try simp only [Act.put, List.setIfInBounds_toArray, List.set_cons_zero, List.set_cons_succ])
              refine wpAnyH_ready (rs := [3]) (by kernel_rfl) (by simp) ?_
              refine AllReadyH.cons (by (simp only [List.getElem?_toArray, List.getElem?_cons_succ, List.getElem?_cons_zero]; rfl)) (fun K hK => ?_) AllReadyH.nil
              go_simp
              refine htk.mono ?_
              rintro e w2 ⟨lv, rfl, hP2, hL2⟩
              have hR2 := hR0.drew.callE hBw hL2
              have o21 : w2.cell? ⟨bo, 1, none⟩ = some (.int .i64 on) := hL2.2.cell o1 hFbo'
              have hqq := rtick_u (w := w2) on hI HK.out hR2.qn (wf_int hwn).1 (wf_int hwn).2
              refine hK.out _ _ o21 (fun hHeld2 => ?_)
              clear hK K hHeld
              have hHeld := hHeld2
              clear hHeld2
              try simp only [Act.put, List.setIfInBounds_toArray, List.set_cons_zero, List.set_cons_succ]
              refine wpAnyH_ready (rs := [7]) (by kernel_rfl) (by simp) ?_
              refine AllReadyH.cons (by (simp only [List.getElem?_toArray, List.getElem?_cons_succ, List.getElem?_cons_zero]; rfl)) (fun K hK => ?_) AllReadyH.nil
              go_simp
              refine hqq.mono ?_
              rintro e w3 ⟨bv2, rfl, hP3, hL3⟩
              have hR3 := hR2.callQ hBw hL3
              have hq2 := hR2.qn.lt
              have hq1 := hR0.qn.lt
              have hP2' := hP2.kept hL3.2 (fun g h1 h2 e => by have h5 : w1.heap.size ≤ g := h1; omega)
              have o31 : w3.cell? ⟨bo, 1, none⟩ = some (.int .i64 on) := hL3.2.cell o21 (fun e => by have h5 := hGbo _ hR0.qn.fq; have e : bo = q := e; omega)
              refine hK.out _ _ o31 (fun hHeld2 => ?_)
              clear hK K hHeld
              have hHeld := hHeld2
              clear hHeld2
              try simp only [Act.put, List.setIfInBounds_toArray, List.set_cons_zero, List.set_cons_succ]
              (refine tkI 8 (by (simp only [List.getElem?_toArray, List.getElem?_cons_succ, List.getElem?_cons_zero]; rfl)) (by kernel_rfl) (by kernel_rfl) (by kernel_rfl) (by exact fun _ _ _ h => h) (by rfl) (by (intro w hSw; (try dsimp only at hSw); go_simp <;> with_reducible rfl)) (by assumption) ?_; try simp only [Act.put, List.setIfInBounds_toArray, List.set_cons_zero, List.set_cons_succ])
              (refine tkI 9 (by (simp only [List.getElem?_toArray, List.getElem?_cons_succ, List.getElem?_cons_zero]; rfl)) (by kernel_rfl) (by kernel_rfl) (by kernel_rfl) (by exact fun _ _ _ h => h) (by rfl) (by (intro w hSw; (try dsimp only at hSw); go_simp <;> with_reducible rfl)) (by assumption) ?_; try simp only [Act.put, List.setIfInBounds_toArray, List.set_cons_zero, List.set_cons_succ])
              refine wpAnyH_done (by kernel_rfl) ?_ _
              obtain ⟨Aa, ca, rfl, _, _, ha⟩ := hP2'.form
              obtain ⟨Ab, cb, rfl, _, _, hbp⟩ := hP3
              have hlen : (tickP m on l).length ≤ 64 := by have := tickP_le m on l; have := hI.inv.len; omega
              obtain ⟨N, hN⟩ : ∃ N, (tickP m on l).length = N := ⟨_, rfl⟩
              rw [hN] at hlen
              try rw [hN]
              have hb0 := RowKit.Below.refl w3.heap.size w3
              clear htk hqq hP2 hL2 hL3 o31 o21 o1 o1d hR2 hR0 hop o2 o3 o4 hrb
              go_wp2_with fail
              go_loopw [7, 14] (fun s7 i wr => s7 = .bool true ∧ ∃ j : Nat, i = .int .i64 (j : Int) ∧ j ≤ N ∧ RowKit.Below w3.heap.size w3 wr) (fun _ i _ => N - (intOf i).toNat)
              case atStart => exact ⟨by first | rfl | simp, 0, by go_num, by omega, hb0⟩
              case round =>
                obtain ⟨rfl, j, rfl, hj, hb⟩ := hrel
                clear hb0
                by_cases hlt2 : j < N
                · have hlz2 : (j : Int) < (N : Int) := by omega
                  have hj0 : (0 : Int) ≤ (j : Int) := by omega
                  obtain ⟨y, hy⟩ : ∃ y, (tickP m on l)[j]? = some y := ⟨_, List.getElem?_eq_getElem (by omega)⟩
                  obtain ⟨ba, xa, rfl, a0, a1, a2, hxa⟩ := ha j y hy
                  obtain ⟨bb, Ay, cy, rfl, b0, b1, b2, hyb⟩ := hbp j y hy
                  obtain ⟨Ax, cx, rfl, _, _, hxr, _⟩ := hxa.form
                  have hS : ∀ W, RowKit.Below wr.heap.size wr W → W.cell? ⟨ba, j * 3, none⟩ = some (.int .i64 y.seq) ∧ W.cell? ⟨ba, j * 3 + 1, none⟩ = some (.int .i64 y.ack) ∧ W.cell? ⟨ba, j * 3 + 2, none⟩ = some (.slice Ax y.body.length cx) ∧ W.cell? ⟨bb, j * 3, none⟩ = some (.int .i64 y.seq) ∧ W.cell? ⟨bb, j * 3 + 1, none⟩ = some (.int .i64 y.ack) ∧ W.cell? ⟨bb, j * 3 + 2, none⟩ = some (.slice Ay y.body.length cy) := fun W hb2 => by
                    have hb3 := hb.trans (hb2.mono hb.size)
                    exact ⟨(hb3.cell (World.block_lt_of_cell? _ _ a0)).trans a0, (hb3.cell (World.block_lt_of_cell? _ _ a1)).trans a1, (hb3.cell (World.block_lt_of_cell? _ _ a2)).trans a2, (hb3.cell (World.block_lt_of_cell? _ _ b0)).trans b0, (hb3.cell (World.block_lt_of_cell? _ _ b1)).trans b1, (hb3.cell (World.block_lt_of_cell? _ _ b2)).trans b2⟩
                  have hbd := hb.drew
                  have hsm := rsame_any y y Ax Ay _ cx _ cy wr.drew (hxr.below hbd) (hyb.below hbd)
                  rw [sameP_self] at hsm
                  clear a0 a1 a2 b0 b1 b2 hxr hyb hxa hy
                  go_upto_region 22 with fail
                  refine wp_region_held_drew (S := (fun W => W.cell? ⟨ba, j * 3, none⟩ = some (.int .i64 y.seq) ∧ W.cell? ⟨ba, j * 3 + 1, none⟩ = some (.int .i64 y.ack) ∧ W.cell? ⟨ba, j * 3 + 2, none⟩ = some (.slice Ax y.body.length cx) ∧ W.cell? ⟨bb, j * 3, none⟩ = some (.int .i64 y.seq) ∧ W.cell? ⟨bb, j * 3 + 1, none⟩ = some (.int .i64 y.ack) ∧ W.cell? ⟨bb, j * 3 + 2, none⟩ = some (.slice Ay y.body.length cy))) (by kernel_rfl) (hS _ (RowKit.Below.refl wr.heap.size wr).drew) (fun hHeld => ?_)
                  (refine tkI 0 (by (simp only [List.getElem?_toArray, List.getElem?_cons_succ, List.getElem?_cons_zero]; rfl)) (by kernel_rfl) (by kernel_rfl) (by kernel_rfl) (by exact fun _ _ _ h => h) (by rfl) (by (intro w hSw; (try dsimp only at hSw); go_simp <;> with_reducible rfl)) (by assumption) ?_; try simp only [Act.put, List.setIfInBounds_toArray, List.set_cons_zero, List.set_cons_succ])
                  (refine tkI 1 (by (simp only [List.getElem?_toArray, List.getElem?_cons_succ, List.getElem?_cons_zero]; rfl)) (by kernel_rfl) (by kernel_rfl) (by kernel_rfl) (by exact fun _ _ _ h => h) (by rfl) (by (intro w hSw; (try dsimp only at hSw); go_simp <;> with_reducible rfl)) (by assumption) ?_; try simp only [Act.put, List.setIfInBounds_toArray, List.set_cons_zero, List.set_cons_succ])
                  (refine tkI 2 (by (simp only [List.getElem?_toArray, List.getElem?_cons_succ, List.getElem?_cons_zero]; rfl)) (by kernel_rfl) (by kernel_rfl) (by kernel_rfl) (by exact fun _ _ _ h => h) (by rfl) (by (intro w hSw; (try dsimp only at hSw); go_simp <;> with_reducible rfl)) (by assumption) ?_; try simp only [Act.put, List.setIfInBounds_toArray, List.set_cons_zero, List.set_cons_succ])
                  (refine tkI 3 (by (simp only [List.getElem?_toArray, List.getElem?_cons_succ, List.getElem?_cons_zero]; rfl)) (by kernel_rfl) (by kernel_rfl) (by kernel_rfl) (by exact fun _ _ _ h => h) (by rfl) (by (intro w hSw; (try dsimp only at hSw); go_simp <;> with_reducible rfl)) (by assumption) ?_; try simp only [Act.put, List.setIfInBounds_toArray, List.set_cons_zero, List.set_cons_succ])
                  (refine tkI 4 (by (simp only [List.getElem?_toArray, List.getElem?_cons_succ, List.getElem?_cons_zero]; rfl)) (by kernel_rfl) (by kernel_rfl) (by kernel_rfl) (by exact fun _ _ _ h => h) (by rfl) (by (intro w hSw; (try dsimp only at hSw); go_simp <;> with_reducible rfl)) (by assumption) ?_; try simp only [Act.put, List.setIfInBounds_toArray, List.set_cons_zero, List.set_cons_succ])
                  (refine tkI 5 (by (simp only [List.getElem?_toArray, List.getElem?_cons_succ, List.getElem?_cons_zero]; rfl)) (by kernel_rfl) (by kernel_rfl) (by kernel_rfl) (by exact fun _ _ _ h => h) (by rfl) (by (intro w hSw; (try dsimp only at hSw); go_simp <;> with_reducible rfl)) (by assumption) ?_; try simp only [Act.put, List.setIfInBounds_toArray, List.set_cons_zero, List.set_cons_succ])
                  (refine tkI 6 (by (simp only [List.getElem?_toArray, List.getElem?_cons_succ, List.getElem?_cons_zero]; rfl)) (by kernel_rfl) (by kernel_rfl) (by kernel_rfl) (by exact fun _ _ _ h => h) (by rfl) (by (intro w hSw; (try dsimp only at hSw); go_simp <;> with_reducible rfl)) (by assumption) ?_; try simp only [Act.put, List.setIfInBounds_toArray, List.set_cons_zero, List.set_cons_succ])
                  (refine tkI 7 (by (simp only [List.getElem?_toArray, List.getElem?_cons_succ, List.getElem?_cons_zero]; rfl)) (by kernel_rfl) (by kernel_rfl) (by kernel_rfl) (by exact fun _ _ _ h => h) (by rfl) (by (intro w hSw; (try dsimp only at hSw); go_simp <;> with_reducible rfl)) (by assumption) ?_; try simp only [Act.put, List.setIfInBounds_toArray, List.set_cons_zero, List.set_cons_succ])
                  refine wpAnyH_ready (rs := [8]) (by kernel_rfl) (by simp) ?_
                  refine AllReadyH.cons (by (simp only [List.getElem?_toArray, List.getElem?_cons_succ, List.getElem?_cons_zero]; rfl)) (fun K hK => ?_) AllReadyH.nil
                  go_simp
                  refine hsm.mono ?_
                  rintro e w6 ⟨rfl, hb6⟩
                  have hd6 : RowKit.Below wr.heap.size wr w6 := (RowKit.Below.refl wr.heap.size wr).drew.trans hb6
                  have s6 := hS _ hd6
                  refine hK.out _ _ s6 (fun hHeld2 => ?_)
                  clear hK K hHeld
                  have hHeld := hHeld2
                  clear hHeld2
                  try simp only [Act.put, List.setIfInBounds_toArray, List.set_cons_zero, List.set_cons_succ]
                  (refine tkI 9 (by (simp only [List.getElem?_toArray, List.getElem?_cons_succ, List.getElem?_cons_zero]; rfl)) (by kernel_rfl) (by kernel_rfl) (by kernel_rfl) (by exact fun _ _ _ h => h) (by rfl) (by (intro w hSw; (try dsimp only at hSw); go_simp <;> with_reducible rfl)) (by assumption) ?_; try simp only [Act.put, List.setIfInBounds_toArray, List.set_cons_zero, List.set_cons_succ])
                  refine wpAnyH_done (by kernel_rfl) ?_ _
                  have hb7 := hb.trans (hd6.mono hb.size)
                  go_wp2
                  go_roundw
                  case measure => simp [intOf]; omega
                  case rel => exact ⟨rfl, j + 1, by go_num, by omega, hb7⟩
                · have hlz2 : ¬ (j : Int) < (N : Int) := by omega
                  have hRE := hR3.below hBw hb
                  go_wp2_with fail
                  go_meet
                  exact ⟨rfl, _, s, m, _, _, hRE, hinv⟩
          · by_cases h3 : ok = 3
            · as_aux_lemma =>
                subst h3
                have hinv := hI.on x HK.out
                have hsd := on_u (F := F0) oA oc x hI HK.out hrb hlow hR0.ek HX9.out
                obtain ⟨R, hRR⟩ : ∃ R, onR l m x = R := ⟨_, rfl⟩
                rw [hRR] at hsd hinv
                have HRR := Lib.hid hRR
                clear hRR
                obtain ⟨y, fl, a, l', m'⟩ := R
                dsimp only at hsd hinv
                replace hinv := Lib.hid hinv
                have hff : (fl == fl) = true := beq_self_eq_true fl
                have hqw1 := hR0.qn.lt
                go_wp2_with fail
                refine hsd.mono ?_
                rintro e w2 ⟨A2, c2, rfl, hr2, h92, hL2⟩
                have hR2 := hR0.callE hBw hL2
                have hop2 := hop.kept hL2.2 (fun e => by have := hFbo _ e; omega)
                have hqw2 := hR2.qn.lt
                have hr3 := hr2.alloc (.cells #[.int .i64 0, .int .i64 a, .slice none 0 0] 32)
                have hR3 := hR2.below hBw ((Below.refl w2.heap.size w2).alloc (Nat.le_refl _) (.cells #[.int .i64 0, .int .i64 a, .slice none 0 0] 32))
                have hop3 := hop2.alloc (.cells #[.int .i64 0, .int .i64 a, .slice none 0 0] 32)
                have hn3 := Blk.new w2 32 #[.int .i64 0, .int .i64 a, .slice none 0 0]
                have hrb3 := (hrb.kept' hL2.2 (fun hp ad e => hlow hp ad e)).alloc (.cells #[.int .i64 0, .int .i64 a, .slice none 0 0] 32)
                have q2 := hop3.cell 2
                have q3 := hop3.cell 3
                have q4 := hop3.cell 4
                simp at q2 q3 q4
                have hqlow : 0 < x.body.length → ∀ ad, oA = some ad → ad.block ≠ q := fun hp ad e e2 => by
                  have h1 := halx hp ad e
                  have h2 := hR3.lo2 q hR3.qn.fq
                  omega
                have hsq := ron_u (G := _) oA oc x hI HK.out hrb3 hqlow hR3.qn HX9.out
                rw [HRR.out] at hsq
                dsimp only at hsq
                clear hsd hop2 hr2 o1 o2 o3 o4
                go_wp2_with fail
                generalize hb2 : w2.heap.size = b2 at *
                generalize w2.alloc (.cells #[.int .i64 0, .int .i64 a, .slice none 0 0] 32) = w3 at *
                refine hsq.mono ?_
                rintro e w4 ⟨A4, c4, rfl, hr4, _, hL4⟩
                have hR4 := hR3.callQ hBw hL4
                have hqb : ¬ b2 = q := by omega
                have hn4 := hn3.kept hL4.2 hqb
                have hr34 := hr3.kept' hL4.2 (fun hp ad e e2 => by have := h92 hp ad e; omega)
                have hR5 := hR4.below hBw ((Below.refl w4.heap.size w4).alloc (Nat.le_refl _) (.cells #[.int .i64 0, .int .i64 a, .slice none 0 0] 32))
                have hn5 := hn4.alloc (.cells #[.int .i64 0, .int .i64 a, .slice none 0 0] 32)
                have hr35 := hr34.alloc (.cells #[.int .i64 0, .int .i64 a, .slice none 0 0] 32)
                have hr45 := hr4.alloc (.cells #[.int .i64 0, .int .i64 a, .slice none 0 0] 32)
                clear hsq q2 q3 q4 hop3
                have y0 := hn5.cell 0
                have y1 := hn5.cell 1
                have y2 := hn5.cell 2
                simp at y0 y1 y2
                have hs1 := run_str _ A2 _ c2 _ hr35
                have hs2 := run_str _ A4 _ c4 _ hr45
                go_wp2_with fail
                refine (rsame_any ⟨0, a, []⟩ ⟨0, a, []⟩ none none 0 0 0 0 _ (RB.empty _) (RB.empty _)).mono ?_
                rintro e w6 ⟨rfl, hb6⟩
                rw [sameP_self]
                have hR6 := hR5.below hBw hb6
                go_wp2_with fail
                go_meet
                exact ⟨rfl, l', s, m', _, _, hR6, hinv⟩
            · as_aux_lemma =>
                have hup : Hid (InvT ((k + 1 : Nat) : Int) l s m) := Lib.hid (hI.up (by omega))
                have b1 : (ok == 1) = false := beq_eq_false_iff_ne.2 h1
                have b2 : (ok == 2) = false := beq_eq_false_iff_ne.2 h2
                have b3 : (ok == 3) = false := beq_eq_false_iff_ne.2 h3
                clear hI hwn hsz h1 h2 h3 hlz hk0 hlt hkn hbg hbig
                go_wp2_with fail
                go_meet
                exact ⟨rfl, l, s, m, F0, G0, hR0, hup⟩
      case rest =>
        obtain ⟨rfl, l2, s2, m2, F2, G2, hR, hst2⟩ := hcut
        clear hR0 hI hFbo hGbo o1 o2 o3 o4 hop hrb hlow hbol
        have hRd := hR.drew
        obtain ⟨vd, hEd, _⟩ := hRd.ek
        obtain ⟨vq, xs, hqE, hqm⟩ := hRd.qn
        have hqn : xs.length = l2.length := by rw [← hqm, List.length_map]
        obtain ⟨Aq, cq, hvq, hfm⟩ := hqE.own.form
        clear hfm
        rw [hqn] at hvq
        subst hvq
        have sq := hqE.fields
        clear hqn hqm
        go_upto_region 27 with fail
        refine wp_region_held_drew (S := (fun W => W.cell? ⟨q, 0, none⟩ = some (.slice Aq l2.length cq) ∧ W.cell? ⟨q, 1, none⟩ = some (.int .i64 s2) ∧ W.cell? ⟨q, 2, none⟩ = some (.int .i64 m2))) (by kernel_rfl) sq (fun hHeld => ?_)
        (refine tkI 0 (by (simp only [List.getElem?_toArray, List.getElem?_cons_succ, List.getElem?_cons_zero]; rfl)) (by kernel_rfl) (by kernel_rfl) (by kernel_rfl) (by exact fun _ _ _ h => h) (by rfl) (by (intro w hSw; (try dsimp only at hSw); go_simp <;> with_reducible rfl)) (by assumption) ?_; try simp only [Act.put, List.setIfInBounds_toArray, List.set_cons_zero, List.set_cons_succ])
        (refine tkI 1 (by (simp only [List.getElem?_toArray, List.getElem?_cons_succ, List.getElem?_cons_zero]; rfl)) (by kernel_rfl) (by kernel_rfl) (by kernel_rfl) (by exact fun _ _ _ h => h) (by rfl) (by (intro w hSw; (try dsimp only at hSw); go_simp <;> with_reducible rfl)) (by assumption) ?_; try simp only [Act.put, List.setIfInBounds_toArray, List.set_cons_zero, List.set_cons_succ])
        (refine tkI 2 (by (simp only [List.getElem?_toArray, List.getElem?_cons_succ, List.getElem?_cons_zero]; rfl)) (by kernel_rfl) (by kernel_rfl) (by kernel_rfl) (by exact fun _ _ _ h => h) (by rfl) (by (intro w hSw; (try dsimp only at hSw); go_simp <;> with_reducible rfl)) (by assumption) ?_; try simp only [Act.put, List.setIfInBounds_toArray, List.set_cons_zero, List.set_cons_succ])
        (refine tkI 3 (by (simp only [List.getElem?_toArray, List.getElem?_cons_succ, List.getElem?_cons_zero]; rfl)) (by kernel_rfl) (by kernel_rfl) (by kernel_rfl) (by exact fun _ _ _ h => h) (by rfl) (by (intro w hSw; (try dsimp only at hSw); go_simp <;> with_reducible rfl)) (by assumption) ?_; try simp only [Act.put, List.setIfInBounds_toArray, List.set_cons_zero, List.set_cons_succ])
        (refine tkI 5 (by (simp only [List.getElem?_toArray, List.getElem?_cons_succ, List.getElem?_cons_zero]; rfl)) (by kernel_rfl) (by kernel_rfl) (by kernel_rfl) (by exact fun _ _ _ h => h) (by rfl) (by (intro w hSw; (try dsimp only at hSw); go_simp <;> with_reducible rfl)) (by assumption) ?_; try simp only [Act.put, List.setIfInBounds_toArray, List.set_cons_zero, List.set_cons_succ])
        (refine tkI 6 (by (simp only [List.getElem?_toArray, List.getElem?_cons_succ, List.getElem?_cons_zero]; rfl)) (by kernel_rfl) (by kernel_rfl) (by kernel_rfl) (by exact fun _ _ _ h => h) (by rfl) (by (intro w hSw; (try dsimp only at hSw); go_simp <;> with_reducible rfl)) (by assumption) ?_; try simp only [Act.put, List.setIfInBounds_toArray, List.set_cons_zero, List.set_cons_succ])
        (refine tkI 7 (by (simp only [List.getElem?_toArray, List.getElem?_cons_succ, List.getElem?_cons_zero]; rfl)) (by kernel_rfl) (by kernel_rfl) (by kernel_rfl) (by exact fun _ _ _ h => h) (by rfl) (by (intro w hSw; (try dsimp only at hSw); go_simp <;> with_reducible rfl)) (by assumption) ?_; try simp only [Act.put, List.setIfInBounds_toArray, List.set_cons_zero, List.set_cons_succ])
        (refine tkI 8 (by (simp only [List.getElem?_toArray, List.getElem?_cons_succ, List.getElem?_cons_zero]; rfl)) (by kernel_rfl) (by kernel_rfl) (by kernel_rfl) (by exact fun _ _ _ h => h) (by rfl) (by (intro w hSw; (try dsimp only at hSw); go_simp <;> with_reducible rfl)) (by assumption) ?_; try simp only [Act.put, List.setIfInBounds_toArray, List.set_cons_zero, List.set_cons_succ])
        (refine tkI 9 (by (simp only [List.getElem?_toArray, List.getElem?_cons_succ, List.getElem?_cons_zero]; rfl)) (by kernel_rfl) (by kernel_rfl) (by kernel_rfl) (by exact fun _ _ _ h => h) (by rfl) (by (intro w hSw; (try dsimp only at hSw); go_simp <;> with_reducible rfl)) (by assumption) ?_; try simp only [Act.put, List.setIfInBounds_toArray, List.set_cons_zero, List.set_cons_succ])
        refine wpAnyH_ready (rs := [4]) (by kernel_rfl) (by simp) ?_
        refine AllReadyH.cons (by (simp only [List.getElem?_toArray, List.getElem?_cons_succ, List.getElem?_cons_zero]; rfl)) (fun K hK => ?_) AllReadyH.nil
        go_simp
        refine (open_any hEd).mono ?_
        rintro e wq ⟨rfl, hww⟩
        rw [hww]
        clear hww wq
        refine hK.out _ _ sq (fun hHeld2 => ?_)
        clear hK K hHeld
        have hHeld := hHeld2
        clear hHeld2
        try simp only [Act.put, List.setIfInBounds_toArray, List.set_cons_zero, List.set_cons_succ]
        (refine tkI 10 (by (simp only [List.getElem?_toArray, List.getElem?_cons_succ, List.getElem?_cons_zero]; rfl)) (by kernel_rfl) (by kernel_rfl) (by kernel_rfl) (by exact fun _ _ _ h => h) (by rfl) (by (intro w hSw; (try dsimp only at hSw); go_simp <;> with_reducible rfl)) (by assumption) ?_; try simp only [Act.put, List.setIfInBounds_toArray, List.set_cons_zero, List.set_cons_succ])
        (refine tkI 11 (by (simp only [List.getElem?_toArray, List.getElem?_cons_succ, List.getElem?_cons_zero]; rfl)) (by kernel_rfl) (by kernel_rfl) (by kernel_rfl) (by exact fun _ _ _ h => h) (by rfl) (by (intro w hSw; (try dsimp only at hSw); go_simp <;> with_reducible rfl)) (by assumption) ?_; try simp only [Act.put, List.setIfInBounds_toArray, List.set_cons_zero, List.set_cons_succ])
        (refine tkI 12 (by (simp only [List.getElem?_toArray, List.getElem?_cons_succ, List.getElem?_cons_zero]; rfl)) (by kernel_rfl) (by kernel_rfl) (by kernel_rfl) (by exact fun _ _ _ h => h) (by rfl) (by (intro w hSw; (try dsimp only at hSw); go_simp <;> with_reducible rfl)) (by assumption) ?_; try simp only [Act.put, List.setIfInBounds_toArray, List.set_cons_zero, List.set_cons_succ])
        (refine tkI 13 (by (simp only [List.getElem?_toArray, List.getElem?_cons_succ, List.getElem?_cons_zero]; rfl)) (by kernel_rfl) (by kernel_rfl) (by kernel_rfl) (by exact fun _ _ _ h => h) (by rfl) (by (intro w hSw; (try dsimp only at hSw); go_simp <;> with_reducible rfl)) (by assumption) ?_; try simp only [Act.put, List.setIfInBounds_toArray, List.set_cons_zero, List.set_cons_succ])
        (refine tkI 15 (by (simp only [List.getElem?_toArray, List.getElem?_cons_succ, List.getElem?_cons_zero]; rfl)) (by kernel_rfl) (by kernel_rfl) (by kernel_rfl) (by exact fun _ _ _ h => h) (by rfl) (by (intro w hSw; (try dsimp only at hSw); go_simp <;> with_reducible rfl)) (by assumption) ?_; try simp only [Act.put, List.setIfInBounds_toArray, List.set_cons_zero, List.set_cons_succ])
        (refine tkI 16 (by (simp only [List.getElem?_toArray, List.getElem?_cons_succ, List.getElem?_cons_zero]; rfl)) (by kernel_rfl) (by kernel_rfl) (by kernel_rfl) (by exact fun _ _ _ h => h) (by rfl) (by (intro w hSw; (try dsimp only at hSw); go_simp <;> with_reducible rfl)) (by assumption) ?_; try simp only [Act.put, List.setIfInBounds_toArray, List.set_cons_zero, List.set_cons_succ])
        (refine tkI 17 (by (simp only [List.getElem?_toArray, List.getElem?_cons_succ, List.getElem?_cons_zero]; rfl)) (by kernel_rfl) (by kernel_rfl) (by kernel_rfl) (by exact fun _ _ _ h => h) (by rfl) (by (intro w hSw; (try dsimp only at hSw); go_simp <;> with_reducible rfl)) (by assumption) ?_; try simp only [Act.put, List.setIfInBounds_toArray, List.set_cons_zero, List.set_cons_succ])
        (refine tkI 18 (by (simp only [List.getElem?_toArray, List.getElem?_cons_succ, List.getElem?_cons_zero]; rfl)) (by kernel_rfl) (by kernel_rfl) (by kernel_rfl) (by exact fun _ _ _ h => h) (by rfl) (by (intro w hSw; (try dsimp only at hSw); go_simp <;> with_reducible rfl)) (by assumption) ?_; try simp only [Act.put, List.setIfInBounds_toArray, List.set_cons_zero, List.set_cons_succ])
        refine wpAnyH_ready (rs := [14]) (by kernel_rfl) (by simp) ?_
        refine AllReadyH.cons (by (simp only [List.getElem?_toArray, List.getElem?_cons_succ, List.getElem?_cons_zero]; rfl)) (fun K hK => ?_) AllReadyH.nil
        go_simp
        refine (mark_any hEd).mono ?_
        rintro e wq ⟨rfl, hww⟩
        rw [hww]
        clear hww wq
        refine hK.out _ _ sq (fun hHeld2 => ?_)
        clear hK K hHeld
        have hHeld := hHeld2
        clear hHeld2
        try simp only [Act.put, List.setIfInBounds_toArray, List.set_cons_zero, List.set_cons_succ]
        (refine tkI 19 (by (simp only [List.getElem?_toArray, List.getElem?_cons_succ, List.getElem?_cons_zero]; rfl)) (by kernel_rfl) (by kernel_rfl) (by kernel_rfl) (by exact fun _ _ _ h => h) (by rfl) (by (intro w hSw; (try dsimp only at hSw); go_simp <;> with_reducible rfl)) (by assumption) ?_; try simp only [Act.put, List.setIfInBounds_toArray, List.set_cons_zero, List.set_cons_succ])
        (refine tkI 20 (by (simp only [List.getElem?_toArray, List.getElem?_cons_succ, List.getElem?_cons_zero]; rfl)) (by kernel_rfl) (by kernel_rfl) (by kernel_rfl) (by exact fun _ _ _ h => h) (by rfl) (by (intro w hSw; (try dsimp only at hSw); go_simp <;> with_reducible rfl)) (by assumption) ?_; try simp only [Act.put, List.setIfInBounds_toArray, List.set_cons_zero, List.set_cons_succ])
        (refine tkI 21 (by (simp only [List.getElem?_toArray, List.getElem?_cons_succ, List.getElem?_cons_zero]; rfl)) (by kernel_rfl) (by kernel_rfl) (by kernel_rfl) (by exact fun _ _ _ h => h) (by rfl) (by (intro w hSw; (try dsimp only at hSw); go_simp <;> with_reducible rfl)) (by assumption) ?_; try simp only [Act.put, List.setIfInBounds_toArray, List.set_cons_zero, List.set_cons_succ])
        (refine tkI 22 (by (simp only [List.getElem?_toArray, List.getElem?_cons_succ, List.getElem?_cons_zero]; rfl)) (by kernel_rfl) (by kernel_rfl) (by kernel_rfl) (by exact fun _ _ _ h => h) (by rfl) (by (intro w hSw; (try dsimp only at hSw); go_simp <;> with_reducible rfl)) (by assumption) ?_; try simp only [Act.put, List.setIfInBounds_toArray, List.set_cons_zero, List.set_cons_succ])
        (refine tkI 24 (by (simp only [List.getElem?_toArray, List.getElem?_cons_succ, List.getElem?_cons_zero]; rfl)) (by kernel_rfl) (by kernel_rfl) (by kernel_rfl) (by exact fun _ _ _ h => h) (by rfl) (by (intro w hSw; (try dsimp only at hSw); go_simp <;> with_reducible rfl)) (by assumption) ?_; try simp only [Act.put, List.setIfInBounds_toArray, List.set_cons_zero, List.set_cons_succ])
        (refine tkI 25 (by (simp only [List.getElem?_toArray, List.getElem?_cons_succ, List.getElem?_cons_zero]; rfl)) (by kernel_rfl) (by kernel_rfl) (by kernel_rfl) (by exact fun _ _ _ h => h) (by rfl) (by (intro w hSw; (try dsimp only at hSw); go_simp <;> with_reducible rfl)) (by assumption) ?_; try simp only [Act.put, List.setIfInBounds_toArray, List.set_cons_zero, List.set_cons_succ])
        (refine tkI 26 (by (simp only [List.getElem?_toArray, List.getElem?_cons_succ, List.getElem?_cons_zero]; rfl)) (by kernel_rfl) (by kernel_rfl) (by kernel_rfl) (by exact fun _ _ _ h => h) (by rfl) (by (intro w hSw; (try dsimp only at hSw); go_simp <;> with_reducible rfl)) (by assumption) ?_; try simp only [Act.put, List.setIfInBounds_toArray, List.set_cons_zero, List.set_cons_succ])
        (refine tkI 27 (by (simp only [List.getElem?_toArray, List.getElem?_cons_succ, List.getElem?_cons_zero]; rfl)) (by kernel_rfl) (by kernel_rfl) (by kernel_rfl) (by exact fun _ _ _ h => h) (by rfl) (by (intro w hSw; (try dsimp only at hSw); go_simp <;> with_reducible rfl)) (by assumption) ?_; try simp only [Act.put, List.setIfInBounds_toArray, List.set_cons_zero, List.set_cons_succ])
        refine wpAnyH_ready (rs := [23]) (by kernel_rfl) (by simp) ?_
        refine AllReadyH.cons (by (simp only [List.getElem?_toArray, List.getElem?_cons_succ, List.getElem?_cons_zero]; rfl)) (fun K hK => ?_) AllReadyH.nil
        go_simp
        refine (sent_any hEd).mono ?_
        rintro e wq ⟨rfl, hww⟩
        rw [hww]
        clear hww wq
        refine hK.out _ _ sq (fun hHeld2 => ?_)
        clear hK K hHeld
        have hHeld := hHeld2
        clear hHeld2
        try simp only [Act.put, List.setIfInBounds_toArray, List.set_cons_zero, List.set_cons_succ]
        (refine tkI 28 (by (simp only [List.getElem?_toArray, List.getElem?_cons_succ, List.getElem?_cons_zero]; rfl)) (by kernel_rfl) (by kernel_rfl) (by kernel_rfl) (by exact fun _ _ _ h => h) (by rfl) (by (intro w hSw; (try dsimp only at hSw); go_simp <;> with_reducible rfl)) (by assumption) ?_; try simp only [Act.put, List.setIfInBounds_toArray, List.set_cons_zero, List.set_cons_succ])
        (refine tkI 29 (by (simp only [List.getElem?_toArray, List.getElem?_cons_succ, List.getElem?_cons_zero]; rfl)) (by kernel_rfl) (by kernel_rfl) (by kernel_rfl) (by exact fun _ _ _ h => h) (by rfl) (by (intro w hSw; (try dsimp only at hSw); go_simp <;> with_reducible rfl)) (by assumption) ?_; try simp only [Act.put, List.setIfInBounds_toArray, List.set_cons_zero, List.set_cons_succ])
        refine wpAnyH_done (by kernel_rfl) ?_ _
        clear hqE hEd sq
        go_wp2
        go_roundw
        case measure => simp [intOf]; omega
        case rel => exact ⟨k + 1, l2, s2, m2, _, _, by go_num, by omega, hRd, hst2⟩
    · have hlz : ¬ (k : Int) < (n : Int) := by omega
      have hb := hR.bel
      clear hR
      go_wp2
      go_ret
      exact ⟨rfl, hB ▸ hb⟩

namespace linkDoesDone
open Go.ChangeShapes Go.WideShapes Go.ChangeAt
set_option maxRecDepth 100000 in
theorem lifted (os : Os) (started : os.Started) (H : Type) (enc : TypeId × Value → H) :
    ReturnsInHanded {} Try.checked os 3 .any (Rows.linkDoesSpec.pre6 enc Try.prog Try.f3 Rows.linkDoesRow.domain false) (Rows.linkDoesSpec.post enc Try.prog Try.f3 false true false false) := by
  refine returnsInHanded_of_change_sized (C := Try.checked) own started (by kernel_rfl) Try.func3
    (ChangeSpec.witness6 (enc := enc) (C := Try.checked) false ⟨#[], #[Value.slice none 0 0], []⟩ 8 (by kernel_rfl) (by kernel_rfl) (by kernel_rfl) (by kernel_rfl)) ?_
  intro W base args ds gs before hval0 hW hcnd hsz0 _
  have hsz : (DataW.weightsEach Try.prog (Try.f3.params.toList ++ Rows.linkDoesSpec.plain.varTypes Try.prog) (ds ++ gs)).all (· ≤ reachBytes) = true := hsz0
  clear hsz0
  have hval : ∀ (j : Nat) t v, Try.f3.params[j]? = some t → args[j]? = some v → Value.okWide Try.prog W .any base t v := hval0
  have hW' := hW
  obtain ⟨p, q, hA0, hV, rfl, hfz, hnd⟩ := hW
  have hA : DataW.TrodAll enc Try.prog W 0 (fun _ => true) true Try.f3.params.toList args.toList ds p := hA0
  rw [Try.params3] at hA hval hsz
  obtain ⟨v0, vs0, d0, ds0, p0, q0, hargs, rfl, rfl, h0, r0⟩ := trodAll_cons hA
  obtain ⟨rfl, rfl, rfl⟩ := trodAll_nil r0
  obtain rfl : args = #[v0] := by cases args; simp_all
  obtain ⟨rfl, rfl⟩ := trodVars_none hV
  obtain ⟨a0, len0, cap0, rfl⟩ := okWide_slice Try.underlying22 (hval 0 22 v0 rfl rfl)
  have k0 := h0
  have lt0 : ∀ x ∈ p0, x.block < W.heap.size := by obtain ⟨m, hm⟩ := k0; exact DataW.trod_lt m _ _ _ hm
  obtain ⟨f0, ho0, hc0, hm0⟩ := ops_open h0
  have hd0 := ops_size h0
  have hl0 : cap0 * 56 ≤ 140737488351232 := by
    rcases hd0 with ⟨_, h⟩ | ⟨es, sp, rfl, h⟩
    · omega
    · have := sized_slice hsz (j := 0) (t := 22) (e := 34) rfl rfl Try.underlying22
      rw [bytes_op] at this
      simp only [reachBytes] at this
      omega
  clear hA0 hval0
  refine (linkDoes_walk (w := W) a0 len0 cap0 f0 ho0 hc0 hm0 hl0).mono fun e W' ⟨he, bel⟩ => ?_
  subst he
  exact ⟨_, rfl, _, _, _, [], _, [], hW', trodAll_mk1 (shut_bool Try.underlying4 _), (trodAll_cons_mk (Below.trod laidOut (by kernel_rfl) (of_decide_eq_true (by kernel_rfl)) k0 bel lt0) trodAll_mk0), rfl, bel.frame _, fun h => by cases h⟩

theorem over : Rows.linkDoesRow.holds Try.pinned (OpenSpec.ofChange Rows.linkDoesSpec) :=
  OpenClaim.holds_of_wide 3 Try.f3 rfl rfl rfl rfl rfl rfl rfl ⟨rfl, rfl, rfl, rfl, rfl⟩ rfl rfl rfl rfl rfl (by kernel_rfl) Try.func3 (by kernel_rfl)
    (of_decide_eq_true (by kernel_rfl)) (by unfold Func.isWrapper; first | (rw [if_pos (by decide +kernel)]; kernel_rfl) | (rw [if_neg (by decide +kernel)]; exact ⟨rfl, rfl⟩))
    (fun os started H enc _ => lifted os started H enc)

/-- The statement. -/
theorem proved : Rows.LinkDoesSaid := over
end linkDoesDone
end Go.Proofs.Ytfgceplafjbmhaa
