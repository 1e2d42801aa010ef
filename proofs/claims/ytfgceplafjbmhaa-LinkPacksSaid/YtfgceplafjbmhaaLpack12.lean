/- 'LinkPacks' returns true for every input: the row of this law, proved. No condition. -/
import Derived.Test.YtfgceplafjbmhaaLqF
import Derived.Test.YtfgceplafjbmhaaLkL
import Derived.Test.YtfgceplafjbmhaaLkK
import Derived.Test.YtfgceplafjbmhaaRgT
import Derived.ProofKit
import Derived.OpenShut
import Derived.ShutString
import Derived.ChangeOld
import Derived.SizedLaws
namespace Go.Proofs.Ytfgceplafjbmhaa
open Go.RowKit
set_option linter.unusedVariables false
set_option linter.unusedSimpArgs false
theorem InvT.ee {k : Int} {l : List Bd} {s m : Int} (h : InvT k l s m) : decE (encE l s m) = some (l, s, m) := decE_enc h.inv h.seq
theorem encE_len {l : List Bd} {s m : Int} (h : InvE l s m) : (encE l s m).length ≤ 262144 := by
  have h1 := numCell_len s
  have h2 := numCell_len m
  have h3 := numCell_len (l.length : Int)
  have h4 := rowsE_len l (fun b hb => (h.ok b hb).text)
  have h5 := h.len
  unfold encE
  rw [List.length_append, List.length_append, List.length_append]
  omega
set_option maxRecDepth 100000 in
set_option maxHeartbeats 6400000 in
theorem linkPacks_walk {w : World} (A : Option Addr) (n c : Nat) (f : Nat → OpX) (ho : OPX w A n f) (hc : n ≤ c) (hm : c ≤ 9223372036854775807) :
    Calls Try.prog 9 #[.slice A n c] w fun e w' => e = .returned (.bool true) ∧ Below w.heap.size w w' := by
  go_enter Try.func9, Try.ntmps9
  go_wp2_with fail
  refine (lnew_any _).mono ?_
  rintro e w1 ⟨rfl, h1, hb1⟩
  have hq1 : QN (fun k => w1.heap.size ≤ k) (w1.alloc (.cells #[.slice none 0 0, .int .i64 0, .int .i64 0] 28)) w1.heap.size [] 0 0 :=
    ⟨_, [], ⟨Blk.new w1 _ _, IO.nil _ _, by simp [Value.ownBlock], Nat.le_refl _, fun g hg => by simp [Value.ownBlock] at hg, fun x hx => by cases hx⟩, rfl⟩
  have he1 : EK (fun k => w.heap.size ≤ k ∧ k < w1.heap.size) w1 w.heap.size [] 0 0 := ⟨_, h1.mono' (Nat.zero_le _), ⟨Nat.le_refl _, h1.pc.lt⟩, fun g hg => by simp [Value.ownBlock] at hg⟩
  have he2 := he1.alloc (.cells #[.slice none 0 0, .int .i64 0, .int .i64 0] 28)
  have hb2 := hb1.alloc hb1.size (.cells #[.slice none 0 0, .int .i64 0, .int .i64 0] 28)
  go_wp2_with fail
  refine (lives_any _).mono ?_
  rintro e w2 ⟨rfl, hx2⟩
  obtain ⟨B, hB⟩ : ∃ B, w.heap.size = B := ⟨_, rfl⟩
  obtain ⟨q, hq⟩ : ∃ q, w1.heap.size = q := ⟨_, rfl⟩
  have hBw : B ≤ w.heap.size := by omega
  have hwq : B ≤ q := by have := hb1.size; omega
  have hR : DoE B w B q w2 (fun k => B ≤ k ∧ k < q) (fun k => q ≤ k) [] 0 0 [] 0 0 := by
    refine ⟨?_, ?_, fun k e e2 => by have := e.2; omega, fun k e => e.1, fun k e => by have h9 : q ≤ k := e; omega, ?_⟩
    · have := he2.below hx2
      rw [hB, hq] at this
      exact this
    · have := hq1.below hx2
      rw [hq] at this
      exact this
    · have := hb2.trans (hx2.mono hb2.size)
      rw [hB] at this
      exact this
  rw [hB, hq]
  clear h1 hb1 hx2 he1 he2 hb2 hq1 hq
  go_wp2
  go_loopw [3, 5] (fun pv i wr => ∃ (k : Nat) (l : List Bd) (s m : Int) (F G : Nat → Prop) (p : Nat), i = .int .i64 (k : Int) ∧ k ≤ n ∧ k ≤ 80 ∧ pv = .pointer (some ⟨p, 0, none⟩) ∧ DoE B w p q wr F G l s m l s m ∧ Hid (InvT (k : Int) l s m)) (fun _ i _ => n - (intOf i).toNat)
  case atStart => exact ⟨0, [], 0, 0, _, _, B, by go_num, by omega, by omega, rfl, hR, Lib.hid InvT.start⟩
  case round =>
    obtain ⟨k, l, s, m, F, G, p, rfl, hk, hk80, rfl, hR, hst⟩ := hrel
    by_cases hlt : k < n
    · have hlz : (k : Int) < (n : Int) := by omega
      have hk0 : (0 : Int) ≤ (k : Int) := by omega
      by_cases h80 : k < 80
      · have h8z : (k : Int) < 80 := by omega
        obtain ⟨b, off, rfl, hbl, hat⟩ := ho (by omega)
        have hox := (hat k hlt).below (hB ▸ hR.bel)
        have halx : 0 < (f k).o.p.body.length → ∀ ad, (f k).A = some ad → ad.block < B := fun hp ad e => hB ▸ (hat k hlt).at_.pk.rb.ltA hp ad e
        generalize f k = ov at hox halx
        obtain ⟨o, oA, oc⟩ := ov
        obtain ⟨c0, c1, c2, c3, c4, hol⟩ := hox
        dsimp only at c0 c1 c2 c3 c4 hol halx
        have hcap := hol.pk.cap
        by_cases hbig : 5000 < o.p.body.length
        · have hbz : (5000 : Int) < (o.p.body.length : Int) := by omega
          have hst2 : Hid (InvT ((k + 1 : Nat) : Int) l s m) := Lib.hid (hst.out.up (by omega))
          go_wp2
          go_roundw
          case measure => simp [intOf]; omega
          case rel => exact ⟨k + 1, l, s, m, F, G, p, by go_num, by omega, by omega, rfl, hR, hst2⟩
        · as_aux_lemma =>
          have hbz : ¬ (5000 : Int) < (o.p.body.length : Int) := by omega
          have hsp := step_any o hol hst.out (by omega) hR hBw halx (by omega)
          unfold StepPost at hsp
          go_wp2_with fail
          refine hsp.mono ?_
          rintro e w4 ⟨rfl, F2, G2, l2, s2, m2, hR4, hI4⟩
          clear hsp hR hst c0 c1 c2 c3 c4 hol
          obtain ⟨v4, hE4, hp4, hv4⟩ := hR4.ek
          have hpk := lpack_any hE4 hI4.inv
          have hee := hI4.ee
          have hen := encE_len hI4.inv
          obtain ⟨EN, hEN⟩ : ∃ x, encE l2 s2 m2 = x := ⟨_, rfl⟩
          rw [hEN] at hpk hee hen
          go_wp2_with fail
          refine hpk.mono ?_
          rintro e w5 ⟨A5, c5, rfl, hl5, hm5, hr5, hx5, _⟩
          have hR5 := hR4.below hBw hx5
          have hO5 := hE4.below hx5
          have hun := lunpack_any A5 EN.length c5 EN w5 hr5 (by omega)
          rw [hee] at hun
          clear hpk hE4 hx5
          go_wp2_with fail
          refine hun.mono ?_
          rintro e w7 ⟨hx7, h7⟩
          rcases h7 with ⟨h, _⟩ | ⟨l3, s3, m3, p3, v3, h, rfl, hB7⟩
          case inl => cases h
          cases h
          have hQ7 := (hR5.qn.mono (G := fun k => G2 k ∧ k < w5.heap.size) fun k hk e => ⟨e, hk⟩).below hx7
          have hO7 := hO5.below hx7
          have hr57 := hr5.below hx7
          have hrp := rpackE_any hQ7.drew hI4.inv
          rw [hEN] at hrp
          have s7 := run_str w7.drew A5 _ c5 _ (hr57.below (Below.refl w7.heap.size w7).drew)
          have hbs := hR5.bel.size
          have hx7s := hx7.size
          have hb7 := hR5.bel.trans (hx7.mono (show B ≤ w5.heap.size by omega))
          clear hun hO5 hr5
          go_upto_region 13 with fail
          refine wp_region_held_drew (S := (fun W => (convert 30 9 (.slice A5 EN.length c5)).run Try.prog W = .ok (.string ⟨EN.toArray⟩) W)) (by kernel_rfl) s7 (fun hHeld => ?_)
          (refine tkI 0 (by (simp only [List.getElem?_toArray, List.getElem?_cons_succ, List.getElem?_cons_zero]; rfl)) (by kernel_rfl) (by kernel_rfl) (by kernel_rfl) (by exact fun _ _ _ h => h) (by rfl) (by (intro w hSw; (try dsimp only at hSw); go_simp <;> with_reducible rfl)) (by assumption) ?_; try simp only [Act.put, List.setIfInBounds_toArray, List.set_cons_zero, List.set_cons_succ])
          (refine tkI 1 (by (simp only [List.getElem?_toArray, List.getElem?_cons_succ, List.getElem?_cons_zero]; rfl)) (by kernel_rfl) (by kernel_rfl) (by kernel_rfl) (by exact fun _ _ _ h => h) (by rfl) (by (intro w hSw; (try dsimp only at hSw); go_simp <;> with_reducible rfl)) (by assumption) ?_; try simp only [Act.put, List.setIfInBounds_toArray, List.set_cons_zero, List.set_cons_succ])
          (refine tkI 2 (by (simp only [List.getElem?_toArray, List.getElem?_cons_succ, List.getElem?_cons_zero]; rfl)) (by kernel_rfl) (by kernel_rfl) (by kernel_rfl) (by exact fun _ _ _ h => h) (by rfl) (by (intro w hSw; (try dsimp only at hSw); go_simp <;> with_reducible rfl)) (by assumption) ?_; try simp only [Act.put, List.setIfInBounds_toArray, List.set_cons_zero, List.set_cons_succ])
          refine wpAnyH_ready (rs := [3]) (by kernel_rfl) (by simp) ?_
          refine AllReadyH.cons (by (simp only [List.getElem?_toArray, List.getElem?_cons_succ, List.getElem?_cons_zero]; rfl)) (fun K hK => ?_) AllReadyH.nil
          go_simp
          refine hrp.mono ?_
          rintro e w8 ⟨A8, c8, rfl, hl8, hm8, hr8, hx8, _⟩
          have hd8 : Below w7.heap.size w7 w8 := (Below.refl w7.heap.size w7).drew.trans hx8
          have s8 := run_str _ A5 _ c5 _ (hr57.below hd8)
          have s9 := run_str _ A8 _ c8 _ hr8
          have hN8 := hB7.below hd8
          have hO8 := hO7.below hd8
          refine hK.out _ _ s8 (fun hHeld2 => ?_)
          clear hK K hHeld
          have hHeld := hHeld2
          clear hHeld2
          try simp only [Act.put, List.setIfInBounds_toArray, List.set_cons_zero, List.set_cons_succ]
          refine wpAnyH_ready (rs := [4]) (by kernel_rfl) (by simp) ?_
          refine AllReadyH.cons (by (simp only [List.getElem?_toArray, List.getElem?_cons_succ, List.getElem?_cons_zero]; rfl)) (fun K hK => ?_) AllReadyH.nil
          go_simp
          refine hK.out _ _ s8 (fun hHeld2 => ?_)
          clear hK K hHeld
          have hHeld := hHeld2
          clear hHeld2
          try simp only [Act.put, List.setIfInBounds_toArray, List.set_cons_zero, List.set_cons_succ]
          (refine tkI 5 (by (simp only [List.getElem?_toArray, List.getElem?_cons_succ, List.getElem?_cons_zero]; rfl)) (by kernel_rfl) (by kernel_rfl) (by kernel_rfl) (by exact fun _ _ _ h => h) (by rfl) (by (intro w hSw; (try dsimp only at hSw); go_simp <;> with_reducible rfl)) (by assumption) ?_; try simp only [Act.put, List.setIfInBounds_toArray, List.set_cons_zero, List.set_cons_succ])
          (refine tkI 6 (by (simp only [List.getElem?_toArray, List.getElem?_cons_succ, List.getElem?_cons_zero]; rfl)) (by kernel_rfl) (by kernel_rfl) (by kernel_rfl) (by exact fun _ _ _ h => h) (by rfl) (by (intro w hSw; (try dsimp only at hSw); go_simp <;> with_reducible rfl)) (by assumption) ?_; try simp only [Act.put, List.setIfInBounds_toArray, List.set_cons_zero, List.set_cons_succ])
          (refine tkI 7 (by (simp only [List.getElem?_toArray, List.getElem?_cons_succ, List.getElem?_cons_zero]; rfl)) (by kernel_rfl) (by kernel_rfl) (by kernel_rfl) (by exact fun _ _ _ h => h) (by rfl) (by (intro w hSw; (try dsimp only at hSw); go_simp <;> with_reducible rfl)) (by assumption) ?_; try simp only [Act.put, List.setIfInBounds_toArray, List.set_cons_zero, List.set_cons_succ])
          (refine tkI 8 (by (simp only [List.getElem?_toArray, List.getElem?_cons_succ, List.getElem?_cons_zero]; rfl)) (by kernel_rfl) (by kernel_rfl) (by kernel_rfl) (by exact fun _ _ _ h => h) (by rfl) (by (intro w hSw; (try dsimp only at hSw); go_simp <;> with_reducible rfl)) (by assumption) ?_; try simp only [Act.put, List.setIfInBounds_toArray, List.set_cons_zero, List.set_cons_succ])
          (refine tkI 9 (by (simp only [List.getElem?_toArray, List.getElem?_cons_succ, List.getElem?_cons_zero]; rfl)) (by kernel_rfl) (by kernel_rfl) (by kernel_rfl) (by exact fun _ _ _ h => h) (by rfl) (by (intro w hSw; (try dsimp only at hSw); go_simp <;> with_reducible rfl)) (by assumption) ?_; try simp only [Act.put, List.setIfInBounds_toArray, List.set_cons_zero, List.set_cons_succ])
          (refine tkI 10 (by (simp only [List.getElem?_toArray, List.getElem?_cons_succ, List.getElem?_cons_zero]; rfl)) (by kernel_rfl) (by kernel_rfl) (by kernel_rfl) (by exact fun _ _ _ h => h) (by rfl) (by (intro w hSw; (try dsimp only at hSw); go_simp <;> with_reducible rfl)) (by assumption) ?_; try simp only [Act.put, List.setIfInBounds_toArray, List.set_cons_zero, List.set_cons_succ])
          (refine tkI 11 (by (simp only [List.getElem?_toArray, List.getElem?_cons_succ, List.getElem?_cons_zero]; rfl)) (by kernel_rfl) (by kernel_rfl) (by kernel_rfl) (by exact fun _ _ _ h => h) (by rfl) (by (intro w hSw; (try dsimp only at hSw); go_simp <;> with_reducible rfl)) (by assumption) ?_; try simp only [Act.put, List.setIfInBounds_toArray, List.set_cons_zero, List.set_cons_succ])
          (refine tkI 12 (by (simp only [List.getElem?_toArray, List.getElem?_cons_succ, List.getElem?_cons_zero]; rfl)) (by kernel_rfl) (by kernel_rfl) (by kernel_rfl) (by exact fun _ _ _ h => h) (by rfl) (by (intro w hSw; (try dsimp only at hSw); go_simp <;> with_reducible rfl)) (by assumption) ?_; try simp only [Act.put, List.setIfInBounds_toArray, List.set_cons_zero, List.set_cons_succ])
          (refine tkI 13 (by (simp only [List.getElem?_toArray, List.getElem?_cons_succ, List.getElem?_cons_zero]; rfl)) (by kernel_rfl) (by kernel_rfl) (by kernel_rfl) (by exact fun _ _ _ h => h) (by rfl) (by (intro w hSw; (try dsimp only at hSw); go_simp <;> with_reducible rfl)) (by assumption) ?_; try simp only [Act.put, List.setIfInBounds_toArray, List.set_cons_zero, List.set_cons_succ])
          (refine tkI 14 (by (simp only [List.getElem?_toArray, List.getElem?_cons_succ, List.getElem?_cons_zero]; rfl)) (by kernel_rfl) (by kernel_rfl) (by kernel_rfl) (by exact fun _ _ _ h => h) (by rfl) (by (intro w hSw; (try dsimp only at hSw); go_simp <;> with_reducible rfl)) (by assumption) ?_; try simp only [Act.put, List.setIfInBounds_toArray, List.set_cons_zero, List.set_cons_succ])
          (refine tkI 15 (by (simp only [List.getElem?_toArray, List.getElem?_cons_succ, List.getElem?_cons_zero]; rfl)) (by kernel_rfl) (by kernel_rfl) (by kernel_rfl) (by exact fun _ _ _ h => h) (by rfl) (by (intro w hSw; (try dsimp only at hSw); go_simp <;> with_reducible rfl)) (by assumption) ?_; try simp only [Act.put, List.setIfInBounds_toArray, List.set_cons_zero, List.set_cons_succ])
          (refine tkI 17 (by (simp only [List.getElem?_toArray, List.getElem?_cons_succ, List.getElem?_cons_zero]; rfl)) (by kernel_rfl) (by kernel_rfl) (by kernel_rfl) (by exact fun _ _ _ h => h) (by rfl) (by (intro w hSw; (try dsimp only at hSw); go_simp <;> with_reducible rfl)) (by assumption) ?_; try simp only [Act.put, List.setIfInBounds_toArray, List.set_cons_zero, List.set_cons_succ])
          refine wpAnyH_ready (rs := [16]) (by kernel_rfl) (by simp) ?_
          refine AllReadyH.cons (by (simp only [List.getElem?_toArray, List.getElem?_cons_succ, List.getElem?_cons_zero]; rfl)) (fun K hK => ?_) AllReadyH.nil
          go_simp
          refine (open_any hN8).mono ?_
          rintro e wq ⟨rfl, hww⟩
          rw [hww]
          clear hww wq
          refine hK.out _ _ s8 (fun hHeld2 => ?_)
          clear hK K hHeld
          have hHeld := hHeld2
          clear hHeld2
          try simp only [Act.put, List.setIfInBounds_toArray, List.set_cons_zero, List.set_cons_succ]
          refine wpAnyH_ready (rs := [18]) (by kernel_rfl) (by simp) ?_
          refine AllReadyH.cons (by (simp only [List.getElem?_toArray, List.getElem?_cons_succ, List.getElem?_cons_zero]; rfl)) (fun K hK => ?_) AllReadyH.nil
          go_simp
          refine (open_any hO8).mono ?_
          rintro e wq ⟨rfl, hww⟩
          rw [hww]
          clear hww wq
          refine hK.out _ _ s8 (fun hHeld2 => ?_)
          clear hK K hHeld
          have hHeld := hHeld2
          clear hHeld2
          try simp only [Act.put, List.setIfInBounds_toArray, List.set_cons_zero, List.set_cons_succ]
          (refine tkI 19 (by (simp only [List.getElem?_toArray, List.getElem?_cons_succ, List.getElem?_cons_zero]; rfl)) (by kernel_rfl) (by kernel_rfl) (by kernel_rfl) (by exact fun _ _ _ h => h) (by rfl) (by (intro w hSw; (try dsimp only at hSw); go_simp <;> with_reducible rfl)) (by assumption) ?_; try simp only [Act.put, List.setIfInBounds_toArray, List.set_cons_zero, List.set_cons_succ])
          (refine tkI 20 (by (simp only [List.getElem?_toArray, List.getElem?_cons_succ, List.getElem?_cons_zero]; rfl)) (by kernel_rfl) (by kernel_rfl) (by kernel_rfl) (by exact fun _ _ _ h => h) (by rfl) (by (intro w hSw; (try dsimp only at hSw); go_simp <;> with_reducible rfl)) (by assumption) ?_; try simp only [Act.put, List.setIfInBounds_toArray, List.set_cons_zero, List.set_cons_succ])
          (refine tkI 21 (by (simp only [List.getElem?_toArray, List.getElem?_cons_succ, List.getElem?_cons_zero]; rfl)) (by kernel_rfl) (by kernel_rfl) (by kernel_rfl) (by exact fun _ _ _ h => h) (by rfl) (by (intro w hSw; (try dsimp only at hSw); go_simp <;> with_reducible rfl)) (by assumption) ?_; try simp only [Act.put, List.setIfInBounds_toArray, List.set_cons_zero, List.set_cons_succ])
          (refine tkI 22 (by (simp only [List.getElem?_toArray, List.getElem?_cons_succ, List.getElem?_cons_zero]; rfl)) (by kernel_rfl) (by kernel_rfl) (by kernel_rfl) (by exact fun _ _ _ h => h) (by rfl) (by (intro w hSw; (try dsimp only at hSw); go_simp <;> with_reducible rfl)) (by assumption) ?_; try simp only [Act.put, List.setIfInBounds_toArray, List.set_cons_zero, List.set_cons_succ])
          (refine tkI 24 (by (simp only [List.getElem?_toArray, List.getElem?_cons_succ, List.getElem?_cons_zero]; rfl)) (by kernel_rfl) (by kernel_rfl) (by kernel_rfl) (by exact fun _ _ _ h => h) (by rfl) (by (intro w hSw; (try dsimp only at hSw); go_simp <;> with_reducible rfl)) (by assumption) ?_; try simp only [Act.put, List.setIfInBounds_toArray, List.set_cons_zero, List.set_cons_succ])
          refine wpAnyH_ready (rs := [23]) (by kernel_rfl) (by simp) ?_
          refine AllReadyH.cons (by (simp only [List.getElem?_toArray, List.getElem?_cons_succ, List.getElem?_cons_zero]; rfl)) (fun K hK => ?_) AllReadyH.nil
          go_simp
          refine (mark_any hN8).mono ?_
          rintro e wq ⟨rfl, hww⟩
          rw [hww]
          clear hww wq
          refine hK.out _ _ s8 (fun hHeld2 => ?_)
          clear hK K hHeld
          have hHeld := hHeld2
          clear hHeld2
          try simp only [Act.put, List.setIfInBounds_toArray, List.set_cons_zero, List.set_cons_succ]
          refine wpAnyH_ready (rs := [25]) (by kernel_rfl) (by simp) ?_
          refine AllReadyH.cons (by (simp only [List.getElem?_toArray, List.getElem?_cons_succ, List.getElem?_cons_zero]; rfl)) (fun K hK => ?_) AllReadyH.nil
          go_simp
          refine (mark_any hO8).mono ?_
          rintro e wq ⟨rfl, hww⟩
          rw [hww]
          clear hww wq
          refine hK.out _ _ s8 (fun hHeld2 => ?_)
          clear hK K hHeld
          have hHeld := hHeld2
          clear hHeld2
          try simp only [Act.put, List.setIfInBounds_toArray, List.set_cons_zero, List.set_cons_succ]
          (refine tkI 26 (by (simp only [List.getElem?_toArray, List.getElem?_cons_succ, List.getElem?_cons_zero]; rfl)) (by kernel_rfl) (by kernel_rfl) (by kernel_rfl) (by exact fun _ _ _ h => h) (by rfl) (by (intro w hSw; (try dsimp only at hSw); go_simp <;> with_reducible rfl)) (by assumption) ?_; try simp only [Act.put, List.setIfInBounds_toArray, List.set_cons_zero, List.set_cons_succ])
          (refine tkI 27 (by (simp only [List.getElem?_toArray, List.getElem?_cons_succ, List.getElem?_cons_zero]; rfl)) (by kernel_rfl) (by kernel_rfl) (by kernel_rfl) (by exact fun _ _ _ h => h) (by rfl) (by (intro w hSw; (try dsimp only at hSw); go_simp <;> with_reducible rfl)) (by assumption) ?_; try simp only [Act.put, List.setIfInBounds_toArray, List.set_cons_zero, List.set_cons_succ])
          (refine tkI 28 (by (simp only [List.getElem?_toArray, List.getElem?_cons_succ, List.getElem?_cons_zero]; rfl)) (by kernel_rfl) (by kernel_rfl) (by kernel_rfl) (by exact fun _ _ _ h => h) (by rfl) (by (intro w hSw; (try dsimp only at hSw); go_simp <;> with_reducible rfl)) (by assumption) ?_; try simp only [Act.put, List.setIfInBounds_toArray, List.set_cons_zero, List.set_cons_succ])
          (refine tkI 29 (by (simp only [List.getElem?_toArray, List.getElem?_cons_succ, List.getElem?_cons_zero]; rfl)) (by kernel_rfl) (by kernel_rfl) (by kernel_rfl) (by exact fun _ _ _ h => h) (by rfl) (by (intro w hSw; (try dsimp only at hSw); go_simp <;> with_reducible rfl)) (by assumption) ?_; try simp only [Act.put, List.setIfInBounds_toArray, List.set_cons_zero, List.set_cons_succ])
          (refine tkI 31 (by (simp only [List.getElem?_toArray, List.getElem?_cons_succ, List.getElem?_cons_zero]; rfl)) (by kernel_rfl) (by kernel_rfl) (by kernel_rfl) (by exact fun _ _ _ h => h) (by rfl) (by (intro w hSw; (try dsimp only at hSw); go_simp <;> with_reducible rfl)) (by assumption) ?_; try simp only [Act.put, List.setIfInBounds_toArray, List.set_cons_zero, List.set_cons_succ])
          refine wpAnyH_ready (rs := [30]) (by kernel_rfl) (by simp) ?_
          refine AllReadyH.cons (by (simp only [List.getElem?_toArray, List.getElem?_cons_succ, List.getElem?_cons_zero]; rfl)) (fun K hK => ?_) AllReadyH.nil
          go_simp
          refine (sent_any hN8).mono ?_
          rintro e wq ⟨rfl, hww⟩
          rw [hww]
          clear hww wq
          refine hK.out _ _ s8 (fun hHeld2 => ?_)
          clear hK K hHeld
          have hHeld := hHeld2
          clear hHeld2
          try simp only [Act.put, List.setIfInBounds_toArray, List.set_cons_zero, List.set_cons_succ]
          refine wpAnyH_ready (rs := [32]) (by kernel_rfl) (by simp) ?_
          refine AllReadyH.cons (by (simp only [List.getElem?_toArray, List.getElem?_cons_succ, List.getElem?_cons_zero]; rfl)) (fun K hK => ?_) AllReadyH.nil
          go_simp
          refine (sent_any hO8).mono ?_
          rintro e wq ⟨rfl, hww⟩
          rw [hww]
          clear hww wq
          refine hK.out _ _ s8 (fun hHeld2 => ?_)
          clear hK K hHeld
          have hHeld := hHeld2
          clear hHeld2
          try simp only [Act.put, List.setIfInBounds_toArray, List.set_cons_zero, List.set_cons_succ]
          (refine tkI 33 (by (simp only [List.getElem?_toArray, List.getElem?_cons_succ, List.getElem?_cons_zero]; rfl)) (by kernel_rfl) (by kernel_rfl) (by kernel_rfl) (by exact fun _ _ _ h => h) (by rfl) (by (intro w hSw; (try dsimp only at hSw); go_simp <;> with_reducible rfl)) (by assumption) ?_; try simp only [Act.put, List.setIfInBounds_toArray, List.set_cons_zero, List.set_cons_succ])
          (refine tkI 34 (by (simp only [List.getElem?_toArray, List.getElem?_cons_succ, List.getElem?_cons_zero]; rfl)) (by kernel_rfl) (by kernel_rfl) (by kernel_rfl) (by exact fun _ _ _ h => h) (by rfl) (by (intro w hSw; (try dsimp only at hSw); go_simp <;> with_reducible rfl)) (by assumption) ?_; try simp only [Act.put, List.setIfInBounds_toArray, List.set_cons_zero, List.set_cons_succ])
          refine wpAnyH_done (by kernel_rfl) ?_ _
          have hR8 : DoE B w p3 q w8 (fun k => w5.heap.size ≤ k) (fun k => G2 k ∧ k < w5.heap.size) l2 s2 m2 l2 s2 m2 :=
            ⟨⟨v3, hN8.mono' (Nat.zero_le _), hB7.bp, fun g hg => (hB7.own.lt g hg).1⟩, hQ7.below hd8, fun k e e2 => by have h1 := e2.2; have h2 : w5.heap.size ≤ k := e; omega, fun k e => by have h2 : w5.heap.size ≤ k := e; omega, fun k e => hR5.lo2 k e.1, hb7.trans (hd8.mono (by have := hb7.size; omega))⟩
          have hst2 : Hid (InvT ((k + 1 : Nat) : Int) l2 s2 m2) := Lib.hid hI4
          clear hN8 hB7 hQ7 hd8 hR5 hO8 hO7 hr57 hR4 hr8 s8 s9 hx8 hl8 hm8
          go_wp2
          go_roundw
          case measure => simp [intOf]; omega
          case rel => exact ⟨k + 1, l2, s2, m2, _, _, p3, by go_num, by omega, by omega, rfl, hR8, hst2⟩
      · have h8z : ¬ (k : Int) < 80 := by omega
        have hb := hR.bel
        clear hR
        go_wp2
        go_ret
        exact ⟨rfl, hB ▸ hb⟩
    · have hlz : ¬ (k : Int) < (n : Int) := by omega
      have hb := hR.bel
      clear hR
      go_wp2
      go_ret
      exact ⟨rfl, hB ▸ hb⟩

namespace linkPacksDone
open Go.ChangeShapes Go.WideShapes Go.ChangeAt
set_option maxRecDepth 100000 in
theorem lifted (os : Os) (started : os.Started) (H : Type) (enc : TypeId × Value → H) :
    ReturnsInHanded {} Try.checked os 9 .any (Rows.linkPacksSpec.pre6 enc Try.prog Try.f9 Rows.linkPacksRow.domain false) (Rows.linkPacksSpec.post enc Try.prog Try.f9 false true false false) := by
  refine returnsInHanded_of_change_sized (C := Try.checked) own started (by kernel_rfl) Try.func9
    (ChangeSpec.witness6 (enc := enc) (C := Try.checked) false ⟨#[], #[Value.slice none 0 0], []⟩ 8 (by kernel_rfl) (by kernel_rfl) (by kernel_rfl) (by kernel_rfl)) ?_
  intro W base args ds gs before hval0 hW hcnd hsz0 _
  have hsz : (DataW.weightsEach Try.prog (Try.f9.params.toList ++ Rows.linkPacksSpec.plain.varTypes Try.prog) (ds ++ gs)).all (· ≤ reachBytes) = true := hsz0
  clear hsz0
  have hval : ∀ (j : Nat) t v, Try.f9.params[j]? = some t → args[j]? = some v → Value.okWide Try.prog W .any base t v := hval0
  have hW' := hW
  obtain ⟨p, q, hA0, hV, rfl, hfz, hnd⟩ := hW
  have hA : DataW.TrodAll enc Try.prog W 0 (fun _ => true) true Try.f9.params.toList args.toList ds p := hA0
  rw [Try.params9] at hA hval hsz
  obtain ⟨v0, vs0, d0, ds0, p0, q0, hargs, rfl, rfl, h0, r0⟩ := trodAll_cons hA
  obtain ⟨rfl, rfl, rfl⟩ := trodAll_nil r0
  obtain rfl : args = #[v0] := by cases args; simp_all
  obtain ⟨rfl, rfl⟩ := trodVars_none hV
  obtain ⟨a0, len0, cap0, rfl⟩ := okWide_slice Try.underlying22 (hval 0 22 v0 rfl rfl)
  have k0 := h0
  have lt0 : ∀ x ∈ p0, x.block < W.heap.size := by obtain ⟨m, hm⟩ := k0; exact DataW.trod_lt m _ _ _ hm
  obtain ⟨f0, ho0, hc0, hm0⟩ := ops_open h0
  clear hA0 hval0
  refine (linkPacks_walk (w := W) a0 len0 cap0 f0 ho0 hc0 hm0).mono fun e W' ⟨he, bel⟩ => ?_
  subst he
  exact ⟨_, rfl, _, _, _, [], _, [], hW', trodAll_mk1 (shut_bool Try.underlying4 _), (trodAll_cons_mk (Below.trod laidOut (by kernel_rfl) (of_decide_eq_true (by kernel_rfl)) k0 bel lt0) trodAll_mk0), rfl, bel.frame _, fun h => by cases h⟩

theorem over : Rows.linkPacksRow.holds Try.pinned (OpenSpec.ofChange Rows.linkPacksSpec) :=
  OpenClaim.holds_of_wide 9 Try.f9 rfl rfl rfl rfl rfl rfl rfl ⟨rfl, rfl, rfl, rfl, rfl⟩ rfl rfl rfl rfl rfl (by kernel_rfl) Try.func9 (by kernel_rfl)
    (of_decide_eq_true (by kernel_rfl)) (by unfold Func.isWrapper; first | (rw [if_pos (by decide +kernel)]; kernel_rfl) | (rw [if_neg (by decide +kernel)]; exact ⟨rfl, rfl⟩))
    (fun os started H enc _ => lifted os started H enc)

/-- The statement. -/
theorem proved : Rows.LinkPacksSaid := over
end linkPacksDone
end Go.Proofs.Ytfgceplafjbmhaa
