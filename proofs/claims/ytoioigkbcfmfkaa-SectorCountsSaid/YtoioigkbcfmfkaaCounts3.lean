/- 'SectorCounts' returns true for every input: the row of this law, proved. No condition. -/
import Derived.Test.YtoioigkbcfmfkaaOp3
import Derived.ProofKit
import Derived.OpenShut
import Derived.ShutString
import Derived.ChangeOld
import Derived.SizedLaws
namespace Go.Proofs.Ytoioigkbcfmfkaa
open Go.RowKit
set_option linter.unusedVariables false
set_option linter.unusedSimpArgs false
set_option maxRecDepth 100000 in
set_option maxHeartbeats 3200000 in
theorem sectorCounts_walk {w : World} (A : Option Addr) (n c : Nat) (f : Nat → OpV3) (ho : OPS w A n f) (hc : n ≤ c) (hm : c ≤ 9223372036854775807) :
    Calls Try.prog 7 #[.slice A n c] w fun e w' => e = .returned (.bool true) ∧ Below w.heap.size w w' := by
  go_enter Try.func7, Try.ntmps7
  go_wp2_with fail
  refine (new_dev 4 _ (by omega) (by omega)).mono ?_
  rintro e w1 ⟨g, bm, gs, rfl, hg, hbm, hgs, hb1, hd1⟩
  go_wp2_with fail
  refine (lives_any _).mono ?_
  rintro e w2 ⟨rfl, hb12⟩
  have hb2 := hb1.trans (hb12.mono hb1.size)
  have hd2 := hd1.below hb12
  have hs2 : DS w2 g 4 bm gs 0 0 0 (fun _ _ => True) := ⟨_, _, _, _, _, hd2, REP.start 4, by omega, trivial⟩
  clear hb1 hd1 hb12 hd2
  go_wp2_with fail
  go_loopg [5, 6, 7] n (fun g1 s5 s6 s7 wr => ∃ (k : Nat) (wt fl : Nat), s7 = .int .i64 (k : Int) ∧ s5 = .int .i64 (wt : Int) ∧ s6 = .int .i64 (fl : Int) ∧ k ≤ n ∧ k ≤ 200 ∧ g1 = n - k ∧ wt ≤ k ∧ fl ≤ k ∧ Below w.heap.size w wr ∧ DS wr g 4 bm gs (wt : Int) (fl : Int) k (fun _ _ => True))
  case atStart => exact ⟨0, 0, 0, by go_num, by go_num, by go_num, by omega, by omega, rfl, by omega, by omega, hb2, hs2⟩
  case round =>
    obtain ⟨k, wt, fl, rfl, rfl, rfl, hk, hk2, hg1, hwt, hfl, hb, hs⟩ := hrel
    clear hs2 hb2
    by_cases hlt : k < n
    · have hlz : (k : Int) < (n : Int) := by omega
      by_cases h200 : k < 200
      · have hlz2 : (k : Int) < 200 := by omega
        obtain ⟨b, off, rfl, hbl, hat⟩ := ho (by omega)
        have hop := (hat k hlt).below hb
        have hal := (hat k hlt).al
        generalize f k = o at hop hal
        obtain ⟨ok, oi, on, ob, oA, oq, oc, keep, oB, obl, obc⟩ := o
        have c0 := hop.c0
        have c1 := hop.c1
        have c2 := hop.c2
        have c3 := hop.c3
        have c4 := hop.c4
        have c5 := hop.c5
        have hir := hop.ir
        have hwk := hop.wk
        have hwi := hop.wi
        have hlq := hop.lq
        simp only at c0 c1 c2 c3 c4 c5 hir hwk hwi hlq hal
        have hblr : b < wr.heap.size := World.block_lt_of_cell? _ _ c0
        have hop0 := Blk.new wr 34 #[.int .i64 ok, .int .i64 oi, .int .i64 on, .int .u8 (ob.toNat : Int), .slice oA oq oc, .slice oB obl obc]
        have hk0 := (Keep.refl (fun _ => False) wr).alloc (.cells #[.int .i64 ok, .int .i64 oi, .int .i64 on, .int .u8 (ob.toNat : Int), .slice oA oq oc, .slice oB obl obc] 34)
        have hb0 := hb.alloc hb.size (.cells #[.int .i64 ok, .int .i64 oi, .int .i64 on, .int .u8 (ob.toNat : Int), .slice oA oq oc, .slice oB obl obc] 34)
        have hs0 := hs.kept hk0 (fun h => h) (fun h => h) (fun h => h)
        have hir0 := hir.kept hk0 (fun _ _ _ h => h)
        have hlw := hs.lt
        have hagl : ∀ ad, oA = some ad → 0 < oq → ad.block ≠ gs := fun ad e hp h => by have := hal ad e hp; omega
        go_upto_block 2 with fail
        generalize hbo : wr.heap.size = bo at *
        generalize wr.alloc (.cells #[.int .i64 ok, .int .i64 oi, .int .i64 on, .int .u8 (ob.toNat : Int), .slice oA oq oc, .slice oB obl obc] 34) = w0 at *
        clear hs hb c0 c1 c2 c3 c4 c5 hir hal hop hat ho
        have o0 := hop0.cell 0
        have o1 := hop0.cell 1
        have o2 := hop0.cell 2
        have o3 := hop0.cell 3
        have o4 := hop0.cell 4
        simp at o0 o1 o2 o3 o4
        have hbol : bo < w0.heap.size := hop0.lt
        have hltd := hs0.lt
        have hww : IntKind.i64.wrap ((wt : Int) + 1) = (wt : Int) + 1 := wrap_up wt (by omega)
        have hwf : IntKind.i64.wrap ((fl : Int) + 1) = (fl : Int) + 1 := wrap_up fl (by omega)
        by_cases h1 : ok = 1
        · as_aux_lemma =>
            subst h1
            go_wp2_with fail
            refine wp_region_held_drew (S := (fun w' => w'.cell? ⟨bo, 1, none⟩ = some (.int .i64 oi) ∧ w'.cell? ⟨bo, 3, none⟩ = some (.int .u8 (ob.toNat : Int)))) (by kernel_rfl) ⟨o1, o3⟩ (fun hHeld => ?_)
            refine wpAnyH_take (i := 0) (oi := ?oi0) (v := ?v0) ?hi0 (by kernel_rfl) (by kernel_rfl) (by kernel_rfl) ?hq0 (Or.inl ⟨?hw0, ?hy0⟩) (by assumption) ?rest0
            case hi0 => (simp only [List.getElem?_toArray, List.getElem?_cons_succ, List.getElem?_cons_zero]; try rfl)
            case hq0 => exact fun _ _ _ h => h
            case hw0 => rfl
            case hy0 => (intro w hSw; (try dsimp only at hSw); go_simp <;> with_reducible rfl)
            try simp only [Act.put, List.setIfInBounds_toArray, List.set_cons_zero, List.set_cons_succ]
            refine wpAnyH_take (i := 1) (oi := ?oi1) (v := ?v1) ?hi1 (by kernel_rfl) (by kernel_rfl) (by kernel_rfl) ?hq1 (Or.inl ⟨?hw1, ?hy1⟩) (by assumption) ?rest1
            case hi1 => (simp only [List.getElem?_toArray, List.getElem?_cons_succ, List.getElem?_cons_zero]; try rfl)
            case hq1 => exact fun _ _ _ h => h
            case hw1 => rfl
            case hy1 => (intro w hSw; (try dsimp only at hSw); go_simp <;> with_reducible rfl)
            try simp only [Act.put, List.setIfInBounds_toArray, List.set_cons_zero, List.set_cons_succ]
            refine wpAnyH_take (i := 2) (oi := ?oi2) (v := ?v2) ?hi2 (by kernel_rfl) (by kernel_rfl) (by kernel_rfl) ?hq2 (Or.inl ⟨?hw2, ?hy2⟩) (by assumption) ?rest2
            case hi2 => (simp only [List.getElem?_toArray, List.getElem?_cons_succ, List.getElem?_cons_zero]; try rfl)
            case hq2 => exact fun _ _ _ h => h
            case hw2 => rfl
            case hy2 => (intro w hSw; (try dsimp only at hSw); go_simp <;> with_reducible rfl)
            try simp only [Act.put, List.setIfInBounds_toArray, List.set_cons_zero, List.set_cons_succ]
            refine wpAnyH_take (i := 3) (oi := ?oi3) (v := ?v3) ?hi3 (by kernel_rfl) (by kernel_rfl) (by kernel_rfl) ?hq3 (Or.inl ⟨?hw3, ?hy3⟩) (by assumption) ?rest3
            case hi3 => (simp only [List.getElem?_toArray, List.getElem?_cons_succ, List.getElem?_cons_zero]; try rfl)
            case hq3 => exact fun _ _ _ h => h
            case hw3 => rfl
            case hy3 => (intro w hSw; (try dsimp only at hSw); go_simp <;> with_reducible rfl)
            try simp only [Act.put, List.setIfInBounds_toArray, List.set_cons_zero, List.set_cons_succ]
            refine wpAnyH_take (i := 4) (oi := ?oi4) (v := ?v4) ?hi4 (by kernel_rfl) (by kernel_rfl) (by kernel_rfl) ?hq4 (Or.inl ⟨?hw4, ?hy4⟩) (by assumption) ?rest4
            case hi4 => (simp only [List.getElem?_toArray, List.getElem?_cons_succ, List.getElem?_cons_zero]; try rfl)
            case hq4 => exact fun _ _ _ h => h
            case hw4 => rfl
            case hy4 => (intro w hSw; (try dsimp only at hSw); go_simp <;> with_reducible rfl)
            try simp only [Act.put, List.setIfInBounds_toArray, List.set_cons_zero, List.set_cons_succ]
            refine wpAnyH_ready (rs := [5]) (by kernel_rfl) (by simp) ?_
            refine AllReadyH.cons (o := ?o5) ?hi5 (fun K hK => ?st5) AllReadyH.nil
            case hi5 => (simp only [List.getElem?_toArray, List.getElem?_cons_succ, List.getElem?_cons_zero]; try rfl)
            go_simp
            refine (block_any ob _).mono ?_
            rintro e w3 ⟨v3, rfl, ho3, hb3⟩
            have hs3 := hs0.drew.below hb3
            have p1 := (hb3.cell (p := ⟨bo, 1, none⟩) hbol).trans o1
            have p3 := (hb3.cell (p := ⟨bo, 3, none⟩) hbol).trans o3
            have hb03 := (Below.drew hb0).trans (hb3.mono hb0.size)
            refine hK.out _ _ ⟨p1, p3⟩ (fun hHeld2 => ?_)
            clear hK K hHeld
            have hHeld := hHeld2
            clear hHeld2
            try simp only [Act.put, List.setIfInBounds_toArray, List.set_cons_zero, List.set_cons_succ]
            refine wpAnyH_ready (rs := [6]) (by kernel_rfl) (by simp) ?_
            refine AllReadyH.cons (o := ?o6) ?hi6 (fun K hK => ?st6) AllReadyH.nil
            case hi6 => (simp only [List.getElem?_toArray, List.getElem?_cons_succ, List.getElem?_cons_zero]; try rfl)
            go_simp
            refine (write_dev g 4 bm gs k _ v3 wt fl oi (fun _ _ => True) (blockL ob) _ hs3 (by omega) ho3 (blockL_len ob) (by simp [maxLen]; omega) hww (fun _ _ _ _ h => trivial)).mono ?_
            rintro e w4 ⟨cc, rfl, hk4, hs4⟩
            have hb4 := keep_below hb03 hk4 (fun i hi h => by omega)
            refine hK.out _ _ ⟨hk4.cell p1 (by rintro (h | h) <;> simp at h <;> omega), hk4.cell p3 (by rintro (h | h) <;> simp at h <;> omega)⟩ (fun hHeld2 => ?_)
            clear hK K hHeld
            have hHeld := hHeld2
            clear hHeld2
            try simp only [Act.put, List.setIfInBounds_toArray, List.set_cons_zero, List.set_cons_succ]
            refine wpAnyH_take (i := 7) (oi := ?oi7) (v := ?v7) ?hi7 (by kernel_rfl) (by kernel_rfl) (by kernel_rfl) ?hq7 (Or.inl ⟨?hw7, ?hy7⟩) (by assumption) ?rest7
            case hi7 => (simp only [List.getElem?_toArray, List.getElem?_cons_succ, List.getElem?_cons_zero]; try rfl)
            case hq7 => exact fun _ _ _ h => h
            case hw7 => rfl
            case hy7 => (intro w hSw; (try dsimp only at hSw); go_simp <;> with_reducible rfl)
            try simp only [Act.put, List.setIfInBounds_toArray, List.set_cons_zero, List.set_cons_succ]
            refine wpAnyH_done (by kernel_rfl) ?_ _
            by_cases hc0 : cc = 0
            · subst hc0
              have hs5 : DS w4 g 4 bm gs ((wt + 1 : Nat) : Int) (fl : Int) (k + 1) (fun _ _ => True) := by simpa using hs4
              go_wp2_with fail
              refine (counts_dev g 4 bm gs _ _ _ _ _ hs5).mono ?_
              rintro e w9 ⟨rfl, m9, rfl⟩
              have hs9 := hs5.drewN m9
              have hb9 := below_drewN hb4 m9
              clear hs0 hb0
              go_wp2_with fail
              go_roundg (n - (k + 1))
              case measure => omega
              case rel => exact ⟨k + 1, wt + 1, fl, by go_num, by go_num, by go_num, by omega, by omega, rfl, by omega, by omega, hb9, hs9.more (by omega)⟩
            · have hs5 : DS w4 g 4 bm gs (wt : Int) (fl : Int) (k + 1) (fun _ _ => True) := by simpa [hc0] using hs4
              go_wp2_with fail
              refine (counts_dev g 4 bm gs _ _ _ _ _ hs5).mono ?_
              rintro e w9 ⟨rfl, m9, rfl⟩
              have hs9 := hs5.drewN m9
              have hb9 := below_drewN hb4 m9
              clear hs0 hb0
              go_wp2_with fail
              go_roundg (n - (k + 1))
              case measure => omega
              case rel => exact ⟨k + 1, wt, fl, by go_num, by go_num, by go_num, by omega, by omega, rfl, by omega, by omega, hb9, hs9.more (by omega)⟩
        · by_cases h2 : ok = 2
          · as_aux_lemma =>
              subst h2
              go_wp2_with fail
              refine (flush_dev g 4 bm gs k wt fl (fun _ _ => True) _ hs0 (by omega) hwf (fun _ _ h => trivial)).mono ?_
              rintro e w4 ⟨cc, rfl, hk4, hs4⟩
              have hb4 := keep_below hb0 hk4 (fun i hi h => by omega)
              by_cases hc0 : cc = 0
              · subst hc0
                have hs5 : DS w4 g 4 bm gs (wt : Int) ((fl + 1 : Nat) : Int) k (fun _ _ => True) := by simpa using hs4
                go_wp2_with fail
                refine (counts_dev g 4 bm gs _ _ _ _ _ hs5).mono ?_
                rintro e w9 ⟨rfl, m9, rfl⟩
                have hs9 := hs5.drewN m9
                have hb9 := below_drewN hb4 m9
                clear hs0 hb0
                go_wp2_with fail
                go_roundg (n - (k + 1))
                case measure => omega
                case rel => exact ⟨k + 1, wt, fl + 1, by go_num, by go_num, by go_num, by omega, by omega, rfl, by omega, by omega, hb9, hs9.more (by omega)⟩
              · have hs5 : DS w4 g 4 bm gs (wt : Int) (fl : Int) k (fun _ _ => True) := by simpa [hc0] using hs4
                go_wp2_with fail
                refine (counts_dev g 4 bm gs _ _ _ _ _ hs5).mono ?_
                rintro e w9 ⟨rfl, m9, rfl⟩
                have hs9 := hs5.drewN m9
                have hb9 := below_drewN hb4 m9
                clear hs0 hb0
                go_wp2_with fail
                go_roundg (n - (k + 1))
                case measure => omega
                case rel => exact ⟨k + 1, wt, fl, by go_num, by go_num, by go_num, by omega, by omega, rfl, by omega, by omega, hb9, hs9.more (by omega)⟩
          · by_cases h3 : ok = 3
            · as_aux_lemma =>
                subst h3
                go_wp2_with fail
                refine (crash_dev g 4 bm gs k oA oq oc keep wt fl oi on (fun _ _ => True) _ hs0 (by omega) hir0 hwk hwi hagl hlq (fun _ _ _ _ h => trivial)).mono ?_
                rintro e w4 ⟨cc, rfl, hk4, hs4⟩
                have hb4 := keep_below hb0 hk4 (fun i hi h => by omega)
                go_wp2_with fail
                refine (counts_dev g 4 bm gs _ _ _ _ _ hs4).mono ?_
                rintro e w9 ⟨rfl, m9, rfl⟩
                have hs9 := hs4.drewN m9
                have hb9 := below_drewN hb4 m9
                clear hs0 hb0
                go_wp2_with fail
                go_roundg (n - (k + 1))
                case measure => omega
                case rel => exact ⟨k + 1, wt, fl, by go_num, by go_num, by go_num, by omega, by omega, rfl, by omega, by omega, hb9, hs9.more (by omega)⟩
            · by_cases h4 : ok = 4
              · as_aux_lemma =>
                  subst h4
                  go_wp2_with fail
                  refine (stop_dev g 4 bm gs k wt fl on (fun _ _ => True) _ hs0).mono ?_
                  rintro e w4 ⟨rfl, hk4, hs4⟩
                  have hb4 := keep_below hb0 hk4 (fun i hi h => by omega)
                  go_wp2_with fail
                  refine (counts_dev g 4 bm gs _ _ _ _ _ hs4).mono ?_
                  rintro e w9 ⟨rfl, m9, rfl⟩
                  have hs9 := hs4.drewN m9
                  have hb9 := below_drewN hb4 m9
                  clear hs0 hb0
                  go_wp2_with fail
                  go_roundg (n - (k + 1))
                  case measure => omega
                  case rel => exact ⟨k + 1, wt, fl, by go_num, by go_num, by go_num, by omega, by omega, rfl, by omega, by omega, hb9, hs9.more (by omega)⟩
              · as_aux_lemma =>
                  go_wp2_with fail
                  refine (counts_dev g 4 bm gs _ _ _ _ _ hs0).mono ?_
                  rintro e w9 ⟨rfl, m9, rfl⟩
                  have hs9 := hs0.drewN m9
                  have hb9 := below_drewN hb0 m9
                  go_wp2_with fail
                  go_roundg (n - (k + 1))
                  case measure => omega
                  case rel => exact ⟨k + 1, wt, fl, by go_num, by go_num, by go_num, by omega, by omega, rfl, by omega, by omega, hb9, hs9.more (by omega)⟩
      · have hlz2 : ¬ (k : Int) < 200 := by omega
        go_wp2
        go_ret
        exact ⟨rfl, hb⟩
    · have hlz : ¬ (k : Int) < (n : Int) := by omega
      go_wp2
      go_ret
      exact ⟨rfl, hb⟩

namespace sectorCountsDone
open Go.ChangeShapes Go.WideShapes Go.ChangeAt
set_option maxRecDepth 100000 in
theorem lifted (os : Os) (started : os.Started) (H : Type) (enc : TypeId × Value → H) :
    ReturnsInHanded {} Try.checked os 7 .any (Rows.sectorCountsSpec.pre6 enc Try.prog Try.f7 Rows.sectorCountsRow.domain false) (Rows.sectorCountsSpec.post enc Try.prog Try.f7 false true false false) := by
  refine returnsInHanded_of_change_sized (C := Try.checked) own started (by kernel_rfl) Try.func7
    (ChangeSpec.witness6 (enc := enc) (C := Try.checked) false ⟨#[], #[Value.slice none 0 0], []⟩ 8 (by kernel_rfl) (by kernel_rfl) (by kernel_rfl) (by kernel_rfl)) ?_
  intro W base args ds gs before hval0 hW hcnd hsz0 _
  have hsz : (DataW.weightsEach Try.prog (Try.f7.params.toList ++ Rows.sectorCountsSpec.plain.varTypes Try.prog) (ds ++ gs)).all (· ≤ reachBytes) = true := hsz0
  clear hsz0
  have hval : ∀ (j : Nat) t v, Try.f7.params[j]? = some t → args[j]? = some v → Value.okWide Try.prog W .any base t v := hval0
  have hW' := hW
  obtain ⟨p, q, hA0, hV, rfl, hfz, hnd⟩ := hW
  have hA : DataW.TrodAll enc Try.prog W 0 (fun _ => true) true Try.f7.params.toList args.toList ds p := hA0
  rw [Try.params7] at hA hval hsz
  obtain ⟨v0, vs0, d0, ds0, p0, q0, hargs, rfl, rfl, h0, r0⟩ := trodAll_cons hA
  obtain ⟨rfl, rfl, rfl⟩ := trodAll_nil r0
  obtain rfl : args = #[v0] := by cases args; simp_all
  obtain ⟨rfl, rfl⟩ := trodVars_none hV
  obtain ⟨a0, len0, cap0, rfl⟩ := okWide_slice Try.underlying22 (hval 0 22 v0 rfl rfl)
  have k0 := h0
  have lt0 : ∀ x ∈ p0, x.block < W.heap.size := by obtain ⟨m, hm⟩ := k0; exact DataW.trod_lt m _ _ _ hm
  obtain ⟨f0, ho0, hc0, hm0⟩ := ops_open h0
  clear hA0 hval0
  refine (sectorCounts_walk (w := W) a0 len0 cap0 f0 ho0 hc0 hm0).mono fun e W' ⟨he, bel⟩ => ?_
  subst he
  exact ⟨_, rfl, _, _, _, [], _, [], hW', trodAll_mk1 (shut_bool Try.underlying4 _), (trodAll_cons_mk (Below.trod laidOut (by kernel_rfl) (of_decide_eq_true (by kernel_rfl)) k0 bel lt0) trodAll_mk0), rfl, bel.frame _, fun h => by cases h⟩

theorem over : Rows.sectorCountsRow.holds Try.pinned (OpenSpec.ofChange Rows.sectorCountsSpec) :=
  OpenClaim.holds_of_wide 7 Try.f7 rfl rfl rfl rfl rfl rfl rfl ⟨rfl, rfl, rfl, rfl, rfl⟩ rfl rfl rfl rfl rfl (by kernel_rfl) Try.func7 (by kernel_rfl)
    (of_decide_eq_true (by kernel_rfl)) (by unfold Func.isWrapper; first | (rw [if_pos (by decide +kernel)]; kernel_rfl) | (rw [if_neg (by decide +kernel)]; exact ⟨rfl, rfl⟩))
    (fun os started H enc _ => lifted os started H enc)

/-- The statement. -/
theorem proved : Rows.SectorCountsSaid := over
end sectorCountsDone
end Go.Proofs.Ytoioigkbcfmfkaa
