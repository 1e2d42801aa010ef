/- 'SectorKeeps' returns true for every input: the row of this law, proved. No condition. -/
import Derived.Test.YtoioigkbcfmfkaaOp3
import Derived.ProofKit
import Derived.OpenShut
import Derived.ShutString
import Derived.ChangeOld
import Derived.SizedLaws
namespace Go.Proofs.Ytoioigkbcfmfkaa
open Go.RowKit
set_option linter.unusedVariables false
set_option linter.unusedSimpArgs false
theorem flush_start (n j : Nat) (l : List UInt8) (hj : j < n) : (flushS (fun q => if q = j then some l else none) (List.replicate n zero64))[j]? = some l := by simp [flushS, List.getElem?_mapIdx, hj]
set_option maxRecDepth 100000 in
set_option maxHeartbeats 3200000 in
theorem sectorKeeps_walk {w : World} (i : Int) (w0 : (Lit.int .i64 i).wf = true) (b0 : Int) (w1 : (Lit.int .u8 b0).wf = true) (A : Option Addr) (n c : Nat) (f : Nat → OpV3) (ho : OPS w A n f) (hc : n ≤ c) (hm : c ≤ 9223372036854775807) :
    Calls Try.prog 4 #[.int .i64 i, .int .u8 b0, .slice A n c] w fun e w' => e = .returned (.bool true) ∧ Below w.heap.size w w' := by
  obtain ⟨b, rfl⟩ := nat_u8 w1
  clear w0 w1
  by_cases hz0 : i < 0
  · as_aux_lemma =>
      go_enter Try.func4, Try.ntmps4
      go_wp2_with fail
      refine (new_dev 8 _ (by omega) (by omega)).mono ?_
      rintro e w1 ⟨g, bm, gs, rfl, hg, hbm, hgs, hb1, hd1⟩
      go_wp2_with fail
      refine (lives_any _).mono ?_
      rintro e w2 ⟨rfl, hb12⟩
      have hb2 := hb1.trans (hb12.mono hb1.size)
      have hd2 := hd1.below hb12
      clear hb1 hd1 hb12
      clear hd2
      go_wp2_with fail
      refine (lives_any _).mono ?_
      rintro e w3 ⟨rfl, hb23⟩
      go_wp2_with fail
      go_ret
      exact ⟨rfl, hb2.trans (hb23.mono hb2.size)⟩
  · by_cases hz1 : 7 < i
    · as_aux_lemma =>
        go_enter Try.func4, Try.ntmps4
        go_wp2_with fail
        refine (new_dev 8 _ (by omega) (by omega)).mono ?_
        rintro e w1 ⟨g, bm, gs, rfl, hg, hbm, hgs, hb1, hd1⟩
        go_wp2_with fail
        refine (lives_any _).mono ?_
        rintro e w2 ⟨rfl, hb12⟩
        have hb2 := hb1.trans (hb12.mono hb1.size)
        have hd2 := hd1.below hb12
        clear hb1 hd1 hb12
        clear hd2
        go_wp2_with fail
        refine (lives_any _).mono ?_
        rintro e w3 ⟨rfl, hb23⟩
        go_wp2_with fail
        go_ret
        exact ⟨rfl, hb2.trans (hb23.mono hb2.size)⟩
    · obtain ⟨j, rfl⟩ : ∃ j : Nat, i = (j : Int) := ⟨i.toNat, by omega⟩
      have hj8 : j < 8 := by omega
      go_enter Try.func4, Try.ntmps4
      go_wp2_with fail
      refine (new_dev 8 _ (by omega) (by omega)).mono ?_
      rintro e w1 ⟨g, bm, gs, rfl, hg, hbm, hgs, hb1, hd1⟩
      go_wp2_with fail
      refine (lives_any _).mono ?_
      rintro e w2 ⟨rfl, hb12⟩
      have hb2 := hb1.trans (hb12.mono hb1.size)
      have hd2 := hd1.below hb12
      clear hb1 hd1 hb12
      go_wp2_with fail
      refine (block_any b _).mono ?_
      rintro e w3 ⟨v3, rfl, ho3, hb23⟩
      have hb3 := hb2.trans (hb23.mono hb2.size)
      have hd3 := hd2.below hb23
      clear hd2 hb2 hb23
      go_wp2_with fail
      refine (write_own g 8 bm gs 0 j _ v3 (-1) 0 0 1 _ _ (fun _ => none) _ _ hd3 (REP.start 8) (by omega) (by omega) (by omega) ho3 (blockL_len b) (by simp [maxLen]) (by rfl)).mono ?_
      rintro e w4 ⟨rfl, hk4, D4, hd4, hr4⟩
      have hb4 := keep_below hb3 hk4 (fun i hi h => by omega)
      clear hd3 ho3 hk4 hb3
      go_wp2_with fail
      refine (flush_ok g 8 bm gs _ _ 1 0 1 _ D4 _ _ hd4 hr4 (by omega) (by decide) (by rfl)).mono ?_
      rintro e w5 ⟨rfl, hk5, hd5⟩
      have hb5 := keep_below hb4 hk5 (fun i hi h => by omega)
      have hfl8 : (flushS (fun q => if q = j then some (blockL b) else none) (List.replicate 8 zero64))[j]? = some (blockL b) := flush_start 8 j (blockL b) hj8
      have hs5 : DS w5 g 8 bm gs ((1 : Nat) : Int) ((1 : Nat) : Int) 0 (Kept j (blockL b)) := ⟨_, _, _, _, _, hd5, REP.start 8, by omega, rfl, hfl8⟩
      clear hd4 hr4 hk5 hb4 hd5 hfl8
      go_wp2_with fail
      go_loopg [9] n (fun g1 s7 wr => ∃ (k wt fl : Nat), s7 = .int .i64 (k : Int) ∧ k ≤ n ∧ k ≤ 200 ∧ g1 = n - k ∧ wt ≤ k + 1 ∧ fl ≤ k + 1 ∧ Below w.heap.size w wr ∧ DS wr g 8 bm gs (wt : Int) (fl : Int) k (Kept j (blockL b)))
      case atStart => exact ⟨0, 1, 1, by go_num, by omega, by omega, rfl, by omega, by omega, hb5, hs5⟩
      case round =>
        obtain ⟨k, wt, fl, rfl, hk, hk2, hg1, hwt, hfl, hb, hs⟩ := hrel
        clear hs5 hb5
        by_cases hlt : k < n
        · by_cases h200 : k < 200
          · have hlz : (k : Int) < (n : Int) := by omega
            have hlz2 : (k : Int) < 200 := by omega
            obtain ⟨bq, off, rfl, hbl, hat⟩ := ho (by omega)
            have hop := (hat k hlt).below hb
            have hal := (hat k hlt).al
            generalize f k = o at hop hal
            obtain ⟨ok, oi, on, ob, oA, oq, oc, keep, oB, obl, obc⟩ := o
            have c0 := hop.c0
            have c1 := hop.c1
            have c2 := hop.c2
            have c3 := hop.c3
            have c4 := hop.c4
            have c5 := hop.c5
            have hir := hop.ir
            have hwk := hop.wk
            have hwi := hop.wi
            have hlq := hop.lq
            simp only at c0 c1 c2 c3 c4 c5 hir hwk hwi hlq hal
            have hblr : bq < wr.heap.size := World.block_lt_of_cell? _ _ c0
            have hop0 := Blk.new wr 34 #[.int .i64 ok, .int .i64 oi, .int .i64 on, .int .u8 (ob.toNat : Int), .slice oA oq oc, .slice oB obl obc]
            have hk0 := (Keep.refl (fun _ => False) wr).alloc (.cells #[.int .i64 ok, .int .i64 oi, .int .i64 on, .int .u8 (ob.toNat : Int), .slice oA oq oc, .slice oB obl obc] 34)
            have hb0 := hb.alloc hb.size (.cells #[.int .i64 ok, .int .i64 oi, .int .i64 on, .int .u8 (ob.toNat : Int), .slice oA oq oc, .slice oB obl obc] 34)
            have hs0 := hs.kept hk0 (fun h => h) (fun h => h) (fun h => h)
            have hir0 := hir.kept hk0 (fun _ _ _ h => h)
            have hlw := hs.lt
            have hagl : ∀ ad, oA = some ad → 0 < oq → ad.block ≠ gs := fun ad e hp h => by have := hal ad e hp; omega
            go_upto_block 2 with fail
            generalize hbo : wr.heap.size = bo at *
            generalize wr.alloc (.cells #[.int .i64 ok, .int .i64 oi, .int .i64 on, .int .u8 (ob.toNat : Int), .slice oA oq oc, .slice oB obl obc] 34) = w0 at *
            clear hs hb c0 c1 c2 c3 c4 c5 hir hal hop hat ho
            have o0 := hop0.cell 0
            have o1 := hop0.cell 1
            have o2 := hop0.cell 2
            have o3 := hop0.cell 3
            have o4 := hop0.cell 4
            simp at o0 o1 o2 o3 o4
            have hbol : bo < w0.heap.size := hop0.lt
            have hltd := hs0.lt
            have hww := wrap_up wt (by omega)
            have hwf := wrap_up fl (by omega)
            by_cases h1 : ok = 1
            · as_aux_lemma =>
                subst h1
                by_cases he : oi = (j : Int)
                · go_wp2_with fail
                  go_roundg (n - (k + 1))
                  case measure => omega
                  case rel => exact ⟨k + 1, wt, fl, by go_num, by omega, by omega, rfl, by omega, by omega, hb0, hs0.more (by omega)⟩
                · go_wp2_with fail
                  refine wp_region_held_drew (S := (fun w' => w'.cell? ⟨bo, 1, none⟩ = some (.int .i64 oi) ∧ w'.cell? ⟨bo, 3, none⟩ = some (.int .u8 (ob.toNat : Int)))) (by kernel_rfl) ⟨o1, o3⟩ (fun hHeld => ?_)
                  refine wpAnyH_take (i := 0) (oi := ?oi0) (v := ?v0) ?hi0 (by kernel_rfl) (by kernel_rfl) (by kernel_rfl) ?hq0 (Or.inl ⟨?hw0, ?hy0⟩) (by assumption) ?rest0
                  case hi0 => (simp only [List.getElem?_toArray, List.getElem?_cons_succ, List.getElem?_cons_zero]; try rfl)
                  case hq0 => exact fun _ _ _ h => h
                  case hw0 => rfl
                  case hy0 => (intro w hSw; (try dsimp only at hSw); go_simp <;> with_reducible rfl)
                  try simp only [Act.put, List.setIfInBounds_toArray, List.set_cons_zero, List.set_cons_succ]
                  refine wpAnyH_take (i := 1) (oi := ?oi1) (v := ?v1) ?hi1 (by kernel_rfl) (by kernel_rfl) (by kernel_rfl) ?hq1 (Or.inl ⟨?hw1, ?hy1⟩) (by assumption) ?rest1
                  case hi1 => (simp only [List.getElem?_toArray, List.getElem?_cons_succ, List.getElem?_cons_zero]; try rfl)
                  case hq1 => exact fun _ _ _ h => h
                  case hw1 => rfl
                  case hy1 => (intro w hSw; (try dsimp only at hSw); go_simp <;> with_reducible rfl)
                  try simp only [Act.put, List.setIfInBounds_toArray, List.set_cons_zero, List.set_cons_succ]
                  refine wpAnyH_take (i := 2) (oi := ?oi2) (v := ?v2) ?hi2 (by kernel_rfl) (by kernel_rfl) (by kernel_rfl) ?hq2 (Or.inl ⟨?hw2, ?hy2⟩) (by assumption) ?rest2
                  case hi2 => (simp only [List.getElem?_toArray, List.getElem?_cons_succ, List.getElem?_cons_zero]; try rfl)
                  case hq2 => exact fun _ _ _ h => h
                  case hw2 => rfl
                  case hy2 => (intro w hSw; (try dsimp only at hSw); go_simp <;> with_reducible rfl)
                  try simp only [Act.put, List.setIfInBounds_toArray, List.set_cons_zero, List.set_cons_succ]
                  refine wpAnyH_take (i := 3) (oi := ?oi3) (v := ?v3) ?hi3 (by kernel_rfl) (by kernel_rfl) (by kernel_rfl) ?hq3 (Or.inl ⟨?hw3, ?hy3⟩) (by assumption) ?rest3
                  case hi3 => (simp only [List.getElem?_toArray, List.getElem?_cons_succ, List.getElem?_cons_zero]; try rfl)
                  case hq3 => exact fun _ _ _ h => h
                  case hw3 => rfl
                  case hy3 => (intro w hSw; (try dsimp only at hSw); go_simp <;> with_reducible rfl)
                  try simp only [Act.put, List.setIfInBounds_toArray, List.set_cons_zero, List.set_cons_succ]
                  refine wpAnyH_take (i := 4) (oi := ?oi4) (v := ?v4) ?hi4 (by kernel_rfl) (by kernel_rfl) (by kernel_rfl) ?hq4 (Or.inl ⟨?hw4, ?hy4⟩) (by assumption) ?rest4
                  case hi4 => (simp only [List.getElem?_toArray, List.getElem?_cons_succ, List.getElem?_cons_zero]; try rfl)
                  case hq4 => exact fun _ _ _ h => h
                  case hw4 => rfl
                  case hy4 => (intro w hSw; (try dsimp only at hSw); go_simp <;> with_reducible rfl)
                  try simp only [Act.put, List.setIfInBounds_toArray, List.set_cons_zero, List.set_cons_succ]
                  refine wpAnyH_ready (rs := [5]) (by kernel_rfl) (by simp) ?_
                  refine AllReadyH.cons (o := ?o5) ?hi5 (fun K hK => ?st5) AllReadyH.nil
                  case hi5 => (simp only [List.getElem?_toArray, List.getElem?_cons_succ, List.getElem?_cons_zero]; try rfl)
                  go_simp
                  refine (block_any ob _).mono ?_
                  rintro e w3 ⟨v3, rfl, ho3, hb3⟩
                  have hs3 := hs0.drew.below hb3
                  have p1 := (hb3.cell (p := ⟨bo, 1, none⟩) hbol).trans o1
                  have p3 := (hb3.cell (p := ⟨bo, 3, none⟩) hbol).trans o3
                  have hb03 := (Below.drew hb0).trans (hb3.mono hb0.size)
                  refine hK.out _ _ ⟨p1, p3⟩ (fun hHeld2 => ?_)
                  clear hK K hHeld
                  have hHeld := hHeld2
                  clear hHeld2
                  try simp only [Act.put, List.setIfInBounds_toArray, List.set_cons_zero, List.set_cons_succ]
                  refine wpAnyH_ready (rs := [6]) (by kernel_rfl) (by simp) ?_
                  refine AllReadyH.cons (o := ?o6) ?hi6 (fun K hK => ?st6) AllReadyH.nil
                  case hi6 => (simp only [List.getElem?_toArray, List.getElem?_cons_succ, List.getElem?_cons_zero]; try rfl)
                  go_simp
                  refine (write_dev g 8 bm gs k _ v3 wt fl oi (Kept j (blockL b)) (blockL ob) _ hs3 (by omega) ho3 (blockL_len ob) (by simp [maxLen]; omega) hww (fun dm s kk e h => kept_write h kk (by omega))).mono ?_
                  rintro e w4 ⟨cc, rfl, hk4, hs4⟩
                  have hb4 := keep_below hb03 hk4 (fun i hi h => by omega)
                  refine hK.out _ _ ⟨hk4.cell p1 (by rintro (h | h) <;> simp at h <;> omega), hk4.cell p3 (by rintro (h | h) <;> simp at h <;> omega)⟩ (fun hHeld2 => ?_)
                  clear hK K hHeld
                  have hHeld := hHeld2
                  clear hHeld2
                  try simp only [Act.put, List.setIfInBounds_toArray, List.set_cons_zero, List.set_cons_succ]
                  refine wpAnyH_done (by kernel_rfl) ?_ _
                  go_wp2_with fail
                  by_cases hc0 : cc = 0
                  · subst hc0
                    have hs5 : DS w4 g 8 bm gs ((wt + 1 : Nat) : Int) ((fl : Nat) : Int) (k + 1) (Kept j (blockL b)) := by simpa using hs4
                    clear hs0 hb0
                    go_roundg (n - (k + 1))
                    case measure => omega
                    case rel => exact ⟨k + 1, wt + 1, fl, by go_num, by omega, by omega, rfl, by omega, by omega, hb4, hs5.more (by omega)⟩
                  · have hs5 : DS w4 g 8 bm gs (wt : Int) (fl : Int) (k + 1) (Kept j (blockL b)) := by simpa [hc0] using hs4
                    clear hs0 hb0
                    go_roundg (n - (k + 1))
                    case measure => omega
                    case rel => exact ⟨k + 1, wt, fl, by go_num, by omega, by omega, rfl, by omega, by omega, hb4, hs5.more (by omega)⟩
            · by_cases h2 : ok = 2
              · as_aux_lemma =>
                  subst h2
                  go_wp2_with fail
                  refine (flush_dev g 8 bm gs k wt fl (Kept j (blockL b)) _ hs0 (by omega) hwf (fun _ _ h => kept_flush h)).mono ?_
                  rintro e w4 ⟨cc, rfl, hk4, hs4⟩
                  have hb4 := keep_below hb0 hk4 (fun i hi h => by omega)
                  go_wp2_with fail
                  by_cases hc0 : cc = 0
                  · subst hc0
                    have hs5 : DS w4 g 8 bm gs ((wt : Nat) : Int) ((fl + 1 : Nat) : Int) k (Kept j (blockL b)) := by simpa using hs4
                    clear hs0 hb0
                    go_roundg (n - (k + 1))
                    case measure => omega
                    case rel => exact ⟨k + 1, wt, fl + 1, by go_num, by omega, by omega, rfl, by omega, by omega, hb4, hs5.more (by omega)⟩
                  · have hs5 : DS w4 g 8 bm gs (wt : Int) (fl : Int) k (Kept j (blockL b)) := by simpa [hc0] using hs4
                    clear hs0 hb0
                    go_roundg (n - (k + 1))
                    case measure => omega
                    case rel => exact ⟨k + 1, wt, fl, by go_num, by omega, by omega, rfl, by omega, by omega, hb4, hs5.more (by omega)⟩
              · by_cases h3 : ok = 3
                · as_aux_lemma =>
                    subst h3
                    go_wp2_with fail
                    refine (crash_dev g 8 bm gs k oA oq oc keep wt fl oi on (Kept j (blockL b)) _ hs0 (by omega) hir0 hwk hwi hagl hlq (fun _ _ jj _ h => kept_crash h keep oi jj)).mono ?_
                    rintro e w4 ⟨cc, rfl, hk4, hs4⟩
                    have hb4 := keep_below hb0 hk4 (fun i hi h => by omega)
                    go_wp2_with fail
                    clear hs0 hb0
                    go_roundg (n - (k + 1))
                    case measure => omega
                    case rel => exact ⟨k + 1, wt, fl, by go_num, by omega, by omega, rfl, by omega, by omega, hb4, hs4.more (by omega)⟩
                · by_cases h4 : ok = 4
                  · as_aux_lemma =>
                      subst h4
                      go_wp2_with fail
                      refine (stop_dev g 8 bm gs k wt fl on (Kept j (blockL b)) _ hs0).mono ?_
                      rintro e w4 ⟨rfl, hk4, hs4⟩
                      have hb4 := keep_below hb0 hk4 (fun i hi h => by omega)
                      go_wp2_with fail
                      clear hs0 hb0
                      go_roundg (n - (k + 1))
                      case measure => omega
                      case rel => exact ⟨k + 1, wt, fl, by go_num, by omega, by omega, rfl, by omega, by omega, hb4, hs4.more (by omega)⟩
                  · as_aux_lemma =>
                      go_wp2_with fail
                      go_roundg (n - (k + 1))
                      case measure => omega
                      case rel => exact ⟨k + 1, wt, fl, by go_num, by omega, by omega, rfl, by omega, by omega, hb0, hs0.more (by omega)⟩
          · have hlz : (k : Int) < (n : Int) := by omega
            have hlz2 : ¬ (k : Int) < 200 := by omega
            as_aux_lemma =>
              clear hk2
              go_wp2_with fail
              obtain ⟨left, sure, D, N, dm, hd, hr, hN, hc⟩ := hs
              refine (crash_ok g 8 bm gs _ 64 none 0 0 [] _ _ _ (j : Int) _ D _ _ hd hr (by omega) (by omega) (IR.nil _ _) (by simp) (by simp [Lit.wf, IntKind.min, IntKind.max, IntKind.signed, IntKind.bits]; omega) (fun ad h _ => by cases h) (by omega)).mono ?_
              rintro e w8 ⟨rfl, hk8, hd8⟩
              have hb8 := keep_below hb hk8 (fun i hi h => by omega)
              have hc8 := (kept_crash hc [] (j : Int) 64).2
              clear hd hr hk8 hb
              go_wp2_with fail
              refine (read_sure g 8 bm gs 0 j (-1) _ _ _ _ (blockL b) _ hd8 (by omega) (by omega) (by omega) hc8 (Go.Maps.atKey_of_not_has rfl _) rfl).mono ?_
              rintro e w9 ⟨b0, rfl, hb0, hb89, hr9⟩
              have hb9 := hb8.trans (hb89.mono hb8.size)
              clear hd8 hb8 hb89
              go_wp2_with fail
              refine wp_region_held_drew (S := (fun w' => (convert 32 9 (.slice (some ⟨b0, 0, none⟩) 64 64)).run Try.prog w' = .ok (.string ⟨(blockL b).toArray⟩) w')) (by kernel_rfl) (run_str _ _ _ _ _ hr9.drew) (fun hHeld => ?_)
              refine wpAnyH_take (i := 0) (oi := ?oi0x) (v := ?v0x) ?hi0x (by kernel_rfl) (by kernel_rfl) (by kernel_rfl) ?hq0x (Or.inl ⟨?hw0x, ?hy0x⟩) (by assumption) ?rest0x
              case hi0x => (simp only [List.getElem?_toArray, List.getElem?_cons_succ, List.getElem?_cons_zero]; try rfl)
              case hq0x => exact fun _ _ _ h => h
              case hw0x => rfl
              case hy0x => (intro w hSw; (try dsimp only at hSw); go_simp <;> with_reducible rfl)
              try simp only [Act.put, List.setIfInBounds_toArray, List.set_cons_zero, List.set_cons_succ]
              refine wpAnyH_take (i := 1) (oi := ?oi1x) (v := ?v1x) ?hi1x (by kernel_rfl) (by kernel_rfl) (by kernel_rfl) ?hq1x (Or.inl ⟨?hw1x, ?hy1x⟩) (by assumption) ?rest1x
              case hi1x => (simp only [List.getElem?_toArray, List.getElem?_cons_succ, List.getElem?_cons_zero]; try rfl)
              case hq1x => exact fun _ _ _ h => h
              case hw1x => rfl
              case hy1x => (intro w hSw; (try dsimp only at hSw); go_simp <;> with_reducible rfl)
              try simp only [Act.put, List.setIfInBounds_toArray, List.set_cons_zero, List.set_cons_succ]
              refine wpAnyH_take (i := 2) (oi := ?oi2x) (v := ?v2x) ?hi2x (by kernel_rfl) (by kernel_rfl) (by kernel_rfl) ?hq2x (Or.inl ⟨?hw2x, ?hy2x⟩) (by assumption) ?rest2x
              case hi2x => (simp only [List.getElem?_toArray, List.getElem?_cons_succ, List.getElem?_cons_zero]; try rfl)
              case hq2x => exact fun _ _ _ h => h
              case hw2x => rfl
              case hy2x => (intro w hSw; (try dsimp only at hSw); go_simp <;> with_reducible rfl)
              try simp only [Act.put, List.setIfInBounds_toArray, List.set_cons_zero, List.set_cons_succ]
              refine wpAnyH_take (i := 3) (oi := ?oi3x) (v := ?v3x) ?hi3x (by kernel_rfl) (by kernel_rfl) (by kernel_rfl) ?hq3x (Or.inl ⟨?hw3x, ?hy3x⟩) (by assumption) ?rest3x
              case hi3x => (simp only [List.getElem?_toArray, List.getElem?_cons_succ, List.getElem?_cons_zero]; try rfl)
              case hq3x => exact fun _ _ _ h => h
              case hw3x => rfl
              case hy3x => (intro w hSw; (try dsimp only at hSw); go_simp <;> with_reducible rfl)
              try simp only [Act.put, List.setIfInBounds_toArray, List.set_cons_zero, List.set_cons_succ]
              refine wpAnyH_take (i := 4) (oi := ?oi4x) (v := ?v4x) ?hi4x (by kernel_rfl) (by kernel_rfl) (by kernel_rfl) ?hq4x (Or.inl ⟨?hw4x, ?hy4x⟩) (by assumption) ?rest4x
              case hi4x => (simp only [List.getElem?_toArray, List.getElem?_cons_succ, List.getElem?_cons_zero]; try rfl)
              case hq4x => exact fun _ _ _ h => h
              case hw4x => rfl
              case hy4x => (intro w hSw; (try dsimp only at hSw); go_simp <;> with_reducible rfl)
              try simp only [Act.put, List.setIfInBounds_toArray, List.set_cons_zero, List.set_cons_succ]
              refine wpAnyH_take (i := 5) (oi := ?oi5x) (v := ?v5x) ?hi5x (by kernel_rfl) (by kernel_rfl) (by kernel_rfl) ?hq5x (Or.inl ⟨?hw5x, ?hy5x⟩) (by assumption) ?rest5x
              case hi5x => (simp only [List.getElem?_toArray, List.getElem?_cons_succ, List.getElem?_cons_zero]; try rfl)
              case hq5x => exact fun _ _ _ h => h
              case hw5x => rfl
              case hy5x => (intro w hSw; (try dsimp only at hSw); go_simp <;> with_reducible rfl)
              try simp only [Act.put, List.setIfInBounds_toArray, List.set_cons_zero, List.set_cons_succ]
              refine wpAnyH_ready (rs := [6]) (by kernel_rfl) (by simp) ?_
              refine AllReadyH.cons (o := ?o6x) ?hi6x (fun K hK => ?st6x) AllReadyH.nil
              case hi6x => (simp only [List.getElem?_toArray, List.getElem?_cons_succ, List.getElem?_cons_zero]; try rfl)
              go_simp
              refine (block_any b _).mono ?_
              rintro e w10 ⟨v10, rfl, ho10, hb10⟩
              obtain ⟨A10, c10, rfl, hl10, hm10, hr10, _⟩ := ho10.form
              rw [blockL_len] at hr10 ⊢
              have hc10 := run_str w10 A10 64 c10 _ hr10
              have hr0b := (show RB w9.drew _ _ _ from hr9.drew).below hb10
              have hb010 := (Below.drew hb9).trans (hb10.mono hb9.size)
              refine hK.out _ _ (run_str _ _ _ _ _ hr0b) (fun hHeld2 => ?_)
              clear hK K hHeld
              have hHeld := hHeld2
              clear hHeld2
              try simp only [Act.put, List.setIfInBounds_toArray, List.set_cons_zero, List.set_cons_succ]
              refine wpAnyH_ready (rs := [7]) (by kernel_rfl) (by simp) ?_
              refine AllReadyH.cons (o := ?o7x) ?hi7x (fun K hK => ?st7x) AllReadyH.nil
              case hi7x => (simp only [List.getElem?_toArray, List.getElem?_cons_succ, List.getElem?_cons_zero]; try rfl)
              go_simp
              refine hK.out _ _ (run_str _ _ _ _ _ hr0b) (fun hHeld2 => ?_)
              clear hK K hHeld
              have hHeld := hHeld2
              clear hHeld2
              try simp only [Act.put, List.setIfInBounds_toArray, List.set_cons_zero, List.set_cons_succ]
              refine wpAnyH_take (i := 8) (oi := ?oi8x) (v := ?v8x) ?hi8x (by kernel_rfl) (by kernel_rfl) (by kernel_rfl) ?hq8x (Or.inl ⟨?hw8x, ?hy8x⟩) (by assumption) ?rest8x
              case hi8x => (simp only [List.getElem?_toArray, List.getElem?_cons_succ, List.getElem?_cons_zero]; try rfl)
              case hq8x => exact fun _ _ _ h => h
              case hw8x => rfl
              case hy8x => (intro w hSw; (try dsimp only at hSw); go_simp <;> with_reducible rfl)
              try simp only [Act.put, List.setIfInBounds_toArray, List.set_cons_zero, List.set_cons_succ]
              refine wpAnyH_take (i := 9) (oi := ?oi9x) (v := ?v9x) ?hi9x (by kernel_rfl) (by kernel_rfl) (by kernel_rfl) ?hq9x (Or.inl ⟨?hw9x, ?hy9x⟩) (by assumption) ?rest9x
              case hi9x => (simp only [List.getElem?_toArray, List.getElem?_cons_succ, List.getElem?_cons_zero]; try rfl)
              case hq9x => exact fun _ _ _ h => h
              case hw9x => rfl
              case hy9x => (intro w hSw; (try dsimp only at hSw); go_simp <;> with_reducible rfl)
              try simp only [Act.put, List.setIfInBounds_toArray, List.set_cons_zero, List.set_cons_succ]
              refine wpAnyH_take (i := 10) (oi := ?oi10x) (v := ?v10x) ?hi10x (by kernel_rfl) (by kernel_rfl) (by kernel_rfl) ?hq10x (Or.inl ⟨?hw10x, ?hy10x⟩) (by assumption) ?rest10x
              case hi10x => (simp only [List.getElem?_toArray, List.getElem?_cons_succ, List.getElem?_cons_zero]; try rfl)
              case hq10x => exact fun _ _ _ h => h
              case hw10x => rfl
              case hy10x => (intro w hSw; (try dsimp only at hSw); go_simp <;> with_reducible rfl)
              try simp only [Act.put, List.setIfInBounds_toArray, List.set_cons_zero, List.set_cons_succ]
              refine wpAnyH_done (by kernel_rfl) ?_ _
              go_wp2_with fail
              go_ret
              exact ⟨by simp, hb010⟩
        · have hlz : ¬ (k : Int) < (n : Int) := by omega
          as_aux_lemma =>
            clear hk2
            go_wp2_with fail
            obtain ⟨left, sure, D, N, dm, hd, hr, hN, hc⟩ := hs
            refine (crash_ok g 8 bm gs _ 64 none 0 0 [] _ _ _ (j : Int) _ D _ _ hd hr (by omega) (by omega) (IR.nil _ _) (by simp) (by simp [Lit.wf, IntKind.min, IntKind.max, IntKind.signed, IntKind.bits]; omega) (fun ad h _ => by cases h) (by omega)).mono ?_
            rintro e w8 ⟨rfl, hk8, hd8⟩
            have hb8 := keep_below hb hk8 (fun i hi h => by omega)
            have hc8 := (kept_crash hc [] (j : Int) 64).2
            clear hd hr hk8 hb
            go_wp2_with fail
            refine (read_sure g 8 bm gs 0 j (-1) _ _ _ _ (blockL b) _ hd8 (by omega) (by omega) (by omega) hc8 (Go.Maps.atKey_of_not_has rfl _) rfl).mono ?_
            rintro e w9 ⟨b0, rfl, hb0, hb89, hr9⟩
            have hb9 := hb8.trans (hb89.mono hb8.size)
            clear hd8 hb8 hb89
            go_wp2_with fail
            refine wp_region_held_drew (S := (fun w' => (convert 32 9 (.slice (some ⟨b0, 0, none⟩) 64 64)).run Try.prog w' = .ok (.string ⟨(blockL b).toArray⟩) w')) (by kernel_rfl) (run_str _ _ _ _ _ hr9.drew) (fun hHeld => ?_)
            refine wpAnyH_take (i := 0) (oi := ?oi0y) (v := ?v0y) ?hi0y (by kernel_rfl) (by kernel_rfl) (by kernel_rfl) ?hq0y (Or.inl ⟨?hw0y, ?hy0y⟩) (by assumption) ?rest0y
            case hi0y => (simp only [List.getElem?_toArray, List.getElem?_cons_succ, List.getElem?_cons_zero]; try rfl)
            case hq0y => exact fun _ _ _ h => h
            case hw0y => rfl
            case hy0y => (intro w hSw; (try dsimp only at hSw); go_simp <;> with_reducible rfl)
            try simp only [Act.put, List.setIfInBounds_toArray, List.set_cons_zero, List.set_cons_succ]
            refine wpAnyH_take (i := 1) (oi := ?oi1y) (v := ?v1y) ?hi1y (by kernel_rfl) (by kernel_rfl) (by kernel_rfl) ?hq1y (Or.inl ⟨?hw1y, ?hy1y⟩) (by assumption) ?rest1y
            case hi1y => (simp only [List.getElem?_toArray, List.getElem?_cons_succ, List.getElem?_cons_zero]; try rfl)
            case hq1y => exact fun _ _ _ h => h
            case hw1y => rfl
            case hy1y => (intro w hSw; (try dsimp only at hSw); go_simp <;> with_reducible rfl)
            try simp only [Act.put, List.setIfInBounds_toArray, List.set_cons_zero, List.set_cons_succ]
            refine wpAnyH_take (i := 2) (oi := ?oi2y) (v := ?v2y) ?hi2y (by kernel_rfl) (by kernel_rfl) (by kernel_rfl) ?hq2y (Or.inl ⟨?hw2y, ?hy2y⟩) (by assumption) ?rest2y
            case hi2y => (simp only [List.getElem?_toArray, List.getElem?_cons_succ, List.getElem?_cons_zero]; try rfl)
            case hq2y => exact fun _ _ _ h => h
            case hw2y => rfl
            case hy2y => (intro w hSw; (try dsimp only at hSw); go_simp <;> with_reducible rfl)
            try simp only [Act.put, List.setIfInBounds_toArray, List.set_cons_zero, List.set_cons_succ]
            refine wpAnyH_take (i := 3) (oi := ?oi3y) (v := ?v3y) ?hi3y (by kernel_rfl) (by kernel_rfl) (by kernel_rfl) ?hq3y (Or.inl ⟨?hw3y, ?hy3y⟩) (by assumption) ?rest3y
            case hi3y => (simp only [List.getElem?_toArray, List.getElem?_cons_succ, List.getElem?_cons_zero]; try rfl)
            case hq3y => exact fun _ _ _ h => h
            case hw3y => rfl
            case hy3y => (intro w hSw; (try dsimp only at hSw); go_simp <;> with_reducible rfl)
            try simp only [Act.put, List.setIfInBounds_toArray, List.set_cons_zero, List.set_cons_succ]
            refine wpAnyH_take (i := 4) (oi := ?oi4y) (v := ?v4y) ?hi4y (by kernel_rfl) (by kernel_rfl) (by kernel_rfl) ?hq4y (Or.inl ⟨?hw4y, ?hy4y⟩) (by assumption) ?rest4y
            case hi4y => (simp only [List.getElem?_toArray, List.getElem?_cons_succ, List.getElem?_cons_zero]; try rfl)
            case hq4y => exact fun _ _ _ h => h
            case hw4y => rfl
            case hy4y => (intro w hSw; (try dsimp only at hSw); go_simp <;> with_reducible rfl)
            try simp only [Act.put, List.setIfInBounds_toArray, List.set_cons_zero, List.set_cons_succ]
            refine wpAnyH_take (i := 5) (oi := ?oi5y) (v := ?v5y) ?hi5y (by kernel_rfl) (by kernel_rfl) (by kernel_rfl) ?hq5y (Or.inl ⟨?hw5y, ?hy5y⟩) (by assumption) ?rest5y
            case hi5y => (simp only [List.getElem?_toArray, List.getElem?_cons_succ, List.getElem?_cons_zero]; try rfl)
            case hq5y => exact fun _ _ _ h => h
            case hw5y => rfl
            case hy5y => (intro w hSw; (try dsimp only at hSw); go_simp <;> with_reducible rfl)
            try simp only [Act.put, List.setIfInBounds_toArray, List.set_cons_zero, List.set_cons_succ]
            refine wpAnyH_ready (rs := [6]) (by kernel_rfl) (by simp) ?_
            refine AllReadyH.cons (o := ?o6y) ?hi6y (fun K hK => ?st6y) AllReadyH.nil
            case hi6y => (simp only [List.getElem?_toArray, List.getElem?_cons_succ, List.getElem?_cons_zero]; try rfl)
            go_simp
            refine (block_any b _).mono ?_
            rintro e w10 ⟨v10, rfl, ho10, hb10⟩
            obtain ⟨A10, c10, rfl, hl10, hm10, hr10, _⟩ := ho10.form
            rw [blockL_len] at hr10 ⊢
            have hc10 := run_str w10 A10 64 c10 _ hr10
            have hr0b := (show RB w9.drew _ _ _ from hr9.drew).below hb10
            have hb010 := (Below.drew hb9).trans (hb10.mono hb9.size)
            refine hK.out _ _ (run_str _ _ _ _ _ hr0b) (fun hHeld2 => ?_)
            clear hK K hHeld
            have hHeld := hHeld2
            clear hHeld2
            try simp only [Act.put, List.setIfInBounds_toArray, List.set_cons_zero, List.set_cons_succ]
            refine wpAnyH_ready (rs := [7]) (by kernel_rfl) (by simp) ?_
            refine AllReadyH.cons (o := ?o7y) ?hi7y (fun K hK => ?st7y) AllReadyH.nil
            case hi7y => (simp only [List.getElem?_toArray, List.getElem?_cons_succ, List.getElem?_cons_zero]; try rfl)
            go_simp
            refine hK.out _ _ (run_str _ _ _ _ _ hr0b) (fun hHeld2 => ?_)
            clear hK K hHeld
            have hHeld := hHeld2
            clear hHeld2
            try simp only [Act.put, List.setIfInBounds_toArray, List.set_cons_zero, List.set_cons_succ]
            refine wpAnyH_take (i := 8) (oi := ?oi8y) (v := ?v8y) ?hi8y (by kernel_rfl) (by kernel_rfl) (by kernel_rfl) ?hq8y (Or.inl ⟨?hw8y, ?hy8y⟩) (by assumption) ?rest8y
            case hi8y => (simp only [List.getElem?_toArray, List.getElem?_cons_succ, List.getElem?_cons_zero]; try rfl)
            case hq8y => exact fun _ _ _ h => h
            case hw8y => rfl
            case hy8y => (intro w hSw; (try dsimp only at hSw); go_simp <;> with_reducible rfl)
            try simp only [Act.put, List.setIfInBounds_toArray, List.set_cons_zero, List.set_cons_succ]
            refine wpAnyH_take (i := 9) (oi := ?oi9y) (v := ?v9y) ?hi9y (by kernel_rfl) (by kernel_rfl) (by kernel_rfl) ?hq9y (Or.inl ⟨?hw9y, ?hy9y⟩) (by assumption) ?rest9y
            case hi9y => (simp only [List.getElem?_toArray, List.getElem?_cons_succ, List.getElem?_cons_zero]; try rfl)
            case hq9y => exact fun _ _ _ h => h
            case hw9y => rfl
            case hy9y => (intro w hSw; (try dsimp only at hSw); go_simp <;> with_reducible rfl)
            try simp only [Act.put, List.setIfInBounds_toArray, List.set_cons_zero, List.set_cons_succ]
            refine wpAnyH_take (i := 10) (oi := ?oi10y) (v := ?v10y) ?hi10y (by kernel_rfl) (by kernel_rfl) (by kernel_rfl) ?hq10y (Or.inl ⟨?hw10y, ?hy10y⟩) (by assumption) ?rest10y
            case hi10y => (simp only [List.getElem?_toArray, List.getElem?_cons_succ, List.getElem?_cons_zero]; try rfl)
            case hq10y => exact fun _ _ _ h => h
            case hw10y => rfl
            case hy10y => (intro w hSw; (try dsimp only at hSw); go_simp <;> with_reducible rfl)
            try simp only [Act.put, List.setIfInBounds_toArray, List.set_cons_zero, List.set_cons_succ]
            refine wpAnyH_done (by kernel_rfl) ?_ _
            go_wp2_with fail
            go_ret
            exact ⟨by simp, hb010⟩

namespace sectorKeepsDone
open Go.ChangeShapes Go.WideShapes Go.ChangeAt
set_option maxRecDepth 100000 in
theorem lifted (os : Os) (started : os.Started) (H : Type) (enc : TypeId × Value → H) :
    ReturnsInHanded {} Try.checked os 4 .any (Rows.sectorKeepsSpec.pre6 enc Try.prog Try.f4 Rows.sectorKeepsRow.domain false) (Rows.sectorKeepsSpec.post enc Try.prog Try.f4 false true false false) := by
  refine returnsInHanded_of_change_sized (C := Try.checked) own started (by kernel_rfl) Try.func4
    (ChangeSpec.witness6 (enc := enc) (C := Try.checked) false ⟨#[], #[Value.int .i64 0, Value.int .u8 0, Value.slice none 0 0], []⟩ 8 (by kernel_rfl) (by kernel_rfl) (by kernel_rfl) (by kernel_rfl)) ?_
  intro W base args ds gs before hval0 hW hcnd hsz0 _
  have hsz : (DataW.weightsEach Try.prog (Try.f4.params.toList ++ Rows.sectorKeepsSpec.plain.varTypes Try.prog) (ds ++ gs)).all (· ≤ reachBytes) = true := hsz0
  clear hsz0
  have hval : ∀ (j : Nat) t v, Try.f4.params[j]? = some t → args[j]? = some v → Value.okWide Try.prog W .any base t v := hval0
  have hW' := hW
  obtain ⟨p, q, hA0, hV, rfl, hfz, hnd⟩ := hW
  have hA : DataW.TrodAll enc Try.prog W 0 (fun _ => true) true Try.f4.params.toList args.toList ds p := hA0
  rw [Try.params4] at hA hval hsz
  obtain ⟨v0, vs0, d0, ds0, p0, q0, hargs, rfl, rfl, h0, r0⟩ := trodAll_cons hA
  obtain ⟨v1, vs1, d1, ds1, p1, q1, rfl, rfl, rfl, h1, r1⟩ := trodAll_cons r0
  obtain ⟨v2, vs2, d2, ds2, p2, q2, rfl, rfl, rfl, h2, r2⟩ := trodAll_cons r1
  obtain ⟨rfl, rfl, rfl⟩ := trodAll_nil r2
  obtain rfl : args = #[v0, v1, v2] := by cases args; simp_all
  obtain ⟨rfl, rfl⟩ := trodVars_none hV
  obtain ⟨a0, rfl, rfl, rfl, w0⟩ := open_int Try.underlying3 (hval 0 3 v0 rfl rfl) h0
  obtain ⟨a1, rfl, rfl, rfl, w1⟩ := open_int Try.underlying5 (hval 1 5 v1 rfl rfl) h1
  obtain ⟨a2, len2, cap2, rfl⟩ := okWide_slice Try.underlying22 (hval 2 22 v2 rfl rfl)
  have k2 := h2
  have lt2 : ∀ x ∈ p2, x.block < W.heap.size := by obtain ⟨m, hm⟩ := k2; exact DataW.trod_lt m _ _ _ hm
  obtain ⟨f2, ho2, hc2, hm2⟩ := ops_open h2
  clear hA0 hval0
  refine (sectorKeeps_walk (w := W) a0 w0 a1 w1 a2 len2 cap2 f2 ho2 hc2 hm2).mono fun e W' ⟨he, bel⟩ => ?_
  subst he
  exact ⟨_, rfl, _, _, _, [], _, [], hW', trodAll_mk1 (shut_bool Try.underlying4 _), (trodAll_cons_mk (shut_int Try.underlying3 w0) (trodAll_cons_mk (shut_int Try.underlying5 w1) (trodAll_cons_mk (Below.trod laidOut (by kernel_rfl) (of_decide_eq_true (by kernel_rfl)) k2 bel lt2) trodAll_mk0))), rfl, bel.frame _, fun h => by cases h⟩

theorem over : Rows.sectorKeepsRow.holds Try.pinned (OpenSpec.ofChange Rows.sectorKeepsSpec) :=
  OpenClaim.holds_of_wide 4 Try.f4 rfl rfl rfl rfl rfl rfl rfl ⟨rfl, rfl, rfl, rfl, rfl⟩ rfl rfl rfl rfl rfl (by kernel_rfl) Try.func4 (by kernel_rfl)
    (of_decide_eq_true (by kernel_rfl)) (by unfold Func.isWrapper; first | (rw [if_pos (by decide +kernel)]; kernel_rfl) | (rw [if_neg (by decide +kernel)]; exact ⟨rfl, rfl⟩))
    (fun os started H enc _ => lifted os started H enc)

/-- The statement. -/
theorem proved : Rows.SectorKeepsSaid := over
end sectorKeepsDone
end Go.Proofs.Ytoioigkbcfmfkaa
