/- 'StockUnpacks' returns true for every input: the row of this law, proved. No condition. -/
import Derived.Test.YtfpcnenohidfpaaGreatStlM
import Derived.Test.YtfpcnenohidfpaaGreatStlI
import Derived.Test.YtfpcnenohidfpaaGreatStlE
import Derived.Test.YtfpcnenohidfpaaGreatSmF
import Derived.Test.YtfpcnenohidfpaaGreatBytes
import Derived.ProofKit
import Derived.OpenShut
import Derived.ShutString
import Derived.ChangeOld
import Derived.SizedLaws
namespace Go.Proofs.YtfpcnenohidfpaaGreat
open Go.RowKit
set_option linter.unusedVariables false
set_option linter.unusedSimpArgs false
set_option maxRecDepth 100000 in
set_option maxHeartbeats 6400000 in
theorem stockUnpacks_walk {w : World} (a0 : Option Addr) (len0 cap0 : Nat) (z0 : List UInt8) (hr0 : RB w a0 len0 z0) (hc0 : len0 ≤ cap0) (hm0 : cap0 ≤ 9223372036854775807) (hl0 : cap0 ≤ 140737488351232) :
    Calls Tryz.prog 3 #[.slice a0 len0 cap0] w fun e w' => e = .returned (.bool true) ∧ Below w.heap.size w w' := by
  have hln := hr0.1
  subst hln
  have ho0 : OB w.heap.size (w.alloc (.cells #[] 5)) (.slice (some ⟨w.heap.size, 0, none⟩) 0 0) [] := OB.built w.heap.size w [] (Nat.le_refl _) (by simp [maxLen])
  have hba := (Below.refl w.heap.size w).alloc (Nat.le_refl _) (.cells #[] 5)
  have hlow : ∀ W, Below w.heap.size w W → Low W.heap.size a0 z0 := fun W hb hl ad e => by
    obtain ⟨b, off, e2, hc⟩ := hr0.2 hl
    rw [e] at e2
    cases e2
    have h1 := World.block_lt_of_cell? _ _ (hc 0 (z0[0]'hl) (List.getElem?_eq_getElem hl))
    have h2 := hb.size
    exact Nat.lt_of_lt_of_le h1 h2
  go_enter Tryz.func3, Tryz.ntmps3
  go_wp2_with (at_builtin; refine wpApp rfl (.tmp 8) (.tmp 9) rfl w.heap.size _ [] rfl ho0 a0 z0.length cap0 z0 rfl (hr0.alloc _) (by simp; omega) (by simp) ?_; intro v1 w1 hg1; have hb1 := hba.trans (hg1.below ho0 (by simp)); have ho1 := hg1.own; rw [List.nil_append] at ho1; obtain ⟨A1, c1, hv1, _, _, hr1, _⟩ := ho1.form; subst hv1; clear hg1 ho1)
  have hun := sunpack_any A1 z0.length c1 z0 w1 hr1 (by omega)
  have hD := @unpS_pack z0
  obtain ⟨R, hR⟩ : ∃ R, unpS z0 = R := ⟨_, rfl⟩
  rw [hR] at hun hD
  go_wp2_with fail
  refine hun.mono ?_
  rintro e w2 ⟨hx2, h2⟩
  have hb2 := hb1.trans (hx2.mono hb1.size)
  have hr12 := hr1.below hx2
  have hrn := runpack_any a0 z0.length cap0 z0 w2 (hr0.below hb2) hc0 (by unfold maxLen; omega) (hlow _ hb2)
  rw [hR] at hrn
  clear hun hR hba ho0 hlow
  rcases h2 with ⟨rfl, rfl⟩ | ⟨f, ks, p, b, N, rfl, rfl, hP, hN, hpw, hbw⟩
  · go_wp2_with fail
    refine hrn.mono ?_
    rintro e w3 ⟨hx3, h3⟩
    rcases h3 with ⟨_, u, rfl⟩ | ⟨f, ks, q, h, _⟩
    case inr => cases h
    have hb3 := hb2.trans (hx3.mono hb2.size)
    clear hrn
    go_wp2_with fail
    refine (lives_any _).mono ?_
    rintro e w4 ⟨rfl, hx4⟩
    have hb4 := hb3.trans (hx4.mono hb3.size)
    have hs1 := run_str _ _ _ c1 _ ((hr12.below hx3).below hx4)
    have hs2 := run_str _ _ _ cap0 _ (hr0.below hb4)
    go_wp2
    refine wp_region_held_drew (S := (fun _ => True)) (by kernel_rfl) trivial (fun hHeld => ?_)
    refine wpAnyH_take (i := 0) (oi := ?oi0n) (v := ?v0n) ?hi0n (by kernel_rfl) (by kernel_rfl) (by kernel_rfl) ?hq0n (Or.inl ⟨?hw0n, ?hy0n⟩) (by assumption) ?rest0n
    case hi0n => (simp only [List.getElem?_toArray, List.getElem?_cons_succ, List.getElem?_cons_zero]; rfl)
    case hq0n => exact fun _ _ _ h => h
    case hw0n => rfl
    case hy0n => (intro w hSw; (try dsimp only at hSw); go_simp <;> with_reducible rfl)
    try simp only [Act.put, List.setIfInBounds_toArray, List.set_cons_zero, List.set_cons_succ]
    refine wpAnyH_take (i := 1) (oi := ?oi1n) (v := ?v1n) ?hi1n (by kernel_rfl) (by kernel_rfl) (by kernel_rfl) ?hq1n (Or.inl ⟨?hw1n, ?hy1n⟩) (by assumption) ?rest1n
    case hi1n => (simp only [List.getElem?_toArray, List.getElem?_cons_succ, List.getElem?_cons_zero]; rfl)
    case hq1n => exact fun _ _ _ h => h
    case hw1n => rfl
    case hy1n => (intro w hSw; (try dsimp only at hSw); go_simp <;> with_reducible rfl)
    try simp only [Act.put, List.setIfInBounds_toArray, List.set_cons_zero, List.set_cons_succ]
    refine wpAnyH_take (i := 2) (oi := ?oi2n) (v := ?v2n) ?hi2n (by kernel_rfl) (by kernel_rfl) (by kernel_rfl) ?hq2n (Or.inl ⟨?hw2n, ?hy2n⟩) (by assumption) ?rest2n
    case hi2n => (simp only [List.getElem?_toArray, List.getElem?_cons_succ, List.getElem?_cons_zero]; rfl)
    case hq2n => exact fun _ _ _ h => h
    case hw2n => rfl
    case hy2n => (intro w hSw; (try dsimp only at hSw); go_simp <;> with_reducible rfl)
    try simp only [Act.put, List.setIfInBounds_toArray, List.set_cons_zero, List.set_cons_succ]
    refine wpAnyH_take (i := 3) (oi := ?oi3n) (v := undef) ?hi3n (by kernel_rfl) (by kernel_rfl) (by kernel_rfl) ?hq3n (Or.inr ⟨?hw3n, rfl⟩) (by assumption) ?rest3n
    case hi3n => (simp only [List.getElem?_toArray, List.getElem?_cons_succ, List.getElem?_cons_zero]; rfl)
    case hq3n => exact fun _ _ _ h => h
    case hw3n => rfl
    try simp only [Act.put, List.setIfInBounds_toArray, List.set_cons_zero, List.set_cons_succ]
    refine wpAnyH_take (i := 4) (oi := ?oi4n) (v := undef) ?hi4n (by kernel_rfl) (by kernel_rfl) (by kernel_rfl) ?hq4n (Or.inr ⟨?hw4n, rfl⟩) (by assumption) ?rest4n
    case hi4n => (simp only [List.getElem?_toArray, List.getElem?_cons_succ, List.getElem?_cons_zero]; rfl)
    case hq4n => exact fun _ _ _ h => h
    case hw4n => rfl
    try simp only [Act.put, List.setIfInBounds_toArray, List.set_cons_zero, List.set_cons_succ]
    refine wpAnyH_take (i := 5) (oi := ?oi5n) (v := undef) ?hi5n (by kernel_rfl) (by kernel_rfl) (by kernel_rfl) ?hq5n (Or.inr ⟨?hw5n, rfl⟩) (by assumption) ?rest5n
    case hi5n => (simp only [List.getElem?_toArray, List.getElem?_cons_succ, List.getElem?_cons_zero]; rfl)
    case hq5n => exact fun _ _ _ h => h
    case hw5n => rfl
    try simp only [Act.put, List.setIfInBounds_toArray, List.set_cons_zero, List.set_cons_succ]
    refine wpAnyH_take (i := 6) (oi := ?oi6n) (v := undef) ?hi6n (by kernel_rfl) (by kernel_rfl) (by kernel_rfl) ?hq6n (Or.inr ⟨?hw6n, rfl⟩) (by assumption) ?rest6n
    case hi6n => (simp only [List.getElem?_toArray, List.getElem?_cons_succ, List.getElem?_cons_zero]; rfl)
    case hq6n => exact fun _ _ _ h => h
    case hw6n => rfl
    try simp only [Act.put, List.setIfInBounds_toArray, List.set_cons_zero, List.set_cons_succ]
    refine wpAnyH_take (i := 7) (oi := ?oi7n) (v := undef) ?hi7n (by kernel_rfl) (by kernel_rfl) (by kernel_rfl) ?hq7n (Or.inr ⟨?hw7n, rfl⟩) (by assumption) ?rest7n
    case hi7n => (simp only [List.getElem?_toArray, List.getElem?_cons_succ, List.getElem?_cons_zero]; rfl)
    case hq7n => exact fun _ _ _ h => h
    case hw7n => rfl
    try simp only [Act.put, List.setIfInBounds_toArray, List.set_cons_zero, List.set_cons_succ]
    refine wpAnyH_take (i := 8) (oi := ?oi8n) (v := undef) ?hi8n (by kernel_rfl) (by kernel_rfl) (by kernel_rfl) ?hq8n (Or.inr ⟨?hw8n, rfl⟩) (by assumption) ?rest8n
    case hi8n => (simp only [List.getElem?_toArray, List.getElem?_cons_succ, List.getElem?_cons_zero]; rfl)
    case hq8n => exact fun _ _ _ h => h
    case hw8n => rfl
    try simp only [Act.put, List.setIfInBounds_toArray, List.set_cons_zero, List.set_cons_succ]
    refine wpAnyH_take (i := 9) (oi := ?oi9n) (v := undef) ?hi9n (by kernel_rfl) (by kernel_rfl) (by kernel_rfl) ?hq9n (Or.inr ⟨?hw9n, rfl⟩) (by assumption) ?rest9n
    case hi9n => (simp only [List.getElem?_toArray, List.getElem?_cons_succ, List.getElem?_cons_zero]; rfl)
    case hq9n => exact fun _ _ _ h => h
    case hw9n => rfl
    try simp only [Act.put, List.setIfInBounds_toArray, List.set_cons_zero, List.set_cons_succ]
    refine wpAnyH_take (i := 10) (oi := ?oi10n) (v := undef) ?hi10n (by kernel_rfl) (by kernel_rfl) (by kernel_rfl) ?hq10n (Or.inr ⟨?hw10n, rfl⟩) (by assumption) ?rest10n
    case hi10n => (simp only [List.getElem?_toArray, List.getElem?_cons_succ, List.getElem?_cons_zero]; rfl)
    case hq10n => exact fun _ _ _ h => h
    case hw10n => rfl
    try simp only [Act.put, List.setIfInBounds_toArray, List.set_cons_zero, List.set_cons_succ]
    refine wpAnyH_take (i := 11) (oi := ?oi11n) (v := undef) ?hi11n (by kernel_rfl) (by kernel_rfl) (by kernel_rfl) ?hq11n (Or.inr ⟨?hw11n, rfl⟩) (by assumption) ?rest11n
    case hi11n => (simp only [List.getElem?_toArray, List.getElem?_cons_succ, List.getElem?_cons_zero]; rfl)
    case hq11n => exact fun _ _ _ h => h
    case hw11n => rfl
    try simp only [Act.put, List.setIfInBounds_toArray, List.set_cons_zero, List.set_cons_succ]
    refine wpAnyH_take (i := 12) (oi := ?oi12n) (v := undef) ?hi12n (by kernel_rfl) (by kernel_rfl) (by kernel_rfl) ?hq12n (Or.inr ⟨?hw12n, rfl⟩) (by assumption) ?rest12n
    case hi12n => (simp only [List.getElem?_toArray, List.getElem?_cons_succ, List.getElem?_cons_zero]; rfl)
    case hq12n => exact fun _ _ _ h => h
    case hw12n => rfl
    try simp only [Act.put, List.setIfInBounds_toArray, List.set_cons_zero, List.set_cons_succ]
    refine wpAnyH_take (i := 13) (oi := ?oi13n) (v := undef) ?hi13n (by kernel_rfl) (by kernel_rfl) (by kernel_rfl) ?hq13n (Or.inr ⟨?hw13n, rfl⟩) (by assumption) ?rest13n
    case hi13n => (simp only [List.getElem?_toArray, List.getElem?_cons_succ, List.getElem?_cons_zero]; rfl)
    case hq13n => exact fun _ _ _ h => h
    case hw13n => rfl
    try simp only [Act.put, List.setIfInBounds_toArray, List.set_cons_zero, List.set_cons_succ]
    refine wpAnyH_take (i := 14) (oi := ?oi14n) (v := ?v14n) ?hi14n (by kernel_rfl) (by kernel_rfl) (by kernel_rfl) ?hq14n (Or.inl ⟨?hw14n, ?hy14n⟩) (by assumption) ?rest14n
    case hi14n => (simp only [List.getElem?_toArray, List.getElem?_cons_succ, List.getElem?_cons_zero]; rfl)
    case hq14n => exact fun _ _ _ h => h
    case hw14n => rfl
    case hy14n => (intro w hSw; (try dsimp only at hSw); go_simp <;> with_reducible rfl)
    try simp only [Act.put, List.setIfInBounds_toArray, List.set_cons_zero, List.set_cons_succ]
    refine wpAnyH_take (i := 15) (oi := ?oi15n) (v := ?v15n) ?hi15n (by kernel_rfl) (by kernel_rfl) (by kernel_rfl) ?hq15n (Or.inl ⟨?hw15n, ?hy15n⟩) (by assumption) ?rest15n
    case hi15n => (simp only [List.getElem?_toArray, List.getElem?_cons_succ, List.getElem?_cons_zero]; rfl)
    case hq15n => exact fun _ _ _ h => h
    case hw15n => rfl
    case hy15n => (intro w hSw; (try dsimp only at hSw); go_simp <;> with_reducible rfl)
    try simp only [Act.put, List.setIfInBounds_toArray, List.set_cons_zero, List.set_cons_succ]
    refine wpAnyH_done (by kernel_rfl) ?_ _
    go_wp2
    go_ret
    exact ⟨rfl, hb4.drew⟩
  · obtain ⟨hz, hsrt, hlen, hgb, hov, hcn⟩ := hD rfl
    replace hz := Lib.hid hz
    clear hD
    have hSK : SK f ks := ⟨hov, hcn, fun g hg => (hgb g hg).1⟩
    go_wp2_with fail
    refine hrn.mono ?_
    rintro e w3 ⟨hx3, h3⟩
    rcases h3 with ⟨h, _⟩ | ⟨f3, ks3, q, h, rfl, hQ⟩
    case inl => cases h
    obtain ⟨rfl, rfl⟩ := Prod.mk.inj (Option.some.inj h)
    clear h
    have hb3 := hb2.trans (hx3.mono hb2.size)
    clear hrn
    go_wp2_with fail
    refine (lives_any _).mono ?_
    rintro e w4 ⟨rfl, hx4⟩
    have hb4 := hb3.trans (hx4.mono hb3.size)
    have hs1 := run_str _ _ _ c1 _ ((hr12.below hx3).below hx4)
    have hs2 := run_str _ _ _ cap0 _ (hr0.below hb4)
    have hB4 := (hP.below hx3).below hx4
    have hQ4 := hQ.below hx4
    have hlk := looks_any (hB4.below (Below.refl _ _).drew) (hQ4.below (Below.refl _ _).drew) hsrt hlen (fun g hg => gOK_len (hgb g hg).1) (fun g hg => (hgb g hg).2)
    have hs4 := run_str _ _ _ cap0 _ (hr0.below hb4.drew)
    clear hP hQ
    go_wp2
    refine wp_region_held_drew (S := (fun W => (convert 22 9 (.slice a0 z0.length cap0)).run Tryz.prog W = .ok (.string ⟨z0.toArray⟩) W)) (by kernel_rfl) hs4 (fun hHeld => ?_)
    refine wpAnyH_take (i := 0) (oi := ?oi0s) (v := ?v0s) ?hi0s (by kernel_rfl) (by kernel_rfl) (by kernel_rfl) ?hq0s (Or.inl ⟨?hw0s, ?hy0s⟩) (by assumption) ?rest0s
    case hi0s => (simp only [List.getElem?_toArray, List.getElem?_cons_succ, List.getElem?_cons_zero]; rfl)
    case hq0s => exact fun _ _ _ h => h
    case hw0s => rfl
    case hy0s => (intro w hSw; (try dsimp only at hSw); go_simp <;> with_reducible rfl)
    try simp only [Act.put, List.setIfInBounds_toArray, List.set_cons_zero, List.set_cons_succ]
    refine wpAnyH_take (i := 1) (oi := ?oi1s) (v := ?v1s) ?hi1s (by kernel_rfl) (by kernel_rfl) (by kernel_rfl) ?hq1s (Or.inl ⟨?hw1s, ?hy1s⟩) (by assumption) ?rest1s
    case hi1s => (simp only [List.getElem?_toArray, List.getElem?_cons_succ, List.getElem?_cons_zero]; rfl)
    case hq1s => exact fun _ _ _ h => h
    case hw1s => rfl
    case hy1s => (intro w hSw; (try dsimp only at hSw); go_simp <;> with_reducible rfl)
    try simp only [Act.put, List.setIfInBounds_toArray, List.set_cons_zero, List.set_cons_succ]
    refine wpAnyH_take (i := 2) (oi := ?oi2s) (v := ?v2s) ?hi2s (by kernel_rfl) (by kernel_rfl) (by kernel_rfl) ?hq2s (Or.inl ⟨?hw2s, ?hy2s⟩) (by assumption) ?rest2s
    case hi2s => (simp only [List.getElem?_toArray, List.getElem?_cons_succ, List.getElem?_cons_zero]; rfl)
    case hq2s => exact fun _ _ _ h => h
    case hw2s => rfl
    case hy2s => (intro w hSw; (try dsimp only at hSw); go_simp <;> with_reducible rfl)
    try simp only [Act.put, List.setIfInBounds_toArray, List.set_cons_zero, List.set_cons_succ]
    refine wpAnyH_take (i := 3) (oi := ?oi3s) (v := ?v3s) ?hi3s (by kernel_rfl) (by kernel_rfl) (by kernel_rfl) ?hq3s (Or.inl ⟨?hw3s, ?hy3s⟩) (by assumption) ?rest3s
    case hi3s => (simp only [List.getElem?_toArray, List.getElem?_cons_succ, List.getElem?_cons_zero]; rfl)
    case hq3s => exact fun _ _ _ h => h
    case hw3s => rfl
    case hy3s => (intro w hSw; (try dsimp only at hSw); go_simp <;> with_reducible rfl)
    try simp only [Act.put, List.setIfInBounds_toArray, List.set_cons_zero, List.set_cons_succ]
    refine wpAnyH_take (i := 4) (oi := ?oi4s) (v := ?v4s) ?hi4s (by kernel_rfl) (by kernel_rfl) (by kernel_rfl) ?hq4s (Or.inl ⟨?hw4s, ?hy4s⟩) (by assumption) ?rest4s
    case hi4s => (simp only [List.getElem?_toArray, List.getElem?_cons_succ, List.getElem?_cons_zero]; rfl)
    case hq4s => exact fun _ _ _ h => h
    case hw4s => rfl
    case hy4s => (intro w hSw; (try dsimp only at hSw); go_simp <;> with_reducible rfl)
    try simp only [Act.put, List.setIfInBounds_toArray, List.set_cons_zero, List.set_cons_succ]
    refine wpAnyH_ready (rs := [5]) (by kernel_rfl) (by simp) ?_
    refine AllReadyH.cons (o := ?o5s) ?hi5s (fun K hK => ?st5s) AllReadyH.nil
    case hi5s => (simp only [List.getElem?_toArray, List.getElem?_cons_succ, List.getElem?_cons_zero]; rfl)
    go_simp
    refine hlk.mono ?_
    rintro e w5 ⟨rfl, hx5⟩
    have hb5 := hb4.drew.trans (hx5.mono hb4.size)
    have hs5 := run_str _ _ _ cap0 _ (hr0.below hb5)
    have hpk := spack_any ((hB4.below (Below.refl _ _).drew).below hx5) (by omega) hSK.len hSK.ints
    rw [hz.out] at hpk
    refine hK.out _ _ hs5 (fun hHeld2 => ?_)
    clear hK K hHeld
    have hHeld := hHeld2
    clear hHeld2
    try simp only [Act.put, List.setIfInBounds_toArray, List.set_cons_zero, List.set_cons_succ]
    refine wpAnyH_take (i := 6) (oi := ?oi6s) (v := ?v6s) ?hi6s (by kernel_rfl) (by kernel_rfl) (by kernel_rfl) ?hq6s (Or.inl ⟨?hw6s, ?hy6s⟩) (by assumption) ?rest6s
    case hi6s => (simp only [List.getElem?_toArray, List.getElem?_cons_succ, List.getElem?_cons_zero]; rfl)
    case hq6s => exact fun _ _ _ h => h
    case hw6s => rfl
    case hy6s => (intro w hSw; (try dsimp only at hSw); go_simp <;> with_reducible rfl)
    try simp only [Act.put, List.setIfInBounds_toArray, List.set_cons_zero, List.set_cons_succ]
    refine wpAnyH_take (i := 7) (oi := ?oi7s) (v := ?v7s) ?hi7s (by kernel_rfl) (by kernel_rfl) (by kernel_rfl) ?hq7s (Or.inl ⟨?hw7s, ?hy7s⟩) (by assumption) ?rest7s
    case hi7s => (simp only [List.getElem?_toArray, List.getElem?_cons_succ, List.getElem?_cons_zero]; rfl)
    case hq7s => exact fun _ _ _ h => h
    case hw7s => rfl
    case hy7s => (intro w hSw; (try dsimp only at hSw); go_simp <;> with_reducible rfl)
    try simp only [Act.put, List.setIfInBounds_toArray, List.set_cons_zero, List.set_cons_succ]
    refine wpAnyH_take (i := 10) (oi := ?oi10s) (v := ?v10s) ?hi10s (by kernel_rfl) (by kernel_rfl) (by kernel_rfl) ?hq10s (Or.inl ⟨?hw10s, ?hy10s⟩) (by assumption) ?rest10s
    case hi10s => (simp only [List.getElem?_toArray, List.getElem?_cons_succ, List.getElem?_cons_zero]; rfl)
    case hq10s => exact fun _ _ _ h => h
    case hw10s => rfl
    case hy10s => (intro w hSw; (try dsimp only at hSw); go_simp <;> with_reducible rfl)
    try simp only [Act.put, List.setIfInBounds_toArray, List.set_cons_zero, List.set_cons_succ]
    refine wpAnyH_take (i := 11) (oi := ?oi11s) (v := ?v11s) ?hi11s (by kernel_rfl) (by kernel_rfl) (by kernel_rfl) ?hq11s (Or.inl ⟨?hw11s, ?hy11s⟩) (by assumption) ?rest11s
    case hi11s => (simp only [List.getElem?_toArray, List.getElem?_cons_succ, List.getElem?_cons_zero]; rfl)
    case hq11s => exact fun _ _ _ h => h
    case hw11s => rfl
    case hy11s => (intro w hSw; (try dsimp only at hSw); go_simp <;> with_reducible rfl)
    try simp only [Act.put, List.setIfInBounds_toArray, List.set_cons_zero, List.set_cons_succ]
    refine wpAnyH_ready (rs := [8]) (by kernel_rfl) (by simp) ?_
    refine AllReadyH.cons (o := ?o8s) ?hi8s (fun K hK => ?st8s) AllReadyH.nil
    case hi8s => (simp only [List.getElem?_toArray, List.getElem?_cons_succ, List.getElem?_cons_zero]; rfl)
    go_simp
    refine hpk.mono ?_
    rintro e w6 ⟨A6, c6, rfl, hl6, hm6, hr6, hx6, _⟩
    have hb6 := hb5.trans (hx6.mono hb5.size)
    have hs6 := run_str _ _ _ cap0 _ (hr0.below hb6)
    have hs7 := run_str _ _ _ c6 _ hr6
    refine hK.out _ _ hs6 (fun hHeld2 => ?_)
    clear hK K hHeld
    have hHeld := hHeld2
    clear hHeld2
    try simp only [Act.put, List.setIfInBounds_toArray, List.set_cons_zero, List.set_cons_succ]
    refine wpAnyH_ready (rs := [9]) (by kernel_rfl) (by simp) ?_
    refine AllReadyH.cons (o := ?o9s) ?hi9s (fun K hK => ?st9s) AllReadyH.nil
    case hi9s => (simp only [List.getElem?_toArray, List.getElem?_cons_succ, List.getElem?_cons_zero]; rfl)
    go_simp
    refine hK.out _ _ hs6 (fun hHeld2 => ?_)
    clear hK K hHeld
    have hHeld := hHeld2
    clear hHeld2
    try simp only [Act.put, List.setIfInBounds_toArray, List.set_cons_zero, List.set_cons_succ]
    refine wpAnyH_take (i := 12) (oi := ?oi12s) (v := ?v12s) ?hi12s (by kernel_rfl) (by kernel_rfl) (by kernel_rfl) ?hq12s (Or.inl ⟨?hw12s, ?hy12s⟩) (by assumption) ?rest12s
    case hi12s => (simp only [List.getElem?_toArray, List.getElem?_cons_succ, List.getElem?_cons_zero]; rfl)
    case hq12s => exact fun _ _ _ h => h
    case hw12s => rfl
    case hy12s => (intro w hSw; (try dsimp only at hSw); go_simp <;> with_reducible rfl)
    try simp only [Act.put, List.setIfInBounds_toArray, List.set_cons_zero, List.set_cons_succ]
    refine wpAnyH_take (i := 13) (oi := ?oi13s) (v := ?v13s) ?hi13s (by kernel_rfl) (by kernel_rfl) (by kernel_rfl) ?hq13s (Or.inl ⟨?hw13s, ?hy13s⟩) (by assumption) ?rest13s
    case hi13s => (simp only [List.getElem?_toArray, List.getElem?_cons_succ, List.getElem?_cons_zero]; rfl)
    case hq13s => exact fun _ _ _ h => h
    case hw13s => rfl
    case hy13s => (intro w hSw; (try dsimp only at hSw); go_simp <;> with_reducible rfl)
    try simp only [Act.put, List.setIfInBounds_toArray, List.set_cons_zero, List.set_cons_succ]
    refine wpAnyH_take (i := 14) (oi := ?oi14s) (v := ?v14s) ?hi14s (by kernel_rfl) (by kernel_rfl) (by kernel_rfl) ?hq14s (Or.inl ⟨?hw14s, ?hy14s⟩) (by assumption) ?rest14s
    case hi14s => (simp only [List.getElem?_toArray, List.getElem?_cons_succ, List.getElem?_cons_zero]; rfl)
    case hq14s => exact fun _ _ _ h => h
    case hw14s => rfl
    case hy14s => (intro w hSw; (try dsimp only at hSw); go_simp <;> with_reducible rfl)
    try simp only [Act.put, List.setIfInBounds_toArray, List.set_cons_zero, List.set_cons_succ]
    refine wpAnyH_take (i := 15) (oi := ?oi15s) (v := ?v15s) ?hi15s (by kernel_rfl) (by kernel_rfl) (by kernel_rfl) ?hq15s (Or.inl ⟨?hw15s, ?hy15s⟩) (by assumption) ?rest15s
    case hi15s => (simp only [List.getElem?_toArray, List.getElem?_cons_succ, List.getElem?_cons_zero]; rfl)
    case hq15s => exact fun _ _ _ h => h
    case hw15s => rfl
    case hy15s => (intro w hSw; (try dsimp only at hSw); go_simp <;> with_reducible rfl)
    try simp only [Act.put, List.setIfInBounds_toArray, List.set_cons_zero, List.set_cons_succ]
    refine wpAnyH_done (by kernel_rfl) ?_ _
    go_wp2
    go_ret
    exact ⟨rfl, hb6⟩

namespace stockUnpacksDone
open Go.ChangeShapes Go.WideShapes Go.ChangeAt
set_option maxRecDepth 100000 in
theorem lifted (os : Os) (started : os.Started) (H : Type) (enc : TypeId × Value → H) :
    ReturnsInHanded {} Tryz.checked os 3 .any (Rows.stockUnpacksSpec.pre6 enc Tryz.prog Tryz.f3 Rows.stockUnpacksRow.domain false) (Rows.stockUnpacksSpec.post enc Tryz.prog Tryz.f3 false true false false) := by
  refine returnsInHanded_of_change_sized (C := Tryz.checked) own started (by kernel_rfl) Tryz.func3
    (ChangeSpec.witness6 (enc := enc) (C := Tryz.checked) false ⟨#[], #[Value.slice none 0 0], []⟩ 8 (by kernel_rfl) (by kernel_rfl) (by kernel_rfl) (by kernel_rfl)) ?_
  intro W base args ds gs before hval0 hW hcnd hsz0 _
  have hsz : (DataW.weightsEach Tryz.prog (Tryz.f3.params.toList ++ Rows.stockUnpacksSpec.plain.varTypes Tryz.prog) (ds ++ gs)).all (· ≤ reachBytes) = true := hsz0
  clear hsz0
  have hval : ∀ (j : Nat) t v, Tryz.f3.params[j]? = some t → args[j]? = some v → Value.okWide Tryz.prog W .any base t v := hval0
  have hW' := hW
  obtain ⟨p, q, hA0, hV, rfl, hfz, hnd⟩ := hW
  have hA : DataW.TrodAll enc Tryz.prog W 0 (fun _ => true) true Tryz.f3.params.toList args.toList ds p := hA0
  rw [Tryz.params3] at hA hval hsz
  obtain ⟨v0, vs0, d0, ds0, p0, q0, hargs, rfl, rfl, h0, r0⟩ := trodAll_cons hA
  obtain ⟨rfl, rfl, rfl⟩ := trodAll_nil r0
  obtain rfl : args = #[v0] := by cases args; simp_all
  obtain ⟨rfl, rfl⟩ := trodVars_none hV
  obtain ⟨a0, len0, cap0, rfl⟩ := okWide_slice Tryz.underlying22 (hval 0 22 v0 rfl rfl)
  have k0 := h0
  have lt0 : ∀ x ∈ p0, x.block < W.heap.size := by obtain ⟨m, hm⟩ := k0; exact DataW.trod_lt m _ _ _ hm
  obtain ⟨z0, hr0, hc0, hm0, hd0⟩ := bytes_open h0
  have hl0 : cap0 ≤ 140737488351232 := by
    rcases hd0 with ⟨_, h⟩ | ⟨es, sp, rfl, h⟩
    · omega
    · have := sized_slice hsz (j := 0) (t := 22) (e := 5) rfl rfl Tryz.underlying22
      rw [bytes_u8] at this
      simp only [reachBytes] at this
      omega
  clear hA0 hval0
  refine (stockUnpacks_walk (w := W) a0 len0 cap0 z0 hr0 hc0 hm0 hl0).mono fun e W' ⟨he, bel⟩ => ?_
  subst he
  exact ⟨_, rfl, _, _, _, [], _, [], hW', trodAll_mk1 (shut_bool Tryz.underlying4 _), (trodAll_cons_mk (Below.trod laidOut (by kernel_rfl) (of_decide_eq_true (by kernel_rfl)) k0 bel lt0) trodAll_mk0), rfl, bel.frame _, fun h => by cases h⟩

theorem over : Rows.stockUnpacksRow.holds Tryz.pinned (OpenSpec.ofChange Rows.stockUnpacksSpec) :=
  OpenClaim.holds_of_wide 3 Tryz.f3 rfl rfl rfl rfl rfl rfl rfl ⟨rfl, rfl, rfl, rfl, rfl⟩ rfl rfl rfl rfl rfl (by kernel_rfl) Tryz.func3 (by kernel_rfl)
    (of_decide_eq_true (by kernel_rfl)) (by unfold Func.isWrapper; first | (rw [if_pos (by decide +kernel)]; kernel_rfl) | (rw [if_neg (by decide +kernel)]; exact ⟨rfl, rfl⟩))
    (fun os started H enc _ => lifted os started H enc)

/-- The statement. -/
theorem proved : Rows.StockUnpacksSaid := over
end stockUnpacksDone
end Go.Proofs.YtfpcnenohidfpaaGreat
