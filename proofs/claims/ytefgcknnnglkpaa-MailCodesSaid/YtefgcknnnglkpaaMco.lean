/- 'MailCodes' returns true for every input: the row of this law, proved. No condition. -/
import Derived.Test.YtefgcknnnglkpaaMaZ
import Derived.Test.YtefgcknnnglkpaaMaR
import Derived.ProofKit
import Derived.OpenShut
import Derived.ShutString
import Derived.ChangeOld
import Derived.SizedLaws
namespace Go.Proofs.Ytefgcknnnglkpaa
open Go.RowKit
set_option linter.unusedVariables false
set_option linter.unusedSimpArgs false
theorem tkL {P : Program} {md : Region.Mode} {ops : Array Oper} {Q : Exit → Act → World → Prop} {S : World → Prop} {oi : Oper} {fuel : Nat} {listed : Array Bool} {a : Act} {w : World} (i : Nat) (hi : ops[i]? = some oi)
    (hs : Region.noSelect ops = true) (hf : Region.free md ops listed i = true) (hr : (Region.ready md ops listed).contains i = true) {cs : Array Value}
    (hQ : ∀ c a w, Q (.panic c) (a.put oi.dst (.agg cs)) w → Q (.panic c) a w) (hw : Region.wanted oi (yielded ops a.tmps) = true) (ty : TypeId) (x : Operand) (ho : oi.op = .load ty x) (b : Nat) (hx : a.eval x = .pointer (some ⟨b, 0, none⟩)) (t : TypeId)
    (hb : ∀ w, S w → Blk w b t cs) (d : TypeDesc) (hu : P.underlying ty = some d) (hd : d.isRow = true) (hn : (P.info? ty).map (·.size) = some cs.size) (hS : S w)
    (h : wpAnyH P md ops Q S fuel (listed.setIfInBounds i true) (a.put oi.dst (.agg cs)) w) : wpAnyH P md ops Q S (fuel + 1) listed a w :=
  wpAnyH_take (v := .agg cs) hi hs hf hr hQ (yieldsIf_load_mid hw ty x ho b 0 hx cs.toList d (fun w h => (hb w h).range) hu hd (by rw [hn]; simp)) hS h
set_option maxRecDepth 100000 in
set_option maxHeartbeats 12800000 in
theorem mailCodes_walk {w : World} (y0 : MV) (A0 : Option Addr) (cap0 : Nat) (B0 : Option Addr) (capb0 : Nat) (hil0 : IL w A0 y0.l.length y0.l) (hal0 : IL w B0 y0.a.l.length y0.a.l) (hwl0 : WL y0.l) (hwal0 : WL y0.a.l) (hwf0 : WFM y0) :
    Calls Try.prog 3 #[y0.v A0 cap0 B0 capb0] w fun e w' => e = .returned (.bool true) ∧ Below w.heap.size w w' := by
  have hE := fun W h1 h2 => menc_any y0 A0 cap0 B0 capb0 W h1 h2 hwf0.n hwf0.an hwf0.yn
  have hM := fun W h1 h2 => mmay_any y0 A0 cap0 B0 capb0 W h1 h2 hwf0.n hwf0.an
  have hRM := fun W h1 h2 => rmmay_any y0 A0 cap0 B0 capb0 W h1 h2 hwl0 hwal0 hwf0.n hwf0.an (Nat.le_trans hwf0.g (by unfold maxLen; omega))
  have hyn0 : YN y0 := hwf0.yn
  have hREN := fun W h1 h2 hx => rmenc_any y0 A0 cap0 B0 capb0 W h1 h2 hx hwf0.yn
  have hSm := fun A c B d W h1 h2 h3 h4 => rmsame_any y0 y0 A c B d A0 cap0 B0 capb0 W h1 h2 h3 h4 hwf0.n hwf0.an
  rw [(sameM_iff y0 y0).2 rfl] at hSm
  clear hwf0 hwl0 hwal0
  have hA0 := Blk.new w 29 (y0.cs A0 cap0 B0 capb0)
  have hb0 := (Below.refl w.heap.size w).alloc (Nat.le_refl _) (.cells (y0.cs A0 cap0 B0 capb0) 29)
  have hi0 := hil0.alloc (.cells (y0.cs A0 cap0 B0 capb0) 29)
  have hj0 := hal0.alloc (.cells (y0.cs A0 cap0 B0 capb0) 29)
  clear hil0 hal0
  unfold MV.v at hE hM hRM hREN hSm ⊢
  unfold MV.cs at hE hM hRM hREN hA0 hb0 hi0 hj0 ⊢
  have early : (100 : Int) < (y0.l.length : Int) ∨ (100 : Int) < (y0.a.l.length : Int) → Calls Try.prog 3 #[.agg #[.int .i64 y0.k, .int .i64 y0.o, .slice A0 y0.l.length cap0, .int .i64 y0.a.c, .int .i64 y0.a.m, .int .i64 y0.a.k, .int .i64 y0.a.o, .int .i64 y0.a.r, .int .i64 y0.a.t, .int .i64 y0.a.n, .string ⟨y0.a.g.toArray⟩, .slice B0 y0.a.l.length capb0, .int .i64 y0.y.c, .int .i64 y0.y.m, .int .i64 y0.y.e, .int .i64 y0.y.n]] w fun e w' => e = .returned (.bool true) ∧ Below w.heap.size w w' := by
    intro h
    by_cases h1 : (100 : Int) < (y0.l.length : Int)
    · go_enter Try.func3, Try.ntmps3
      go_wp2_with fail
      refine (mlives_any _).mono ?_
      rintro e w1 ⟨rfl, hx1⟩
      go_wp2
      go_ret
      exact ⟨rfl, hb0.trans (hx1.mono hb0.size)⟩
    · have h2 : (100 : Int) < (y0.a.l.length : Int) := h.resolve_left h1
      go_enter Try.func3, Try.ntmps3
      go_wp2_with fail
      refine (mlives_any _).mono ?_
      rintro e w1 ⟨rfl, hx1⟩
      go_wp2
      go_ret
      exact ⟨rfl, hb0.trans (hx1.mono hb0.size)⟩
  by_cases h1 : (100 : Int) < (y0.l.length : Int)
  · exact early (.inl h1)
  by_cases h2 : (100 : Int) < (y0.a.l.length : Int)
  · exact early (.inr h2)
  clear early
  cases hm : mayM y0 with
  | false =>
    rw [hm] at hE hM hRM
    clear hREN hSm hyn0
    go_enter Try.func3, Try.ntmps3
    go_wp2_with (refine wpLoadM 29 (by rfl) (.tmp 1) rfl rfl hA0 _ Try.underlying29 rfl mail_info ?_)
    refine (hE _ hi0 hj0).mono ?_
    rintro e w1 ⟨hx1, h3⟩
    dsimp only at h3
    subst h3
    have hb1 := hb0.trans (hx1.mono hb0.size)
    have hA1 := hA0.below_ hx1
    have hi1 := hi0.below hx1
    have hj1 := hj0.below hx1
    clear hA0 hi0 hj0
    go_wp2_with fail
    have hb1 := Below.drew hb1
    have hA1 := hA1.drew
    have hi1 := hi1.drew
    have hj1 := hj1.drew
    refine wp_region_held_drew (S := (fun w' => Blk w' w.heap.size 29 #[.int .i64 y0.k, .int .i64 y0.o, .slice A0 y0.l.length cap0, .int .i64 y0.a.c, .int .i64 y0.a.m, .int .i64 y0.a.k, .int .i64 y0.a.o, .int .i64 y0.a.r, .int .i64 y0.a.t, .int .i64 y0.a.n, .string ⟨y0.a.g.toArray⟩, .slice B0 y0.a.l.length capb0, .int .i64 y0.y.c, .int .i64 y0.y.m, .int .i64 y0.y.e, .int .i64 y0.y.n])) (by kernel_rfl) hA1 (fun hHeld => ?_)
    refine wpAnyH_ready (rs := [0]) (by kernel_rfl) (by simp) ?_
    refine AllReadyH.cons (by (simp only [List.getElem?_toArray, List.getElem?_cons_succ, List.getElem?_cons_zero]; rfl)) (fun K hK => ?_) AllReadyH.nil
    go_simp
    refine (mlives_any _).mono ?_
    rintro e w2 ⟨rfl, hx2⟩
    have hb2 := hb1.trans (hx2.mono hb1.size)
    have hA2 := hA1.below_ hx2
    have hi2 := hi1.below hx2
    have hj2 := hj1.below hx2
    go_wp2_with fail
    refine hK.out _ _ hA2 (fun hHeld2 => ?_)
    clear hK K hHeld
    have hHeld := hHeld2
    clear hHeld2
    try simp only [Act.put, List.setIfInBounds_toArray, List.set_cons_zero, List.set_cons_succ]
    iterate 2 (refine tkP (by rfl) (by (simp only [List.getElem?_toArray, List.getElem?_cons_succ, List.getElem?_cons_zero]; rfl)) (by kernel_rfl) (by kernel_rfl) (by kernel_rfl) (by exact fun _ _ _ h => h) (by rfl) (by (intro w hSw; (try dsimp only at hSw); go_simp <;> with_reducible rfl)) (by assumption) ?_; try simp only [Act.put, List.setIfInBounds_toArray, List.set_cons_zero, List.set_cons_succ])
    (refine tkL 3 (by (simp only [List.getElem?_toArray, List.getElem?_cons_succ, List.getElem?_cons_zero]; rfl)) (by kernel_rfl) (by kernel_rfl) (by kernel_rfl) (by exact fun _ _ _ h => h) (by rfl) 29 (.tmp 1) rfl _ rfl 29 (fun _ hS => hS) _ Try.underlying29 rfl mail_info (by assumption) ?_; try simp only [Act.put, List.setIfInBounds_toArray, List.set_cons_zero, List.set_cons_succ])
    (refine tkL 5 (by (simp only [List.getElem?_toArray, List.getElem?_cons_succ, List.getElem?_cons_zero]; rfl)) (by kernel_rfl) (by kernel_rfl) (by kernel_rfl) (by exact fun _ _ _ h => h) (by rfl) 29 (.tmp 1) rfl _ rfl 29 (fun _ hS => hS) _ Try.underlying29 rfl mail_info (by assumption) ?_; try simp only [Act.put, List.setIfInBounds_toArray, List.set_cons_zero, List.set_cons_succ])
    refine wpAnyH_ready (rs := [4]) (by kernel_rfl) (by simp) ?_
    refine AllReadyH.cons (by (simp only [List.getElem?_toArray, List.getElem?_cons_succ, List.getElem?_cons_zero]; rfl)) (fun K hK => ?_) AllReadyH.nil
    go_simp
    refine (hM _ hi2 hj2).mono ?_
    rintro e w3 ⟨rfl, hx3⟩
    have hb3 := hb2.trans (hx3.mono hb2.size)
    have hA3 := hA2.below_ hx3
    have hi3 := hi2.below hx3
    have hj3 := hj2.below hx3
    go_wp2_with fail
    refine hK.out _ _ hA3 (fun hHeld2 => ?_)
    clear hK K hHeld
    have hHeld := hHeld2
    clear hHeld2
    try simp only [Act.put, List.setIfInBounds_toArray, List.set_cons_zero, List.set_cons_succ]
    refine wpAnyH_ready (rs := [6]) (by kernel_rfl) (by simp) ?_
    refine AllReadyH.cons (by (simp only [List.getElem?_toArray, List.getElem?_cons_succ, List.getElem?_cons_zero]; rfl)) (fun K hK => ?_) AllReadyH.nil
    go_simp
    refine (hRM _ hi3 hj3).mono ?_
    rintro e w4 ⟨rfl, hx4⟩
    have hb4 := hb3.trans (hx4.mono hb3.size)
    have hA4 := hA3.below_ hx4
    have hi4 := hi3.below hx4
    have hj4 := hj3.below hx4
    go_wp2_with fail
    refine hK.out _ _ hA4 (fun hHeld2 => ?_)
    clear hK K hHeld
    have hHeld := hHeld2
    clear hHeld2
    try simp only [Act.put, List.setIfInBounds_toArray, List.set_cons_zero, List.set_cons_succ]
    iterate 5 (refine tkP (by rfl) (by (simp only [List.getElem?_toArray, List.getElem?_cons_succ, List.getElem?_cons_zero]; rfl)) (by kernel_rfl) (by kernel_rfl) (by kernel_rfl) (by exact fun _ _ _ h => h) (by rfl) (by (intro w hSw; (try dsimp only at hSw); go_simp <;> with_reducible rfl)) (by assumption) ?_; try simp only [Act.put, List.setIfInBounds_toArray, List.set_cons_zero, List.set_cons_succ])
    (refine tkL 12 (by (simp only [List.getElem?_toArray, List.getElem?_cons_succ, List.getElem?_cons_zero]; rfl)) (by kernel_rfl) (by kernel_rfl) (by kernel_rfl) (by exact fun _ _ _ h => h) (by rfl) 29 (.tmp 1) rfl _ rfl 29 (fun _ hS => hS) _ Try.underlying29 rfl mail_info (by assumption) ?_; try simp only [Act.put, List.setIfInBounds_toArray, List.set_cons_zero, List.set_cons_succ])
    refine wpAnyH_ready (rs := [13]) (by kernel_rfl) (by simp) ?_
    refine AllReadyH.cons (by (simp only [List.getElem?_toArray, List.getElem?_cons_succ, List.getElem?_cons_zero]; rfl)) (fun K hK => ?_) AllReadyH.nil
    go_simp
    refine (hRM _ hi4 hj4).mono ?_
    rintro e w5 ⟨rfl, hx5⟩
    have hb5 := hb4.trans (hx5.mono hb4.size)
    have hA5 := hA4.below_ hx5
    have hi5 := hi4.below hx5
    have hj5 := hj4.below hx5
    go_wp2_with fail
    refine hK.out _ _ hA5 (fun hHeld2 => ?_)
    clear hK K hHeld
    have hHeld := hHeld2
    clear hHeld2
    try simp only [Act.put, List.setIfInBounds_toArray, List.set_cons_zero, List.set_cons_succ]
    iterate 2 (refine tkP (by rfl) (by (simp only [List.getElem?_toArray, List.getElem?_cons_succ, List.getElem?_cons_zero]; rfl)) (by kernel_rfl) (by kernel_rfl) (by kernel_rfl) (by exact fun _ _ _ h => h) (by rfl) (by (intro w hSw; (try dsimp only at hSw); go_simp <;> with_reducible rfl)) (by assumption) ?_; try simp only [Act.put, List.setIfInBounds_toArray, List.set_cons_zero, List.set_cons_succ])
    refine wpAnyH_done (by kernel_rfl) ?_ _
    go_wp2
    go_ret
    exact ⟨rfl, hb5⟩
  | true =>
    have hREN := fun W h1 h2 => hREN W h1 h2 hm
    rw [hm] at hE hM hRM
    have hlen : (encM y0).length ≤ 2048 := encKM_len (OKM.of hm)
    obtain ⟨E, hEe⟩ : ∃ E, encM y0 = E := ⟨_, rfl⟩
    obtain ⟨NE, hNE⟩ : ∃ n, E.length = n := ⟨_, rfl⟩
    rw [hEe] at hE hREN hlen
    rw [hNE] at hlen
    unfold EncPost at hE
    dsimp only at hE
    rw [hNE] at hE
    go_enter Try.func3, Try.ntmps3
    go_wp2_with (refine wpLoadM 29 (by rfl) (.tmp 1) rfl rfl hA0 _ Try.underlying29 rfl mail_info ?_)
    refine (hE _ hi0 hj0).mono ?_
    rintro e w1 ⟨hx1, AE, cE, rfl, hlcE, hcmE, hr1, _⟩
    have hb1 := hb0.trans (hx1.mono hb0.size)
    have hA1 := hA0.below_ hx1
    have hi1 := hi0.below hx1
    have hj1 := hj0.below hx1
    clear hA0 hi0 hj0 hlcE hcmE
    replace hEe := Lib.hid hEe
    replace hNE := Lib.hid hNE
    go_wp2_with fail
    have hb1 := Below.drew hb1
    have hA1 := hA1.drew
    have hi1 := hi1.drew
    have hj1 := hj1.drew
    have hr1 := hr1.drew
    refine wp_region_held_drew (S := (fun w' => Blk w' w.heap.size 29 #[.int .i64 y0.k, .int .i64 y0.o, .slice A0 y0.l.length cap0, .int .i64 y0.a.c, .int .i64 y0.a.m, .int .i64 y0.a.k, .int .i64 y0.a.o, .int .i64 y0.a.r, .int .i64 y0.a.t, .int .i64 y0.a.n, .string ⟨y0.a.g.toArray⟩, .slice B0 y0.a.l.length capb0, .int .i64 y0.y.c, .int .i64 y0.y.m, .int .i64 y0.y.e, .int .i64 y0.y.n])) (by kernel_rfl) hA1 (fun hHeld => ?_)
    refine wpAnyH_ready (rs := [0]) (by kernel_rfl) (by simp) ?_
    refine AllReadyH.cons (by (simp only [List.getElem?_toArray, List.getElem?_cons_succ, List.getElem?_cons_zero]; rfl)) (fun K hK => ?_) AllReadyH.nil
    go_simp
    refine (mlives_any _).mono ?_
    rintro e w2 ⟨rfl, hx2⟩
    have hb2 := hb1.trans (hx2.mono hb1.size)
    have hA2 := hA1.below_ hx2
    have hi2 := hi1.below hx2
    have hj2 := hj1.below hx2
    have hr2 := hr1.below hx2
    go_wp2_with fail
    refine hK.out _ _ hA2 (fun hHeld2 => ?_)
    clear hK K hHeld
    have hHeld := hHeld2
    clear hHeld2
    try simp only [Act.put, List.setIfInBounds_toArray, List.set_cons_zero, List.set_cons_succ]
    iterate 2 (refine tkP (by rfl) (by (simp only [List.getElem?_toArray, List.getElem?_cons_succ, List.getElem?_cons_zero]; rfl)) (by kernel_rfl) (by kernel_rfl) (by kernel_rfl) (by exact fun _ _ _ h => h) (by rfl) (by (intro w hSw; (try dsimp only at hSw); go_simp <;> with_reducible rfl)) (by assumption) ?_; try simp only [Act.put, List.setIfInBounds_toArray, List.set_cons_zero, List.set_cons_succ])
    (refine tkL 3 (by (simp only [List.getElem?_toArray, List.getElem?_cons_succ, List.getElem?_cons_zero]; rfl)) (by kernel_rfl) (by kernel_rfl) (by kernel_rfl) (by exact fun _ _ _ h => h) (by rfl) 29 (.tmp 1) rfl _ rfl 29 (fun _ hS => hS) _ Try.underlying29 rfl mail_info (by assumption) ?_; try simp only [Act.put, List.setIfInBounds_toArray, List.set_cons_zero, List.set_cons_succ])
    (refine tkL 5 (by (simp only [List.getElem?_toArray, List.getElem?_cons_succ, List.getElem?_cons_zero]; rfl)) (by kernel_rfl) (by kernel_rfl) (by kernel_rfl) (by exact fun _ _ _ h => h) (by rfl) 29 (.tmp 1) rfl _ rfl 29 (fun _ hS => hS) _ Try.underlying29 rfl mail_info (by assumption) ?_; try simp only [Act.put, List.setIfInBounds_toArray, List.set_cons_zero, List.set_cons_succ])
    refine wpAnyH_ready (rs := [4]) (by kernel_rfl) (by simp) ?_
    refine AllReadyH.cons (by (simp only [List.getElem?_toArray, List.getElem?_cons_succ, List.getElem?_cons_zero]; rfl)) (fun K hK => ?_) AllReadyH.nil
    go_simp
    refine (hM _ hi2 hj2).mono ?_
    rintro e w3 ⟨rfl, hx3⟩
    have hb3 := hb2.trans (hx3.mono hb2.size)
    have hA3 := hA2.below_ hx3
    have hi3 := hi2.below hx3
    have hj3 := hj2.below hx3
    have hr3 := hr2.below hx3
    go_wp2_with fail
    refine hK.out _ _ hA3 (fun hHeld2 => ?_)
    clear hK K hHeld
    have hHeld := hHeld2
    clear hHeld2
    try simp only [Act.put, List.setIfInBounds_toArray, List.set_cons_zero, List.set_cons_succ]
    refine wpAnyH_ready (rs := [6]) (by kernel_rfl) (by simp) ?_
    refine AllReadyH.cons (by (simp only [List.getElem?_toArray, List.getElem?_cons_succ, List.getElem?_cons_zero]; rfl)) (fun K hK => ?_) AllReadyH.nil
    go_simp
    refine (hRM _ hi3 hj3).mono ?_
    rintro e w4 ⟨rfl, hx4⟩
    have hb4 := hb3.trans (hx4.mono hb3.size)
    have hA4 := hA3.below_ hx4
    have hi4 := hi3.below hx4
    have hj4 := hj3.below hx4
    have hr4 := hr3.below hx4
    go_wp2_with fail
    refine hK.out _ _ hA4 (fun hHeld2 => ?_)
    clear hK K hHeld
    have hHeld := hHeld2
    clear hHeld2
    try simp only [Act.put, List.setIfInBounds_toArray, List.set_cons_zero, List.set_cons_succ]
    iterate 5 (refine tkP (by rfl) (by (simp only [List.getElem?_toArray, List.getElem?_cons_succ, List.getElem?_cons_zero]; rfl)) (by kernel_rfl) (by kernel_rfl) (by kernel_rfl) (by exact fun _ _ _ h => h) (by rfl) (by (intro w hSw; (try dsimp only at hSw); go_simp <;> with_reducible rfl)) (by assumption) ?_; try simp only [Act.put, List.setIfInBounds_toArray, List.set_cons_zero, List.set_cons_succ])
    (refine tkL 12 (by (simp only [List.getElem?_toArray, List.getElem?_cons_succ, List.getElem?_cons_zero]; rfl)) (by kernel_rfl) (by kernel_rfl) (by kernel_rfl) (by exact fun _ _ _ h => h) (by rfl) 29 (.tmp 1) rfl _ rfl 29 (fun _ hS => hS) _ Try.underlying29 rfl mail_info (by assumption) ?_; try simp only [Act.put, List.setIfInBounds_toArray, List.set_cons_zero, List.set_cons_succ])
    refine wpAnyH_ready (rs := [13]) (by kernel_rfl) (by simp) ?_
    refine AllReadyH.cons (by (simp only [List.getElem?_toArray, List.getElem?_cons_succ, List.getElem?_cons_zero]; rfl)) (fun K hK => ?_) AllReadyH.nil
    go_simp
    refine (hRM _ hi4 hj4).mono ?_
    rintro e w5 ⟨rfl, hx5⟩
    have hb5 := hb4.trans (hx5.mono hb4.size)
    have hA5 := hA4.below_ hx5
    have hi5 := hi4.below hx5
    have hj5 := hj4.below hx5
    have hr5 := hr4.below hx5
    go_wp2_with fail
    refine hK.out _ _ hA5 (fun hHeld2 => ?_)
    clear hK K hHeld
    have hHeld := hHeld2
    clear hHeld2
    try simp only [Act.put, List.setIfInBounds_toArray, List.set_cons_zero, List.set_cons_succ]
    iterate 2 (refine tkP (by rfl) (by (simp only [List.getElem?_toArray, List.getElem?_cons_succ, List.getElem?_cons_zero]; rfl)) (by kernel_rfl) (by kernel_rfl) (by kernel_rfl) (by exact fun _ _ _ h => h) (by rfl) (by (intro w hSw; (try dsimp only at hSw); go_simp <;> with_reducible rfl)) (by assumption) ?_; try simp only [Act.put, List.setIfInBounds_toArray, List.set_cons_zero, List.set_cons_succ])
    refine wpAnyH_done (by kernel_rfl) ?_ _
    clear hE hM hRM
    go_wp2_with fail
    refine (mdec_any AE NE cE E w5 hr5 (by omega)).mono ?_
    rintro e w6 ⟨hx6, h3⟩
    have hb6 := hb5.trans (hx6.mono hb5.size)
    have hA6 := hA5.below_ hx6
    have hi6 := hi5.below hx6
    have hj6 := hj5.below hx6
    have hr6 := hr5.below hx6
    rcases h3 with ⟨x, A3, c3, B3, d3, hxm, hyn, hbe, hil3, hia3, ok, rfl, hok⟩ | ⟨hno, _⟩
    case inr => exact absurd hEe.out.symm (hno y0 hm hyn0)
    have hxe : y0 = x := (encM_inj hxm hm hyn hyn0 (hbe.symm.trans hEe.out.symm)).symm
    subst hxe
    unfold errV at hok
    dsimp only at hok
    subst hok
    unfold MV.v MV.cs
    have hlz : (NE : Int) ≤ 2048 := by omega
    have hV7 := (Blk.new w6 29 #[.int .i64 y0.k, .int .i64 y0.o, .slice A3 y0.l.length c3, .int .i64 y0.a.c, .int .i64 y0.a.m, .int .i64 y0.a.k, .int .i64 y0.a.o, .int .i64 y0.a.r, .int .i64 y0.a.t, .int .i64 y0.a.n, .string ⟨y0.a.g.toArray⟩, .slice B3 y0.a.l.length d3, .int .i64 y0.y.c, .int .i64 y0.y.m, .int .i64 y0.y.e, .int .i64 y0.y.n]).drew
    have hb7 := Below.drew (hb6.alloc hb6.size (.cells #[.int .i64 y0.k, .int .i64 y0.o, .slice A3 y0.l.length c3, .int .i64 y0.a.c, .int .i64 y0.a.m, .int .i64 y0.a.k, .int .i64 y0.a.o, .int .i64 y0.a.r, .int .i64 y0.a.t, .int .i64 y0.a.n, .string ⟨y0.a.g.toArray⟩, .slice B3 y0.a.l.length d3, .int .i64 y0.y.c, .int .i64 y0.y.m, .int .i64 y0.y.e, .int .i64 y0.y.n] 29))
    have hA7 := (hA6.alloc (.cells #[.int .i64 y0.k, .int .i64 y0.o, .slice A3 y0.l.length c3, .int .i64 y0.a.c, .int .i64 y0.a.m, .int .i64 y0.a.k, .int .i64 y0.a.o, .int .i64 y0.a.r, .int .i64 y0.a.t, .int .i64 y0.a.n, .string ⟨y0.a.g.toArray⟩, .slice B3 y0.a.l.length d3, .int .i64 y0.y.c, .int .i64 y0.y.m, .int .i64 y0.y.e, .int .i64 y0.y.n] 29)).drew
    have hi7 := (hi6.alloc (.cells #[.int .i64 y0.k, .int .i64 y0.o, .slice A3 y0.l.length c3, .int .i64 y0.a.c, .int .i64 y0.a.m, .int .i64 y0.a.k, .int .i64 y0.a.o, .int .i64 y0.a.r, .int .i64 y0.a.t, .int .i64 y0.a.n, .string ⟨y0.a.g.toArray⟩, .slice B3 y0.a.l.length d3, .int .i64 y0.y.c, .int .i64 y0.y.m, .int .i64 y0.y.e, .int .i64 y0.y.n] 29)).drew
    have hj7 := (hj6.alloc (.cells #[.int .i64 y0.k, .int .i64 y0.o, .slice A3 y0.l.length c3, .int .i64 y0.a.c, .int .i64 y0.a.m, .int .i64 y0.a.k, .int .i64 y0.a.o, .int .i64 y0.a.r, .int .i64 y0.a.t, .int .i64 y0.a.n, .string ⟨y0.a.g.toArray⟩, .slice B3 y0.a.l.length d3, .int .i64 y0.y.c, .int .i64 y0.y.m, .int .i64 y0.y.e, .int .i64 y0.y.n] 29)).drew
    have hr7 := (hr6.alloc (.cells #[.int .i64 y0.k, .int .i64 y0.o, .slice A3 y0.l.length c3, .int .i64 y0.a.c, .int .i64 y0.a.m, .int .i64 y0.a.k, .int .i64 y0.a.o, .int .i64 y0.a.r, .int .i64 y0.a.t, .int .i64 y0.a.n, .string ⟨y0.a.g.toArray⟩, .slice B3 y0.a.l.length d3, .int .i64 y0.y.c, .int .i64 y0.y.m, .int .i64 y0.y.e, .int .i64 y0.y.n] 29)).drew
    have hp7 := (hil3.alloc (.cells #[.int .i64 y0.k, .int .i64 y0.o, .slice A3 y0.l.length c3, .int .i64 y0.a.c, .int .i64 y0.a.m, .int .i64 y0.a.k, .int .i64 y0.a.o, .int .i64 y0.a.r, .int .i64 y0.a.t, .int .i64 y0.a.n, .string ⟨y0.a.g.toArray⟩, .slice B3 y0.a.l.length d3, .int .i64 y0.y.c, .int .i64 y0.y.m, .int .i64 y0.y.e, .int .i64 y0.y.n] 29)).drew
    have hs7 := (hia3.alloc (.cells #[.int .i64 y0.k, .int .i64 y0.o, .slice A3 y0.l.length c3, .int .i64 y0.a.c, .int .i64 y0.a.m, .int .i64 y0.a.k, .int .i64 y0.a.o, .int .i64 y0.a.r, .int .i64 y0.a.t, .int .i64 y0.a.n, .string ⟨y0.a.g.toArray⟩, .slice B3 y0.a.l.length d3, .int .i64 y0.y.c, .int .i64 y0.y.m, .int .i64 y0.y.e, .int .i64 y0.y.n] 29)).drew
    clear hA6 hi6 hj6 hr6 hil3 hia3 hb6
    go_wp2_with fail
    refine wp_region_held_drew (S := (fun w' => Blk w' w.heap.size 29 #[.int .i64 y0.k, .int .i64 y0.o, .slice A0 y0.l.length cap0, .int .i64 y0.a.c, .int .i64 y0.a.m, .int .i64 y0.a.k, .int .i64 y0.a.o, .int .i64 y0.a.r, .int .i64 y0.a.t, .int .i64 y0.a.n, .string ⟨y0.a.g.toArray⟩, .slice B0 y0.a.l.length capb0, .int .i64 y0.y.c, .int .i64 y0.y.m, .int .i64 y0.y.e, .int .i64 y0.y.n] ∧ Blk w' w6.heap.size 29 #[.int .i64 y0.k, .int .i64 y0.o, .slice A3 y0.l.length c3, .int .i64 y0.a.c, .int .i64 y0.a.m, .int .i64 y0.a.k, .int .i64 y0.a.o, .int .i64 y0.a.r, .int .i64 y0.a.t, .int .i64 y0.a.n, .string ⟨y0.a.g.toArray⟩, .slice B3 y0.a.l.length d3, .int .i64 y0.y.c, .int .i64 y0.y.m, .int .i64 y0.y.e, .int .i64 y0.y.n] ∧ RB w' AE NE E)) (by kernel_rfl) ⟨hA7, hV7, hr7⟩ (fun hHeld => ?_)
    iterate 1 (refine tkP (by rfl) (by (simp only [List.getElem?_toArray, List.getElem?_cons_succ, List.getElem?_cons_zero]; rfl)) (by kernel_rfl) (by kernel_rfl) (by kernel_rfl) (by exact fun _ _ _ h => h) (by rfl) (by (intro w hSw; (try dsimp only at hSw); go_simp <;> with_reducible rfl)) (by assumption) ?_; try simp only [Act.put, List.setIfInBounds_toArray, List.set_cons_zero, List.set_cons_succ])
    (refine tkI 1 (by (simp only [List.getElem?_toArray, List.getElem?_cons_succ, List.getElem?_cons_zero]; rfl)) (by kernel_rfl) (by kernel_rfl) (by kernel_rfl) (by exact fun _ _ _ h => h) (by rfl) (by (intro w hSw; have hs := run_str w AE NE cE E hSw.2.2; go_simp <;> with_reducible rfl)) (by assumption) ?_; try simp only [Act.put, List.setIfInBounds_toArray, List.set_cons_zero, List.set_cons_succ])
    (refine tkL 2 (by (simp only [List.getElem?_toArray, List.getElem?_cons_succ, List.getElem?_cons_zero]; rfl)) (by kernel_rfl) (by kernel_rfl) (by kernel_rfl) (by exact fun _ _ _ h => h) (by rfl) 29 (.tmp 1) rfl _ rfl 29 (fun _ hS => hS.1) _ Try.underlying29 rfl mail_info (by assumption) ?_; try simp only [Act.put, List.setIfInBounds_toArray, List.set_cons_zero, List.set_cons_succ])
    refine wpAnyH_ready (rs := [3]) (by kernel_rfl) (by simp) ?_
    refine AllReadyH.cons (by (simp only [List.getElem?_toArray, List.getElem?_cons_succ, List.getElem?_cons_zero]; rfl)) (fun K hK => ?_) AllReadyH.nil
    go_simp
    refine (hREN _ hi7 hj7).mono ?_
    rintro e w8 ⟨hx8, vE, rfl, hoE⟩
    obtain ⟨AR, cR, rfl, _, _, hrR, _⟩ := hoE.form
    rw [hNE.out] at hrR ⊢
    have hb8 := hb7.trans (hx8.mono hb7.size)
    have hA8 := hA7.below_ hx8
    have hV8 := hV7.below_ hx8
    have hi8 := hi7.below hx8
    have hj8 := hj7.below hx8
    have hr8 := hr7.below hx8
    have hp8 := hp7.below hx8
    have hs8 := hs7.below hx8
    go_wp2_with fail
    refine hK.out _ _ ⟨hA8, hV8, hr8⟩ (fun hHeld2 => ?_)
    clear hK K hHeld
    have hHeld := hHeld2
    clear hHeld2
    try simp only [Act.put, List.setIfInBounds_toArray, List.set_cons_zero, List.set_cons_succ]
    have hs2 := run_str w8 AR NE cR E hrR
    refine wpAnyH_ready (rs := [4]) (by kernel_rfl) (by simp) ?_
    refine AllReadyH.cons (by (simp only [List.getElem?_toArray, List.getElem?_cons_succ, List.getElem?_cons_zero]; rfl)) (fun K hK => ?_) AllReadyH.nil
    go_simp
    refine hK.out _ _ ⟨hA8, hV8, hr8⟩ (fun hHeld2 => ?_)
    clear hK K hHeld
    have hHeld := hHeld2
    clear hHeld2
    try simp only [Act.put, List.setIfInBounds_toArray, List.set_cons_zero, List.set_cons_succ]
    iterate 11 (refine tkP (by rfl) (by (simp only [List.getElem?_toArray, List.getElem?_cons_succ, List.getElem?_cons_zero]; rfl)) (by kernel_rfl) (by kernel_rfl) (by kernel_rfl) (by exact fun _ _ _ h => h) (by rfl) (by (intro w hSw; (try dsimp only at hSw); go_simp <;> with_reducible rfl)) (by assumption) ?_; try simp only [Act.put, List.setIfInBounds_toArray, List.set_cons_zero, List.set_cons_succ])
    (refine tkL 16 (by (simp only [List.getElem?_toArray, List.getElem?_cons_succ, List.getElem?_cons_zero]; rfl)) (by kernel_rfl) (by kernel_rfl) (by kernel_rfl) (by exact fun _ _ _ h => h) (by rfl) 29 (.tmp 5) rfl _ rfl 29 (fun _ hS => hS.2.1) _ Try.underlying29 rfl mail_info (by assumption) ?_; try simp only [Act.put, List.setIfInBounds_toArray, List.set_cons_zero, List.set_cons_succ])
    (refine tkL 17 (by (simp only [List.getElem?_toArray, List.getElem?_cons_succ, List.getElem?_cons_zero]; rfl)) (by kernel_rfl) (by kernel_rfl) (by kernel_rfl) (by exact fun _ _ _ h => h) (by rfl) 29 (.tmp 1) rfl _ rfl 29 (fun _ hS => hS.1) _ Try.underlying29 rfl mail_info (by assumption) ?_; try simp only [Act.put, List.setIfInBounds_toArray, List.set_cons_zero, List.set_cons_succ])
    refine wpAnyH_ready (rs := [18]) (by kernel_rfl) (by simp) ?_
    refine AllReadyH.cons (by (simp only [List.getElem?_toArray, List.getElem?_cons_succ, List.getElem?_cons_zero]; rfl)) (fun K hK => ?_) AllReadyH.nil
    go_simp
    refine (hSm _ _ _ _ _ hp8 hs8 hi8 hj8).mono ?_
    rintro e w9 ⟨rfl, hx9⟩
    have hb9 := hb8.trans (hx9.mono hb8.size)
    have hA9 := hA8.below_ hx9
    have hV9 := hV8.below_ hx9
    have hi9 := hi8.below hx9
    have hj9 := hj8.below hx9
    have hr9 := hr8.below hx9
    have hp9 := hp8.below hx9
    have hs9 := hs8.below hx9
    go_wp2_with fail
    refine hK.out _ _ ⟨hA9, hV9, hr9⟩ (fun hHeld2 => ?_)
    clear hK K hHeld
    have hHeld := hHeld2
    clear hHeld2
    try simp only [Act.put, List.setIfInBounds_toArray, List.set_cons_zero, List.set_cons_succ]
    iterate 2 (refine tkP (by rfl) (by (simp only [List.getElem?_toArray, List.getElem?_cons_succ, List.getElem?_cons_zero]; rfl)) (by kernel_rfl) (by kernel_rfl) (by kernel_rfl) (by exact fun _ _ _ h => h) (by rfl) (by (intro w hSw; (try dsimp only at hSw); go_simp <;> with_reducible rfl)) (by assumption) ?_; try simp only [Act.put, List.setIfInBounds_toArray, List.set_cons_zero, List.set_cons_succ])
    refine wpAnyH_done (by kernel_rfl) ?_ _
    go_wp2
    go_ret
    exact ⟨rfl, hb9⟩

namespace mailCodesDone
open Go.ChangeShapes Go.WideShapes Go.ChangeAt
set_option maxRecDepth 100000 in
theorem lifted (os : Os) (started : os.Started) (H : Type) (enc : TypeId × Value → H) :
    ReturnsInHanded {} Try.checked os 3 .any (Rows.mailCodesSpec.pre6 enc Try.prog Try.f3 Rows.mailCodesRow.domain false) (Rows.mailCodesSpec.post enc Try.prog Try.f3 false true false false) := by
  refine returnsInHanded_of_change_sized (C := Try.checked) own started (by kernel_rfl) Try.func3
    (ChangeSpec.witness6 (enc := enc) (C := Try.checked) false ⟨#[], #[Value.agg #[.int .i64 0, .int .i64 0, .slice none 0 0, .int .i64 0, .int .i64 0, .int .i64 0, .int .i64 0, .int .i64 0, .int .i64 0, .int .i64 0, .string ⟨#[]⟩, .slice none 0 0, .int .i64 0, .int .i64 0, .int .i64 0, .int .i64 0]], []⟩ 8 (by kernel_rfl) (by kernel_rfl) (by kernel_rfl) (by kernel_rfl)) ?_
  intro W base args ds gs before hval0 hW hcnd hsz0 _
  have hsz : (DataW.weightsEach Try.prog (Try.f3.params.toList ++ Rows.mailCodesSpec.plain.varTypes Try.prog) (ds ++ gs)).all (· ≤ reachBytes) = true := hsz0
  clear hsz0
  have hval : ∀ (j : Nat) t v, Try.f3.params[j]? = some t → args[j]? = some v → Value.okWide Try.prog W .any base t v := hval0
  have hW' := hW
  obtain ⟨p, q, hA0, hV, rfl, hfz, hnd⟩ := hW
  have hA : DataW.TrodAll enc Try.prog W 0 (fun _ => true) true Try.f3.params.toList args.toList ds p := hA0
  rw [Try.params3] at hA hval hsz
  obtain ⟨v0, vs0, d0, ds0, p0, q0, hargs, rfl, rfl, h0, r0⟩ := trodAll_cons hA
  obtain ⟨rfl, rfl, rfl⟩ := trodAll_nil r0
  obtain rfl : args = #[v0] := by cases args; simp_all
  obtain ⟨rfl, rfl⟩ := trodVars_none hV
  obtain ⟨y0, A0, cap0, B0, capb0, rfl, hil0, hal0, hwl0, hwal0, hwf0⟩ := mail_open (hval 0 29 v0 rfl rfl) h0
  have k0' := h0
  have lt0 : ∀ x ∈ p0, x.block < W.heap.size := by obtain ⟨m, hm⟩ := h0; exact DataW.trod_lt m _ _ _ hm
  clear hA0 hval0
  refine (mailCodes_walk (w := W) y0 A0 cap0 B0 capb0 hil0 hal0 hwl0 hwal0 hwf0).mono fun e W' ⟨he, bel⟩ => ?_
  subst he
  exact ⟨_, rfl, _, _, _, [], _, [], hW', trodAll_mk1 (shut_bool Try.underlying4 _), (trodAll_cons_mk (Below.trod laidOut (by kernel_rfl) (of_decide_eq_true (by kernel_rfl)) k0' bel lt0) trodAll_mk0), rfl, bel.frame _, fun h => by cases h⟩

theorem over : Rows.mailCodesRow.holds Try.pinned (OpenSpec.ofChange Rows.mailCodesSpec) :=
  OpenClaim.holds_of_wide 3 Try.f3 rfl rfl rfl rfl rfl rfl rfl ⟨rfl, rfl, rfl, rfl, rfl⟩ rfl rfl rfl rfl rfl (by kernel_rfl) Try.func3 (by kernel_rfl)
    (of_decide_eq_true (by kernel_rfl)) (by unfold Func.isWrapper; first | (rw [if_pos (by decide +kernel)]; kernel_rfl) | (rw [if_neg (by decide +kernel)]; exact ⟨rfl, rfl⟩))
    (fun os started H enc _ => lifted os started H enc)

/-- The statement. -/
theorem proved : Rows.MailCodesSaid := over
end mailCodesDone
end Go.Proofs.Ytefgcknnnglkpaa
