/- 'AskCodes' returns true for every input: the row of this law, proved. No condition. -/
import Derived.Test.YtejpabeamjhmjaaRAskE
import Derived.ProofKit
import Derived.OpenShut
import Derived.ShutString
import Derived.ChangeOld
import Derived.SizedLaws
namespace Go.Proofs.Ytejpabeamjhmjaa
open Go.RowKit
set_option linter.unusedVariables false
set_option linter.unusedSimpArgs false
set_option maxRecDepth 100000 in
set_option maxHeartbeats 12800000 in
theorem askCodes_walk {w : World} (y0 : AV) (A0 : Option Addr) (cap0 : Nat) (hil0 : IL w A0 y0.l.length y0.l) (hwl0 : WL y0.l) (hwf0 : WFA y0) :
    Calls Try.prog 7 #[y0.v A0 cap0] w fun e w' => e = .returned (.bool true) ∧ Below w.heap.size w w' := by
  have hn := hwf0.n
  have hg7 : y0.g.length ≤ 9223372036854775807 := hwf0.g
  clear hwf0
  obtain ⟨c, m, k, o, r, t, n, g, l⟩ := y0
  dsimp only at hil0 hwl0 hn hg7
  have hbxa0 : Blk (w.alloc (.cells (AV.cs ⟨c, m, k, o, r, t, n, g, l⟩ A0 cap0) 53)) w.heap.size 53 (AV.cs ⟨c, m, k, o, r, t, n, g, l⟩ A0 cap0) := Blk.new _ _ _
  have hb0 := (Below.refl w.heap.size w).alloc (Nat.le_refl _) (.cells (AV.cs ⟨c, m, k, o, r, t, n, g, l⟩ A0 cap0) 53)
  have hila0 := hil0.alloc (.cells (AV.cs ⟨c, m, k, o, r, t, n, g, l⟩ A0 cap0) 53)
  clear hil0
  unfold AV.v
  unfold AV.cs at hbxa0 hb0 hila0
  dsimp only at hbxa0 hb0 hila0 ⊢
  by_cases len1 : 100 < l.length
  · have g1z : (100 : Int) < (l.length : Int) := by omega
    go_enter Try.func7, Try.ntmps7
    go_wp2_with fail
    refine (alives_any _).mono ?_
    rintro e w1 ⟨rfl, hx1⟩
    have hb1 := hb0.trans (hx1.mono hb0.size)
    go_wp2
    go_ret
    exact ⟨rfl, hb1⟩
  have g1z : ¬ (100 : Int) < (l.length : Int) := by omega
  cases hm : mayA ⟨c, m, k, o, r, t, n, g, l⟩ with
  | false =>
    go_enter Try.func7, Try.ntmps7
    have key := askencode_any ⟨c, m, k, o, r, t, n, g, l⟩ A0 cap0 (w.alloc (.cells (AV.cs ⟨c, m, k, o, r, t, n, g, l⟩ A0 cap0) 53)) hila0 hn
    rw [hm] at key
    unfold AV.v at key
    dsimp only at key
    have hSa0 := boxS (c := c) (m := m) (k := k) (o := o) (r := r) (t := t) (n := n) (g := g) (l := l) (A := A0) (cap := cap0) hbxa0
    go_wp2_with fail
    refine key.mono ?_
    rintro e w1 ⟨hx1, h1⟩
    clear key
    dsimp only at h1
    subst h1
    have hb1 := hb0.trans (hx1.mono hb0.size)
    have hbxa1 := hbxa0.kept (Keep.of_below hx1) (fun h => absurd hbxa0.lt (Nat.not_lt.2 h))
    have hila1 := hila0.below hx1
    clear hbxa0 hila0 hSa0
    have key := askbody_any ⟨c, m, k, o, r, t, n, g, l⟩ A0 cap0 w1 hila1 hn
    rw [hm] at key
    unfold AV.v at key
    dsimp only at key
    have hSa1 := boxS (c := c) (m := m) (k := k) (o := o) (r := r) (t := t) (n := n) (g := g) (l := l) (A := A0) (cap := cap0) hbxa1
    go_wp2_with fail
    refine key.mono ?_
    rintro e w2 ⟨hx2, h1⟩
    clear key
    dsimp only at h1
    subst h1
    have hb2 := hb1.trans (hx2.mono hb1.size)
    have hbxa2 := hbxa1.kept (Keep.of_below hx2) (fun h => absurd hbxa1.lt (Nat.not_lt.2 h))
    have hila2 := hila1.below hx2
    clear hbxa1 hila1 hSa1
    have hSa2 := boxS (c := c) (m := m) (k := k) (o := o) (r := r) (t := t) (n := n) (g := g) (l := l) (A := A0) (cap := cap0) hbxa2
    go_wp2_with fail
    refine wp_region_held_drew (S := (fun w' => (w'.cell? ⟨w.heap.size, 0, none⟩ = some (.int .i64 c) ∧ w'.cell? ⟨w.heap.size, 1, none⟩ = some (.int .i64 m) ∧ w'.cell? ⟨w.heap.size, 2, none⟩ = some (.int .i64 k) ∧ w'.cell? ⟨w.heap.size, 3, none⟩ = some (.int .i64 o) ∧ w'.cell? ⟨w.heap.size, 4, none⟩ = some (.int .i64 r) ∧ w'.cell? ⟨w.heap.size, 5, none⟩ = some (.int .i64 t) ∧ w'.cell? ⟨w.heap.size, 6, none⟩ = some (.int .i64 n) ∧ w'.cell? ⟨w.heap.size, 7, none⟩ = some (.string ⟨g.toArray⟩) ∧ w'.cell? ⟨w.heap.size, 8, none⟩ = some (.slice A0 l.length cap0)))) (by kernel_rfl) hSa2 (fun hHeld => ?_)
    refine wpAnyH_ready (rs := [0]) (by kernel_rfl) (by simp) ?_
    refine AllReadyH.cons (o := ?o0F) ?hi0F (fun K hK => ?st0F) AllReadyH.nil
    case hi0F => (simp only [List.getElem?_toArray, List.getElem?_cons_succ, List.getElem?_cons_zero]; rfl)
    go_simp
    refine (alives_any _).mono ?_
    rintro e w3 ⟨rfl, hx3⟩
    have hx3 : Below (w2.drew).heap.size (w2.drew) w3 := hx3
    have hb3 := (Below.drew hb2).trans (hx3.mono (Below.drew hb2).size)
    have hbxa3 := (hbxa2.drew).kept (Keep.of_below hx3) (fun h => absurd hbxa2.lt (Nat.not_lt.2 h))
    have hila3 := (hila2.drew).below hx3
    have hSa3 := boxS (c := c) (m := m) (k := k) (o := o) (r := r) (t := t) (n := n) (g := g) (l := l) (A := A0) (cap := cap0) hbxa3
    go_wp2_with fail
    refine hK.out _ _ hSa3 (fun hHeld2 => ?_)
    clear hK K hHeld
    have hHeld := hHeld2
    clear hHeld2
    try simp only [Act.put, List.setIfInBounds_toArray, List.set_cons_zero, List.set_cons_succ]
    refine wpAnyH_take (i := 1) (oi := ?oi1F) (v := ?v1F) ?hi1F (by kernel_rfl) (by kernel_rfl) (by kernel_rfl) ?hq1F (Or.inl ⟨?hw1F, ?hy1F⟩) (by assumption) ?rest1F
    case hi1F => (simp only [List.getElem?_toArray, List.getElem?_cons_succ, List.getElem?_cons_zero]; rfl)
    case hq1F => exact fun _ _ _ h => h
    case hw1F => rfl
    case hy1F => (intro w hSw; (try dsimp only at hSw); go_simp <;> with_reducible rfl)
    try simp only [Act.put, List.setIfInBounds_toArray, List.set_cons_zero, List.set_cons_succ]
    refine wpAnyH_take (i := 2) (oi := ?oi2F) (v := ?v2F) ?hi2F (by kernel_rfl) (by kernel_rfl) (by kernel_rfl) ?hq2F (Or.inl ⟨?hw2F, ?hy2F⟩) (by assumption) ?rest2F
    case hi2F => (simp only [List.getElem?_toArray, List.getElem?_cons_succ, List.getElem?_cons_zero]; rfl)
    case hq2F => exact fun _ _ _ h => h
    case hw2F => rfl
    case hy2F => (intro w hSw; (try dsimp only at hSw); go_simp <;> with_reducible rfl)
    try simp only [Act.put, List.setIfInBounds_toArray, List.set_cons_zero, List.set_cons_succ]
    refine wpAnyH_take (i := 3) (oi := ?oi3F) (v := ?v3F) ?hi3F (by kernel_rfl) (by kernel_rfl) (by kernel_rfl) ?hq3F (Or.inl ⟨?hw3F, ?hy3F⟩) (by assumption) ?rest3F
    case hi3F => (simp only [List.getElem?_toArray, List.getElem?_cons_succ, List.getElem?_cons_zero]; rfl)
    case hq3F => exact fun _ _ _ h => h
    case hw3F => rfl
    case hy3F => (intro w hSw; (try dsimp only at hSw); go_simp <;> with_reducible rfl)
    try simp only [Act.put, List.setIfInBounds_toArray, List.set_cons_zero, List.set_cons_succ]
    refine wpAnyH_take (i := 5) (oi := ?oi5F) (v := ?v5F) ?hi5F (by kernel_rfl) (by kernel_rfl) (by kernel_rfl) ?hq5F (Or.inl ⟨?hw5F, ?hy5F⟩) (by assumption) ?rest5F
    case hi5F => (simp only [List.getElem?_toArray, List.getElem?_cons_succ, List.getElem?_cons_zero]; rfl)
    case hq5F => exact fun _ _ _ h => h
    case hw5F => rfl
    case hy5F => (intro w hSw; (try dsimp only at hSw); go_simp <;> with_reducible rfl)
    try simp only [Act.put, List.setIfInBounds_toArray, List.set_cons_zero, List.set_cons_succ]
    refine wpAnyH_ready (rs := [4]) (by kernel_rfl) (by simp) ?_
    refine AllReadyH.cons (o := ?o4F) ?hi4F (fun K hK => ?st4F) AllReadyH.nil
    case hi4F => (simp only [List.getElem?_toArray, List.getElem?_cons_succ, List.getElem?_cons_zero]; rfl)
    go_simp
    refine (askmay_any ⟨c, m, k, o, r, t, n, g, l⟩ A0 cap0 _ hila3 hn).mono ?_
    rintro e w4 ⟨rfl, hx4⟩
    have hx4 : Below (w3).heap.size (w3) w4 := hx4
    have hb4 := hb3.trans (hx4.mono hb3.size)
    have hbxa4 := (hbxa3).kept (Keep.of_below hx4) (fun h => absurd hbxa3.lt (Nat.not_lt.2 h))
    have hila4 := (hila3).below hx4
    have hSa4 := boxS (c := c) (m := m) (k := k) (o := o) (r := r) (t := t) (n := n) (g := g) (l := l) (A := A0) (cap := cap0) hbxa4
    rw [hm]
    go_wp2_with fail
    refine hK.out _ _ hSa4 (fun hHeld2 => ?_)
    clear hK K hHeld
    have hHeld := hHeld2
    clear hHeld2
    try simp only [Act.put, List.setIfInBounds_toArray, List.set_cons_zero, List.set_cons_succ]
    refine wpAnyH_ready (rs := [6]) (by kernel_rfl) (by simp) ?_
    refine AllReadyH.cons (o := ?o6F) ?hi6F (fun K hK => ?st6F) AllReadyH.nil
    case hi6F => (simp only [List.getElem?_toArray, List.getElem?_cons_succ, List.getElem?_cons_zero]; rfl)
    go_simp
    refine (raskmay_any ⟨c, m, k, o, r, t, n, g, l⟩ A0 cap0 _ hila4 hwl0 hn hg7).mono ?_
    rintro e w5 ⟨rfl, hx5⟩
    have hx5 : Below (w4).heap.size (w4) w5 := hx5
    have hb5 := hb4.trans (hx5.mono hb4.size)
    have hbxa5 := (hbxa4).kept (Keep.of_below hx5) (fun h => absurd hbxa4.lt (Nat.not_lt.2 h))
    have hila5 := (hila4).below hx5
    have hSa5 := boxS (c := c) (m := m) (k := k) (o := o) (r := r) (t := t) (n := n) (g := g) (l := l) (A := A0) (cap := cap0) hbxa5
    rw [hm]
    go_wp2_with fail
    refine hK.out _ _ hSa5 (fun hHeld2 => ?_)
    clear hK K hHeld
    have hHeld := hHeld2
    clear hHeld2
    try simp only [Act.put, List.setIfInBounds_toArray, List.set_cons_zero, List.set_cons_succ]
    refine wpAnyH_take (i := 7) (oi := ?oi7F) (v := ?v7F) ?hi7F (by kernel_rfl) (by kernel_rfl) (by kernel_rfl) ?hq7F (Or.inl ⟨?hw7F, ?hy7F⟩) (by assumption) ?rest7F
    case hi7F => (simp only [List.getElem?_toArray, List.getElem?_cons_succ, List.getElem?_cons_zero]; rfl)
    case hq7F => exact fun _ _ _ h => h
    case hw7F => rfl
    case hy7F => (intro w hSw; (try dsimp only at hSw); go_simp <;> with_reducible rfl)
    try simp only [Act.put, List.setIfInBounds_toArray, List.set_cons_zero, List.set_cons_succ]
    refine wpAnyH_take (i := 8) (oi := ?oi8F) (v := ?v8F) ?hi8F (by kernel_rfl) (by kernel_rfl) (by kernel_rfl) ?hq8F (Or.inl ⟨?hw8F, ?hy8F⟩) (by assumption) ?rest8F
    case hi8F => (simp only [List.getElem?_toArray, List.getElem?_cons_succ, List.getElem?_cons_zero]; rfl)
    case hq8F => exact fun _ _ _ h => h
    case hw8F => rfl
    case hy8F => (intro w hSw; (try dsimp only at hSw); go_simp <;> with_reducible rfl)
    try simp only [Act.put, List.setIfInBounds_toArray, List.set_cons_zero, List.set_cons_succ]
    refine wpAnyH_take (i := 9) (oi := ?oi9F) (v := ?v9F) ?hi9F (by kernel_rfl) (by kernel_rfl) (by kernel_rfl) ?hq9F (Or.inl ⟨?hw9F, ?hy9F⟩) (by assumption) ?rest9F
    case hi9F => (simp only [List.getElem?_toArray, List.getElem?_cons_succ, List.getElem?_cons_zero]; rfl)
    case hq9F => exact fun _ _ _ h => h
    case hw9F => rfl
    case hy9F => (intro w hSw; (try dsimp only at hSw); go_simp <;> with_reducible rfl)
    try simp only [Act.put, List.setIfInBounds_toArray, List.set_cons_zero, List.set_cons_succ]
    refine wpAnyH_take (i := 10) (oi := ?oi10F) (v := ?v10F) ?hi10F (by kernel_rfl) (by kernel_rfl) (by kernel_rfl) ?hq10F (Or.inl ⟨?hw10F, ?hy10F⟩) (by assumption) ?rest10F
    case hi10F => (simp only [List.getElem?_toArray, List.getElem?_cons_succ, List.getElem?_cons_zero]; rfl)
    case hq10F => exact fun _ _ _ h => h
    case hw10F => rfl
    case hy10F => (intro w hSw; (try dsimp only at hSw); go_simp <;> with_reducible rfl)
    try simp only [Act.put, List.setIfInBounds_toArray, List.set_cons_zero, List.set_cons_succ]
    refine wpAnyH_take (i := 11) (oi := ?oi11F) (v := ?v11F) ?hi11F (by kernel_rfl) (by kernel_rfl) (by kernel_rfl) ?hq11F (Or.inl ⟨?hw11F, ?hy11F⟩) (by assumption) ?rest11F
    case hi11F => (simp only [List.getElem?_toArray, List.getElem?_cons_succ, List.getElem?_cons_zero]; rfl)
    case hq11F => exact fun _ _ _ h => h
    case hw11F => rfl
    case hy11F => (intro w hSw; (try dsimp only at hSw); go_simp <;> with_reducible rfl)
    try simp only [Act.put, List.setIfInBounds_toArray, List.set_cons_zero, List.set_cons_succ]
    refine wpAnyH_take (i := 12) (oi := ?oi12F) (v := ?v12F) ?hi12F (by kernel_rfl) (by kernel_rfl) (by kernel_rfl) ?hq12F (Or.inl ⟨?hw12F, ?hy12F⟩) (by assumption) ?rest12F
    case hi12F => (simp only [List.getElem?_toArray, List.getElem?_cons_succ, List.getElem?_cons_zero]; rfl)
    case hq12F => exact fun _ _ _ h => h
    case hw12F => rfl
    case hy12F => (intro w hSw; (try dsimp only at hSw); go_simp <;> with_reducible rfl)
    try simp only [Act.put, List.setIfInBounds_toArray, List.set_cons_zero, List.set_cons_succ]
    refine wpAnyH_ready (rs := [13]) (by kernel_rfl) (by simp) ?_
    refine AllReadyH.cons (o := ?o13F) ?hi13F (fun K hK => ?st13F) AllReadyH.nil
    case hi13F => (simp only [List.getElem?_toArray, List.getElem?_cons_succ, List.getElem?_cons_zero]; rfl)
    go_simp
    refine (raskmay_any ⟨c, m, k, o, r, t, n, g, l⟩ A0 cap0 _ hila5 hwl0 hn hg7).mono ?_
    rintro e w6 ⟨rfl, hx6⟩
    have hx6 : Below (w5).heap.size (w5) w6 := hx6
    have hb6 := hb5.trans (hx6.mono hb5.size)
    have hbxa6 := (hbxa5).kept (Keep.of_below hx6) (fun h => absurd hbxa5.lt (Nat.not_lt.2 h))
    have hila6 := (hila5).below hx6
    have hSa6 := boxS (c := c) (m := m) (k := k) (o := o) (r := r) (t := t) (n := n) (g := g) (l := l) (A := A0) (cap := cap0) hbxa6
    rw [hm]
    go_wp2_with fail
    refine hK.out _ _ hSa6 (fun hHeld2 => ?_)
    clear hK K hHeld
    have hHeld := hHeld2
    clear hHeld2
    try simp only [Act.put, List.setIfInBounds_toArray, List.set_cons_zero, List.set_cons_succ]
    refine wpAnyH_take (i := 14) (oi := ?oi14F) (v := ?v14F) ?hi14F (by kernel_rfl) (by kernel_rfl) (by kernel_rfl) ?hq14F (Or.inl ⟨?hw14F, ?hy14F⟩) (by assumption) ?rest14F
    case hi14F => (simp only [List.getElem?_toArray, List.getElem?_cons_succ, List.getElem?_cons_zero]; rfl)
    case hq14F => exact fun _ _ _ h => h
    case hw14F => rfl
    case hy14F => (intro w hSw; (try dsimp only at hSw); go_simp <;> with_reducible rfl)
    try simp only [Act.put, List.setIfInBounds_toArray, List.set_cons_zero, List.set_cons_succ]
    refine wpAnyH_take (i := 15) (oi := ?oi15F) (v := ?v15F) ?hi15F (by kernel_rfl) (by kernel_rfl) (by kernel_rfl) ?hq15F (Or.inl ⟨?hw15F, ?hy15F⟩) (by assumption) ?rest15F
    case hi15F => (simp only [List.getElem?_toArray, List.getElem?_cons_succ, List.getElem?_cons_zero]; rfl)
    case hq15F => exact fun _ _ _ h => h
    case hw15F => rfl
    case hy15F => (intro w hSw; (try dsimp only at hSw); go_simp <;> with_reducible rfl)
    try simp only [Act.put, List.setIfInBounds_toArray, List.set_cons_zero, List.set_cons_succ]
    refine wpAnyH_done (by kernel_rfl) ?_ _
    go_wp2
    go_ret
    exact ⟨rfl, hb6⟩
  | true =>
    have hsame : sameA ⟨c, m, k, o, r, t, n, g, l⟩ ⟨c, m, k, o, r, t, n, g, l⟩ = true := (sameA_iff _ _).2 rfl
    have hdec := decA_enc hm
    obtain ⟨ce, hce⟩ : ∃ q, encA ⟨c, m, k, o, r, t, n, g, l⟩ = q := ⟨_, rfl⟩
    obtain ⟨cb, hcb⟩ : ∃ q, bodyA ⟨c, m, k, o, r, t, n, g, l⟩ = q := ⟨_, rfl⟩
    have hlen := encA_len hm
    have KE := fun A W h => raskencode_any ⟨c, m, k, o, r, t, n, g, l⟩ A cap0 W h hm
    have KB := fun A W h => rbody_any ⟨c, m, k, o, r, t, n, g, l⟩ A cap0 W h hm
    rw [hce] at hdec hlen
    obtain ⟨ne, hne⟩ : ∃ q, ce.length = q := ⟨_, rfl⟩
    obtain ⟨nb, hnb⟩ : ∃ q, cb.length = q := ⟨_, rfl⟩
    rw [hne] at hlen
    go_enter Try.func7, Try.ntmps7
    have key := askencode_any ⟨c, m, k, o, r, t, n, g, l⟩ A0 cap0 (w.alloc (.cells (AV.cs ⟨c, m, k, o, r, t, n, g, l⟩ A0 cap0) 53)) hila0 hn
    rw [hm, hce] at key
    unfold AV.v at key
    dsimp only at key
    have hSa0 := boxS (c := c) (m := m) (k := k) (o := o) (r := r) (t := t) (n := n) (g := g) (l := l) (A := A0) (cap := cap0) hbxa0
    go_wp2_with fail
    refine key.mono ?_
    rintro e w1 ⟨hx1, Ee, ce', rfl, q1e, q2e, hrbe1, q4e⟩
    clear key
    rw [hne] at hrbe1 q1e
    rw [hne]
    have hb1 := hb0.trans (hx1.mono hb0.size)
    have hbxa1 := hbxa0.kept (Keep.of_below hx1) (fun h => absurd hbxa0.lt (Nat.not_lt.2 h))
    have hila1 := hila0.below hx1
    clear hbxa0 hila0 hSa0
    have key := askbody_any ⟨c, m, k, o, r, t, n, g, l⟩ A0 cap0 w1 hila1 hn
    rw [hm, hcb] at key
    unfold AV.v at key
    dsimp only at key
    have hSa1 := boxS (c := c) (m := m) (k := k) (o := o) (r := r) (t := t) (n := n) (g := g) (l := l) (A := A0) (cap := cap0) hbxa1
    go_wp2_with fail
    refine key.mono ?_
    rintro e w2 ⟨hx2, Eb, cb', rfl, q1b, q2b, hrbb2, q4b⟩
    clear key
    rw [hnb] at hrbb2 q1b
    rw [hnb]
    have hb2 := hb1.trans (hx2.mono hb1.size)
    have hbxa2 := hbxa1.kept (Keep.of_below hx2) (fun h => absurd hbxa1.lt (Nat.not_lt.2 h))
    have hila2 := hila1.below hx2
    have hrbe2 := hrbe1.below hx2
    clear hbxa1 hila1 hrbe1 hSa1
    have hSa2 := boxS (c := c) (m := m) (k := k) (o := o) (r := r) (t := t) (n := n) (g := g) (l := l) (A := A0) (cap := cap0) hbxa2
    go_wp2_with fail
    refine wp_region_held_drew (S := (fun w' => (w'.cell? ⟨w.heap.size, 0, none⟩ = some (.int .i64 c) ∧ w'.cell? ⟨w.heap.size, 1, none⟩ = some (.int .i64 m) ∧ w'.cell? ⟨w.heap.size, 2, none⟩ = some (.int .i64 k) ∧ w'.cell? ⟨w.heap.size, 3, none⟩ = some (.int .i64 o) ∧ w'.cell? ⟨w.heap.size, 4, none⟩ = some (.int .i64 r) ∧ w'.cell? ⟨w.heap.size, 5, none⟩ = some (.int .i64 t) ∧ w'.cell? ⟨w.heap.size, 6, none⟩ = some (.int .i64 n) ∧ w'.cell? ⟨w.heap.size, 7, none⟩ = some (.string ⟨g.toArray⟩) ∧ w'.cell? ⟨w.heap.size, 8, none⟩ = some (.slice A0 l.length cap0)))) (by kernel_rfl) hSa2 (fun hHeld => ?_)
    refine wpAnyH_ready (rs := [0]) (by kernel_rfl) (by simp) ?_
    refine AllReadyH.cons (o := ?o0T) ?hi0T (fun K hK => ?st0T) AllReadyH.nil
    case hi0T => (simp only [List.getElem?_toArray, List.getElem?_cons_succ, List.getElem?_cons_zero]; rfl)
    go_simp
    refine (alives_any _).mono ?_
    rintro e w3 ⟨rfl, hx3⟩
    have hx3 : Below (w2.drew).heap.size (w2.drew) w3 := hx3
    have hb3 := (Below.drew hb2).trans (hx3.mono (Below.drew hb2).size)
    have hbxa3 := (hbxa2.drew).kept (Keep.of_below hx3) (fun h => absurd hbxa2.lt (Nat.not_lt.2 h))
    have hila3 := (hila2.drew).below hx3
    have hrbe3 := RB.below (w := w2.drew) hrbe2 hx3
    have hrbb3 := RB.below (w := w2.drew) hrbb2 hx3
    have hSa3 := boxS (c := c) (m := m) (k := k) (o := o) (r := r) (t := t) (n := n) (g := g) (l := l) (A := A0) (cap := cap0) hbxa3
    go_wp2_with fail
    refine hK.out _ _ hSa3 (fun hHeld2 => ?_)
    clear hK K hHeld
    have hHeld := hHeld2
    clear hHeld2
    try simp only [Act.put, List.setIfInBounds_toArray, List.set_cons_zero, List.set_cons_succ]
    refine wpAnyH_take (i := 1) (oi := ?oi1T) (v := ?v1T) ?hi1T (by kernel_rfl) (by kernel_rfl) (by kernel_rfl) ?hq1T (Or.inl ⟨?hw1T, ?hy1T⟩) (by assumption) ?rest1T
    case hi1T => (simp only [List.getElem?_toArray, List.getElem?_cons_succ, List.getElem?_cons_zero]; rfl)
    case hq1T => exact fun _ _ _ h => h
    case hw1T => rfl
    case hy1T => (intro w hSw; (try dsimp only at hSw); go_simp <;> with_reducible rfl)
    try simp only [Act.put, List.setIfInBounds_toArray, List.set_cons_zero, List.set_cons_succ]
    refine wpAnyH_take (i := 2) (oi := ?oi2T) (v := ?v2T) ?hi2T (by kernel_rfl) (by kernel_rfl) (by kernel_rfl) ?hq2T (Or.inl ⟨?hw2T, ?hy2T⟩) (by assumption) ?rest2T
    case hi2T => (simp only [List.getElem?_toArray, List.getElem?_cons_succ, List.getElem?_cons_zero]; rfl)
    case hq2T => exact fun _ _ _ h => h
    case hw2T => rfl
    case hy2T => (intro w hSw; (try dsimp only at hSw); go_simp <;> with_reducible rfl)
    try simp only [Act.put, List.setIfInBounds_toArray, List.set_cons_zero, List.set_cons_succ]
    refine wpAnyH_take (i := 3) (oi := ?oi3T) (v := ?v3T) ?hi3T (by kernel_rfl) (by kernel_rfl) (by kernel_rfl) ?hq3T (Or.inl ⟨?hw3T, ?hy3T⟩) (by assumption) ?rest3T
    case hi3T => (simp only [List.getElem?_toArray, List.getElem?_cons_succ, List.getElem?_cons_zero]; rfl)
    case hq3T => exact fun _ _ _ h => h
    case hw3T => rfl
    case hy3T => (intro w hSw; (try dsimp only at hSw); go_simp <;> with_reducible rfl)
    try simp only [Act.put, List.setIfInBounds_toArray, List.set_cons_zero, List.set_cons_succ]
    refine wpAnyH_take (i := 5) (oi := ?oi5T) (v := ?v5T) ?hi5T (by kernel_rfl) (by kernel_rfl) (by kernel_rfl) ?hq5T (Or.inl ⟨?hw5T, ?hy5T⟩) (by assumption) ?rest5T
    case hi5T => (simp only [List.getElem?_toArray, List.getElem?_cons_succ, List.getElem?_cons_zero]; rfl)
    case hq5T => exact fun _ _ _ h => h
    case hw5T => rfl
    case hy5T => (intro w hSw; (try dsimp only at hSw); go_simp <;> with_reducible rfl)
    try simp only [Act.put, List.setIfInBounds_toArray, List.set_cons_zero, List.set_cons_succ]
    refine wpAnyH_ready (rs := [4]) (by kernel_rfl) (by simp) ?_
    refine AllReadyH.cons (o := ?o4T) ?hi4T (fun K hK => ?st4T) AllReadyH.nil
    case hi4T => (simp only [List.getElem?_toArray, List.getElem?_cons_succ, List.getElem?_cons_zero]; rfl)
    go_simp
    refine (askmay_any ⟨c, m, k, o, r, t, n, g, l⟩ A0 cap0 _ hila3 hn).mono ?_
    rintro e w4 ⟨rfl, hx4⟩
    have hx4 : Below (w3).heap.size (w3) w4 := hx4
    have hb4 := hb3.trans (hx4.mono hb3.size)
    have hbxa4 := (hbxa3).kept (Keep.of_below hx4) (fun h => absurd hbxa3.lt (Nat.not_lt.2 h))
    have hila4 := (hila3).below hx4
    have hrbe4 := RB.below (w := w3) hrbe3 hx4
    have hrbb4 := RB.below (w := w3) hrbb3 hx4
    have hSa4 := boxS (c := c) (m := m) (k := k) (o := o) (r := r) (t := t) (n := n) (g := g) (l := l) (A := A0) (cap := cap0) hbxa4
    rw [hm]
    go_wp2_with fail
    refine hK.out _ _ hSa4 (fun hHeld2 => ?_)
    clear hK K hHeld
    have hHeld := hHeld2
    clear hHeld2
    try simp only [Act.put, List.setIfInBounds_toArray, List.set_cons_zero, List.set_cons_succ]
    refine wpAnyH_ready (rs := [6]) (by kernel_rfl) (by simp) ?_
    refine AllReadyH.cons (o := ?o6T) ?hi6T (fun K hK => ?st6T) AllReadyH.nil
    case hi6T => (simp only [List.getElem?_toArray, List.getElem?_cons_succ, List.getElem?_cons_zero]; rfl)
    go_simp
    refine (raskmay_any ⟨c, m, k, o, r, t, n, g, l⟩ A0 cap0 _ hila4 hwl0 hn hg7).mono ?_
    rintro e w5 ⟨rfl, hx5⟩
    have hx5 : Below (w4).heap.size (w4) w5 := hx5
    have hb5 := hb4.trans (hx5.mono hb4.size)
    have hbxa5 := (hbxa4).kept (Keep.of_below hx5) (fun h => absurd hbxa4.lt (Nat.not_lt.2 h))
    have hila5 := (hila4).below hx5
    have hrbe5 := RB.below (w := w4) hrbe4 hx5
    have hrbb5 := RB.below (w := w4) hrbb4 hx5
    have hSa5 := boxS (c := c) (m := m) (k := k) (o := o) (r := r) (t := t) (n := n) (g := g) (l := l) (A := A0) (cap := cap0) hbxa5
    rw [hm]
    go_wp2_with fail
    refine hK.out _ _ hSa5 (fun hHeld2 => ?_)
    clear hK K hHeld
    have hHeld := hHeld2
    clear hHeld2
    try simp only [Act.put, List.setIfInBounds_toArray, List.set_cons_zero, List.set_cons_succ]
    refine wpAnyH_take (i := 7) (oi := ?oi7T) (v := ?v7T) ?hi7T (by kernel_rfl) (by kernel_rfl) (by kernel_rfl) ?hq7T (Or.inl ⟨?hw7T, ?hy7T⟩) (by assumption) ?rest7T
    case hi7T => (simp only [List.getElem?_toArray, List.getElem?_cons_succ, List.getElem?_cons_zero]; rfl)
    case hq7T => exact fun _ _ _ h => h
    case hw7T => rfl
    case hy7T => (intro w hSw; (try dsimp only at hSw); go_simp <;> with_reducible rfl)
    try simp only [Act.put, List.setIfInBounds_toArray, List.set_cons_zero, List.set_cons_succ]
    refine wpAnyH_take (i := 8) (oi := ?oi8T) (v := ?v8T) ?hi8T (by kernel_rfl) (by kernel_rfl) (by kernel_rfl) ?hq8T (Or.inl ⟨?hw8T, ?hy8T⟩) (by assumption) ?rest8T
    case hi8T => (simp only [List.getElem?_toArray, List.getElem?_cons_succ, List.getElem?_cons_zero]; rfl)
    case hq8T => exact fun _ _ _ h => h
    case hw8T => rfl
    case hy8T => (intro w hSw; (try dsimp only at hSw); go_simp <;> with_reducible rfl)
    try simp only [Act.put, List.setIfInBounds_toArray, List.set_cons_zero, List.set_cons_succ]
    refine wpAnyH_take (i := 9) (oi := ?oi9T) (v := ?v9T) ?hi9T (by kernel_rfl) (by kernel_rfl) (by kernel_rfl) ?hq9T (Or.inl ⟨?hw9T, ?hy9T⟩) (by assumption) ?rest9T
    case hi9T => (simp only [List.getElem?_toArray, List.getElem?_cons_succ, List.getElem?_cons_zero]; rfl)
    case hq9T => exact fun _ _ _ h => h
    case hw9T => rfl
    case hy9T => (intro w hSw; (try dsimp only at hSw); go_simp <;> with_reducible rfl)
    try simp only [Act.put, List.setIfInBounds_toArray, List.set_cons_zero, List.set_cons_succ]
    refine wpAnyH_take (i := 10) (oi := ?oi10T) (v := ?v10T) ?hi10T (by kernel_rfl) (by kernel_rfl) (by kernel_rfl) ?hq10T (Or.inl ⟨?hw10T, ?hy10T⟩) (by assumption) ?rest10T
    case hi10T => (simp only [List.getElem?_toArray, List.getElem?_cons_succ, List.getElem?_cons_zero]; rfl)
    case hq10T => exact fun _ _ _ h => h
    case hw10T => rfl
    case hy10T => (intro w hSw; (try dsimp only at hSw); go_simp <;> with_reducible rfl)
    try simp only [Act.put, List.setIfInBounds_toArray, List.set_cons_zero, List.set_cons_succ]
    refine wpAnyH_take (i := 11) (oi := ?oi11T) (v := ?v11T) ?hi11T (by kernel_rfl) (by kernel_rfl) (by kernel_rfl) ?hq11T (Or.inl ⟨?hw11T, ?hy11T⟩) (by assumption) ?rest11T
    case hi11T => (simp only [List.getElem?_toArray, List.getElem?_cons_succ, List.getElem?_cons_zero]; rfl)
    case hq11T => exact fun _ _ _ h => h
    case hw11T => rfl
    case hy11T => (intro w hSw; (try dsimp only at hSw); go_simp <;> with_reducible rfl)
    try simp only [Act.put, List.setIfInBounds_toArray, List.set_cons_zero, List.set_cons_succ]
    refine wpAnyH_take (i := 12) (oi := ?oi12T) (v := ?v12T) ?hi12T (by kernel_rfl) (by kernel_rfl) (by kernel_rfl) ?hq12T (Or.inl ⟨?hw12T, ?hy12T⟩) (by assumption) ?rest12T
    case hi12T => (simp only [List.getElem?_toArray, List.getElem?_cons_succ, List.getElem?_cons_zero]; rfl)
    case hq12T => exact fun _ _ _ h => h
    case hw12T => rfl
    case hy12T => (intro w hSw; (try dsimp only at hSw); go_simp <;> with_reducible rfl)
    try simp only [Act.put, List.setIfInBounds_toArray, List.set_cons_zero, List.set_cons_succ]
    refine wpAnyH_ready (rs := [13]) (by kernel_rfl) (by simp) ?_
    refine AllReadyH.cons (o := ?o13T) ?hi13T (fun K hK => ?st13T) AllReadyH.nil
    case hi13T => (simp only [List.getElem?_toArray, List.getElem?_cons_succ, List.getElem?_cons_zero]; rfl)
    go_simp
    refine (raskmay_any ⟨c, m, k, o, r, t, n, g, l⟩ A0 cap0 _ hila5 hwl0 hn hg7).mono ?_
    rintro e w6 ⟨rfl, hx6⟩
    have hx6 : Below (w5).heap.size (w5) w6 := hx6
    have hb6 := hb5.trans (hx6.mono hb5.size)
    have hbxa6 := (hbxa5).kept (Keep.of_below hx6) (fun h => absurd hbxa5.lt (Nat.not_lt.2 h))
    have hila6 := (hila5).below hx6
    have hrbe6 := RB.below (w := w5) hrbe5 hx6
    have hrbb6 := RB.below (w := w5) hrbb5 hx6
    have hSa6 := boxS (c := c) (m := m) (k := k) (o := o) (r := r) (t := t) (n := n) (g := g) (l := l) (A := A0) (cap := cap0) hbxa6
    rw [hm]
    go_wp2_with fail
    refine hK.out _ _ hSa6 (fun hHeld2 => ?_)
    clear hK K hHeld
    have hHeld := hHeld2
    clear hHeld2
    try simp only [Act.put, List.setIfInBounds_toArray, List.set_cons_zero, List.set_cons_succ]
    refine wpAnyH_take (i := 14) (oi := ?oi14T) (v := ?v14T) ?hi14T (by kernel_rfl) (by kernel_rfl) (by kernel_rfl) ?hq14T (Or.inl ⟨?hw14T, ?hy14T⟩) (by assumption) ?rest14T
    case hi14T => (simp only [List.getElem?_toArray, List.getElem?_cons_succ, List.getElem?_cons_zero]; rfl)
    case hq14T => exact fun _ _ _ h => h
    case hw14T => rfl
    case hy14T => (intro w hSw; (try dsimp only at hSw); go_simp <;> with_reducible rfl)
    try simp only [Act.put, List.setIfInBounds_toArray, List.set_cons_zero, List.set_cons_succ]
    refine wpAnyH_take (i := 15) (oi := ?oi15T) (v := ?v15T) ?hi15T (by kernel_rfl) (by kernel_rfl) (by kernel_rfl) ?hq15T (Or.inl ⟨?hw15T, ?hy15T⟩) (by assumption) ?rest15T
    case hi15T => (simp only [List.getElem?_toArray, List.getElem?_cons_succ, List.getElem?_cons_zero]; rfl)
    case hq15T => exact fun _ _ _ h => h
    case hw15T => rfl
    case hy15T => (intro w hSw; (try dsimp only at hSw); go_simp <;> with_reducible rfl)
    try simp only [Act.put, List.setIfInBounds_toArray, List.set_cons_zero, List.set_cons_succ]
    refine wpAnyH_done (by kernel_rfl) ?_ _
    have key := askdecode_any Ee ne ce' ce w6 hrbe6 (by omega)
    go_wp2_with fail
    refine key.mono ?_
    rintro e w7 ⟨hx7, h6⟩
    clear key
    rw [hdec] at h6
    obtain ⟨Ax, capx, rfl, hilx7⟩ := h6
    have hb7 := hb6.trans (hx7.mono hb6.size)
    have hbxa7 := hbxa6.kept (Keep.of_below hx7) (fun h => absurd hbxa6.lt (Nat.not_lt.2 h))
    have hila7 := hila6.below hx7
    have hrbe7 := hrbe6.below hx7
    have hrbb7 := hrbb6.below hx7
    clear hbxa6 hila6 hrbe6 hrbb6 hSa6
    have hbxx7 := Blk.new w7 53 (AV.cs ⟨c, m, k, o, r, t, n, g, l⟩ Ax capx)
    have hbxa7 := hbxa7.alloc (.cells (AV.cs ⟨c, m, k, o, r, t, n, g, l⟩ Ax capx) 53)
    have hila7 := hila7.alloc (.cells (AV.cs ⟨c, m, k, o, r, t, n, g, l⟩ Ax capx) 53)
    have hilx7 := hilx7.alloc (.cells (AV.cs ⟨c, m, k, o, r, t, n, g, l⟩ Ax capx) 53)
    have hrbe7 := hrbe7.below ((Below.refl _ w7).alloc (Nat.le_refl _) (.cells (AV.cs ⟨c, m, k, o, r, t, n, g, l⟩ Ax capx) 53))
    have hrbb7 := hrbb7.below ((Below.refl _ w7).alloc (Nat.le_refl _) (.cells (AV.cs ⟨c, m, k, o, r, t, n, g, l⟩ Ax capx) 53))
    have hb7 := hb7.alloc hb7.size (.cells (AV.cs ⟨c, m, k, o, r, t, n, g, l⟩ Ax capx) 53)
    unfold AV.v
    unfold AV.cs at hbxa7 hbxx7 hila7 hilx7 hrbe7 hrbb7 hb7
    dsimp only at hbxa7 hbxx7 hila7 hilx7 hrbe7 hrbb7 hb7 ⊢
    go_wp2_with fail
    generalize w7.alloc (.cells #[.int .i64 c, .int .i64 m, .int .i64 k, .int .i64 o, .int .i64 r, .int .i64 t, .int .i64 n, .string ⟨g.toArray⟩, .slice Ax l.length capx] 53) = w8 at hbxa7 hbxx7 hila7 hilx7 hrbe7 hrbb7 hb7 ⊢
    have hbxa8 := hbxa7
    have hbxx8 := hbxx7
    have hila8 := hila7
    have hilx8 := hilx7
    have hrbe8 := hrbe7
    have hrbb8 := hrbb7
    have hb8 := hb7
    clear hbxa7 hbxx7 hila7 hilx7 hrbe7 hrbb7 hb7
    have hSa8 := boxS (c := c) (m := m) (k := k) (o := o) (r := r) (t := t) (n := n) (g := g) (l := l) (A := A0) (cap := cap0) hbxa8
    have hSx8 := boxS (c := c) (m := m) (k := k) (o := o) (r := r) (t := t) (n := n) (g := g) (l := l) (A := Ax) (cap := capx) hbxx8
    have hcve8 := run_str w8 Ee ne ce' ce hrbe8
    have hcvb8 := run_str w8 Eb nb cb' cb hrbb8
    refine wp_region_held_drew (S := (fun w' => (w'.cell? ⟨w.heap.size, 0, none⟩ = some (.int .i64 c) ∧ w'.cell? ⟨w.heap.size, 1, none⟩ = some (.int .i64 m) ∧ w'.cell? ⟨w.heap.size, 2, none⟩ = some (.int .i64 k) ∧ w'.cell? ⟨w.heap.size, 3, none⟩ = some (.int .i64 o) ∧ w'.cell? ⟨w.heap.size, 4, none⟩ = some (.int .i64 r) ∧ w'.cell? ⟨w.heap.size, 5, none⟩ = some (.int .i64 t) ∧ w'.cell? ⟨w.heap.size, 6, none⟩ = some (.int .i64 n) ∧ w'.cell? ⟨w.heap.size, 7, none⟩ = some (.string ⟨g.toArray⟩) ∧ w'.cell? ⟨w.heap.size, 8, none⟩ = some (.slice A0 l.length cap0)) ∧ (w'.cell? ⟨w7.heap.size, 0, none⟩ = some (.int .i64 c) ∧ w'.cell? ⟨w7.heap.size, 1, none⟩ = some (.int .i64 m) ∧ w'.cell? ⟨w7.heap.size, 2, none⟩ = some (.int .i64 k) ∧ w'.cell? ⟨w7.heap.size, 3, none⟩ = some (.int .i64 o) ∧ w'.cell? ⟨w7.heap.size, 4, none⟩ = some (.int .i64 r) ∧ w'.cell? ⟨w7.heap.size, 5, none⟩ = some (.int .i64 t) ∧ w'.cell? ⟨w7.heap.size, 6, none⟩ = some (.int .i64 n) ∧ w'.cell? ⟨w7.heap.size, 7, none⟩ = some (.string ⟨g.toArray⟩) ∧ w'.cell? ⟨w7.heap.size, 8, none⟩ = some (.slice Ax l.length capx)) ∧ (convert 35 9 (.slice Ee ne ce')).run Try.prog w' = .ok (.string ⟨(ce).toArray⟩) w' ∧ (convert 35 9 (.slice Eb nb cb')).run Try.prog w' = .ok (.string ⟨(cb).toArray⟩) w')) (by kernel_rfl) ⟨hSa8, hSx8, (run_str w8.drew Ee ne ce' ce hrbe8), (run_str w8.drew Eb nb cb' cb hrbb8)⟩ (fun hHeld => ?_)
    refine wpAnyH_take (i := 0) (oi := ?oi0X) (v := ?v0X) ?hi0X (by kernel_rfl) (by kernel_rfl) (by kernel_rfl) ?hq0X (Or.inl ⟨?hw0X, ?hy0X⟩) (by assumption) ?rest0X
    case hi0X => (simp only [List.getElem?_toArray, List.getElem?_cons_succ, List.getElem?_cons_zero]; rfl)
    case hq0X => exact fun _ _ _ h => h
    case hw0X => rfl
    case hy0X => (intro w hSw; (try dsimp only at hSw); go_simp <;> with_reducible rfl)
    try simp only [Act.put, List.setIfInBounds_toArray, List.set_cons_zero, List.set_cons_succ]
    refine wpAnyH_take (i := 1) (oi := ?oi1X) (v := ?v1X) ?hi1X (by kernel_rfl) (by kernel_rfl) (by kernel_rfl) ?hq1X (Or.inl ⟨?hw1X, ?hy1X⟩) (by assumption) ?rest1X
    case hi1X => (simp only [List.getElem?_toArray, List.getElem?_cons_succ, List.getElem?_cons_zero]; rfl)
    case hq1X => exact fun _ _ _ h => h
    case hw1X => rfl
    case hy1X => (intro w hSw; (try dsimp only at hSw); go_simp <;> with_reducible rfl)
    try simp only [Act.put, List.setIfInBounds_toArray, List.set_cons_zero, List.set_cons_succ]
    refine wpAnyH_take (i := 2) (oi := ?oi2X) (v := ?v2X) ?hi2X (by kernel_rfl) (by kernel_rfl) (by kernel_rfl) ?hq2X (Or.inl ⟨?hw2X, ?hy2X⟩) (by assumption) ?rest2X
    case hi2X => (simp only [List.getElem?_toArray, List.getElem?_cons_succ, List.getElem?_cons_zero]; rfl)
    case hq2X => exact fun _ _ _ h => h
    case hw2X => rfl
    case hy2X => (intro w hSw; (try dsimp only at hSw); go_simp <;> with_reducible rfl)
    try simp only [Act.put, List.setIfInBounds_toArray, List.set_cons_zero, List.set_cons_succ]
    refine wpAnyH_ready (rs := [3]) (by kernel_rfl) (by simp) ?_
    refine AllReadyH.cons (o := ?o3X) ?hi3X (fun K hK => ?st3X) AllReadyH.nil
    case hi3X => (simp only [List.getElem?_toArray, List.getElem?_cons_succ, List.getElem?_cons_zero]; rfl)
    go_simp
    refine (KE A0 _ hila8.drew).mono ?_
    rintro e w9 ⟨hx9, v3, rfl, ho3⟩
    have hx9 : Below (w8.drew).heap.size (w8.drew) w9 := hx9
    have hb9 := (Below.drew hb8).trans (hx9.mono (Below.drew hb8).size)
    have hbxa9 := (hbxa8.drew).kept (Keep.of_below hx9) (fun h => absurd hbxa8.lt (Nat.not_lt.2 h))
    have hbxx9 := (hbxx8.drew).kept (Keep.of_below hx9) (fun h => absurd hbxx8.lt (Nat.not_lt.2 h))
    have hila9 := (hila8.drew).below hx9
    have hilx9 := (hilx8.drew).below hx9
    have hrbe9 := RB.below (w := w8.drew) hrbe8 hx9
    have hrbb9 := RB.below (w := w8.drew) hrbb8 hx9
    have hSa9 := boxS (c := c) (m := m) (k := k) (o := o) (r := r) (t := t) (n := n) (g := g) (l := l) (A := A0) (cap := cap0) hbxa9
    have hSx9 := boxS (c := c) (m := m) (k := k) (o := o) (r := r) (t := t) (n := n) (g := g) (l := l) (A := Ax) (cap := capx) hbxx9
    have hcve9 := run_str w9 Ee ne ce' ce hrbe9
    have hcvb9 := run_str w9 Eb nb cb' cb hrbb9
    rw [hce] at ho3
    obtain ⟨A3, c3, rfl, q13, q23, hr3, q43⟩ := ho3.form
    rw [hne] at hr3
    rw [hne]
    have hcv3 := run_str _ A3 ne c3 ce hr3
    go_wp2_with fail
    refine hK.out _ _ ⟨hSa9, hSx9, hcve9, hcvb9⟩ (fun hHeld2 => ?_)
    clear hK K hHeld
    have hHeld := hHeld2
    clear hHeld2
    try simp only [Act.put, List.setIfInBounds_toArray, List.set_cons_zero, List.set_cons_succ]
    refine wpAnyH_ready (rs := [4]) (by kernel_rfl) (by simp) ?_
    refine AllReadyH.cons (o := ?o4X) ?hi4X (fun K hK => ?st4X) AllReadyH.nil
    case hi4X => (simp only [List.getElem?_toArray, List.getElem?_cons_succ, List.getElem?_cons_zero]; rfl)
    go_simp
    refine hK.out _ _ ⟨hSa9, hSx9, hcve9, hcvb9⟩ (fun hHeld2 => ?_)
    clear hK K hHeld
    have hHeld := hHeld2
    clear hHeld2
    try simp only [Act.put, List.setIfInBounds_toArray, List.set_cons_zero, List.set_cons_succ]
    refine wpAnyH_take (i := 5) (oi := ?oi5X) (v := ?v5X) ?hi5X (by kernel_rfl) (by kernel_rfl) (by kernel_rfl) ?hq5X (Or.inl ⟨?hw5X, ?hy5X⟩) (by assumption) ?rest5X
    case hi5X => (simp only [List.getElem?_toArray, List.getElem?_cons_succ, List.getElem?_cons_zero]; rfl)
    case hq5X => exact fun _ _ _ h => h
    case hw5X => rfl
    case hy5X => (intro w hSw; (try dsimp only at hSw); go_simp <;> with_reducible rfl)
    try simp only [Act.put, List.setIfInBounds_toArray, List.set_cons_zero, List.set_cons_succ]
    refine wpAnyH_take (i := 6) (oi := ?oi6X) (v := ?v6X) ?hi6X (by kernel_rfl) (by kernel_rfl) (by kernel_rfl) ?hq6X (Or.inl ⟨?hw6X, ?hy6X⟩) (by assumption) ?rest6X
    case hi6X => (simp only [List.getElem?_toArray, List.getElem?_cons_succ, List.getElem?_cons_zero]; rfl)
    case hq6X => exact fun _ _ _ h => h
    case hw6X => rfl
    case hy6X => (intro w hSw; (try dsimp only at hSw); go_simp <;> with_reducible rfl)
    try simp only [Act.put, List.setIfInBounds_toArray, List.set_cons_zero, List.set_cons_succ]
    refine wpAnyH_take (i := 7) (oi := ?oi7X) (v := ?v7X) ?hi7X (by kernel_rfl) (by kernel_rfl) (by kernel_rfl) ?hq7X (Or.inl ⟨?hw7X, ?hy7X⟩) (by assumption) ?rest7X
    case hi7X => (simp only [List.getElem?_toArray, List.getElem?_cons_succ, List.getElem?_cons_zero]; rfl)
    case hq7X => exact fun _ _ _ h => h
    case hw7X => rfl
    case hy7X => (intro w hSw; (try dsimp only at hSw); go_simp <;> with_reducible rfl)
    try simp only [Act.put, List.setIfInBounds_toArray, List.set_cons_zero, List.set_cons_succ]
    refine wpAnyH_take (i := 8) (oi := ?oi8X) (v := ?v8X) ?hi8X (by kernel_rfl) (by kernel_rfl) (by kernel_rfl) ?hq8X (Or.inl ⟨?hw8X, ?hy8X⟩) (by assumption) ?rest8X
    case hi8X => (simp only [List.getElem?_toArray, List.getElem?_cons_succ, List.getElem?_cons_zero]; rfl)
    case hq8X => exact fun _ _ _ h => h
    case hw8X => rfl
    case hy8X => (intro w hSw; (try dsimp only at hSw); go_simp <;> with_reducible rfl)
    try simp only [Act.put, List.setIfInBounds_toArray, List.set_cons_zero, List.set_cons_succ]
    refine wpAnyH_take (i := 9) (oi := ?oi9X) (v := ?v9X) ?hi9X (by kernel_rfl) (by kernel_rfl) (by kernel_rfl) ?hq9X (Or.inl ⟨?hw9X, ?hy9X⟩) (by assumption) ?rest9X
    case hi9X => (simp only [List.getElem?_toArray, List.getElem?_cons_succ, List.getElem?_cons_zero]; rfl)
    case hq9X => exact fun _ _ _ h => h
    case hw9X => rfl
    case hy9X => (intro w hSw; (try dsimp only at hSw); go_simp <;> with_reducible rfl)
    try simp only [Act.put, List.setIfInBounds_toArray, List.set_cons_zero, List.set_cons_succ]
    refine wpAnyH_ready (rs := [10]) (by kernel_rfl) (by simp) ?_
    refine AllReadyH.cons (o := ?o10X) ?hi10X (fun K hK => ?st10X) AllReadyH.nil
    case hi10X => (simp only [List.getElem?_toArray, List.getElem?_cons_succ, List.getElem?_cons_zero]; rfl)
    go_simp
    refine (KB A0 _ hila9).mono ?_
    rintro e w10 ⟨hx10, v4, rfl, ho4⟩
    have hx10 : Below (w9).heap.size (w9) w10 := hx10
    have hb10 := hb9.trans (hx10.mono hb9.size)
    have hbxa10 := (hbxa9).kept (Keep.of_below hx10) (fun h => absurd hbxa9.lt (Nat.not_lt.2 h))
    have hbxx10 := (hbxx9).kept (Keep.of_below hx10) (fun h => absurd hbxx9.lt (Nat.not_lt.2 h))
    have hila10 := (hila9).below hx10
    have hilx10 := (hilx9).below hx10
    have hrbe10 := RB.below (w := w9) hrbe9 hx10
    have hrbb10 := RB.below (w := w9) hrbb9 hx10
    have hSa10 := boxS (c := c) (m := m) (k := k) (o := o) (r := r) (t := t) (n := n) (g := g) (l := l) (A := A0) (cap := cap0) hbxa10
    have hSx10 := boxS (c := c) (m := m) (k := k) (o := o) (r := r) (t := t) (n := n) (g := g) (l := l) (A := Ax) (cap := capx) hbxx10
    have hcve10 := run_str w10 Ee ne ce' ce hrbe10
    have hcvb10 := run_str w10 Eb nb cb' cb hrbb10
    rw [hcb] at ho4
    obtain ⟨A4, c4, rfl, q14, q24, hr4, q44⟩ := ho4.form
    rw [hnb] at hr4
    rw [hnb]
    have hcv4 := run_str _ A4 nb c4 cb hr4
    go_wp2_with fail
    refine hK.out _ _ ⟨hSa10, hSx10, hcve10, hcvb10⟩ (fun hHeld2 => ?_)
    clear hK K hHeld
    have hHeld := hHeld2
    clear hHeld2
    try simp only [Act.put, List.setIfInBounds_toArray, List.set_cons_zero, List.set_cons_succ]
    refine wpAnyH_ready (rs := [11]) (by kernel_rfl) (by simp) ?_
    refine AllReadyH.cons (o := ?o11X) ?hi11X (fun K hK => ?st11X) AllReadyH.nil
    case hi11X => (simp only [List.getElem?_toArray, List.getElem?_cons_succ, List.getElem?_cons_zero]; rfl)
    go_simp
    refine hK.out _ _ ⟨hSa10, hSx10, hcve10, hcvb10⟩ (fun hHeld2 => ?_)
    clear hK K hHeld
    have hHeld := hHeld2
    clear hHeld2
    try simp only [Act.put, List.setIfInBounds_toArray, List.set_cons_zero, List.set_cons_succ]
    refine wpAnyH_take (i := 12) (oi := ?oi12X) (v := ?v12X) ?hi12X (by kernel_rfl) (by kernel_rfl) (by kernel_rfl) ?hq12X (Or.inl ⟨?hw12X, ?hy12X⟩) (by assumption) ?rest12X
    case hi12X => (simp only [List.getElem?_toArray, List.getElem?_cons_succ, List.getElem?_cons_zero]; rfl)
    case hq12X => exact fun _ _ _ h => h
    case hw12X => rfl
    case hy12X => (intro w hSw; (try dsimp only at hSw); go_simp <;> with_reducible rfl)
    try simp only [Act.put, List.setIfInBounds_toArray, List.set_cons_zero, List.set_cons_succ]
    refine wpAnyH_take (i := 13) (oi := ?oi13X) (v := ?v13X) ?hi13X (by kernel_rfl) (by kernel_rfl) (by kernel_rfl) ?hq13X (Or.inl ⟨?hw13X, ?hy13X⟩) (by assumption) ?rest13X
    case hi13X => (simp only [List.getElem?_toArray, List.getElem?_cons_succ, List.getElem?_cons_zero]; rfl)
    case hq13X => exact fun _ _ _ h => h
    case hw13X => rfl
    case hy13X => (intro w hSw; (try dsimp only at hSw); go_simp <;> with_reducible rfl)
    try simp only [Act.put, List.setIfInBounds_toArray, List.set_cons_zero, List.set_cons_succ]
    refine wpAnyH_take (i := 14) (oi := ?oi14X) (v := ?v14X) ?hi14X (by kernel_rfl) (by kernel_rfl) (by kernel_rfl) ?hq14X (Or.inl ⟨?hw14X, ?hy14X⟩) (by assumption) ?rest14X
    case hi14X => (simp only [List.getElem?_toArray, List.getElem?_cons_succ, List.getElem?_cons_zero]; rfl)
    case hq14X => exact fun _ _ _ h => h
    case hw14X => rfl
    case hy14X => (intro w hSw; (try dsimp only at hSw); go_simp <;> with_reducible rfl)
    try simp only [Act.put, List.setIfInBounds_toArray, List.set_cons_zero, List.set_cons_succ]
    refine wpAnyH_take (i := 15) (oi := ?oi15X) (v := ?v15X) ?hi15X (by kernel_rfl) (by kernel_rfl) (by kernel_rfl) ?hq15X (Or.inl ⟨?hw15X, ?hy15X⟩) (by assumption) ?rest15X
    case hi15X => (simp only [List.getElem?_toArray, List.getElem?_cons_succ, List.getElem?_cons_zero]; rfl)
    case hq15X => exact fun _ _ _ h => h
    case hw15X => rfl
    case hy15X => (intro w hSw; (try dsimp only at hSw); go_simp <;> with_reducible rfl)
    try simp only [Act.put, List.setIfInBounds_toArray, List.set_cons_zero, List.set_cons_succ]
    refine wpAnyH_take (i := 16) (oi := ?oi16X) (v := ?v16X) ?hi16X (by kernel_rfl) (by kernel_rfl) (by kernel_rfl) ?hq16X (Or.inl ⟨?hw16X, ?hy16X⟩) (by assumption) ?rest16X
    case hi16X => (simp only [List.getElem?_toArray, List.getElem?_cons_succ, List.getElem?_cons_zero]; rfl)
    case hq16X => exact fun _ _ _ h => h
    case hw16X => rfl
    case hy16X => (intro w hSw; (try dsimp only at hSw); go_simp <;> with_reducible rfl)
    try simp only [Act.put, List.setIfInBounds_toArray, List.set_cons_zero, List.set_cons_succ]
    refine wpAnyH_take (i := 17) (oi := ?oi17X) (v := ?v17X) ?hi17X (by kernel_rfl) (by kernel_rfl) (by kernel_rfl) ?hq17X (Or.inl ⟨?hw17X, ?hy17X⟩) (by assumption) ?rest17X
    case hi17X => (simp only [List.getElem?_toArray, List.getElem?_cons_succ, List.getElem?_cons_zero]; rfl)
    case hq17X => exact fun _ _ _ h => h
    case hw17X => rfl
    case hy17X => (intro w hSw; (try dsimp only at hSw); go_simp <;> with_reducible rfl)
    try simp only [Act.put, List.setIfInBounds_toArray, List.set_cons_zero, List.set_cons_succ]
    refine wpAnyH_take (i := 18) (oi := ?oi18X) (v := ?v18X) ?hi18X (by kernel_rfl) (by kernel_rfl) (by kernel_rfl) ?hq18X (Or.inl ⟨?hw18X, ?hy18X⟩) (by assumption) ?rest18X
    case hi18X => (simp only [List.getElem?_toArray, List.getElem?_cons_succ, List.getElem?_cons_zero]; rfl)
    case hq18X => exact fun _ _ _ h => h
    case hw18X => rfl
    case hy18X => (intro w hSw; (try dsimp only at hSw); go_simp <;> with_reducible rfl)
    try simp only [Act.put, List.setIfInBounds_toArray, List.set_cons_zero, List.set_cons_succ]
    refine wpAnyH_take (i := 19) (oi := ?oi19X) (v := ?v19X) ?hi19X (by kernel_rfl) (by kernel_rfl) (by kernel_rfl) ?hq19X (Or.inl ⟨?hw19X, ?hy19X⟩) (by assumption) ?rest19X
    case hi19X => (simp only [List.getElem?_toArray, List.getElem?_cons_succ, List.getElem?_cons_zero]; rfl)
    case hq19X => exact fun _ _ _ h => h
    case hw19X => rfl
    case hy19X => (intro w hSw; (try dsimp only at hSw); go_simp <;> with_reducible rfl)
    try simp only [Act.put, List.setIfInBounds_toArray, List.set_cons_zero, List.set_cons_succ]
    refine wpAnyH_take (i := 20) (oi := ?oi20X) (v := ?v20X) ?hi20X (by kernel_rfl) (by kernel_rfl) (by kernel_rfl) ?hq20X (Or.inl ⟨?hw20X, ?hy20X⟩) (by assumption) ?rest20X
    case hi20X => (simp only [List.getElem?_toArray, List.getElem?_cons_succ, List.getElem?_cons_zero]; rfl)
    case hq20X => exact fun _ _ _ h => h
    case hw20X => rfl
    case hy20X => (intro w hSw; (try dsimp only at hSw); go_simp <;> with_reducible rfl)
    try simp only [Act.put, List.setIfInBounds_toArray, List.set_cons_zero, List.set_cons_succ]
    refine wpAnyH_ready (rs := [21]) (by kernel_rfl) (by simp) ?_
    refine AllReadyH.cons (o := ?o21X) ?hi21X (fun K hK => ?st21X) AllReadyH.nil
    case hi21X => (simp only [List.getElem?_toArray, List.getElem?_cons_succ, List.getElem?_cons_zero]; rfl)
    go_simp
    refine (rsame_any ⟨c, m, k, o, r, t, n, g, l⟩ ⟨c, m, k, o, r, t, n, g, l⟩ Ax A0 capx cap0 _ hilx10 hila10 hn).mono ?_
    rintro e w11 ⟨rfl, hx11⟩
    have hx11 : Below (w10).heap.size (w10) w11 := hx11
    have hb11 := hb10.trans (hx11.mono hb10.size)
    have hbxa11 := (hbxa10).kept (Keep.of_below hx11) (fun h => absurd hbxa10.lt (Nat.not_lt.2 h))
    have hbxx11 := (hbxx10).kept (Keep.of_below hx11) (fun h => absurd hbxx10.lt (Nat.not_lt.2 h))
    have hila11 := (hila10).below hx11
    have hilx11 := (hilx10).below hx11
    have hrbe11 := RB.below (w := w10) hrbe10 hx11
    have hrbb11 := RB.below (w := w10) hrbb10 hx11
    have hSa11 := boxS (c := c) (m := m) (k := k) (o := o) (r := r) (t := t) (n := n) (g := g) (l := l) (A := A0) (cap := cap0) hbxa11
    have hSx11 := boxS (c := c) (m := m) (k := k) (o := o) (r := r) (t := t) (n := n) (g := g) (l := l) (A := Ax) (cap := capx) hbxx11
    have hcve11 := run_str w11 Ee ne ce' ce hrbe11
    have hcvb11 := run_str w11 Eb nb cb' cb hrbb11
    rw [hsame]
    go_wp2_with fail
    refine hK.out _ _ ⟨hSa11, hSx11, hcve11, hcvb11⟩ (fun hHeld2 => ?_)
    clear hK K hHeld
    have hHeld := hHeld2
    clear hHeld2
    try simp only [Act.put, List.setIfInBounds_toArray, List.set_cons_zero, List.set_cons_succ]
    refine wpAnyH_take (i := 22) (oi := ?oi22X) (v := ?v22X) ?hi22X (by kernel_rfl) (by kernel_rfl) (by kernel_rfl) ?hq22X (Or.inl ⟨?hw22X, ?hy22X⟩) (by assumption) ?rest22X
    case hi22X => (simp only [List.getElem?_toArray, List.getElem?_cons_succ, List.getElem?_cons_zero]; rfl)
    case hq22X => exact fun _ _ _ h => h
    case hw22X => rfl
    case hy22X => (intro w hSw; (try dsimp only at hSw); go_simp <;> with_reducible rfl)
    try simp only [Act.put, List.setIfInBounds_toArray, List.set_cons_zero, List.set_cons_succ]
    refine wpAnyH_take (i := 23) (oi := ?oi23X) (v := ?v23X) ?hi23X (by kernel_rfl) (by kernel_rfl) (by kernel_rfl) ?hq23X (Or.inl ⟨?hw23X, ?hy23X⟩) (by assumption) ?rest23X
    case hi23X => (simp only [List.getElem?_toArray, List.getElem?_cons_succ, List.getElem?_cons_zero]; rfl)
    case hq23X => exact fun _ _ _ h => h
    case hw23X => rfl
    case hy23X => (intro w hSw; (try dsimp only at hSw); go_simp <;> with_reducible rfl)
    try simp only [Act.put, List.setIfInBounds_toArray, List.set_cons_zero, List.set_cons_succ]
    refine wpAnyH_done (by kernel_rfl) ?_ _
    go_wp2
    go_ret
    exact ⟨rfl, hb11⟩

namespace askCodesDone
open Go.ChangeShapes Go.WideShapes Go.ChangeAt
set_option maxRecDepth 100000 in
theorem lifted (os : Os) (started : os.Started) (H : Type) (enc : TypeId × Value → H) :
    ReturnsInHanded {} Try.checked os 7 .any (Rows.askCodesSpec.pre6 enc Try.prog Try.f7 Rows.askCodesRow.domain false) (Rows.askCodesSpec.post enc Try.prog Try.f7 false true false false) := by
  refine returnsInHanded_of_change_sized (C := Try.checked) own started (by kernel_rfl) Try.func7
    (ChangeSpec.witness6 (enc := enc) (C := Try.checked) false ⟨#[], #[Value.agg #[.int .i64 0, .int .i64 0, .int .i64 0, .int .i64 0, .int .i64 0, .int .i64 0, .int .i64 0, .string ⟨#[]⟩, .slice none 0 0]], []⟩ 8 (by kernel_rfl) (by kernel_rfl) (by kernel_rfl) (by kernel_rfl)) ?_
  intro W base args ds gs before hval0 hW hcnd hsz0 _
  have hsz : (DataW.weightsEach Try.prog (Try.f7.params.toList ++ Rows.askCodesSpec.plain.varTypes Try.prog) (ds ++ gs)).all (· ≤ reachBytes) = true := hsz0
  clear hsz0
  have hval : ∀ (j : Nat) t v, Try.f7.params[j]? = some t → args[j]? = some v → Value.okWide Try.prog W .any base t v := hval0
  have hW' := hW
  obtain ⟨p, q, hA0, hV, rfl, hfz, hnd⟩ := hW
  have hA : DataW.TrodAll enc Try.prog W 0 (fun _ => true) true Try.f7.params.toList args.toList ds p := hA0
  rw [Try.params7] at hA hval hsz
  obtain ⟨v0, vs0, d0, ds0, p0, q0, hargs, rfl, rfl, h0, r0⟩ := trodAll_cons hA
  obtain ⟨rfl, rfl, rfl⟩ := trodAll_nil r0
  obtain rfl : args = #[v0] := by cases args; simp_all
  obtain ⟨rfl, rfl⟩ := trodVars_none hV
  obtain ⟨y0, A0, cap0, rfl, hil0, hwl0, hwf0⟩ := ask_open (hval 0 53 v0 rfl rfl) h0
  have k0' := h0
  have lt0 : ∀ x ∈ p0, x.block < W.heap.size := by obtain ⟨m, hm⟩ := h0; exact DataW.trod_lt m _ _ _ hm
  clear hA0 hval0
  refine (askCodes_walk (w := W) y0 A0 cap0 hil0 hwl0 hwf0).mono fun e W' ⟨he, bel⟩ => ?_
  subst he
  exact ⟨_, rfl, _, _, _, [], _, [], hW', trodAll_mk1 (shut_bool Try.underlying4 _), (trodAll_cons_mk (Below.trod laidOut (by kernel_rfl) (of_decide_eq_true (by kernel_rfl)) k0' bel lt0) trodAll_mk0), rfl, bel.frame _, fun h => by cases h⟩

theorem over : Rows.askCodesRow.holds Try.pinned (OpenSpec.ofChange Rows.askCodesSpec) :=
  OpenClaim.holds_of_wide 7 Try.f7 rfl rfl rfl rfl rfl rfl rfl ⟨rfl, rfl, rfl, rfl, rfl⟩ rfl rfl rfl rfl rfl (by kernel_rfl) Try.func7 (by kernel_rfl)
    (of_decide_eq_true (by kernel_rfl)) (by unfold Func.isWrapper; first | (rw [if_pos (by decide +kernel)]; kernel_rfl) | (rw [if_neg (by decide +kernel)]; exact ⟨rfl, rfl⟩))
    (fun os started H enc _ => lifted os started H enc)

/-- The statement. -/
theorem proved : Rows.AskCodesSaid := over
end askCodesDone
end Go.Proofs.Ytejpabeamjhmjaa
