/- Totals and All. No condition but that the stocks lie in memory. -/
import Derived.Test.YtipmamgmcipbfaaGdG
namespace Go.Proofs.Ytipmamgmcipbfaa
open Go.RowKit Go.Maps Go.Shelf Go.Sort
set_option linter.unusedVariables false
set_option linter.unusedSimpArgs false
attribute [local go_sem] Oper.semAt_some

def totOf (l : List Sk) (g : List UInt8) : GT := ⟨g, sumR ((whoL l g).map fun x => x.f g), wrap64 ((sumR ((whoL l g).map fun x => x.f g)).se - (sumR ((whoL l g).map fun x => x.f g)).cm)⟩
theorem foldS_len (gs : List (List UInt8)) : ∀ ks : List (List UInt8), (gs.foldl addS ks).length ≤ ks.length + gs.length := by
  induction gs with
  | nil => intro ks; simp
  | cons g gs ih =>
    intro ks
    have h1 := ih (addS ks g)
    have h2 : (addS ks g).length ≤ ks.length + 1 := by unfold addS; split <;> simp
    rw [List.foldl_cons, List.length_cons]
    omega
theorem knownL_len (l : List Sk) (h : ∀ x ∈ l, x.ks.length ≤ 64) : (knownL l).length ≤ 64 * l.length := by
  induction l using snoc_ind with
  | h0 => simp [knownL]
  | h1 l x ih =>
    have h1 := ih (fun y hy => h y (by simp [hy]))
    have h2 := foldS_len (sortU x.ks) (knownL l)
    have h3 := h x (by simp)
    rw [sortU_len] at h2
    rw [knownL_snoc, List.length_append, List.length_singleton]
    omega
theorem tot_add {w : World} {b : Nat} {g : List UInt8} {TR : Row} {y : Int} (h : Blk w b 33 #[.string ⟨g.toArray⟩, .int .i64 TR.fr, .int .i64 TR.he, .int .i64 TR.pi, .int .i64 TR.sa, .int .i64 TR.re, .int .i64 TR.rt, .int .i64 TR.cn, .int .i64 TR.cm, .int .i64 TR.sh, .int .i64 TR.sc, .int .i64 TR.se, .int .i64 y]) : ∀ j u, (GT.cs ⟨g, TR, y⟩)[j]? = some u → w.cell? ((⟨b, 0, none⟩ : Addr).add j) = some u := by
  intro j u hu
  have := h.cell j
  rw [Addr.add_lit, Nat.zero_add, this, List.getElem?_toArray]
  exact hu
theorem TO.blkT {base : Nat} {w : World} {v : Value} {l : List GT} (h : TO base w v l) : ∀ g, v.ownBlock = some g → ∃ cs fr, w.heap[g]? = some (.cells cs 33 fr) := by
  intro g hg
  rcases h.2 with ⟨rfl, _⟩ | ⟨g', cap, cur, rfl, _, hgg, _⟩
  · simp [Value.ownBlock] at hg
  · simp [Value.ownBlock] at hg
    subst hg
    exact ⟨_, _, hgg⟩
theorem PO.row {base : Nat} {W W' : World} {v : Value} {l : List Value} {row : Option Nat} {n : Nat} (h : PO base W v l) (hg : W.grownBy W' row) (hr : ∀ r, row = some r → n ≤ r ∧ ∃ o : Obj, W.heap[r]? = some o ∧ o.isCells = false) : PO base W' v l :=
  h.kept (Keep.of_grown hg) fun i hi => by
    obtain ⟨cs, fr, h1⟩ := h.blk i hi
    exact row_not hr h1 rfl
/-- In the midst of the totals. -/
structure TIN (w W : World) (b1 n₀ : Nat) (V : List UInt8 → Value) (l : List Sk) (v : Value) (pre : List (List UInt8)) : Prop where
  at3 : CL W w.heap.size v
  own : TO n₀ W v (pre.map (totOf l))
  rows : ∀ g, PO b1 W (V g) ((whoL l g).map Sk.v)
  hb : RowKit.Below w.heap.size w W
  hn : n₀ ≤ W.heap.size
set_option maxRecDepth 100000 in
set_option maxHeartbeats 6400000 in
theorem gtotals_any (A : Option Addr) (n c : Nat) (l : List Sk) (w : World) (hv : VL w A n (l.map Sk.v)) (hs : ∀ x ∈ l, SP w x) (hks : ∀ x ∈ l, x.ks.Nodup ∧ x.ks.length ≤ 64 ∧ ∀ g ∈ x.ks, g.length ≤ maxLen) (hn : n ≤ 1000) :
    Calls Try.prog 13 #[.slice A n c] w fun e w' => ∃ v, e = .returned v ∧ TO w.heap.size w' v ((sortU (knownL l)).map (totOf l)) ∧ RowKit.Below w.heap.size w w' := by
  have hln := hv.len
  rw [List.length_map] at hln
  have hkl : (knownL l).length ≤ 1048576 := by have := knownL_len l (fun x hx => (hks x hx).2.1); omega
  have hkw : ∀ g ∈ knownL l, g.length ≤ maxLen := fun g hg => by
    obtain ⟨x, hx, hgx⟩ := (mem_knownL l g).1 hg
    exact (hks x hx).2.2 g hgx
  refine (callsIn_wide (n := 9)).1 ?_
  refine callsIn_of_wp_marks Try.func13 rfl trivial ?_ rfl
  simp only [Try.ntmps13, List.size_toArray, List.length_cons, List.length_nil, Nat.reduceAdd, Nat.reduceSub, Array.replicate_succ, Array.replicate_zero, List.push_toArray, List.append_toArray, List.nil_append, List.cons_append]
  have hc30 := CL.new w (.slice none 0 0) 38
  have hb0 := (RowKit.Below.refl w.heap.size w).alloc (Nat.le_refl _) (.cells #[.slice none 0 0] 38)
  have hkn := known_any A n c l _ (hv.below hb0) (fun x hx => (hs x hx).below hb0) hks hn
  gi_wp2_with (first | (refine ⟨trivial, ?_⟩; gi_at_call 34; refine (callsIn_wide.2 hkn).mono ?_; rintro e w1 ⟨b, N, V, rfl, hml, hbb, hbx⟩) | (refine ⟨trivial, ?_⟩; gi_at_call 35; refine (callsIn_wide.2 (mmap_make (some b) w1)).mono ?_; rintro e w2 ⟨rfl, rfl⟩))
  have hz1 := hbx.size
  simp only [World.size_alloc] at hbb hz1
  have hc31 := (hc30.below hbx).alloc (.cells #[.map (some b)] 81)
  have hbw1 := (hb0.trans (hbx.mono hb0.size)).alloc (hb0.trans (hbx.mono hb0.size)).size (.cells #[.map (some b)] 81)
  have hml1 := hml.below ((RowKit.Below.refl _ w1).alloc (Nat.le_refl _) (.cells #[.map (some b)] 81))
  have hBk := Blk.new w1 81 #[.map (some b)]
  have hz2 : (w1.alloc (.cells #[.map (some b)] 81)).heap.size = w1.heap.size + 1 := by simp
  obtain ⟨D0, hown, hD0⟩ := hml1.mp
  have hbl := hml1.lt
  obtain ⟨w2, hw2⟩ : ∃ w2, w1.alloc (.cells #[.map (some b)] 81) = w2 := ⟨_, rfl⟩
  rw [hw2] at hc31 hbw1 hml1 hBk hz2 hown hbl ⊢
  have hseq := mmap_gives (fun t => t = 33) (by decide) (by decide) (by decide) (by decide) w1.heap.size b N D0 V (knownL l) (fun k => k = w.heap.size) w2 (fun k e => by omega) hBk hown hD0 hkl hkw (by omega) (by omega)
  obtain ⟨n₀, hn₀⟩ : ∃ n₀, w2.heap.size = n₀ := ⟨_, rfl⟩
  have hVlt : ∀ g i, (V g).ownBlock = some i → w.heap.size + 1 ≤ i ∧ i < n₀ := fun g i hi => by have := (hml1.row g).lt i hi; simp only [World.size_alloc] at this; omega
  clear hc30 hb0 hkn hml hbx hw2 hown hD0 hBk
  refine range_ownT (a := _) (w := w2) (w0 := w2) (gf := 55) (lb := #[.pointer (some ⟨w1.heap.size, 0, none⟩)]) (by first | rfl | simp [go_sem]) (enters_of Try.func55 (by kernel_rfl) rfl) hseq (RowKit.Below.refl _ _) (fun k e => by omega) (fun _ => rfl)
    (fun pre W => ∃ v, TIN w W (w.heap.size + 1) n₀ V l v pre) (fun c pre W => False) ?hI (fun c s X Y row h hg hr => h) ⟨_, hc31, TO.nil _ _, fun g => (by have := hml1.row g; simp only [World.size_alloc] at this; exact this), hbw1, by omega⟩ ?rnd ?done ?stop
  case hI =>
    rintro s X X' row ⟨v, h⟩ hg hr
    exact ⟨v, h.at3.row hg hr, h.own.row hg hr, fun g => (h.rows g).row hg hr, below_row h.hb hg h.hb.size (by omega) hr, Nat.le_trans h.hn hg.size⟩
  case rnd =>
    apply Exists.intro
    constructor
    · intro l' g W K hK
      gi_wp2
      exact hK
    · rintro l' pre g W hpre hz ⟨v, hin⟩
      have hpl := hpre.length_le
      rw [sortU_len, List.length_append, List.length_singleton] at hpl
      have hgl : g.length ≤ maxLen := hkw g (List.mem_mergeSort.1 (hpre.subset (List.mem_append_right _ (List.mem_singleton.2 rfl))))
      have hbd := (RowKit.Below.refl W.heap.size W).drew
      have hTOz : TO n₀ W.drew v _ := hin.own.drew
      have hclz : CL W.drew _ v := hin.at3.drew
      have hbwz := hin.hb.drew
      have hnz : n₀ ≤ W.drew.heap.size := hin.hn
      have hSPz : ∀ x ∈ whoL l g, SP W.drew x := fun x hx => (hs x (List.mem_filter.1 hx).1).below hbwz
      obtain ⟨AV, cV, hVe, -, -, hVL⟩ := (hin.rows g).form
      have hVLz : VL W.drew AV _ _ := hVL.below hbd
      have hwl : (whoL l g).length ≤ 1000 := by have : (whoL l g).length ≤ l.length := List.length_filter_le _ _; omega
      rw [List.length_map] at hVe hVLz
      obtain ⟨TR, hTR⟩ : ∃ TR, sumR ((whoL l g).map fun x => x.f g) = TR := ⟨_, rfl⟩
      have sd : (fun W' : World => W'.cell? ⟨w.heap.size, 0, none⟩ = some v) W.drew := hclz.at_
      have hto : totOf l g = ⟨g, TR, wrap64 (TR.se - TR.cm)⟩ := by unfold totOf; rw [hTR]
      have hzz := hbd.size
      gi_wp2
      refine wpIn_region_roundZ (S := (fun W' : World => W'.cell? ⟨w.heap.size, 0, none⟩ = some v)) 6 (by kernel_rfl) (by kernel_rfl) (by rintro ⟨a, w, h⟩; exact h) sd (fun hHeld => ?_)
      generalize W.drew = wz at *
      (refine tkZ 0 (by (simp only [List.getElem?_toArray, List.getElem?_cons_succ, List.getElem?_cons_zero]; rfl)) (by kernel_rfl) (by decide) (by kernel_rfl) (by kernel_rfl) (by kernel_rfl) (by exact fun _ _ _ h => h) (by rfl) (by (intro w hSw; (try dsimp only at hSw); go_simp <;> with_reducible rfl)) (by assumption) ?_; try simp only [Act.put, List.setIfInBounds_toArray, List.set_cons_zero, List.set_cons_succ])
      (refine tkZ 1 (by (simp only [List.getElem?_toArray, List.getElem?_cons_succ, List.getElem?_cons_zero]; rfl)) (by kernel_rfl) (by decide) (by kernel_rfl) (by kernel_rfl) (by kernel_rfl) (by exact fun _ _ _ h => h) (by rfl) (by (intro w hSw; (try dsimp only at hSw); go_simp <;> with_reducible rfl)) (by assumption) ?_; try simp only [Act.put, List.setIfInBounds_toArray, List.set_cons_zero, List.set_cons_succ])
      (refine tkZ 2 (by (simp only [List.getElem?_toArray, List.getElem?_cons_succ, List.getElem?_cons_zero]; rfl)) (by kernel_rfl) (by decide) (by kernel_rfl) (by kernel_rfl) (by kernel_rfl) (by exact fun _ _ _ h => h) (by rfl) (by (intro w hSw; (try dsimp only at hSw); go_simp <;> with_reducible rfl)) (by assumption) ?_; try simp only [Act.put, List.setIfInBounds_toArray, List.set_cons_zero, List.set_cons_succ])
      refine wpAnyZ_one (i := 3) (by kernel_rfl) (by (simp only [List.getElem?_toArray, List.getElem?_cons_succ, List.getElem?_cons_zero]; rfl)) (fun K hK => ?_)
      go_simp
      refine (gtotal_any AV _ cV (whoL l g) g hgl wz hVLz hSPz (by omega)).mono ?_
      rintro e w5 ⟨rfl, hb5⟩
      rw [hTR]
      have s5 : (fun W' : World => W'.cell? ⟨w.heap.size, 0, none⟩ = some v) w5 := (hb5.cell (World.block_lt_of_cell? _ _ sd)).trans sd
      refine hK.out _ _ (fun _ => s5) (fun hHeld2 => ?_)
      clear hK K hHeld
      have hHeld := hHeld2 (by decide)
      clear hHeld2
      try simp only [Act.put, List.setIfInBounds_toArray, List.set_cons_zero, List.set_cons_succ]
      unfold totV
      refine wpAnyZ_one (i := 4) (by kernel_rfl) (by (simp only [List.getElem?_toArray, List.getElem?_cons_succ, List.getElem?_cons_zero]; rfl)) (fun K hK => ?_)
      go_simp
      have b6 := hb5.alloc hb5.size (.cells #[.string ⟨g.toArray⟩, .int .i64 TR.fr, .int .i64 TR.he, .int .i64 TR.pi, .int .i64 TR.sa, .int .i64 TR.re, .int .i64 TR.rt, .int .i64 TR.cn, .int .i64 TR.cm, .int .i64 TR.sh, .int .i64 TR.sc, .int .i64 TR.se, .int .i64 (wrap64 (TR.se - TR.cm))] 33)
      have s6 : (fun W' : World => W'.cell? ⟨w.heap.size, 0, none⟩ = some v) _ := (b6.cell (World.block_lt_of_cell? _ _ sd)).trans sd
      have hbl := Blk.new w5 33 #[.string ⟨g.toArray⟩, .int .i64 TR.fr, .int .i64 TR.he, .int .i64 TR.pi, .int .i64 TR.sa, .int .i64 TR.re, .int .i64 TR.rt, .int .i64 TR.cn, .int .i64 TR.cm, .int .i64 TR.sh, .int .i64 TR.sc, .int .i64 TR.se, .int .i64 (wrap64 (TR.se - TR.cm))]
      refine hK.out _ _ (fun _ => s6) (fun hHeld2 => ?_)
      clear hK K hHeld
      have hHeld := hHeld2 (by decide)
      clear hHeld2
      try simp only [Act.put, List.setIfInBounds_toArray, List.set_cons_zero, List.set_cons_succ]
      refine wpAnyZ_one (i := 5) (by kernel_rfl) (by (simp only [List.getElem?_toArray, List.getElem?_cons_succ, List.getElem?_cons_zero]; rfl)) (fun K hK => ?_)
      rw [if_pos (by rfl)]
      refine wp_appT (.tmp 11) (.tmp 15) rfl n₀ v (pre.map (totOf l)) rfl (hTOz.below b6) ⟨w5.heap.size, 0, none⟩ ⟨g, TR, wrap64 (TR.se - TR.cm)⟩ rfl (tot_add hbl) (by rw [List.length_map]; omega) (by have := b6.size; omega) ?_
      rintro v7 w7 hO7 hK7 e7
      have hkz7 : Keep (fun k => v.ownBlock = some k) wz w7 := (Keep.ofB (S := fun k => v.ownBlock = some k) b6).trans hK7 (fun _ _ e => e)
      have s7 : (fun W' : World => W'.cell? ⟨w.heap.size, 0, none⟩ = some v) w7 := hkz7.cell sd (fun e => by have := (hTOz.lt w.heap.size e).1; omega)
      obtain ⟨A7, cap7, rfl, -⟩ := hO7.form
      simp only [List.length_append, List.length_map, List.length_cons, List.length_nil, Nat.zero_add] at hO7 e7 ⊢
      refine hK.out _ _ (fun _ => s7) (fun hHeld2 => ?_)
      clear hK K hHeld
      have hHeld := hHeld2 (by decide)
      clear hHeld2
      try simp only [Act.put, List.setIfInBounds_toArray, List.set_cons_zero, List.set_cons_succ]
      have hclx := (hclz.kept hkz7 (fun e => by have := (hTOz.lt w.heap.size e).1; omega))
      have f7 := hclx.fz
      have c7a := hclx.at_
      refine wpAnyZ_one (i := 6) (by kernel_rfl) (by (simp only [List.getElem?_toArray, List.getElem?_cons_succ, List.getElem?_cons_zero]; rfl)) (fun K hK => ?_)
      go_simp
      refine hK.out _ _ (fun h => absurd rfl h) (fun hHeld2 => ?_)
      clear hK K hHeld
      clear hHeld2
      try simp only [Act.put, List.setIfInBounds_toArray, List.set_cons_zero, List.set_cons_succ]
      refine wpAnyZ_done (by kernel_rfl) ?_ _
      have hk1 := (Keep.refl (fun k => k = w.heap.size) w7).setCell (p := ⟨w.heap.size, 0, none⟩) (fun _ => rfl) (.slice A7 (pre.length + 1) cap7)
      have hk9 : Keep (fun k => k = w.heap.size ∨ v.ownBlock = some k) W (w7.setCell ⟨w.heap.size, 0, none⟩ (.slice A7 (pre.length + 1) cap7)) := (((Keep.of_below hbd).mono (fun _ _ e => absurd e (by omega))).trans hkz7 (fun _ _ e => .inr e)).trans hk1 (fun _ _ e => .inl e)
      have hvl : ∀ i, v.ownBlock = some i → n₀ ≤ i := fun i hi => (hTOz.lt i hi).1
      have hO8 := hO7.kept hk1 (fun i hi => by have := (hO7.lt i hi).1; omega)
      have hrw : (pre ++ [g]).map (totOf l) = pre.map (totOf l) ++ [⟨g, TR, wrap64 (TR.se - TR.cm)⟩] := by rw [List.map_append, List.map_cons, List.map_nil, hto]
      have hat := hclx.set_ (.slice A7 (pre.length + 1) cap7)
      gi_wp2
      refine ⟨hk9.kp (fun i hi e => e.elim .inl (fun e => .inr ?_)), _, hat, by rw [hrw]; exact hO8, fun g' => (hin.rows g').kept hk9 (fun i hi e => ?_), hin.hb.trans (hk9.below hin.hb.size (fun i hi e => e.elim (fun e => by omega) (fun e => by have := hvl i e; have := hin.hb.size; omega))), Nat.le_trans hin.hn hk9.size⟩
      · obtain ⟨cs, fr, h1⟩ := hin.own.blkT i e
        exact ⟨cs, _, fr, h1, rfl⟩
      · have h1 := hVlt g' i hi
        exact e.elim (fun e => by omega) (fun e => by have := hvl i e; omega)
  case done =>
    rintro D W hD ⟨v, hin⟩ hDf
    have c1 := hin.at3.at_
    gi_wp2
    refine ⟨by simp, .inl ⟨_, _, rfl, run_takeDeferred hDf, ?_⟩⟩
    exact ⟨v, by simp [results, Try.results13, go_sem], v, rfl, (hin.own.mono (by omega)).putD hDf, below_putD hin.hb (by omega) hDf⟩
  case stop =>
    rintro D c pre W hD hpre hF hDf
    exact hF.elim
end Go.Proofs.Ytipmamgmcipbfaa
