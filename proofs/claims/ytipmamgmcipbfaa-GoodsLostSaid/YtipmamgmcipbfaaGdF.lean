/- Which stocks know each good: known. No condition but that the stocks lie in memory. -/
import Derived.Test.YtipmamgmcipbfaaGdE
namespace Go.Proofs.Ytipmamgmcipbfaa
open Go.RowKit Go.Maps Go.Shelf Go.Sort
set_option linter.unusedVariables false
set_option linter.unusedSimpArgs false
attribute [local go_sem] Oper.semAt_some

/-- Which of some stocks know a good; which goods some stocks know. -/
def whoL (l : List Sk) (g : List UInt8) : List Sk := l.filter fun x => decide (g ∈ x.ks)
def knownL (l : List Sk) : List (List UInt8) := l.foldl (fun K x => (sortU x.ks).foldl addS K) []
theorem knownL_snoc (l : List Sk) (x : Sk) : knownL (l ++ [x]) = (sortU x.ks).foldl addS (knownL l) := by simp [knownL]
theorem mem_foldS (gs : List (List UInt8)) : ∀ (ks : List (List UInt8)) (g : List UInt8), g ∈ gs.foldl addS ks ↔ g ∈ ks ∨ g ∈ gs := by
  induction gs with
  | nil => intro ks g; simp
  | cons h gs ih =>
    intro ks g
    rw [List.foldl_cons, ih, mem_addS]
    simp only [List.mem_cons]
    grind
theorem mem_knownL (l : List Sk) (g : List UInt8) : g ∈ knownL l ↔ ∃ x ∈ l, g ∈ x.ks := by
  induction l using snoc_ind with
  | h0 => simp [knownL]
  | h1 l x ih =>
    rw [knownL_snoc, mem_foldS, ih]
    have : g ∈ sortU x.ks ↔ g ∈ x.ks := List.mem_mergeSort
    rw [this]
    simp only [List.mem_append, List.mem_singleton]
    grind
theorem SP.ptr {w : World} {x : Sk} (h : SP w x) : ∃ pv, x.v = .pointer pv := by
  rcases h with ⟨e, _⟩ | ⟨p, b, N, e, _⟩ <;> exact ⟨_, e⟩
/-- Goods of a stock, live or nil. -/
theorem ggoods_any (w : World) {x : Sk} (h : SP w x) : Calls Try.prog 54 #[x.v] w fun e w' => ∃ B p b N, e = .returned (.func (.func 78) #[] #[.pointer (some ⟨B, 0, none⟩)]) ∧ ST w' p b N x.f x.ks ∧ w'.cell? ⟨B, 0, none⟩ = some (.map (some b)) ∧ Below w.heap.size w w' := by
  rcases h with ⟨e, e1, e2⟩ | ⟨p, b, N, e, h⟩
  · rw [e, e1, e2]
    refine (goods_nil w).mono ?_
    rintro e w' ⟨g, p, b, rfl, h1, h2, -, -, -, hb⟩
    exact ⟨g, p, b, 0, rfl, h1, h2.cell 0, hb⟩
  · rw [e]
    refine (goods_any w h).mono ?_
    rintro e w' ⟨rfl, rfl⟩
    exact ⟨_, p, b, N, rfl, h.alloc _, (cell_new_a w (.map (some b)) 87).1, (Below.refl _ w).alloc (Nat.le_refl _) _⟩
/-- In the midst of one stock's goods. -/
structure KIN (w W : World) (b c5 N : Nat) (V : List UInt8 → Value) (pre : List Sk) (pre2 K0 : List (List UInt8)) (x : Sk) (Ds : List Nat) : Prop where
  ml : ML W b N w.heap.size V (fun g => whoL pre g ++ if g ∈ pre2 then [x] else []) (pre2.foldl addS K0)
  at3 : CL W (w.heap.size + 1) (.map (some b))
  at5 : CL W c5 x.v
  hb : RowKit.Below w.heap.size w W
  marks : MK w.heap.size W Ds
  far : ∀ g i, (V g).ownBlock = some i → i ≠ w.heap.size + 1 ∧ i ≠ c5
theorem KIN.row {w W W' : World} {b c5 N : Nat} {V : List UInt8 → Value} {pre : List Sk} {pre2 K0 : List (List UInt8)} {x : Sk} {Ds : List Nat} {row : Option Nat} {n : Nat} (h : KIN w W b c5 N V pre pre2 K0 x Ds) (hg : W.grownBy W' row) (hr : ∀ r, row = some r → n ≤ r ∧ ∃ o : Obj, W.heap[r]? = some o ∧ o.isCells = false) (hb : b < n) (hn : ∀ D ∈ Ds, D < n) (hz : w.heap.size ≤ n) : KIN w W' b c5 N V pre pre2 K0 x Ds :=
  ⟨h.ml.row3 hg hr hb, h.at3.row hg hr, h.at5.row hg hr, below_row h.hb hg h.hb.size hz hr, h.marks.row3 hg hr hn, h.far⟩
set_option maxRecDepth 100000 in
set_option maxHeartbeats 6400000 in
theorem known_any (A : Option Addr) (n c : Nat) (l : List Sk) (w : World) (hv : VL w A n (l.map Sk.v)) (hs : ∀ x ∈ l, SP w x) (hks : ∀ x ∈ l, x.ks.Nodup ∧ x.ks.length ≤ 64 ∧ ∀ g ∈ x.ks, g.length ≤ maxLen) (hn : n ≤ 1000) :
    Calls Try.prog 34 #[.slice A n c] w fun e w' => ∃ b N V, e = .returned (.map (some b)) ∧ ML w' b N w.heap.size V (whoL l) (knownL l) ∧ w.heap.size ≤ b ∧ RowKit.Below w.heap.size w w' := by
  have hln := hv.len
  rw [List.length_map] at hln
  refine (callsIn_wide (n := 9)).1 ?_
  refine callsIn_of_wp_marks Try.func34 rfl trivial ?_ rfl
  simp only [Try.ntmps34, List.size_toArray, List.length_cons, List.length_nil, Nat.reduceAdd, Nat.reduceSub, Array.replicate_succ, Array.replicate_zero, List.push_toArray, List.append_toArray, List.nil_append, List.cons_append]
  have hmm := @run_makeMap Try.prog
  have hsz : (w.alloc (Obj.map #[] 0)).heap.size = w.heap.size + 1 := by simp
  have hml0 : ML ((w.alloc (Obj.map #[] 0)).alloc (.cells #[.map (some w.heap.size)] 81)) w.heap.size 0 w.heap.size (fun _ => .slice none 0 0) (whoL []) (knownL []) := ⟨⟨_, (World.ownsMap_made w Try.prog 9 rR).alloc _, MR.start⟩, fun g => PO.nil _ _, fun g h k e => by simp [Value.ownBlock] at e⟩
  have hc30 := CL.new (w.alloc (Obj.map #[] 0)) (.map (some w.heap.size)) 81
  rw [hsz] at hc30
  have hb0 := ((RowKit.Below.refl w.heap.size w).alloc (Nat.le_refl _) (Obj.map #[] 0)).alloc (by rw [hsz]; exact Nat.le_succ _) (.cells #[.map (some w.heap.size)] 81)
  gi_wp2
  generalize (w.alloc (Obj.map #[] 0)).alloc (.cells #[.map (some w.heap.size)] 81) = w0 at *
  refine wpIn_loop (fun a' W => ∃ u5 u6 u11 u12 u13 u14 u15 u17 u18 u19 u20 u21 u22 u23 u24 u25 : Value, ∃ (k N : Nat) (V : List UInt8 → Value) (Ds : List Nat), (k ≤ n ∧ N ≤ 64 * k ∧ ML W w.heap.size N w.heap.size V (whoL (l.take k)) (knownL (l.take k)) ∧ CL W (w.heap.size + 1) (.map (some w.heap.size)) ∧ RowKit.Below w.heap.size w W ∧ MK w.heap.size W Ds ∧ ∀ g i, (V g).ownBlock = some i → i ≠ w.heap.size + 1) ∧ a' = ⟨#[.slice A n c, undef, .map none, .pointer (some ⟨w.heap.size + 1, 0, none⟩), undef, u5, u6, .map (some w.heap.size), .slice A n c, .int .i64 (n : Int), .int .i64 (k : Int), u11, u12, u13, u14, u15, undef, u17, u18, u19, u20, u21, u22, u23, u24, u25, undef], Ds.map mark⟩) (fun a' _ => n - (intOf (a'.tmps.getD 10 undef)).toNat) ?start ?round
  case start => exact ⟨_, _, _, _, _, _, _, _, _, _, _, _, _, _, _, _, 0, 0, _, [], ⟨by omega, by omega, hml0, hc30, hb0, MK.nil _ _, fun g i e => by simp [Value.ownBlock] at e⟩, rfl⟩
  case round =>
    rintro _ wr ⟨u5, u6, u11, u12, u13, u14, u15, u17, u18, u19, u20, u21, u22, u23, u24, u25, k, N, V0, Ds, ⟨hk, hN, hml, hc3, hb, hmk, hfar⟩, rfl⟩
    clear hml0 hc30 hb0
    have hbz := hb.size
    have hbl := hml.lt
    by_cases hlt : k < n
    · as_aux_lemma =>
      have hlz : (k : Int) < (n : Int) := by omega
      obtain ⟨b, off, v, rfl, hx, hcell⟩ := (hv.below hb).place hlt
      rw [List.getElem?_map] at hx
      obtain ⟨x, hx', hxv⟩ := Option.map_eq_some_iff.1 hx
      subst hxv
      have hmem : x ∈ l := List.mem_of_getElem? hx'
      obtain ⟨pv, hpv⟩ := (hs x hmem).ptr
      rw [hpv] at hcell
      have htk : l.take (k + 1) = l.take k ++ [x] := by rw [List.take_add_one, hx']; rfl
      obtain ⟨hnd, hk64, hgl0⟩ := hks x hmem
      have hGo : ∀ W, SP W x → Calls Try.prog 54 #[.pointer pv] W _ := fun W h => hpv ▸ ggoods_any W h
      have hSPa : SP (wr.alloc (.cells #[.pointer pv] 48)) x := (hs x hmem).below (hb.alloc hb.size _)
      have hml1 := hml.below ((RowKit.Below.refl _ wr).alloc (Nat.le_refl _) (.cells #[.pointer pv] 48))
      have hc31 := hc3.alloc (.cells #[.pointer pv] 48)
      have hc51 := CL.new wr (.pointer pv) 48
      have hb1 := hb.alloc hb.size (.cells #[.pointer pv] 48)
      have hmk1 := hmk.below ((RowKit.Below.refl _ wr).alloc (Nat.le_refl _) (.cells #[.pointer pv] 48))
      have hc51a := hc51.at_
      obtain ⟨c5, hc5⟩ : ∃ c5, wr.heap.size = c5 := ⟨_, rfl⟩
      have hfar2 : ∀ g i, (V0 g).ownBlock = some i → i ≠ w.heap.size + 1 ∧ i ≠ c5 := fun g i e => ⟨hfar g i e, by have := ((hml.row g).lt i e).2; omega⟩
      have hcb : w.heap.size < c5 := by omega
      clear hx hx' hv hs hml hc3 hmk hbl
      gi_wp2_with (refine ⟨trivial, ?_⟩; gi_at_call 54; refine (callsIn_wide.2 (hGo _ hSPa)).mono ?_; rintro e w2 ⟨B, p, bb, NN, rfl, hST2, hB2, hbx2⟩)
      have hml2 := hml1.below hbx2
      have hc32 := hc31.below hbx2
      have hc52 := hc51.below hbx2
      have hb2 := hb1.trans (hbx2.mono hb1.size)
      have hmk2 := hmk1.below hbx2
      have hz2 := hbx2.size
      simp only [World.size_alloc] at hz2
      rw [hc5] at hc52 hz2 hbz
      have hDs : ∀ D ∈ Ds, D < w2.heap.size := hmk2.lt
      have hbl2 := hml2.lt
      have hseq := goods_seqT hST2 (by omega) (fun t => t = 48) (by decide) B (fun k => k = w.heap.size) (fun k e => by omega) hB2
      clear hml1 hc31 hc51 hb1 hmk1 hSPa hc51a hcell hbx2
      refine range_ownT (a := _) (w := w2) (w0 := w2) (gf := 78) (lb := #[.pointer (some ⟨B, 0, none⟩)]) (by first | rfl | simp [go_sem]) (enters_of Try.func78 (by kernel_rfl) rfl) hseq (RowKit.Below.refl _ _) (fun k e => by omega) (fun _ => rfl)
        (fun pre2 W => ∃ V N, KIN w W w.heap.size c5 N V (l.take k) pre2 (knownL (l.take k)) x Ds ∧ N ≤ 64 * k + pre2.length) (fun c pre2 W => False) ?hI (fun c s X Y row h hg hr => h) ⟨V0, N, ⟨by simpa using hml2, hc32, by rw [hpv]; exact hc52, hb2, hmk2, hfar2⟩, by simpa using hN⟩ ?rnd ?done ?stop
      case hI =>
        rintro s X X' row ⟨V, N, h, hN'⟩ hg hr
        exact ⟨V, N, h.row hg hr hbl2 hDs (by omega), hN'⟩
      case rnd =>
        apply Exists.intro
        constructor
        · intro l' g W K hK
          gi_wp2
          exact hK
        rintro l' pre2 g W hpre hz ⟨V, N9, hin, hNp⟩
        have hpl : pre2.length + 1 ≤ 64 := by have h1 := hpre.length_le; rw [sortU_len, List.length_append, List.length_singleton] at h1; omega
        have hN9 : N9 < maxLen := by unfold maxLen; omega
        have hgk : g ∈ x.ks := by have h1 := hpre.subset (List.mem_append_right _ (List.mem_singleton.2 rfl)); exact List.mem_mergeSort.1 h1
        have hgl := hgl0 g hgk
        have hgp : g ∉ pre2 := fun hm => by
          have h1 : (sortU x.ks).Nodup := (List.mergeSort_perm _ _).nodup_iff.2 hnd
          have h2 := h1.sublist hpre.sublist
          rw [List.nodup_append] at h2
          exact h2.2.2 g hm g (List.mem_singleton.2 rfl) rfl
        have hFl : (whoL (l.take k) g ++ if g ∈ pre2 then [x] else []).length ≤ 2000 := by
          rw [if_neg hgp, List.append_nil]
          have h1 : (whoL (l.take k) g).length ≤ (l.take k).length := List.length_filter_le _ _
          rw [List.length_take] at h1
          omega
        have hbd := (RowKit.Below.refl W.heap.size W).drew
        have hmlz : ML W.drew _ _ _ _ _ _ := hin.ml.below hbd
        have hclz : CL W.drew _ _ := hin.at3.drew
        have hc5z : CL W.drew c5 (.pointer pv) := by rw [← hpv]; exact hin.at5.drew
        have hbwz := hin.hb.drew
        have hmkz : MK _ W.drew _ := hin.marks.below hbd
        obtain ⟨Dz, hmz, hDz⟩ := hmlz.mp
        have hzz := hbwz.size
        have hV3 : ¬ (V g).ownBlock = some (w.heap.size + 1) := fun e => (hin.far g _ e).1 rfl
        have hV5 : ¬ (V g).ownBlock = some c5 := fun e => (hin.far g _ e).2 rfl
        have hSB : ∀ W3, RowKit.Below W.drew.heap.size W.drew W3 → (fun W' => W'.cell? ⟨w.heap.size + 1, 0, none⟩ = some (.map (some w.heap.size)) ∧ W'.cell? ⟨c5, 0, none⟩ = some (.pointer pv) ∧ (Instr.lookup 81 (.map (some w.heap.size)) (.string ⟨g.toArray⟩) false).run Try.prog W' = .ok (V g) W') W3 := fun W3 hb3 => ⟨(hclz.below hb3).at_, (hc5z.below hb3).at_, look_ml (ownsMap_kept hmz (Keep.of_below hb3) (by have := hmlz.lt; omega)) hDz g hgl⟩
        have sd := hSB _ (RowKit.Below.refl _ _)
        gi_wp2
        refine wpIn_region_roundZ (S := (fun W' => W'.cell? ⟨w.heap.size + 1, 0, none⟩ = some (.map (some w.heap.size)) ∧ W'.cell? ⟨c5, 0, none⟩ = some (.pointer pv) ∧ (Instr.lookup 81 (.map (some w.heap.size)) (.string ⟨g.toArray⟩) false).run Try.prog W' = .ok (V g) W')) 8 (by kernel_rfl) (by kernel_rfl) (by rintro ⟨a, w, h⟩; exact h) sd (fun hHeld => ?_)
        generalize W.drew = wz at *
        (refine tkZ 0 (by (simp only [List.getElem?_toArray, List.getElem?_cons_succ, List.getElem?_cons_zero]; rfl)) (by kernel_rfl) (by decide) (by kernel_rfl) (by kernel_rfl) (by kernel_rfl) (by exact fun _ _ _ h => h) (by rfl) (by (intro w hSw; (try dsimp only at hSw); go_simp <;> with_reducible rfl)) (by assumption) ?_; try simp only [Act.put, List.setIfInBounds_toArray, List.set_cons_zero, List.set_cons_succ])
        (refine tkZ 1 (by (simp only [List.getElem?_toArray, List.getElem?_cons_succ, List.getElem?_cons_zero]; rfl)) (by kernel_rfl) (by decide) (by kernel_rfl) (by kernel_rfl) (by kernel_rfl) (by exact fun _ _ _ h => h) (by rfl) (by (intro w hSw; (try dsimp only at hSw); go_simp <;> with_reducible rfl)) (by assumption) ?_; try simp only [Act.put, List.setIfInBounds_toArray, List.set_cons_zero, List.set_cons_succ])
        (refine tkZ 2 (by (simp only [List.getElem?_toArray, List.getElem?_cons_succ, List.getElem?_cons_zero]; rfl)) (by kernel_rfl) (by decide) (by kernel_rfl) (by kernel_rfl) (by kernel_rfl) (by exact fun _ _ _ h => h) (by rfl) (by (intro w hSw; (try dsimp only at hSw); go_simp <;> with_reducible rfl)) (by assumption) ?_; try simp only [Act.put, List.setIfInBounds_toArray, List.set_cons_zero, List.set_cons_succ])
        (refine tkZ 3 (by (simp only [List.getElem?_toArray, List.getElem?_cons_succ, List.getElem?_cons_zero]; rfl)) (by kernel_rfl) (by decide) (by kernel_rfl) (by kernel_rfl) (by kernel_rfl) (by exact fun _ _ _ h => h) (by rfl) (by (intro w hSw; (try dsimp only at hSw); go_simp <;> with_reducible rfl)) (by assumption) ?_; try simp only [Act.put, List.setIfInBounds_toArray, List.set_cons_zero, List.set_cons_succ])
        (refine tkZ 5 (by (simp only [List.getElem?_toArray, List.getElem?_cons_succ, List.getElem?_cons_zero]; rfl)) (by kernel_rfl) (by decide) (by kernel_rfl) (by kernel_rfl) (by kernel_rfl) (by exact fun _ _ _ h => h) (by rfl) (by (intro w hSw; (try dsimp only at hSw); go_simp <;> with_reducible rfl)) (by assumption) ?_; try simp only [Act.put, List.setIfInBounds_toArray, List.set_cons_zero, List.set_cons_succ])
        (refine tkZ 4 (by (simp only [List.getElem?_toArray, List.getElem?_cons_succ, List.getElem?_cons_zero]; rfl)) (by kernel_rfl) (by decide) (by kernel_rfl) (by kernel_rfl) (by kernel_rfl) (by exact fun _ _ _ h => h) (by rfl) (by (intro w hSw; (try dsimp only at hSw); go_simp <;> with_reducible rfl)) (by assumption) ?_; try simp only [Act.put, List.setIfInBounds_toArray, List.set_cons_zero, List.set_cons_succ])
        refine wpAnyZ_one (i := 6) (by kernel_rfl) (by (simp only [List.getElem?_toArray, List.getElem?_cons_succ, List.getElem?_cons_zero]; rfl)) (fun K hK => ?_)
        go_simp
        have b5 := (RowKit.Below.refl wz.heap.size wz).alloc (Nat.le_refl _) (.cells #[.pointer pv] 48)
        have s5 := hSB _ b5
        have ce := (cell_new_a wz (.pointer pv) 48).1
        refine hK.out _ _ (fun _ => s5) (fun hHeld2 => ?_)
        clear hK K hHeld
        have hHeld := hHeld2 (by decide)
        clear hHeld2
        try simp only [Act.put, List.setIfInBounds_toArray, List.set_cons_zero, List.set_cons_succ]
        refine wpAnyZ_one (i := 7) (by kernel_rfl) (by (simp only [List.getElem?_toArray, List.getElem?_cons_succ, List.getElem?_cons_zero]; rfl)) (fun K hK => ?_)
        rw [if_pos (by rfl)]
        refine wp_appP (.tmp 21) (.tmp 23) rfl w.heap.size (V g) _ rfl ((hmlz.row g).kept (Keep.of_below b5) (fun i hi => by have := ((hmlz.row g).lt i hi).2; omega)) ⟨wz.heap.size, 0, none⟩ (.pointer pv) rfl rfl ce (by rw [List.length_map]; omega) (by have := b5.size; omega) ?_
        rintro v7 w7 hO7 hK7 e7
        have hkz7 : Keep (fun k => (V g).ownBlock = some k) wz w7 := (Keep.ofB (S := fun k => (V g).ownBlock = some k) b5).trans hK7 (fun _ _ e => e)
        have s7 : (fun W' => W'.cell? ⟨w.heap.size + 1, 0, none⟩ = some (.map (some w.heap.size)) ∧ W'.cell? ⟨c5, 0, none⟩ = some (.pointer pv) ∧ (Instr.lookup 81 (.map (some w.heap.size)) (.string ⟨g.toArray⟩) false).run Try.prog W' = .ok (V g) W') w7 := ⟨hkz7.cell hclz.at_ (fun e => hV3 e), hkz7.cell hc5z.at_ (fun e => hV5 e), look_ml (ownsMap_kept hmz hkz7 (fun e => hmlz.ne e rfl)) hDz g hgl⟩
        have hv7 : v7.ownBlock = (V g).ownBlock ∨ ∃ i, v7.ownBlock = some i ∧ wz.heap.size ≤ i := e7.elim .inl (fun e => .inr ⟨_, e, by have := b5.size; omega⟩)
        obtain ⟨w8, hrun8, hml8, hk8⟩ := hmlz.put hN9 g hgl (x := x) hkz7 (by rw [List.map_append, List.map_cons, List.map_nil, hpv]; exact hO7) hv7
        refine hK.out _ _ (fun _ => s7) (fun hHeld2 => ?_)
        clear hK K hHeld
        have hHeld := hHeld2 (by decide)
        clear hHeld2
        try simp only [Act.put, List.setIfInBounds_toArray, List.set_cons_zero, List.set_cons_succ]
        refine wpAnyZ_one (i := 8) (by kernel_rfl) (by (simp only [List.getElem?_toArray, List.getElem?_cons_succ, List.getElem?_cons_zero]; rfl)) (fun K hK => ?_)
        go_simp
        refine hK.out _ _ (fun h => absurd rfl h) (fun hHeld2 => ?_)
        clear hK K hHeld
        clear hHeld2
        try simp only [Act.put, List.setIfInBounds_toArray, List.set_cons_zero, List.set_cons_succ]
        refine wpAnyZ_done (by kernel_rfl) ?_ _
        have hk9 : Keep (fun k => k = w.heap.size ∨ (V g).ownBlock = some k) W w8 := ((Keep.of_below hbd).mono (fun _ _ e => absurd e (by omega)) |>.trans hkz7 (fun _ _ e => .inr e)).trans hk8 (fun _ _ e => .inl e)
        gi_wp2
        have hF : (fun k' => if k' = g then (whoL (l.take k) g ++ if g ∈ pre2 then [x] else []) ++ [x] else (whoL (l.take k) k' ++ if k' ∈ pre2 then [x] else [])) = (fun k' => whoL (l.take k) k' ++ if k' ∈ pre2 ++ [g] then [x] else []) := by
          funext h
          by_cases e : h = g
          · subst e; simp [hgp]
          · simp [e]
        have hK : (pre2 ++ [g]).foldl addS (knownL (l.take k)) = addS (pre2.foldl addS (knownL (l.take k))) g := by simp
        rw [hF, ← hK] at hml8
        have hzd := hbd.size
        refine ⟨hk9.kp (fun i hi e => e.elim .inl (fun e => .inr ?_)), _, N9 + 1, ⟨hml8, hin.at3.kept hk9 (fun e => e.elim (fun e => by omega) hV3), hin.at5.kept hk9 (fun e => e.elim (fun e => by omega) hV5), hin.hb.trans (hk9.below hin.hb.size (fun i hi e => e.elim (fun e => by omega) (fun e => by have := ((hin.ml.row g).lt i e).1; omega))), hin.marks.kept hk9 (fun D hD e => e.elim (hin.ml.noMark hD).1 ((hin.ml.noMark hD).2 g)), fun h i e => ?_⟩, by rw [List.length_append, List.length_singleton]; omega⟩
        · obtain ⟨cs, fr, h1⟩ := (hin.ml.row g).blk i e
          exact ⟨cs, _, fr, h1, rfl⟩
        · by_cases eh : h = g
          · rw [if_pos eh] at e
            rcases hv7 with e7 | ⟨j, e7, hj⟩
            · exact hin.far g i (e7 ▸ e)
            · rw [e7] at e
              cases e
              have h3 := hin.at3.lt
              have h5 := hin.at5.lt
              omega
          · rw [if_neg eh] at e
            exact hin.far h i e
      case done =>
        rintro D W hD ⟨V, N9, hin, hNp⟩ hDf
        have hF : (fun g => whoL (l.take k) g ++ if g ∈ sortU x.ks then [x] else []) = whoL (l.take (k + 1)) := by
          funext g
          have hm : g ∈ sortU x.ks ↔ g ∈ x.ks := List.mem_mergeSort
          rw [htk]
          unfold whoL
          rw [List.filter_append]
          by_cases e : g ∈ x.ks
          · rw [if_pos (hm.2 e)]; simp [e]
          · rw [if_neg (fun h => e (hm.1 h))]; simp [e]
        have hml9 := hin.ml
        rw [hF, ← knownL_snoc, ← htk] at hml9
        rw [sortU_len] at hNp
        have hmk9 := hin.marks.cons hDs hD (by omega) hDf
        gi_wp2
        exact ⟨⟨_, _, _, _, _, _, _, _, _, _, _, _, _, _, _, _, k + 1, N9, V, D :: Ds, ⟨by omega, by omega, hml9, hin.at3, hin.hb, hmk9, fun g i e => (hin.far g i e).1⟩, rfl⟩, by simp [intOf]; omega⟩
      case stop =>
        rintro D c pre W hD hpre hF hDf
        exact hF.elim
    · as_aux_lemma =>
      have hlz : ¬ (k : Int) < (n : Int) := by omega
      have e : l.take k = l := List.take_of_length_le (by omega)
      rw [e] at hml
      have c3 := hc3.at_
      gi_wp2
      refine hmk.done fun w' hbw => ?_
      have hb8 := hb.trans (hbw.below (B := w.heap.size) hb.size (fun i hi e => by have := (hmk.at_ i e).1; omega))
      have hml8 := hml.kept hbw (fun e => (hml.noMark (hmk.at_ _ e).2).1 rfl) (fun g i hi e => (hml.noMark (hmk.at_ _ e).2).2 g hi)
      exact ⟨.map (some w.heap.size), by simp [results, Try.results34, go_sem], _, rfl, ⟨N, V0, hml8⟩, Nat.le_refl _, hb8⟩
end Go.Proofs.Ytipmamgmcipbfaa
