/- The stock's calls: several texts as one (StkJ, StkK, StkP, StkS, StkN, StkX, StkW). No condition but those told at each. -/
import Derived.Test.YtfpcnenohidfpaaGreatSmC
import Derived.Test.YtfpcnenohidfpaaGreatRgT
import Derived.Test.YtfpcnenohidfpaaGreatRio
import Derived.Test.YtfpcnenohidfpaaGreatRie
import Derived.Maps.OwnOps
import Derived.Test.YtfpcnenohidfpaaGreatRit
import Derived.Test.YtfpcnenohidfpaaGreatMaker
import Derived.Test.YtfpcnenohidfpaaGreatApJ
namespace Go.Proofs.YtfpcnenohidfpaaGreat
section
open Go.RowKit Go.Maps Go.Shelf Go.Sort
set_option linter.unusedVariables false
set_option linter.unusedSimpArgs false

/-- What is put, good by good. -/
def pairsR (k : Int) (f : List UInt8 → Row) (l : List It) : List (List UInt8 × Row) := l.map fun x => (x.1, doneR k x.2 (f x.1))
def putsF (f : List UInt8 → Row) (ps : List (List UInt8 × Row)) : List UInt8 → Row := ps.foldl (fun h p => fun k => if k = p.1 then p.2 else h k) f
def putsK (ks : List (List UInt8)) (ps : List (List UInt8 × Row)) : List (List UInt8) := ps.foldl (fun h p => addS h p.1) ks
theorem putsF_snoc (f : List UInt8 → Row) (ps : List (List UInt8 × Row)) (s : List UInt8) (r : Row) : putsF f (ps ++ [(s, r)]) = fun k => if k = s then r else putsF f ps k := by
  unfold putsF
  rw [List.foldl_append]
  rfl
theorem putsK_snoc (ks : List (List UInt8)) (ps : List (List UInt8 × Row)) (s : List UInt8) (r : Row) : putsK ks (ps ++ [(s, r)]) = addS (putsK ks ps) s := by
  unfold putsK
  rw [List.foldl_append]
  rfl
/-- What Do answers. -/
def doE (f : List UInt8 → Row) (ks : List (List UInt8)) (k : Int) (l : List It) : Int :=
  if knownK k = false then 1 else if mayL l = false then 60 else if (takesK k && decide (0 < freshN ks l)) = true then 71
  else if (afterL k f l).any lackR = true then 51 else if (afterL k f l).any overR = true then 50 else if 64 < ks.length + freshN ks l then 2 else 0
/-- What becomes of the stock. -/
def DoW (w w' : World) (p b N : Nat) (f : List UInt8 → Row) (ks : List (List UInt8)) (k : Int) (l : List It) : Prop :=
  (doE f ks k l ≠ 0 ∧ Below w.heap.size w w') ∨ (doE f ks k l = 0 ∧ ST w' p b (N + l.length) (putsF f (pairsR k f l)) (putsK ks (pairsR k f l)) ∧ Keep (fun i => i = b) w w')
theorem ST.map_not {w : World} {p b N : Nat} {f : List UInt8 → Row} {ks : List (List UInt8)} (h : ST w p b N f ks) {a : Addr} {v : Value} (hc : w.cell? a = some v) : a.block ≠ b := by
  obtain ⟨D, ⟨es, clock, hb, _⟩, _⟩ := h.mp
  obtain ⟨o, h1, h2⟩ := cells_of_cell hc
  intro e
  rw [e, hb] at h1
  cases h1
  cases h2
theorem IL.map_not {w : World} {A : Option Addr} {n : Nat} {l : List It} (hl : IL w A n l) {p b N : Nat} {f : List UInt8 → Row} {ks : List (List UInt8)} (h : ST w p b N f ks) : ∀ ad, A = some ad → 0 < n → ad.block ≠ b := by
  intro ad e hn
  obtain ⟨g, off, x, e2, _, c0, _⟩ := hl.place hn
  rw [e] at e2
  cases e2
  exact h.map_not c0
set_option maxRecDepth 100000 in
set_option maxHeartbeats 6400000 in
theorem do_any (k : Int) (A : Option Addr) (n c : Nat) (l : List It) (w : World) {p b N : Nat} {f : List UInt8 → Row} {ks : List (List UInt8)} (h : ST w p b N f ks) (hl : IL w A n l) (hn : n * 88 ≤ 140737488355328) (hw : ∀ x ∈ l, x.1.length ≤ maxLen) (hN : N + n < maxLen) (hks : ks.length ≤ 1099511627776) :
    Calls Tryz.prog 24 #[.pointer (some ⟨p, 0, none⟩), .int .i64 k, .slice A n c] w fun e w' => e = .returned (.int .i64 (doE f ks k l)) ∧ DoW w w' p b N f ks k l := by
  have hAb := hl.map_not h
  have hll := hl.len
  go_enter Tryz.func24, Tryz.ntmps24
  go_wp2_with fail
  refine (about_any k _).mono ?_
  rintro e w1 ⟨rfl, hb1⟩
  cases h1 : knownK k with
  | false =>
    go_wp2
    go_ret
    exact ⟨by simp [doE, h1], .inl ⟨by simp [doE, h1], hb1⟩⟩
  | true =>
  go_wp2_with fail
  refine (mayI_any A n c l _ (hl.below hb1) (by omega)).mono ?_
  rintro e w2 ⟨rfl, hb2⟩
  have hb2 := hb1.trans (hb2.mono hb1.size)
  cases h2 : mayL l with
  | false =>
    go_wp2
    go_ret
    exact ⟨by simp [doE, h1, h2], .inl ⟨by simp [doE, h1, h2], hb2⟩⟩
  | true =>
  go_wp2_with fail
  refine (after_any k A n c l _ (h.below hb2) (hl.below hb2) hn hw).mono ?_
  rintro e w3 ⟨v, rfl, hO, hb3⟩
  have hO3 := hO.mono hb2.size
  have hb3 := hb2.trans (hb3.mono hb2.size)
  clear hO
  go_wp2_with fail
  refine (sfresh_any A n c l _ (h.below hb3) (hl.below hb3) (by omega) hw).mono ?_
  rintro e w4 ⟨rfl, hb4⟩
  have hO4 := hO3.below hb4
  have hb4 := hb3.trans (hb4.mono hb3.size)
  have hfl := freshN_le ks l
  rw [hll] at hfl
  obtain ⟨R, hR⟩ : ∃ R, afterL k f l = R := ⟨_, rfl⟩
  obtain ⟨F, hF⟩ : ∃ F, freshN ks l = F := ⟨_, rfl⟩
  obtain ⟨L0, hL0⟩ : ∃ L0, ks.length = L0 := ⟨_, rfl⟩
  have hdo : doE f ks k l = if (takesK k && decide (0 < F)) = true then 71 else if R.any lackR = true then 51 else if R.any overR = true then 50 else if 64 < L0 + F then 2 else 0 := by
    unfold doE
    rw [h1, h2, hR, hF, hL0]
    simp
  rw [hR] at hO4
  rw [hF] at hfl
  rw [hL0] at hks
  have hlK : ∀ (W : World), ST W p b N f ks → (Builtin.len_ #[48] 3 #[.map (some b)]).run Tryz.prog W = .ok (.int .i64 (L0 : Nat)) W := fun W hW => by
    have := hW.len 3
    rw [hL0] at this
    exact this
  rw [hF]
  generalize hD : doE f ks k l = E at hdo
  clear hO3 h1 h2 hb1 hb2 hb3
  by_cases h3 : takesK k = true ∧ 0 < F
  · have d3 : decide ((0 : Int) < (F : Int)) = true := decide_eq_true (by omega)
    have h3a := h3.1
    have hE : E = 71 := by rw [hdo]; simp [h3.1, h3.2]
    clear hdo
    rw [h3a]
    go_wp2
    go_ret
    exact ⟨(by rw [hD, hE] <;> rfl), .inl ⟨by rw [hD, hE]; decide, hb4⟩⟩
  have hq3 : (takesK k && decide (0 < F)) = false := by
    cases ht : takesK k with
    | false => rfl
    | true =>
      have : ¬ 0 < F := fun e => h3 ⟨ht, e⟩
      simp [this]
  rw [hq3] at hdo
  have go4 : takesK k = false ∨ (takesK k = true ∧ decide (0 < F) = false) := by
    cases ht : takesK k with
    | false => exact .inl rfl
    | true => exact .inr ⟨rfl, decide_eq_false (fun e => h3 ⟨ht, by omega⟩)⟩
  have hRn : R.length = n := by rw [← hR, afterL_len]; exact hll
  obtain ⟨ps, hps⟩ : ∃ ps, pairsR k f l = ps := ⟨_, rfl⟩
  have hpn : ps.length = n := by rw [← hps]; unfold pairsR; rw [List.length_map]; exact hll
  have hpj : ∀ (j : Nat) (s : List UInt8) (q : Int), l[j]? = some (s, q) → ps[j]? = some (s, doneR k q (f s)) ∧ R[j]? = some (doneR k q (f s)) := by
    intro j s q hx
    rw [← hps, ← hR]
    unfold pairsR afterL
    rw [List.getElem?_map, List.getElem?_map, hx]
    exact ⟨rfl, rfl⟩
  replace hRn := Lib.hid hRn
  replace hpn := Lib.hid hpn
  replace hps := Lib.hid hps
  replace hll := Lib.hid hll
  replace hD := Lib.hid hD
  clear hR hF hL0 h3 hq3
  rcases go4 with ht | ⟨ht, d3⟩
  · rw [ht]
    go_wp2_with fail
    refine (has_lacks hO4).mono ?_
    rintro e w5 ⟨rfl, hb5⟩
    cases h4 : R.any lackR with
    | true =>
      have hE : E = 51 := by rw [hdo]; simp [h4]
      go_wp2
      go_ret
      exact ⟨(by rw [hD.out, hE] <;> rfl), .inl ⟨by rw [hD.out, hE]; decide, hb4.trans (hb5.mono hb4.size)⟩⟩
    | false =>
    have hO5 := hO4.below hb5
    have hb5 := hb4.trans (hb5.mono hb4.size)
    go_wp2_with fail
    refine (has_over hO5).mono ?_
    rintro e w6 ⟨rfl, hb6⟩
    cases h5 : R.any overR with
    | true =>
      have hE : E = 50 := by rw [hdo]; simp [h4, h5]
      go_wp2
      go_ret
      exact ⟨(by rw [hD.out, hE] <;> rfl), .inl ⟨by rw [hD.out, hE]; decide, hb5.trans (hb6.mono hb5.size)⟩⟩
    | false =>
    have hO6 := hO5.below hb6
    have hb6 := hb5.trans (hb6.mono hb5.size)
    have h6 := h.below hb6
    have p6 := h6.pc.cell 0
    simp only [List.getElem?_toArray, List.getElem?_cons_zero] at p6
    have hlenK := hlK w6 h6
    have hq : (L0 : Int) + (F : Int) ≤ 9223372036854775807 := by omega
    have hq0 : (0 : Int) ≤ (L0 : Int) + (F : Int) := by omega
    by_cases h7 : 64 < L0 + F
    · have d7 : decide ((64 : Int) < (L0 : Int) + (F : Int)) = true := decide_eq_true (by omega)
      have hE : E = 2 := by rw [hdo]; simp [h4, h5, h7]
      clear hdo
      go_wp2
      go_ret
      exact ⟨(by rw [hD.out, hE] <;> rfl), .inl ⟨by rw [hD.out, hE]; decide, hb6⟩⟩
    have d7 : decide ((64 : Int) < (L0 : Int) + (F : Int)) = false := decide_eq_false (by omega)
    have hE : E = 0 := by rw [hdo]; simp [h4, h5, h7]
    clear hdo h4 h5 hO4 hO5 hb4 hb5 h7
    subst hE
    obtain ⟨A6, cap, rfl, hcap, hcm, _⟩ := hO6.form
    rw [hRn.out] at hO6 hcap ⊢
    have hbw := h.lt.2
    go_wp2
    go_loopw [58] (fun i wr => ∃ j : Nat, i = .int .i64 (j : Int) ∧ j ≤ n ∧ ST wr p b (N + j) (putsF f (ps.take j)) (putsK ks (ps.take j)) ∧ Keep (fun i => i = b) w wr ∧ RO w.heap.size wr (.slice A6 n cap) R) (fun i _ => n - (intOf i).toNat)
    case atStart => exact ⟨0, by go_num, by omega, by simpa [putsF, putsK] using h6, Keep.ofB hb6, hO6⟩
    case round =>
      obtain ⟨j, rfl, hj, hS, hKp, hR⟩ := hrel
      by_cases hlt : j < n
      · have hlz : (j : Int) < (n : Int) := by omega
        have hzr := hKp.size
        obtain ⟨gi, off, ⟨s, q⟩, rfl, hx, c0, c1⟩ := (hl.kept hKp (fun ad e h' => hAb ad e h')).place hlt
        obtain ⟨hpx, hRx⟩ := hpj j s q hx
        have hsl := hw (s, q) (List.mem_of_getElem? hx)
        dsimp only at c0 c1 hsl
        have htk : ps.take (j + 1) = ps.take j ++ [(s, doneR k q (f s))] := by rw [List.take_add_one, hpx]; rfl
        obtain ⟨r, hr⟩ : ∃ r, doneR k q (f s) = r := ⟨_, rfl⟩
        rw [hr] at hRx htk
        obtain ⟨x0, x1, x2, x3, x4, x5, x6, x7, x8, x9, x10⟩ := r
        replace htk := Lib.hid htk
        obtain ⟨A', cap', e, _, _, hpl⟩ := hR.form
        injection e with e e91 e92
        clear e91 e92
        subst e
        obtain ⟨g, rfl, _⟩ := hpl j _ hRx
        clear hpl hpx hr hx hb6 h6 p6 hlenK hO6 hpj
        go_wp2
        obtain ⟨ob, hob⟩ : ∃ ob, ob = wr.heap.size := ⟨_, rfl⟩
        have hS1 := hS.alloc (.cells #[.string ⟨s.toArray⟩, .int .i64 q] 66)
        have hR1 := hR.alloc (.cells #[.string ⟨s.toArray⟩, .int .i64 q] 66)
        have hK1 := hKp.alloc (.cells #[.string ⟨s.toArray⟩, .int .i64 q] 66)
        have hB1 := Blk.new wr 66 #[.string ⟨s.toArray⟩, .int .i64 q]
        rw [← hob] at hB1 ⊢
        obtain ⟨WN, hWN⟩ : ∃ WN, WN = wr.alloc (.cells #[.string ⟨s.toArray⟩, .int .i64 q] 66) := ⟨_, rfl⟩
        have hNz : WN.heap.size = wr.heap.size + 1 := by rw [hWN]; simp
        rw [← hWN] at hS1 hR1 hK1 hB1 ⊢
        have hobb : ob ≠ b := by omega
        replace hob := Lib.hid hob
        clear hWN hS hR hKp hNz
        have hS2 : ST WN.drew p b (N + j) (putsF f (ps.take j)) (putsK ks (ps.take j)) := hS1.below (Below.refl WN.heap.size WN).drew
        have hR2 : RO w.heap.size WN.drew (.slice (some ⟨g, 0, none⟩) n cap) R := hR1.drew
        have hB2 := hB1.drew
        have hK2 := hK1.drew
        have hgb : g ≠ b := by
          have h1 := (hR1.lt g rfl).1
          omega
        obtain ⟨A9, c9, e9, _, _, hp9⟩ := hR2.form
        injection e9 with e9 e91 e92
        clear e91 e92
        subst e9
        obtain ⟨g9, e9', hc⟩ := hp9 j _ hRx
        obtain rfl : g = g9 := by injection e9' with e; injection e
        clear e9'
        clear hp9
        have y0 := hc 0 _ rfl
        have y1 := hc 1 _ rfl
        have y2 := hc 2 _ rfl
        have y3 := hc 3 _ rfl
        have y4 := hc 4 _ rfl
        have y5 := hc 5 _ rfl
        have y6 := hc 6 _ rfl
        have y7 := hc 7 _ rfl
        have y8 := hc 8 _ rfl
        have y9 := hc 9 _ rfl
        have y10 := hc 10 _ rfl
        simp only [Nat.add_zero] at y0
        clear hc
        have s1 := hS2.pc.cell 0
        have s2 := hB2.cell 0
        simp only [List.getElem?_toArray, List.getElem?_cons_succ, List.getElem?_cons_zero] at s1 s2
        have sd : (fun W' => W'.cell? ⟨p, 0, none⟩ = some (.map (some b)) ∧ W'.cell? ⟨ob, 0, none⟩ = some (.string ⟨s.toArray⟩) ∧ W'.cell? ⟨g, j * 11, none⟩ = some (.int .i64 x0) ∧ W'.cell? ⟨g, j * 11 + 1, none⟩ = some (.int .i64 x1) ∧ W'.cell? ⟨g, j * 11 + 2, none⟩ = some (.int .i64 x2) ∧ W'.cell? ⟨g, j * 11 + 3, none⟩ = some (.int .i64 x3) ∧ W'.cell? ⟨g, j * 11 + 4, none⟩ = some (.int .i64 x4) ∧ W'.cell? ⟨g, j * 11 + 5, none⟩ = some (.int .i64 x5) ∧ W'.cell? ⟨g, j * 11 + 6, none⟩ = some (.int .i64 x6) ∧ W'.cell? ⟨g, j * 11 + 7, none⟩ = some (.int .i64 x7) ∧ W'.cell? ⟨g, j * 11 + 8, none⟩ = some (.int .i64 x8) ∧ W'.cell? ⟨g, j * 11 + 9, none⟩ = some (.int .i64 x9) ∧ W'.cell? ⟨g, j * 11 + 10, none⟩ = some (.int .i64 x10)) WN.drew := ⟨s1, s2, y0, y1, y2, y3, y4, y5, y6, y7, y8, y9, y10⟩
        refine wp_region_held_drew (S := (fun W' => W'.cell? ⟨p, 0, none⟩ = some (.map (some b)) ∧ W'.cell? ⟨ob, 0, none⟩ = some (.string ⟨s.toArray⟩) ∧ W'.cell? ⟨g, j * 11, none⟩ = some (.int .i64 x0) ∧ W'.cell? ⟨g, j * 11 + 1, none⟩ = some (.int .i64 x1) ∧ W'.cell? ⟨g, j * 11 + 2, none⟩ = some (.int .i64 x2) ∧ W'.cell? ⟨g, j * 11 + 3, none⟩ = some (.int .i64 x3) ∧ W'.cell? ⟨g, j * 11 + 4, none⟩ = some (.int .i64 x4) ∧ W'.cell? ⟨g, j * 11 + 5, none⟩ = some (.int .i64 x5) ∧ W'.cell? ⟨g, j * 11 + 6, none⟩ = some (.int .i64 x6) ∧ W'.cell? ⟨g, j * 11 + 7, none⟩ = some (.int .i64 x7) ∧ W'.cell? ⟨g, j * 11 + 8, none⟩ = some (.int .i64 x8) ∧ W'.cell? ⟨g, j * 11 + 9, none⟩ = some (.int .i64 x9) ∧ W'.cell? ⟨g, j * 11 + 10, none⟩ = some (.int .i64 x10))) (by kernel_rfl) sd (fun hHeld => ?_)
        generalize WN.drew = wz at *
        obtain ⟨w9, hrun9, hS9, hk9⟩ := hS2.upd (by omega) s hsl ⟨x0, x1, x2, x3, x4, x5, x6, x7, x8, x9, x10⟩
        have hR9 := hR2.kept hk9 (fun i hi e => by have := (hR2.lt i hi).1; omega)
        have hK9 := hK2.trans hk9 (fun i hi e => e)
        have cc : ∀ (a : Addr) (v : Value), wz.cell? a = some v → a.block ≠ b → w9.cell? a = some v := fun a v h1 h2 => hk9.cell h1 h2
        have sd9 : (fun W' => W'.cell? ⟨p, 0, none⟩ = some (.map (some b)) ∧ W'.cell? ⟨ob, 0, none⟩ = some (.string ⟨s.toArray⟩) ∧ W'.cell? ⟨g, j * 11, none⟩ = some (.int .i64 x0) ∧ W'.cell? ⟨g, j * 11 + 1, none⟩ = some (.int .i64 x1) ∧ W'.cell? ⟨g, j * 11 + 2, none⟩ = some (.int .i64 x2) ∧ W'.cell? ⟨g, j * 11 + 3, none⟩ = some (.int .i64 x3) ∧ W'.cell? ⟨g, j * 11 + 4, none⟩ = some (.int .i64 x4) ∧ W'.cell? ⟨g, j * 11 + 5, none⟩ = some (.int .i64 x5) ∧ W'.cell? ⟨g, j * 11 + 6, none⟩ = some (.int .i64 x6) ∧ W'.cell? ⟨g, j * 11 + 7, none⟩ = some (.int .i64 x7) ∧ W'.cell? ⟨g, j * 11 + 8, none⟩ = some (.int .i64 x8) ∧ W'.cell? ⟨g, j * 11 + 9, none⟩ = some (.int .i64 x9) ∧ W'.cell? ⟨g, j * 11 + 10, none⟩ = some (.int .i64 x10)) w9 := ⟨cc _ _ s1 h.ne, cc _ _ s2 hobb, cc _ _ y0 hgb, cc _ _ y1 hgb, cc _ _ y2 hgb, cc _ _ y3 hgb, cc _ _ y4 hgb, cc _ _ y5 hgb, cc _ _ y6 hgb, cc _ _ y7 hgb, cc _ _ y8 hgb, cc _ _ y9 hgb, cc _ _ y10 hgb⟩
        change Sem.run _ (Instr.mapUpdate _ _ _ (.agg #[.int .i64 x0, .int .i64 x1, .int .i64 x2, .int .i64 x3, .int .i64 x4, .int .i64 x5, .int .i64 x6, .int .i64 x7, .int .i64 x8, .int .i64 x9, .int .i64 x10])) _ = _ at hrun9
        clear cc s1 s2 y0 y1 y2 y3 y4 y5 y6 y7 y8 y9 y10 hS1 hR1 hB1 hK1 hB2
        (refine tkI 0 (by (simp only [List.getElem?_toArray, List.getElem?_cons_succ, List.getElem?_cons_zero]; rfl)) (by kernel_rfl) (by kernel_rfl) (by kernel_rfl) (by exact fun _ _ _ h => h) (by rfl) (by (intro w hSw; (try dsimp only at hSw); go_simp <;> with_reducible rfl)) (by assumption) ?_; try simp only [Act.put, List.setIfInBounds_toArray, List.set_cons_zero, List.set_cons_succ])
        (refine tkI 1 (by (simp only [List.getElem?_toArray, List.getElem?_cons_succ, List.getElem?_cons_zero]; rfl)) (by kernel_rfl) (by kernel_rfl) (by kernel_rfl) (by exact fun _ _ _ h => h) (by rfl) (by (intro w hSw; (try dsimp only at hSw); go_simp <;> with_reducible rfl)) (by assumption) ?_; try simp only [Act.put, List.setIfInBounds_toArray, List.set_cons_zero, List.set_cons_succ])
        (refine tkI 2 (by (simp only [List.getElem?_toArray, List.getElem?_cons_succ, List.getElem?_cons_zero]; rfl)) (by kernel_rfl) (by kernel_rfl) (by kernel_rfl) (by exact fun _ _ _ h => h) (by rfl) (by (intro w hSw; (try dsimp only at hSw); go_simp <;> with_reducible rfl)) (by assumption) ?_; try simp only [Act.put, List.setIfInBounds_toArray, List.set_cons_zero, List.set_cons_succ])
        (refine tkI 3 (by (simp only [List.getElem?_toArray, List.getElem?_cons_succ, List.getElem?_cons_zero]; rfl)) (by kernel_rfl) (by kernel_rfl) (by kernel_rfl) (by exact fun _ _ _ h => h) (by rfl) (by (intro w hSw; (try dsimp only at hSw); go_simp <;> with_reducible rfl)) (by assumption) ?_; try simp only [Act.put, List.setIfInBounds_toArray, List.set_cons_zero, List.set_cons_succ])
        (refine tkI 4 (by (simp only [List.getElem?_toArray, List.getElem?_cons_succ, List.getElem?_cons_zero]; rfl)) (by kernel_rfl) (by kernel_rfl) (by kernel_rfl) (by exact fun _ _ _ h => h) (by rfl) (by (intro w hSw; (try dsimp only at hSw); go_simp <;> with_reducible rfl)) (by assumption) ?_; try simp only [Act.put, List.setIfInBounds_toArray, List.set_cons_zero, List.set_cons_succ])
        (refine tkI 5 (by (simp only [List.getElem?_toArray, List.getElem?_cons_succ, List.getElem?_cons_zero]; rfl)) (by kernel_rfl) (by kernel_rfl) (by kernel_rfl) (by exact fun _ _ _ h => h) (by rfl) (by (intro w hSw; (try dsimp only at hSw); go_simp <;> with_reducible rfl)) (by assumption) ?_; try simp only [Act.put, List.setIfInBounds_toArray, List.set_cons_zero, List.set_cons_succ])
        (refine tkI 6 (by (simp only [List.getElem?_toArray, List.getElem?_cons_succ, List.getElem?_cons_zero]; rfl)) (by kernel_rfl) (by kernel_rfl) (by kernel_rfl) (by exact fun _ _ _ h => h) (by rfl) (by (intro w hSw; (try dsimp only at hSw); go_simp <;> with_reducible rfl)) (by assumption) ?_; try simp only [Act.put, List.setIfInBounds_toArray, List.set_cons_zero, List.set_cons_succ])
        (refine tkI 7 (by (simp only [List.getElem?_toArray, List.getElem?_cons_succ, List.getElem?_cons_zero]; rfl)) (by kernel_rfl) (by kernel_rfl) (by kernel_rfl) (by exact fun _ _ _ h => h) (by rfl) (by (intro w hSw; (try dsimp only at hSw); go_simp <;> with_reducible rfl)) (by assumption) ?_; try simp only [Act.put, List.setIfInBounds_toArray, List.set_cons_zero, List.set_cons_succ])
        (refine tkI 8 (by (simp only [List.getElem?_toArray, List.getElem?_cons_succ, List.getElem?_cons_zero]; rfl)) (by kernel_rfl) (by kernel_rfl) (by kernel_rfl) (by exact fun _ _ _ h => h) (by rfl) (by (intro w hSw; (try dsimp only at hSw); go_simp <;> with_reducible rfl)) (by assumption) ?_; try simp only [Act.put, List.setIfInBounds_toArray, List.set_cons_zero, List.set_cons_succ])
        (refine tkI 9 (by (simp only [List.getElem?_toArray, List.getElem?_cons_succ, List.getElem?_cons_zero]; rfl)) (by kernel_rfl) (by kernel_rfl) (by kernel_rfl) (by exact fun _ _ _ h => h) (by rfl) (by (intro w hSw; (try dsimp only at hSw); go_simp <;> with_reducible rfl)) (by assumption) ?_; try simp only [Act.put, List.setIfInBounds_toArray, List.set_cons_zero, List.set_cons_succ])
        refine wpAnyH_ready (rs := [10]) (by kernel_rfl) (by simp) ?_
        refine AllReadyH.cons (by (simp only [List.getElem?_toArray, List.getElem?_cons_succ, List.getElem?_cons_zero]; rfl)) (fun K hK => ?_) AllReadyH.nil
        go_simp
        refine hK.out _ _ sd9 (fun hHeld2 => ?_)
        clear hK K hHeld
        clear hHeld2
        try simp only [Act.put, List.setIfInBounds_toArray, List.set_cons_zero, List.set_cons_succ]
        refine wpAnyH_done (by kernel_rfl) ?_ _
        clear hrun9 sd9 sd
        go_wp2
        go_roundw
        case measure => simp [intOf]; omega
        case rel =>
          refine ⟨j + 1, by go_num, by omega, ?_, hK9, hR9⟩
          rw [htk.out, putsF_snoc, putsK_snoc]
          exact hS9
      · have hjn : j = n := by omega
        have hlz : ¬ (j : Int) < (n : Int) := by omega
        subst hjn
        have htk : ps.take j = ps := List.take_of_length_le (by rw [hpn.out]; omega)
        rw [htk] at hS
        rw [← hll.out] at hS
        rw [← hps.out] at hS
        have hfin : DoW w wr p b N f ks k l := .inr ⟨hD.out, hS, hKp⟩
        replace hfin := Lib.hid hfin
        clear hS hR hKp htk
        go_wp2
        go_ret
        exact ⟨(by rw [hD.out] <;> rfl), hfin.out⟩
  · rw [ht]
    go_wp2_with fail
    refine (has_lacks hO4).mono ?_
    rintro e w5 ⟨rfl, hb5⟩
    cases h4 : R.any lackR with
    | true =>
      have hE : E = 51 := by rw [hdo]; simp [h4]
      go_wp2
      go_ret
      exact ⟨(by rw [hD.out, hE] <;> rfl), .inl ⟨by rw [hD.out, hE]; decide, hb4.trans (hb5.mono hb4.size)⟩⟩
    | false =>
    have hO5 := hO4.below hb5
    have hb5 := hb4.trans (hb5.mono hb4.size)
    go_wp2_with fail
    refine (has_over hO5).mono ?_
    rintro e w6 ⟨rfl, hb6⟩
    cases h5 : R.any overR with
    | true =>
      have hE : E = 50 := by rw [hdo]; simp [h4, h5]
      go_wp2
      go_ret
      exact ⟨(by rw [hD.out, hE] <;> rfl), .inl ⟨by rw [hD.out, hE]; decide, hb5.trans (hb6.mono hb5.size)⟩⟩
    | false =>
    have hO6 := hO5.below hb6
    have hb6 := hb5.trans (hb6.mono hb5.size)
    have h6 := h.below hb6
    have p6 := h6.pc.cell 0
    simp only [List.getElem?_toArray, List.getElem?_cons_zero] at p6
    have hlenK := hlK w6 h6
    have hq : (L0 : Int) + (F : Int) ≤ 9223372036854775807 := by omega
    have hq0 : (0 : Int) ≤ (L0 : Int) + (F : Int) := by omega
    by_cases h7 : 64 < L0 + F
    · have d7 : decide ((64 : Int) < (L0 : Int) + (F : Int)) = true := decide_eq_true (by omega)
      have hE : E = 2 := by rw [hdo]; simp [h4, h5, h7]
      clear hdo
      go_wp2
      go_ret
      exact ⟨(by rw [hD.out, hE] <;> rfl), .inl ⟨by rw [hD.out, hE]; decide, hb6⟩⟩
    have d7 : decide ((64 : Int) < (L0 : Int) + (F : Int)) = false := decide_eq_false (by omega)
    have hE : E = 0 := by rw [hdo]; simp [h4, h5, h7]
    clear hdo h4 h5 hO4 hO5 hb4 hb5 h7
    subst hE
    obtain ⟨A6, cap, rfl, hcap, hcm, _⟩ := hO6.form
    rw [hRn.out] at hO6 hcap ⊢
    have hbw := h.lt.2
    go_wp2
    go_loopw [58] (fun i wr => ∃ j : Nat, i = .int .i64 (j : Int) ∧ j ≤ n ∧ ST wr p b (N + j) (putsF f (ps.take j)) (putsK ks (ps.take j)) ∧ Keep (fun i => i = b) w wr ∧ RO w.heap.size wr (.slice A6 n cap) R) (fun i _ => n - (intOf i).toNat)
    case atStart => exact ⟨0, by go_num, by omega, by simpa [putsF, putsK] using h6, Keep.ofB hb6, hO6⟩
    case round =>
      obtain ⟨j, rfl, hj, hS, hKp, hR⟩ := hrel
      by_cases hlt : j < n
      · have hlz : (j : Int) < (n : Int) := by omega
        have hzr := hKp.size
        obtain ⟨gi, off, ⟨s, q⟩, rfl, hx, c0, c1⟩ := (hl.kept hKp (fun ad e h' => hAb ad e h')).place hlt
        obtain ⟨hpx, hRx⟩ := hpj j s q hx
        have hsl := hw (s, q) (List.mem_of_getElem? hx)
        dsimp only at c0 c1 hsl
        have htk : ps.take (j + 1) = ps.take j ++ [(s, doneR k q (f s))] := by rw [List.take_add_one, hpx]; rfl
        obtain ⟨r, hr⟩ : ∃ r, doneR k q (f s) = r := ⟨_, rfl⟩
        rw [hr] at hRx htk
        obtain ⟨x0, x1, x2, x3, x4, x5, x6, x7, x8, x9, x10⟩ := r
        replace htk := Lib.hid htk
        obtain ⟨A', cap', e, _, _, hpl⟩ := hR.form
        injection e with e e91 e92
        clear e91 e92
        subst e
        obtain ⟨g, rfl, _⟩ := hpl j _ hRx
        clear hpl hpx hr hx hb6 h6 p6 hlenK hO6 hpj
        go_wp2
        obtain ⟨ob, hob⟩ : ∃ ob, ob = wr.heap.size := ⟨_, rfl⟩
        have hS1 := hS.alloc (.cells #[.string ⟨s.toArray⟩, .int .i64 q] 66)
        have hR1 := hR.alloc (.cells #[.string ⟨s.toArray⟩, .int .i64 q] 66)
        have hK1 := hKp.alloc (.cells #[.string ⟨s.toArray⟩, .int .i64 q] 66)
        have hB1 := Blk.new wr 66 #[.string ⟨s.toArray⟩, .int .i64 q]
        rw [← hob] at hB1 ⊢
        obtain ⟨WN, hWN⟩ : ∃ WN, WN = wr.alloc (.cells #[.string ⟨s.toArray⟩, .int .i64 q] 66) := ⟨_, rfl⟩
        have hNz : WN.heap.size = wr.heap.size + 1 := by rw [hWN]; simp
        rw [← hWN] at hS1 hR1 hK1 hB1 ⊢
        have hobb : ob ≠ b := by omega
        replace hob := Lib.hid hob
        clear hWN hS hR hKp hNz
        have hS2 : ST WN.drew p b (N + j) (putsF f (ps.take j)) (putsK ks (ps.take j)) := hS1.below (Below.refl WN.heap.size WN).drew
        have hR2 : RO w.heap.size WN.drew (.slice (some ⟨g, 0, none⟩) n cap) R := hR1.drew
        have hB2 := hB1.drew
        have hK2 := hK1.drew
        have hgb : g ≠ b := by
          have h1 := (hR1.lt g rfl).1
          omega
        obtain ⟨A9, c9, e9, _, _, hp9⟩ := hR2.form
        injection e9 with e9 e91 e92
        clear e91 e92
        subst e9
        obtain ⟨g9, e9', hc⟩ := hp9 j _ hRx
        obtain rfl : g = g9 := by injection e9' with e; injection e
        clear e9'
        clear hp9
        have y0 := hc 0 _ rfl
        have y1 := hc 1 _ rfl
        have y2 := hc 2 _ rfl
        have y3 := hc 3 _ rfl
        have y4 := hc 4 _ rfl
        have y5 := hc 5 _ rfl
        have y6 := hc 6 _ rfl
        have y7 := hc 7 _ rfl
        have y8 := hc 8 _ rfl
        have y9 := hc 9 _ rfl
        have y10 := hc 10 _ rfl
        simp only [Nat.add_zero] at y0
        clear hc
        have s1 := hS2.pc.cell 0
        have s2 := hB2.cell 0
        simp only [List.getElem?_toArray, List.getElem?_cons_succ, List.getElem?_cons_zero] at s1 s2
        have sd : (fun W' => W'.cell? ⟨p, 0, none⟩ = some (.map (some b)) ∧ W'.cell? ⟨ob, 0, none⟩ = some (.string ⟨s.toArray⟩) ∧ W'.cell? ⟨g, j * 11, none⟩ = some (.int .i64 x0) ∧ W'.cell? ⟨g, j * 11 + 1, none⟩ = some (.int .i64 x1) ∧ W'.cell? ⟨g, j * 11 + 2, none⟩ = some (.int .i64 x2) ∧ W'.cell? ⟨g, j * 11 + 3, none⟩ = some (.int .i64 x3) ∧ W'.cell? ⟨g, j * 11 + 4, none⟩ = some (.int .i64 x4) ∧ W'.cell? ⟨g, j * 11 + 5, none⟩ = some (.int .i64 x5) ∧ W'.cell? ⟨g, j * 11 + 6, none⟩ = some (.int .i64 x6) ∧ W'.cell? ⟨g, j * 11 + 7, none⟩ = some (.int .i64 x7) ∧ W'.cell? ⟨g, j * 11 + 8, none⟩ = some (.int .i64 x8) ∧ W'.cell? ⟨g, j * 11 + 9, none⟩ = some (.int .i64 x9) ∧ W'.cell? ⟨g, j * 11 + 10, none⟩ = some (.int .i64 x10)) WN.drew := ⟨s1, s2, y0, y1, y2, y3, y4, y5, y6, y7, y8, y9, y10⟩
        refine wp_region_held_drew (S := (fun W' => W'.cell? ⟨p, 0, none⟩ = some (.map (some b)) ∧ W'.cell? ⟨ob, 0, none⟩ = some (.string ⟨s.toArray⟩) ∧ W'.cell? ⟨g, j * 11, none⟩ = some (.int .i64 x0) ∧ W'.cell? ⟨g, j * 11 + 1, none⟩ = some (.int .i64 x1) ∧ W'.cell? ⟨g, j * 11 + 2, none⟩ = some (.int .i64 x2) ∧ W'.cell? ⟨g, j * 11 + 3, none⟩ = some (.int .i64 x3) ∧ W'.cell? ⟨g, j * 11 + 4, none⟩ = some (.int .i64 x4) ∧ W'.cell? ⟨g, j * 11 + 5, none⟩ = some (.int .i64 x5) ∧ W'.cell? ⟨g, j * 11 + 6, none⟩ = some (.int .i64 x6) ∧ W'.cell? ⟨g, j * 11 + 7, none⟩ = some (.int .i64 x7) ∧ W'.cell? ⟨g, j * 11 + 8, none⟩ = some (.int .i64 x8) ∧ W'.cell? ⟨g, j * 11 + 9, none⟩ = some (.int .i64 x9) ∧ W'.cell? ⟨g, j * 11 + 10, none⟩ = some (.int .i64 x10))) (by kernel_rfl) sd (fun hHeld => ?_)
        generalize WN.drew = wz at *
        obtain ⟨w9, hrun9, hS9, hk9⟩ := hS2.upd (by omega) s hsl ⟨x0, x1, x2, x3, x4, x5, x6, x7, x8, x9, x10⟩
        have hR9 := hR2.kept hk9 (fun i hi e => by have := (hR2.lt i hi).1; omega)
        have hK9 := hK2.trans hk9 (fun i hi e => e)
        have cc : ∀ (a : Addr) (v : Value), wz.cell? a = some v → a.block ≠ b → w9.cell? a = some v := fun a v h1 h2 => hk9.cell h1 h2
        have sd9 : (fun W' => W'.cell? ⟨p, 0, none⟩ = some (.map (some b)) ∧ W'.cell? ⟨ob, 0, none⟩ = some (.string ⟨s.toArray⟩) ∧ W'.cell? ⟨g, j * 11, none⟩ = some (.int .i64 x0) ∧ W'.cell? ⟨g, j * 11 + 1, none⟩ = some (.int .i64 x1) ∧ W'.cell? ⟨g, j * 11 + 2, none⟩ = some (.int .i64 x2) ∧ W'.cell? ⟨g, j * 11 + 3, none⟩ = some (.int .i64 x3) ∧ W'.cell? ⟨g, j * 11 + 4, none⟩ = some (.int .i64 x4) ∧ W'.cell? ⟨g, j * 11 + 5, none⟩ = some (.int .i64 x5) ∧ W'.cell? ⟨g, j * 11 + 6, none⟩ = some (.int .i64 x6) ∧ W'.cell? ⟨g, j * 11 + 7, none⟩ = some (.int .i64 x7) ∧ W'.cell? ⟨g, j * 11 + 8, none⟩ = some (.int .i64 x8) ∧ W'.cell? ⟨g, j * 11 + 9, none⟩ = some (.int .i64 x9) ∧ W'.cell? ⟨g, j * 11 + 10, none⟩ = some (.int .i64 x10)) w9 := ⟨cc _ _ s1 h.ne, cc _ _ s2 hobb, cc _ _ y0 hgb, cc _ _ y1 hgb, cc _ _ y2 hgb, cc _ _ y3 hgb, cc _ _ y4 hgb, cc _ _ y5 hgb, cc _ _ y6 hgb, cc _ _ y7 hgb, cc _ _ y8 hgb, cc _ _ y9 hgb, cc _ _ y10 hgb⟩
        change Sem.run _ (Instr.mapUpdate _ _ _ (.agg #[.int .i64 x0, .int .i64 x1, .int .i64 x2, .int .i64 x3, .int .i64 x4, .int .i64 x5, .int .i64 x6, .int .i64 x7, .int .i64 x8, .int .i64 x9, .int .i64 x10])) _ = _ at hrun9
        clear cc s1 s2 y0 y1 y2 y3 y4 y5 y6 y7 y8 y9 y10 hS1 hR1 hB1 hK1 hB2
        (refine tkI 0 (by (simp only [List.getElem?_toArray, List.getElem?_cons_succ, List.getElem?_cons_zero]; rfl)) (by kernel_rfl) (by kernel_rfl) (by kernel_rfl) (by exact fun _ _ _ h => h) (by rfl) (by (intro w hSw; (try dsimp only at hSw); go_simp <;> with_reducible rfl)) (by assumption) ?_; try simp only [Act.put, List.setIfInBounds_toArray, List.set_cons_zero, List.set_cons_succ])
        (refine tkI 1 (by (simp only [List.getElem?_toArray, List.getElem?_cons_succ, List.getElem?_cons_zero]; rfl)) (by kernel_rfl) (by kernel_rfl) (by kernel_rfl) (by exact fun _ _ _ h => h) (by rfl) (by (intro w hSw; (try dsimp only at hSw); go_simp <;> with_reducible rfl)) (by assumption) ?_; try simp only [Act.put, List.setIfInBounds_toArray, List.set_cons_zero, List.set_cons_succ])
        (refine tkI 2 (by (simp only [List.getElem?_toArray, List.getElem?_cons_succ, List.getElem?_cons_zero]; rfl)) (by kernel_rfl) (by kernel_rfl) (by kernel_rfl) (by exact fun _ _ _ h => h) (by rfl) (by (intro w hSw; (try dsimp only at hSw); go_simp <;> with_reducible rfl)) (by assumption) ?_; try simp only [Act.put, List.setIfInBounds_toArray, List.set_cons_zero, List.set_cons_succ])
        (refine tkI 3 (by (simp only [List.getElem?_toArray, List.getElem?_cons_succ, List.getElem?_cons_zero]; rfl)) (by kernel_rfl) (by kernel_rfl) (by kernel_rfl) (by exact fun _ _ _ h => h) (by rfl) (by (intro w hSw; (try dsimp only at hSw); go_simp <;> with_reducible rfl)) (by assumption) ?_; try simp only [Act.put, List.setIfInBounds_toArray, List.set_cons_zero, List.set_cons_succ])
        (refine tkI 4 (by (simp only [List.getElem?_toArray, List.getElem?_cons_succ, List.getElem?_cons_zero]; rfl)) (by kernel_rfl) (by kernel_rfl) (by kernel_rfl) (by exact fun _ _ _ h => h) (by rfl) (by (intro w hSw; (try dsimp only at hSw); go_simp <;> with_reducible rfl)) (by assumption) ?_; try simp only [Act.put, List.setIfInBounds_toArray, List.set_cons_zero, List.set_cons_succ])
        (refine tkI 5 (by (simp only [List.getElem?_toArray, List.getElem?_cons_succ, List.getElem?_cons_zero]; rfl)) (by kernel_rfl) (by kernel_rfl) (by kernel_rfl) (by exact fun _ _ _ h => h) (by rfl) (by (intro w hSw; (try dsimp only at hSw); go_simp <;> with_reducible rfl)) (by assumption) ?_; try simp only [Act.put, List.setIfInBounds_toArray, List.set_cons_zero, List.set_cons_succ])
        (refine tkI 6 (by (simp only [List.getElem?_toArray, List.getElem?_cons_succ, List.getElem?_cons_zero]; rfl)) (by kernel_rfl) (by kernel_rfl) (by kernel_rfl) (by exact fun _ _ _ h => h) (by rfl) (by (intro w hSw; (try dsimp only at hSw); go_simp <;> with_reducible rfl)) (by assumption) ?_; try simp only [Act.put, List.setIfInBounds_toArray, List.set_cons_zero, List.set_cons_succ])
        (refine tkI 7 (by (simp only [List.getElem?_toArray, List.getElem?_cons_succ, List.getElem?_cons_zero]; rfl)) (by kernel_rfl) (by kernel_rfl) (by kernel_rfl) (by exact fun _ _ _ h => h) (by rfl) (by (intro w hSw; (try dsimp only at hSw); go_simp <;> with_reducible rfl)) (by assumption) ?_; try simp only [Act.put, List.setIfInBounds_toArray, List.set_cons_zero, List.set_cons_succ])
        (refine tkI 8 (by (simp only [List.getElem?_toArray, List.getElem?_cons_succ, List.getElem?_cons_zero]; rfl)) (by kernel_rfl) (by kernel_rfl) (by kernel_rfl) (by exact fun _ _ _ h => h) (by rfl) (by (intro w hSw; (try dsimp only at hSw); go_simp <;> with_reducible rfl)) (by assumption) ?_; try simp only [Act.put, List.setIfInBounds_toArray, List.set_cons_zero, List.set_cons_succ])
        (refine tkI 9 (by (simp only [List.getElem?_toArray, List.getElem?_cons_succ, List.getElem?_cons_zero]; rfl)) (by kernel_rfl) (by kernel_rfl) (by kernel_rfl) (by exact fun _ _ _ h => h) (by rfl) (by (intro w hSw; (try dsimp only at hSw); go_simp <;> with_reducible rfl)) (by assumption) ?_; try simp only [Act.put, List.setIfInBounds_toArray, List.set_cons_zero, List.set_cons_succ])
        refine wpAnyH_ready (rs := [10]) (by kernel_rfl) (by simp) ?_
        refine AllReadyH.cons (by (simp only [List.getElem?_toArray, List.getElem?_cons_succ, List.getElem?_cons_zero]; rfl)) (fun K hK => ?_) AllReadyH.nil
        go_simp
        refine hK.out _ _ sd9 (fun hHeld2 => ?_)
        clear hK K hHeld
        clear hHeld2
        try simp only [Act.put, List.setIfInBounds_toArray, List.set_cons_zero, List.set_cons_succ]
        refine wpAnyH_done (by kernel_rfl) ?_ _
        clear hrun9 sd9 sd
        go_wp2
        go_roundw
        case measure => simp [intOf]; omega
        case rel =>
          refine ⟨j + 1, by go_num, by omega, ?_, hK9, hR9⟩
          rw [htk.out, putsF_snoc, putsK_snoc]
          exact hS9
      · have hjn : j = n := by omega
        have hlz : ¬ (j : Int) < (n : Int) := by omega
        subst hjn
        have htk : ps.take j = ps := List.take_of_length_le (by rw [hpn.out]; omega)
        rw [htk] at hS
        rw [← hll.out] at hS
        rw [← hps.out] at hS
        have hfin : DoW w wr p b N f ks k l := .inr ⟨hD.out, hS, hKp⟩
        replace hfin := Lib.hid hfin
        clear hS hR hKp htk
        go_wp2
        go_ret
        exact ⟨(by rw [hD.out] <;> rfl), hfin.out⟩
end
section
open Go.RowKit Go.Maps Go.Shelf Go.Sort
set_option linter.unusedVariables false
set_option linter.unusedSimpArgs false

/-- How many more there are; what becomes of the row. -/
def moreR (r : Row) (n : Int) : Int := wrap64 (wrap64 (n - r.he) - r.fr)
def cntR (r : Row) (n : Int) : Row := ⟨wrap64 (r.fr + moreR r n), r.he, r.pi, r.sa, r.re, r.rt, wrap64 (r.cn + moreR r n), r.cm, r.sh, r.sc, r.se⟩
/-- What Count answers. -/
def cntE (f : List UInt8 → Row) (ks : List (List UInt8)) (s : List UInt8) (n : Int) : Int :=
  if cMay n = false then 1 else if s ∉ ks then 71 else if n < (f s).he then 70 else if overR (cntR (f s) n) = true then 50 else 0
def CntW (w w' : World) (p b N : Nat) (f : List UInt8 → Row) (ks : List (List UInt8)) (s : List UInt8) (n : Int) : Prop :=
  (cntE f ks s n ≠ 0 ∧ Below w.heap.size w w') ∨ (cntE f ks s n = 0 ∧ ST w' p b (N + 1) (fun k => if k = s then cntR (f s) n else f k) (addS ks s) ∧ Keep (fun i => i = b) w w')
set_option maxRecDepth 100000 in
theorem look_row2 {W : World} {p b N : Nat} {f : List UInt8 → Row} {ks : List (List UInt8)} (h : ST W p b N f ks) (s : List UInt8) (hs : s.length ≤ maxLen) : (Instr.lookup 48 (.map (some b)) (.string ⟨s.toArray⟩) true).run Tryz.prog W = .ok (.tuple #[(f s).v, .bool (decide (s ∈ ks))]) W := by
  obtain ⟨D, hm, hsr⟩ := h.mp
  obtain ⟨v, ps, hrun, hv⟩ := hm.look_ok (string_keyed Tryz.underlying9) Tryz.underlying48 (zero_row _) (show rR row0.v = some (.held row0.v, []) from rfl) (key := .string ⟨s.toArray⟩) (kl := .string s) (keyS s hs)
  rw [hsr.val s] at hv
  obtain rfl : v = (f s).v := by injection hv with e; injection e with e; injection e with e
  rw [hsr.has_ s] at hrun
  exact hrun
set_option maxRecDepth 100000 in
set_option maxHeartbeats 6400000 in
theorem count_any (s : List UInt8) (n : Int) (w : World) {p b N : Nat} {f : List UInt8 → Row} {ks : List (List UInt8)} (h : ST w p b N f ks) (hsl : s.length ≤ maxLen) (hN : N < maxLen) :
    Calls Tryz.prog 25 #[.pointer (some ⟨p, 0, none⟩), .string ⟨s.toArray⟩, .int .i64 n] w fun e w' => e = .returned (.tuple #[.int .i64 (if cntE f ks s n = 0 then moreR (f s) n else 0), .int .i64 (cntE f ks s n)]) ∧ CntW w w' p b N f ks s n := by
  have hlk := look_row2 h s hsl
  have p0 := h.pc.cell 0
  simp only [List.getElem?_toArray, List.getElem?_cons_zero] at p0
  obtain ⟨r, hr⟩ : ∃ r, f s = r := ⟨_, rfl⟩
  have hE : cntE f ks s n = if cMay n = false then 1 else if s ∉ ks then 71 else if n < r.he then 70 else if overR (cntR r n) = true then 50 else 0 := by rw [← hr]; rfl
  have hU := fun (W : World) (hW : ST W p b N f ks) => hW.upd hN s hsl (cntR (f s) n)
  unfold CntW
  generalize cntE f ks s n = E at hE ⊢
  rw [hr] at hlk hU ⊢
  unfold Row.v at hlk
  obtain ⟨x0, x1, x2, x3, x4, x5, x6, x7, x8, x9, x10⟩ := r
  dsimp only at hE hlk
  obtain ⟨M, hM⟩ : ∃ M, moreR ⟨x0, x1, x2, x3, x4, x5, x6, x7, x8, x9, x10⟩ n = M := ⟨_, rfl⟩
  have hMd : wrap64 (wrap64 (n - x1) - x0) = M := hM
  have hC : cntR ⟨x0, x1, x2, x3, x4, x5, x6, x7, x8, x9, x10⟩ n = ⟨(wrap64 (x0 + M)), x1, x2, x3, x4, x5, (wrap64 (x6 + M)), x7, x8, x9, x10⟩ := by rw [← hM]; rfl
  rw [hC] at hU hE ⊢
  rw [hM]
  have hov := fun (W : World) => hg_over ⟨(wrap64 (x0 + M)), x1, x2, x3, x4, x5, (wrap64 (x6 + M)), x7, x8, x9, x10⟩ W
  obtain ⟨OV, hOV⟩ : ∃ OV, overR ⟨(wrap64 (x0 + M)), x1, x2, x3, x4, x5, (wrap64 (x6 + M)), x7, x8, x9, x10⟩ = OV := ⟨_, rfl⟩
  rw [hOV] at hE
  simp only [hOV] at hov
  clear hOV hM hC hr
  have hb1 := (Below.refl w.heap.size w).alloc (Nat.le_refl _) (.cells #[.int .i64 (wrap64 (x0 + M)), .int .i64 x1, .int .i64 x2, .int .i64 x3, .int .i64 x4, .int .i64 x5, .int .i64 (wrap64 (x6 + M)), .int .i64 x7, .int .i64 x8, .int .i64 x9, .int .i64 x10] 44)
  have hal := Blk.new w 44 #[.int .i64 (wrap64 (x0 + M)), .int .i64 x1, .int .i64 x2, .int .i64 x3, .int .i64 x4, .int .i64 x5, .int .i64 (wrap64 (x6 + M)), .int .i64 x7, .int .i64 x8, .int .i64 x9, .int .i64 x10]
  generalize hy0 : wrap64 (x0 + M) = y0 at *
  generalize hy6 : wrap64 (x6 + M) = y6 at *
  go_enter Tryz.func25, Tryz.ntmps25
  replace hov : ∀ (W : World), Calls Tryz.prog 15 #[.agg #[.int .i64 y0, .int .i64 x1, .int .i64 x2, .int .i64 x3, .int .i64 x4, .int .i64 x5, .int .i64 y6, .int .i64 x7, .int .i64 x8, .int .i64 x9, .int .i64 x10]] W fun e w' => e = .returned (.bool OV) ∧ Below W.heap.size W w' := hov
  cases hkn : decide (s ∈ ks) with
  | false =>
    have hns : s ∉ ks := of_decide_eq_false hkn
    rw [hkn] at hlk
    go_wp2_with fail
    refine (may_any n _).mono ?_
    rintro e w1 ⟨rfl, hw1⟩
    subst hw1
    cases hm : cMay n with
    | false =>
      have hE1 : E = 1 := by rw [hE]; simp [hm]
      clear hE
      subst hE1
      go_wp2
      go_ret2
      exact ⟨(by first | rfl | simp), hb1⟩
    | true =>
      have hE1 : E = 71 := by rw [hE]; simp [hm, hns]
      clear hE
      subst hE1
      go_wp2
      go_ret2
      exact ⟨(by first | rfl | simp), hb1⟩
  | true =>
    have hns : s ∈ ks := of_decide_eq_true hkn
    rw [hkn] at hlk
    go_wp2_with fail
    refine (may_any n _).mono ?_
    rintro e w1 ⟨rfl, hw1⟩
    subst hw1
    cases hm : cMay n with
    | false =>
      have hE1 : E = 1 := by rw [hE]; simp [hm]
      clear hE
      subst hE1
      go_wp2
      go_ret2
      exact ⟨(by first | rfl | simp), hb1⟩
    | true =>
    by_cases hlt : n < x1
    · have dlt : decide (n < x1) = true := decide_eq_true hlt
      have hE1 : E = 70 := by rw [hE]; simp [hm, hns, hlt]
      clear hE
      subst hE1
      go_wp2
      go_ret2
      exact ⟨(by first | rfl | simp), hb1⟩
    have dlt : decide (n < x1) = false := decide_eq_false hlt
    go_wp2_with fail
    refine (hov _).mono ?_
    rintro e w2 ⟨rfl, hb2⟩
    have hb3 := hb1.trans (hb2.mono hb1.size)
    cases OV with
    | true =>
      have hE1 : E = 50 := by rw [hE]; simp [hm, hns, hlt]
      clear hE
      subst hE1
      go_wp2
      go_ret2
      exact ⟨(by first | rfl | simp), hb3⟩
    | false =>
      have hE1 : E = 0 := by rw [hE]; simp [hm, hns, hlt]
      clear hE
      subst hE1
      have hal2 := hal.kept (Keep.of_below hb2) (Nat.not_le.2 hal.lt)
      have hS2 := h.below hb3
      obtain ⟨B, hB⟩ : ∃ B, w.heap.size = B := ⟨_, rfl⟩
      have hbB : b < B := by rw [← hB]; exact h.lt.2
      rw [hB] at hal2
      clear hov hlk p0 hal hb1
      go_wp2
      have s0 := hS2.pc.cell 0
      simp only [List.getElem?_toArray, List.getElem?_cons_zero] at s0
      have z0 := hal2.cell 0
      have z1 := hal2.cell 1
      have z2 := hal2.cell 2
      have z3 := hal2.cell 3
      have z4 := hal2.cell 4
      have z5 := hal2.cell 5
      have z6 := hal2.cell 6
      have z7 := hal2.cell 7
      have z8 := hal2.cell 8
      have z9 := hal2.cell 9
      have z10 := hal2.cell 10
      simp only [List.getElem?_toArray, List.getElem?_cons_succ, List.getElem?_cons_zero] at z0 z1 z2 z3 z4 z5 z6 z7 z8 z9 z10
      have sd : (fun W' => W'.cell? ⟨p, 0, none⟩ = some (.map (some b)) ∧ W'.cell? ⟨B, 0, none⟩ = some (.int .i64 y0) ∧ W'.cell? ⟨B, 1, none⟩ = some (.int .i64 x1) ∧ W'.cell? ⟨B, 2, none⟩ = some (.int .i64 x2) ∧ W'.cell? ⟨B, 3, none⟩ = some (.int .i64 x3) ∧ W'.cell? ⟨B, 4, none⟩ = some (.int .i64 x4) ∧ W'.cell? ⟨B, 5, none⟩ = some (.int .i64 x5) ∧ W'.cell? ⟨B, 6, none⟩ = some (.int .i64 y6) ∧ W'.cell? ⟨B, 7, none⟩ = some (.int .i64 x7) ∧ W'.cell? ⟨B, 8, none⟩ = some (.int .i64 x8) ∧ W'.cell? ⟨B, 9, none⟩ = some (.int .i64 x9) ∧ W'.cell? ⟨B, 10, none⟩ = some (.int .i64 x10)) w2.drew := ⟨s0, z0, z1, z2, z3, z4, z5, z6, z7, z8, z9, z10⟩
      have hS3 : ST w2.drew p b N f ks := h.below hb3.drew
      have hK3 : Keep (fun i => i = b) w w2.drew := Keep.ofB hb3.drew
      refine wp_region_held_drew (S := (fun W' => W'.cell? ⟨p, 0, none⟩ = some (.map (some b)) ∧ W'.cell? ⟨B, 0, none⟩ = some (.int .i64 y0) ∧ W'.cell? ⟨B, 1, none⟩ = some (.int .i64 x1) ∧ W'.cell? ⟨B, 2, none⟩ = some (.int .i64 x2) ∧ W'.cell? ⟨B, 3, none⟩ = some (.int .i64 x3) ∧ W'.cell? ⟨B, 4, none⟩ = some (.int .i64 x4) ∧ W'.cell? ⟨B, 5, none⟩ = some (.int .i64 x5) ∧ W'.cell? ⟨B, 6, none⟩ = some (.int .i64 y6) ∧ W'.cell? ⟨B, 7, none⟩ = some (.int .i64 x7) ∧ W'.cell? ⟨B, 8, none⟩ = some (.int .i64 x8) ∧ W'.cell? ⟨B, 9, none⟩ = some (.int .i64 x9) ∧ W'.cell? ⟨B, 10, none⟩ = some (.int .i64 x10))) (by kernel_rfl) sd (fun hHeld => ?_)
      generalize w2.drew = wz at *
      obtain ⟨w9, hrun9, hS9, hk9⟩ := hU wz hS3
      have hK9 := hK3.trans hk9 (fun i hi e => e)
      have cc : ∀ (a : Addr) (v : Value), wz.cell? a = some v → a.block ≠ b → w9.cell? a = some v := fun a v h1 h2 => hk9.cell h1 h2
      have sd9 : (fun W' => W'.cell? ⟨p, 0, none⟩ = some (.map (some b)) ∧ W'.cell? ⟨B, 0, none⟩ = some (.int .i64 y0) ∧ W'.cell? ⟨B, 1, none⟩ = some (.int .i64 x1) ∧ W'.cell? ⟨B, 2, none⟩ = some (.int .i64 x2) ∧ W'.cell? ⟨B, 3, none⟩ = some (.int .i64 x3) ∧ W'.cell? ⟨B, 4, none⟩ = some (.int .i64 x4) ∧ W'.cell? ⟨B, 5, none⟩ = some (.int .i64 x5) ∧ W'.cell? ⟨B, 6, none⟩ = some (.int .i64 y6) ∧ W'.cell? ⟨B, 7, none⟩ = some (.int .i64 x7) ∧ W'.cell? ⟨B, 8, none⟩ = some (.int .i64 x8) ∧ W'.cell? ⟨B, 9, none⟩ = some (.int .i64 x9) ∧ W'.cell? ⟨B, 10, none⟩ = some (.int .i64 x10)) w9 := ⟨cc _ _ sd.1 h.ne, cc _ _ (sd.2.1) (by show B ≠ b; omega), cc _ _ (sd.2.2.1) (by show B ≠ b; omega), cc _ _ (sd.2.2.2.1) (by show B ≠ b; omega), cc _ _ (sd.2.2.2.2.1) (by show B ≠ b; omega), cc _ _ (sd.2.2.2.2.2.1) (by show B ≠ b; omega), cc _ _ (sd.2.2.2.2.2.2.1) (by show B ≠ b; omega), cc _ _ (sd.2.2.2.2.2.2.2.1) (by show B ≠ b; omega), cc _ _ (sd.2.2.2.2.2.2.2.2.1) (by show B ≠ b; omega), cc _ _ (sd.2.2.2.2.2.2.2.2.2.1) (by show B ≠ b; omega), cc _ _ (sd.2.2.2.2.2.2.2.2.2.2.1) (by show B ≠ b; omega), cc _ _ (sd.2.2.2.2.2.2.2.2.2.2.2) (by show B ≠ b; omega)⟩
      change Sem.run _ (Instr.mapUpdate _ _ _ (.agg #[.int .i64 y0, .int .i64 x1, .int .i64 x2, .int .i64 x3, .int .i64 x4, .int .i64 x5, .int .i64 y6, .int .i64 x7, .int .i64 x8, .int .i64 x9, .int .i64 x10])) _ = _ at hrun9
      clear cc s0 z0 z1 z2 z3 z4 z5 z6 z7 z8 z9 z10
      (refine tkI 0 (by (simp only [List.getElem?_toArray, List.getElem?_cons_succ, List.getElem?_cons_zero]; rfl)) (by kernel_rfl) (by kernel_rfl) (by kernel_rfl) (by exact fun _ _ _ h => h) (by rfl) (by (intro w hSw; (try dsimp only at hSw); go_simp <;> with_reducible rfl)) (by assumption) ?_; try simp only [Act.put, List.setIfInBounds_toArray, List.set_cons_zero, List.set_cons_succ])
      (refine tkI 1 (by (simp only [List.getElem?_toArray, List.getElem?_cons_succ, List.getElem?_cons_zero]; rfl)) (by kernel_rfl) (by kernel_rfl) (by kernel_rfl) (by exact fun _ _ _ h => h) (by rfl) (by (intro w hSw; (try dsimp only at hSw); go_simp <;> with_reducible rfl)) (by assumption) ?_; try simp only [Act.put, List.setIfInBounds_toArray, List.set_cons_zero, List.set_cons_succ])
      (refine tkI 2 (by (simp only [List.getElem?_toArray, List.getElem?_cons_succ, List.getElem?_cons_zero]; rfl)) (by kernel_rfl) (by kernel_rfl) (by kernel_rfl) (by exact fun _ _ _ h => h) (by rfl) (by (intro w hSw; (try dsimp only at hSw); go_simp <;> with_reducible rfl)) (by assumption) ?_; try simp only [Act.put, List.setIfInBounds_toArray, List.set_cons_zero, List.set_cons_succ])
      (refine tkI 3 (by (simp only [List.getElem?_toArray, List.getElem?_cons_succ, List.getElem?_cons_zero]; rfl)) (by kernel_rfl) (by kernel_rfl) (by kernel_rfl) (by exact fun _ _ _ h => h) (by rfl) (by (intro w hSw; (try dsimp only at hSw); go_simp <;> with_reducible rfl)) (by assumption) ?_; try simp only [Act.put, List.setIfInBounds_toArray, List.set_cons_zero, List.set_cons_succ])
      (refine tkI 4 (by (simp only [List.getElem?_toArray, List.getElem?_cons_succ, List.getElem?_cons_zero]; rfl)) (by kernel_rfl) (by kernel_rfl) (by kernel_rfl) (by exact fun _ _ _ h => h) (by rfl) (by (intro w hSw; (try dsimp only at hSw); go_simp <;> with_reducible rfl)) (by assumption) ?_; try simp only [Act.put, List.setIfInBounds_toArray, List.set_cons_zero, List.set_cons_succ])
      (refine tkI 5 (by (simp only [List.getElem?_toArray, List.getElem?_cons_succ, List.getElem?_cons_zero]; rfl)) (by kernel_rfl) (by kernel_rfl) (by kernel_rfl) (by exact fun _ _ _ h => h) (by rfl) (by (intro w hSw; (try dsimp only at hSw); go_simp <;> with_reducible rfl)) (by assumption) ?_; try simp only [Act.put, List.setIfInBounds_toArray, List.set_cons_zero, List.set_cons_succ])
      refine wpAnyH_ready (rs := [6]) (by kernel_rfl) (by simp) ?_
      refine AllReadyH.cons (by (simp only [List.getElem?_toArray, List.getElem?_cons_succ, List.getElem?_cons_zero]; rfl)) (fun K hK => ?_) AllReadyH.nil
      go_simp
      refine hK.out _ _ sd9 (fun hHeld2 => ?_)
      clear hK K hHeld
      clear hHeld2
      try simp only [Act.put, List.setIfInBounds_toArray, List.set_cons_zero, List.set_cons_succ]
      refine wpAnyH_done (by kernel_rfl) ?_ _
      clear hrun9 sd9 sd
      go_wp2
      go_ret2
      exact ⟨(by first | rfl | simp | (rw [if_pos rfl] <;> rfl)), hS9, hK9⟩
end
section
open Go.RowKit Go.Maps Go.Shelf Go.Sort
set_option linter.unusedVariables false
set_option linter.unusedSimpArgs false
attribute [local go_sem] Oper.semAt_some

theorem wpAppIP {F : Fence} {n : Nat} {w : World} {ops : Array Oper} {rest : List Oper} {o : Oper} {a : Act} {Q : Exit → Act → World → Prop} (hgd : o.guard = none) (s x : Operand) (ho : o.op = .call { callee := .builtin .append, args := #[s, x], argTypes := #[67, 67] })
    (base : Nat) (v : Value) (l : List It) (hs : a.eval s = v) (hown : OI base w v l) (A : Option Addr) (m c : Nat) (news : List It) (hx : a.eval x = .slice A m c) (hr : IL w A m news) (hmn : A = none → m = 0)
    (hn : (l.length + m) * 24 ≤ 140737488355328) (hbase : base ≤ w.heap.size)
    (h : ∀ v' w', OI base w' v' (l ++ news) → Keep (fun k => v.ownBlock = some k) w w' → (v'.ownBlock = v.ownBlock ∨ v'.ownBlock = some w.heap.size) → wpListIn F n Tryz.prog ops Q rest (a.put o.dst v') w') : wpListIn F n Tryz.prog ops Q (o :: rest) a w := by
  refine wpListIn_plain hgd fun K hK => ?_
  obtain ⟨v', w', hrun, h2, h3, h4⟩ := run_appI w base o.type v l hown A m c news hr hmn hn hbase
  unfold Oper.wpIn
  refine ⟨?_, ?_⟩
  · simp [Oper.about, ho, resolve, Target.leads, Sem.run_pure]
  · rw [Oper.semAt_plain F _ _ (by rw [ho]; intro c hc'; cases hc')]
    simp [execOp, ho, resolve, invoke, builtin, hs, hx, hrun, Result.andThen]
    exact hK _ _ (h v' w' h2 h3 h4)
theorem OI.growP {base n : Nat} {X Y : World} {v : Value} {l : List It} {row : Option Nat} (h : OI base X v l) (hg : X.grownBy Y row) (hr : ∀ r, row = some r → n ≤ r ∧ ∃ o : Obj, X.heap[r]? = some o ∧ o.isCells = false) : OI base Y v l :=
  h.kept (Keep.of_grown hg) fun g hgv => by
    obtain ⟨o, h1, h2⟩ := h.blk g hgv
    exact row_not hr h1 h2
/-- What is free of a list's goods. -/
def freeL (f : List UInt8 → Row) (l : List It) : List It := (l.filter fun x => decide (0 < (f x.1).fr)).map fun x => (x.1, (f x.1).fr)
theorem freeL_snoc (f : List UInt8 → Row) (l : List It) (s : List UInt8) (q : Int) : freeL f (l ++ [(s, q)]) = if 0 < (f s).fr then freeL f l ++ [(s, (f s).fr)] else freeL f l := by
  unfold freeL
  rw [List.filter_append, List.map_append]
  by_cases h : 0 < (f s).fr <;> simp [h]
theorem freeL_len (f : List UInt8 → Row) (l : List It) : (freeL f l).length ≤ l.length := by
  unfold freeL
  rw [List.length_map]
  exact List.length_filter_le _ _
theorem lev_free (a0 a1 a2 a3 : Value) (w : World) : (Instr.field 40 (.agg #[a0, a1, a2, a3]) 0).run Tryz.prog w = .ok a0 w := by kernel_rfl
structure FinI (w : World) (n₀ : Nat) (W : World) (p : Nat) (v : Value) (l : List It) : Prop where
  hP : CL W (w.heap.size) (.pointer (some ⟨p, 0, none⟩))
  hT : CL W (w.heap.size + 1) v
  hO : OI n₀ W v l
  hb : Below w.heap.size w W
  hz : w.heap.size + 1 < n₀
  hn : n₀ ≤ W.heap.size
section
variable {w W w6 w7 : World} {n₀ p : Nat} {v v7 : Value} {l l7 : List It}
theorem FinI.low (h : FinI w n₀ W p v l) (b6 : Below W.heap.size W w6) : FinI w n₀ w6 p v l :=
  ⟨h.hP.below b6, h.hT.below b6, h.hO.below b6, h.hb.trans (b6.mono h.hb.size), h.hz, by have := h.hn; have := b6.size; omega⟩
theorem FinI.cl (h : FinI w n₀ W p v l) (hK7 : Keep (fun k => v.ownBlock = some k) w6 w7) (b6 : Below W.heap.size W w6) : CL w7 (w.heap.size + 1) v :=
  (h.hT.below b6).kept hK7 (fun e => by have := (h.hO.lt _ e).1; have := h.hz; omega)
theorem FinI.keep (h : FinI w n₀ W p v l) (hK7 : Keep (fun k => v.ownBlock = some k) w6 w7) (b6 : Below W.heap.size W w6) (u : Value) : Keep (fun k => k = w.heap.size + 1 ∨ v.ownBlock = some k) W (w7.setCell ⟨w.heap.size + 1, 0, none⟩ u) :=
  ((Keep.ofB (S := fun k => k = w.heap.size + 1 ∨ v.ownBlock = some k) b6).trans hK7 (fun i hi e => .inr e)).setCell (p := ⟨w.heap.size + 1, 0, none⟩) (fun _ => .inl rfl) u
theorem FinI.next (h : FinI w n₀ W p v l) (hK7 : Keep (fun k => v.ownBlock = some k) w6 w7) (b6 : Below W.heap.size W w6) (hO7 : OI n₀ w7 v7 l7) : FinI w n₀ (w7.setCell ⟨w.heap.size + 1, 0, none⟩ v7) p v7 l7 := by
  have hk := h.keep hK7 b6 v7
  have hz := h.hz
  have hn := h.hn
  have hsz := hk.size
  refine ⟨h.hP.kept hk ?_, (h.cl hK7 b6).set_ v7, hO7.kept ((Keep.refl (fun k => k = w.heap.size + 1) w7).setCell (p := ⟨w.heap.size + 1, 0, none⟩) (fun _ => rfl) v7) (fun g hg e => by have := (hO7.lt g hg).1; omega), h.hb.trans (hk.below h.hb.size ?_), hz, by omega⟩
  · rintro (e | e)
    · omega
    · have := (h.hO.lt _ e).1
      omega
  · rintro i hi (e | e)
    · omega
    · have := (h.hO.lt _ e).1
      omega
theorem FinI.out (h : FinI w n₀ W p v l) (hK7 : Keep (fun k => v.ownBlock = some k) w6 w7) (b6 : Below W.heap.size W w6) : KeepsFrom n₀ W (w7.setCell ⟨w.heap.size + 1, 0, none⟩ v7) ∧ KX n₀ (fun k => k = w.heap.size + 1) W (w7.setCell ⟨w.heap.size + 1, 0, none⟩ v7) := by
  have hk := h.keep hK7 b6 v7
  refine ⟨hk.from fun i hi hB e => ?_, hk.kx h.hn fun i hi e => ?_⟩
  · rcases e with e | e
    · have := h.hz
      omega
    · exact h.hO.blk i e
  · rcases e with e | e
    · exact e
    · have := (h.hO.lt _ e).1
      omega
end
set_option maxRecDepth 100000 in
set_option maxHeartbeats 3200000 in
theorem offer_any (A : Option Addr) (n c : Nat) (l : List It) (w : World) {p b N : Nat} {f : List UInt8 → Row} {ks : List (List UInt8)} (h : ST w p b N f ks) (hl : IL w A n l) (hn : n * 24 ≤ 140737488355328) (hwl : WL l) (hw : ∀ x ∈ l, x.1.length ≤ maxLen) :
    Calls Tryz.prog 28 #[.pointer (some ⟨p, 0, none⟩), .slice A n c] w fun e w' => ∃ v, e = .returned v ∧ OI w.heap.size w' v (meetL l (freeL f l)) ∧ Below w.heap.size w w' := by
  have hlen := hl.len
  refine (callsIn_wide (n := 9)).1 ?_
  refine callsIn_of_wp_marks Tryz.func28 rfl trivial ?_ rfl
  simp only [Tryz.ntmps28, List.size_toArray, List.length_cons, List.length_nil, Nat.reduceAdd, Nat.reduceSub, Array.replicate_succ, Array.replicate_zero, List.push_toArray, List.append_toArray, List.nil_append, List.cons_append]
  have hP0 := CL.new w (.pointer (some ⟨p, 0, none⟩)) 23
  have hl0 := hl.alloc (.cells #[.pointer (some ⟨p, 0, none⟩)] 23)
  have hl2 := hl0.alloc (.cells #[.slice none 0 0] 67)
  have hb0 := (Below.refl w.heap.size w).alloc (Nat.le_refl _) (.cells #[.pointer (some ⟨p, 0, none⟩)] 23)
  have hb2' := hb0.alloc hb0.size (.cells #[.slice none 0 0] 67)
  have hT1 := CL.new (w.alloc (.cells #[.pointer (some ⟨p, 0, none⟩)] 23)) (.slice none 0 0) 67
  rw [World.size_alloc] at hT1
  have hP1 := hP0.alloc (.cells #[.slice none 0 0] 67)
  gi_wp2_with (refine ⟨trivial, ?_⟩; gi_at_call 55; refine (callsIn_wide.2 (all_new A n c l _ (by assumption) (by omega))).mono ?_; rintro e w2 ⟨B, CA, cc, rfl, hBl, hC, hil, hCN, hb2⟩)
  generalize hW1 : (w.alloc (.cells #[.pointer (some ⟨p, 0, none⟩)] 23)).alloc (.cells #[.slice none 0 0] 67) = W1 at *
  have hz1 : W1.heap.size = w.heap.size + 2 := by rw [← hW1]; simp
  have hbw2 := hb2'.trans (hb2.mono hb2'.size)
  have hP2 := hP1.below hb2
  have hT2 := hT1.below hb2
  have hz2 := hb2.size
  have hCA := hil.lt
  clear hW1 hP0 hl0 hl2 hb0 hP1 hT1
  refine range_over' CA l.length cc l B (fun k => k = w.heap.size + 1) rfl rfl hC.at_ hil (fun ad h h' => ?ca) (by omega)
    (fun pre W => ∃ v, FinI w w2.heap.size W p v (freeL f pre))
    (fun c pre W => False)
    (fun s X Y row h hg hr => by
      obtain ⟨v, q⟩ := h
      have hsz := hg.size
      exact ⟨v, q.hP.row hg hr, q.hT.row hg hr, q.hO.growP hg hr, below_row q.hb hg (by have := q.hz; have := q.hn; omega) (by have := q.hz; omega) hr, q.hz, by have := q.hn; omega⟩)
    (fun c s X Y row h hg hr => h)
    ⟨_, hP2, hT2, OI.nil _ _, hbw2, by omega, Nat.le_refl _⟩ ?round ?done ?stop
  case ca =>
    have h1 := hCN ad h h'
    show ad.block ≠ w.heap.size + 1
    omega
  case round =>
    apply Exists.intro
    constructor
    · intro l' x W K hx hK
      gi_wp2
      exact hK
    · rintro l' pre ⟨s, q⟩ W hx hzW ⟨v, fin⟩ hlen
      dsimp only at hx ⊢
      have hST := h.below fin.hb
      have hsl := hw _ hx
      have hlv := level_any W hST s hsl
      have hsn := freeL_snoc f pre s q
      have hfl := freeL_len f pre
      generalize (f s).fr = x at hlv hsn
      have c0 := fin.hP.at_
      by_cases hx0 : 0 < x
      · have hxd : decide (0 < x) = true := decide_eq_true hx0
        rw [if_pos hx0] at hsn
        gi_wp2_with (first | (refine ⟨trivial, ?_⟩; gi_at_call 26; refine (CallsIn.inRound l' (callsIn_wide.2 hlv)).mono ?_; rintro e W2 ⟨rfl, hb2⟩; have hfd := lev_free (.int .i64 x) (.int .i64 (f s).he) (.int .i64 (f s).pi) (.int .i64 (f s).sa) W2; have c1 := (fin.hT.below hb2).at_; have c2 := ((fin.hT.below hb2).alloc (.cells #[.string ⟨s.toArray⟩, .int .i64 x] 66)).at_) | (gi_at_builtin; refine wpAppIP rfl _ _ rfl w2.heap.size _ _ rfl ((fin.hO.below hb2).alloc _) _ 1 1 [(s, x)] rfl (IL.one W2 s x _) (fun h => by cases h) (by omega) (by have := fin.hn; have := hb2.size; simp; omega) ?_; rintro v7 W7 hO7 hK7 _; have b6 := hb2.alloc hb2.size (.cells #[.string ⟨s.toArray⟩, .int .i64 x] 66); have c7 := fin.cl hK7 b6; have f7 := c7.fz; have c7a := c7.at_; obtain ⟨A7, cap7, rfl, _⟩ := hO7.form; simp only [List.length_append, List.length_cons, List.length_nil, Nat.zero_add] at hO7))
        have o7 := fun u => fin.out (v7 := u) hK7 b6
        have fz := fin.next hK7 b6 hO7
        rw [← hsn] at fz
        exact ⟨(o7 _).1, (o7 _).2, _, fz⟩
      · have hxd : decide (0 < x) = false := decide_eq_false hx0
        rw [if_neg hx0] at hsn
        gi_wp2_with (refine ⟨trivial, ?_⟩; gi_at_call 26; refine (CallsIn.inRound l' (callsIn_wide.2 hlv)).mono ?_; rintro e W2 ⟨rfl, hb2⟩; have hfd := lev_free (.int .i64 x) (.int .i64 (f s).he) (.int .i64 (f s).pi) (.int .i64 (f s).sa) W2)
        have fz := fin.low hb2
        rw [← hsn] at fz
        exact ⟨Keep.from_below hb2, (Keep.ofB hb2).kx fin.hn (fun i hi e => e), _, fz⟩
  case done =>
    rintro D W hD ⟨v, fin⟩ hDf
    obtain ⟨A7, cap7, rfl, hc7, hm7, hil7, _⟩ := fin.hO.form
    have hl7 := hl.below fin.hb
    have hfl := freeL_len f l
    have c1 := fin.hT.at_
    gi_wp2_with fail
    refine ⟨trivial, ?_⟩
    refine (callsIn_wide.2 (meet_any A A7 n c (freeL f l).length cap7 l (freeL f l) W hl7 hil7 (by omega) (by omega) hwl)).mono ?_
    rintro e W3 ⟨v3, rfl, ho3, hb3⟩
    gi_wp2
    have hDf3 : W3.heap[D]? = some (.deferred (some [])) := (hb3.block D (Array.getElem?_eq_some_iff.1 hDf).1).trans hDf
    have hz := fin.hz
    have hb4 := fin.hb.trans (hb3.mono fin.hb.size)
    refine ⟨by simp, .inl ⟨_, _, rfl, run_takeDeferred hDf3, ?_⟩⟩
    exact ⟨v3, by simp [results, Tryz.results28, go_sem], v3, rfl, (ho3.mono fin.hb.size).putD hDf3, below_putD hb4 (by omega) hDf3⟩
  case stop =>
    rintro D c pre W hD hpre hF hDf
    exact hF.elim
end
section
open Go.RowKit Go.Maps Go.Shelf Go.Sort
set_option linter.unusedVariables false
set_option linter.unusedSimpArgs false
attribute [local go_sem] Oper.semAt_some

def sortU (l : List (List UInt8)) : List (List UInt8) := l.mergeSort (fun x y => decide (x ≤ y))
theorem sortU_perm {l l' : List (List UInt8)} (h : l.Perm l') : sortU l = sortU l' := mergeSort_of_perm h
theorem sortU_len (l : List (List UInt8)) : (sortU l).length = l.length := List.length_mergeSort l
/-- Strings that a slice reads as; that it owns. -/
structure SL (w : World) (A : Option Addr) (n : Nat) (l : List (List UInt8)) : Prop where
  len : l.length = n
  at_ : ∀ (j : Nat) (x : List UInt8), l[j]? = some x → ∃ b off, A = some ⟨b, off, none⟩ ∧ w.cell? ⟨b, off + j, none⟩ = some (.string ⟨x.toArray⟩)
def SO (base : Nat) (w : World) (v : Value) (l : List (List UInt8)) : Prop := w.ownsRow base 9 1 v l.length (l.map encStr)
theorem SL.kept {S : Nat → Prop} {w w' : World} {A : Option Addr} {n : Nat} {l : List (List UInt8)} (h : SL w A n l) (k : Keep S w w') (hs : ∀ ad, A = some ad → ¬ S ad.block) : SL w' A n l :=
  ⟨h.len, fun j x hx => by
    obtain ⟨b, off, e, h1⟩ := h.at_ j x hx
    exact ⟨b, off, e, k.cell h1 (hs ⟨b, off, none⟩ e)⟩⟩
theorem SL.place {w : World} {A : Option Addr} {n : Nat} {l : List (List UInt8)} (h : SL w A n l) {k : Nat} (hk : k < n) : ∃ b off x, A = some ⟨b, off, none⟩ ∧ l[k]? = some x ∧ w.cell? ⟨b, off + k, none⟩ = some (.string ⟨x.toArray⟩) := by
  have hl : k < l.length := by rw [h.len]; exact hk
  obtain ⟨b, off, e, h1⟩ := h.at_ k _ (List.getElem?_eq_getElem hl)
  exact ⟨b, off, _, e, List.getElem?_eq_getElem hl, h1⟩
theorem SO.form {base : Nat} {w : World} {v : Value} {l : List (List UInt8)} (h : SO base w v l) : ∃ A cap, v = .slice A l.length cap ∧ l.length ≤ cap ∧ cap ≤ maxLen ∧ SL w A l.length l ∧ ∀ ad, A = some ad → base ≤ ad.block ∧ ad.block < w.heap.size ∧ v.ownBlock = some ad.block := by
  rcases h.2 with ⟨rfl, h0⟩ | ⟨g, cap, cur, rfl, hb, hh, hl, hm, hs, ht⟩
  · have : l = [] := List.eq_nil_of_length_eq_zero h0
    subst this
    exact ⟨none, 0, rfl, Nat.le_refl _, by simp [maxLen], ⟨rfl, fun j x hx => by simp at hx⟩, fun _ h => by cases h⟩
  · refine ⟨_, cap, rfl, hl, hm, ⟨rfl, fun j x hx => ⟨g, 0, rfl, ?_⟩⟩, fun ad had => ?_⟩
    · have hj := World.ownsRow.cells h (g := g) rfl j (encStr x) (by rw [List.getElem?_map, hx]; rfl)
      rwa [Addr.add_lit] at hj
    · cases had
      exact ⟨hb, (Array.getElem?_eq_some_iff.1 hh).1, rfl⟩
theorem sortsSrow (m : Nat) : AnyZ.SortsIn Tryz.prog Tryz.sortedSrow_ren Fence.wide m :=
  ⟨fun blk off cap ss W hH hblk hsz => callsIn_wide.2 (AnyM.slices_Sort_string Tryz.sortSrow blk off cap ss W hH hblk hsz),
   fun p cap W => callsIn_wide.2 (AnyM.slices_Sort_string_none Tryz.sortSrow p cap W)⟩
theorem keysR_any (mb : Option Nat) (W : World) : Calls Tryz.prog 64 #[.map mb] W fun e w' => e = .returned (.func (.func 77) #[] #[.pointer (some ⟨W.heap.size, 0, none⟩)]) ∧ w' = W.alloc (.cells #[.map mb] 48) :=
  callsIn_wide.1 (AnyZ.keys_in Tryz.keysSrow Fence.wide 5 trivial rfl mb W)
set_option maxHeartbeats 1000000 in
theorem sortedR_any {H : Type} (b nn : Nat) (D0 : DataW H) (R : Value → Option (DataW H × List MemPlace)) (w : World) (hown : w.ownsMap Tryz.prog 9 R b nn D0) (hmax : Maps.size D0 ≤ maxLen) (hbytes : Maps.size D0 * 16 ≤ 140737488355328) :
    Calls Tryz.prog 63 #[.func (.func 77) #[] #[.pointer (some ⟨w.heap.size, 0, none⟩)]] (w.alloc (.cells #[.map (some b)] 48)) fun e w' => ∃ (v : Value) (ss : List (List UInt8)), e = .returned v ∧ ss.Perm (strKeys D0) ∧
      w'.ownsRow (w.alloc (.cells #[.map (some b)] 48)).heap.size 9 1 v ss.length ((ss.mergeSort (fun x y => decide (x ≤ y))).map encStr) ∧ (v = .slice none 0 0 ↔ ss = []) ∧ Below (w.alloc (.cells #[.map (some b)] 48)).heap.size (w.alloc (.cells #[.map (some b)] 48)) w' := by
  have hbl := hown.lt
  have hseq : SeqGives Fence.wide 2 Tryz.prog 77 #[.pointer (some ⟨w.heap.size, 0, none⟩)] encStr (fun ss => ss.Perm (strKeys D0)) (Maps.size D0) (w.alloc (.cells #[.map (some b)] 48)) :=
    AnyZ.keys_gives (ρ := Tryz.keysSrow_ren) { Tryz.keysSrow with } Fence.wide _ trivial rfl (by omega) w.heap.size b nn D0 _ (by simp) (by simp) (by
      obtain ⟨es, clock, hb, Ft, hs, hD⟩ := hown
      exact ⟨es, clock, (Below.heap_alloc _ _ b hbl).trans hb, Ft, hs, hD⟩)
  exact callsIn_wide.1 (AnyZ.sorted_in Tryz.sortedSrow Fence.wide 5 trivial trivial trivial trivial rfl (by omega) (sortsSrow _) (enters_of Tryz.func76 (by kernel_rfl) rfl) 77 #[.pointer (some ⟨w.heap.size, 0, none⟩)] trivial (enters_of Tryz.func77 (by kernel_rfl) rfl) _ _ hmax hbytes _ hseq)

theorem grown_below {w w' : World} (h : RowKit.Below w.heap.size w w') : w.grownBy w' none := ⟨h.os, h.tape, h.output, h.size, fun k hk _ => h.block k hk⟩
theorem bel_putD {n₀ D : Nat} {w W : World} (h : RowKit.Below n₀ w W) (hn : n₀ ≤ D) (hD : W.heap[D]? = some (.deferred (some []))) : RowKit.Below n₀ w (W.putObj D (.deferred none)) :=
  h.trans ((RowKit.Below.refl n₀ W).grown (grownBy_putObj' W D _) (by have := (Array.getElem?_eq_some_iff.1 hD).1; omega) (fun k e => by cases e; omega))
theorem ownsMap_kx {n₀ : Nat} {S : Nat → Prop} {w w' : World} {R : Value → Option (DataW Value × List MemPlace)} {k : TypeId} {b n : Nat} {D : DataW Value} (h : w.ownsMap Tryz.prog k R b n D) (hk : KX n₀ S w w') (hb : b < n₀) (hs : ¬ S b) : w'.ownsMap Tryz.prog k R b n D := by
  obtain ⟨es, clock, hb', F, h2⟩ := h
  exact ⟨es, clock, (hk.block b hb hs).trans hb', F, h2⟩
theorem kx_own {β : Type} (S : Nat → Prop) (w : World) : OwnFrom w.heap.size (fun (_ : β) W => KX w.heap.size S w W) :=
  fun s A A' row hs hg hr => ⟨Nat.le_trans hs.size hg.size, fun k hk hn => (hg.block k (Nat.lt_of_lt_of_le hk hs.size) (fun e => by have := (hr k e.symm).1; omega)).trans (hs.block k hk hn)⟩
theorem KX.kx' {S : Nat → Prop} {a w w' : World} (h : KX a.heap.size S a w) (k : Keep S w w') : KX a.heap.size S a w' := h.trans ⟨k.size, fun i hi hs => k.block i (Nat.lt_of_lt_of_le hi h.size) hs⟩
set_option maxRecDepth 100000 in
set_option maxHeartbeats 3200000 in
theorem goods_gives (B mb N : Nat) (D0 : DataW Value) (S : Nat → Prop) (w : World) (hS : ∀ k, S k → k < w.heap.size) (hc : w.cell? ⟨B, 0, none⟩ = some (.map (some mb))) (hown : w.ownsMap Tryz.prog 9 rR mb N D0) (hN : Go.Maps.size D0 ≤ 1048576) :
    SeqO 62 #[.pointer (some ⟨B, 0, none⟩)] (fun x : List UInt8 => #[.string ⟨x.toArray⟩]) (sortU (strKeys D0)) S w := fun l J Jx W hW hl0 hlW hJ hJx hY h0 => by
  have hc' := (hW.cell (World.block_lt_of_cell? _ _ hc)).trans hc
  have hown' := ownsMap_kept hown (Keep.of_below hW) (by have := hown.lt; omega)
  obtain ⟨L, hL⟩ : ∃ L, sortU (strKeys D0) = L := ⟨_, rfl⟩
  rw [hL] at hY ⊢
  have hso := sortedR_any mb N D0 rR W hown' (by unfold maxLen; omega) (by omega)
  refine callsIn_of_wp Tryz.func62 rfl trivial ?_ rfl
  simp only [Tryz.ntmps62, List.size_toArray, List.length_cons, List.length_nil, Nat.reduceAdd, Nat.reduceSub, Array.replicate_succ, Array.replicate_zero, List.push_toArray, List.append_toArray, List.nil_append, List.cons_append]
  gi_wp2_with (first | (refine ⟨trivial, ?_⟩; gi_at_call 64; refine (callsIn_wide.2 (keysR_any (some mb) W)).mono ?_; rintro e w1 ⟨rfl, rfl⟩) | (refine ⟨trivial, ?_⟩; gi_at_call 63; refine (callsIn_wide.2 hso).mono ?_; rintro e w2 ⟨v, ss, rfl, hperm, hrow, -, hb⟩; (have hrow' : SO (W.alloc (.cells #[.map (some mb)] 48)).heap.size w2 v (sortU ss) := (by unfold SO; rw [sortU_len]; exact hrow)); obtain ⟨A, cap, rfl, hcap1, hcap2, hIR, hAb⟩ := hrow'.form; clear hrow hrow'))
  have hb0 := ((Below.refl W.heap.size W).alloc (Nat.le_refl _) (.cells #[.map (some mb)] 48)).trans (hb.mono (by simp))
  have hJ2 := hJ _ _ _ none h0 (grown_below hb0) (fun r e => by cases e)
  have hz2 := hb0.size
  rw [sortU_perm hperm, hL] at hIR hcap1 ⊢
  have hAb2 : ∀ ad, A = some ad → W.heap.size ≤ ad.block := fun ad e => by have := (hAb ad e).1; simp at this; omega
  obtain ⟨n, hn⟩ : ∃ n, L.length = n := ⟨_, rfl⟩
  rw [hn] at hIR hcap1 ⊢
  have hn9 : n ≤ 9223372036854775807 := by unfold maxLen at hcap2; omega
  have hSW : ∀ k, S k → k < W.heap.size := fun k h => Nat.lt_of_lt_of_le (hS k h) hW.size
  clear hso h0 hc hc' hb hb0 hown hown' hperm hAb hL hS
  replace hn := Lib.hid hn
  gi_loopw [9] (fun i wr => ∃ k : Nat, i = .int .i64 (k : Int) ∧ k ≤ n ∧ J (L.take k) wr ∧ SL wr A n L ∧ W.heap.size ≤ wr.heap.size) (fun i _ => n - (intOf i).toNat)
  case atStart => exact ⟨0, by go_num, by omega, by simpa using hJ2, hIR, hz2⟩
  case round =>
    clear hJ2 hIR hz2
    obtain ⟨k, rfl, hk, hJs, hIR, hz⟩ := hrel
    by_cases hlt : k < n
    · have hlz : (k : Int) < (n : Int) := by omega
      obtain ⟨b, off, x, rfl, hx, hcell⟩ := hIR.place hlt
      have ht : L.take (k + 1) = L.take k ++ [x] := by rw [List.take_add_one, hx]; rfl
      have hpre : L.take k ++ [x] <+: L := by rw [← ht]; exact List.take_prefix _ _
      obtain ⟨fn, tmps, assign, body, hy, hR⟩ := hY (L.take k) x wr hpre hz hJs
      have hbb := hAb2 _ rfl
      dsimp only at hbb
      rw [← ht] at hR
      clear hx ht hpre
      gi_wp2
      refine hR.mono ?_
      rintro e W3 ⟨hk3, ⟨rfl, hJ3⟩ | ⟨rfl, hJx3⟩⟩
      · have hIR3 := hIR.kept hk3 (fun ad e h => by
          cases e
          dsimp only at h
          rcases h with h | h
          · have := hSW _ h
            omega
          · omega)
        have hz3 := Nat.le_trans hz hk3.size
        gi_wp2
        go_roundw
        case rel => exact ⟨k + 1, by go_num, by omega, hJ3, hIR3, hz3⟩
        case measure => simp [intOf]; omega
      · gi_wp2
        refine bodyPost_ret (results_none rfl _ _ _) rfl ?_
        exact ⟨⟨_, rfl⟩, .inr ⟨_, List.take_prefix _ _, hJx3⟩⟩
    · have hlz : ¬ (k : Int) < (n : Int) := by omega
      have hkn : k = n := by omega
      subst hkn
      rw [List.take_of_length_le (by rw [hn.out]; exact Nat.le_refl _)] at hJs
      gi_wp2
      go_end0
      exact ⟨⟨_, rfl⟩, .inl hJs⟩
theorem ST.keys {w : World} {p b N : Nat} {f : List UInt8 → Row} {ks : List (List UInt8)} (h : ST w p b N f ks) : ∃ D, w.ownsMap Tryz.prog 9 rR b N D ∧ SR D f ks ∧ sortU (strKeys D) = sortU ks := by
  obtain ⟨D, hm, hD⟩ := h.mp
  obtain ⟨es, rfl, h1, h2⟩ := maps_form hm
  exact ⟨_, hm, hD, sortU_perm (perm_strKeys h1 h2 hD.nd fun x => by rw [hD.has_ x]; simp).symm⟩
/-- Goods of a stock that lives, gone over. -/
theorem goods_seq {w : World} {p b N : Nat} {f : List UInt8 → Row} {ks : List (List UInt8)} (h : ST w p b N f ks) (hks : ks.length ≤ 1048576) (B : Nat) (S : Nat → Prop) (hS : ∀ k, S k → k < w.heap.size) (hc : w.cell? ⟨B, 0, none⟩ = some (.map (some b))) :
    SeqO 62 #[.pointer (some ⟨B, 0, none⟩)] (fun x : List UInt8 => #[.string ⟨x.toArray⟩]) (sortU ks) S w := by
  obtain ⟨D, hm, hD, hs⟩ := h.keys
  have := goods_gives B b N D S w hS hc hm (by rw [hD.sz]; exact hks)
  rw [hs] at this
  exact this
end
section
open Go.RowKit Go.Maps Go.Shelf Go.Sort
set_option linter.unusedVariables false
set_option linter.unusedSimpArgs false

end
section
open Go.RowKit Go.Maps Go.Shelf Go.Sort
set_option linter.unusedVariables false
set_option linter.unusedSimpArgs false
attribute [local go_sem] Oper.semAt_some

theorem SO.kp {base : Nat} {Y : TypeId → Prop} {S : Nat → Prop} {w w' : World} {v : Value} {l : List (List UInt8)} (h : SO base w v l) (k : KP Y S w w') (hy : ¬ Y 9) (hs : ∀ g, v.ownBlock = some g → ¬ S g) : SO base w' v l := by
  refine ⟨h.1, ?_⟩
  rcases h.2 with hn | ⟨g, cap, cur, rfl, hb, hgg, rest⟩
  · exact .inl hn
  · exact .inr ⟨g, cap, cur, rfl, hb, (k.block g (Array.getElem?_eq_some_iff.1 hgg).1 (hs g rfl) (fun cs t fr e => by rw [hgg] at e; cases e; exact hy)).trans hgg, rest⟩
set_option maxRecDepth 100000 in
set_option maxHeartbeats 3200000 in
theorem goods_givesT (Y : TypeId → Prop) (hY : ¬ Y 9) (B mb N : Nat) (D0 : DataW Value) (S : Nat → Prop) (w : World) (hS : ∀ k, S k → k < w.heap.size) (hc : w.cell? ⟨B, 0, none⟩ = some (.map (some mb))) (hown : w.ownsMap Tryz.prog 9 rR mb N D0) (hN : Go.Maps.size D0 ≤ 1048576) :
    SeqT Y 62 #[.pointer (some ⟨B, 0, none⟩)] (fun x : List UInt8 => #[.string ⟨x.toArray⟩]) (sortU (strKeys D0)) S w := fun l J Jx W hW hl0 hlW hJ hJx hYi h0 => by
  have hc' := (hW.cell (World.block_lt_of_cell? _ _ hc)).trans hc
  have hown' := ownsMap_kept hown (Keep.of_below hW) (by have := hown.lt; omega)
  obtain ⟨L, hL⟩ : ∃ L, sortU (strKeys D0) = L := ⟨_, rfl⟩
  rw [hL] at hYi ⊢
  have hso := sortedR_any mb N D0 rR W hown' (by unfold maxLen; omega) (by omega)
  refine callsIn_of_wp Tryz.func62 rfl trivial ?_ rfl
  simp only [Tryz.ntmps62, List.size_toArray, List.length_cons, List.length_nil, Nat.reduceAdd, Nat.reduceSub, Array.replicate_succ, Array.replicate_zero, List.push_toArray, List.append_toArray, List.nil_append, List.cons_append]
  gi_wp2_with (first | (refine ⟨trivial, ?_⟩; gi_at_call 64; refine (callsIn_wide.2 (keysR_any (some mb) W)).mono ?_; rintro e w1 ⟨rfl, rfl⟩) | (refine ⟨trivial, ?_⟩; gi_at_call 63; refine (callsIn_wide.2 hso).mono ?_; rintro e w2 ⟨v, ss, rfl, hperm, hrow, -, hb⟩; (have hrow' : SO (W.alloc (.cells #[.map (some mb)] 48)).heap.size w2 v (sortU ss) := (by unfold SO; rw [sortU_len]; exact hrow)); obtain ⟨A, cap, rfl, hcap1, hcap2, hIR, hAb⟩ := hrow'.form; clear hrow hIR))
  have hb0 := ((Below.refl W.heap.size W).alloc (Nat.le_refl _) (.cells #[.map (some mb)] 48)).trans (hb.mono (by simp))
  have hJ2 := hJ _ _ _ none h0 (grown_below hb0) (fun r e => by cases e)
  have hz2 := hb0.size
  rw [sortU_perm hperm, hL] at hrow' hcap1 ⊢
  have hAb2 : ∀ ad, A = some ad → W.heap.size ≤ ad.block := fun ad e => by have := (hAb ad e).1; simp at this; omega
  obtain ⟨n, hn⟩ : ∃ n, L.length = n := ⟨_, rfl⟩
  rw [hn] at hrow' hcap1 ⊢
  obtain ⟨bs0, hbs0⟩ : ∃ bs0, (W.alloc (.cells #[.map (some mb)] 48)).heap.size = bs0 := ⟨_, rfl⟩
  rw [hbs0] at hrow'
  clear hbs0
  have hn9 : n ≤ 9223372036854775807 := by unfold maxLen at hcap2; omega
  have hSW : ∀ k, S k → k < W.heap.size := fun k h => Nat.lt_of_lt_of_le (hS k h) hW.size
  clear hso h0 hc hc' hb hb0 hown hown' hperm hAb hL hS
  replace hn := Lib.hid hn
  gi_loopw [9] (fun i wr => ∃ k : Nat, i = .int .i64 (k : Int) ∧ k ≤ n ∧ J (L.take k) wr ∧ SO bs0 wr (.slice A n cap) L ∧ W.heap.size ≤ wr.heap.size) (fun i _ => n - (intOf i).toNat)
  case atStart => exact ⟨0, by go_num, by omega, by simpa using hJ2, hrow', hz2⟩
  case round =>
    clear hJ2 hrow' hz2
    obtain ⟨k, rfl, hk, hJs, hIR, hz⟩ := hrel
    by_cases hlt : k < n
    · have hlz : (k : Int) < (n : Int) := by omega
      obtain ⟨A', cap', e9, -, -, hSL, -⟩ := hIR.form
      injection e9 with e9 e91 e92
      rw [← e9, ← e91] at hSL
      clear e9 e91 e92
      obtain ⟨b, off, x, rfl, hx, hcell⟩ := hSL.place hlt
      have ht : L.take (k + 1) = L.take k ++ [x] := by rw [List.take_add_one, hx]; rfl
      have hpre : L.take k ++ [x] <+: L := by rw [← ht]; exact List.take_prefix _ _
      obtain ⟨fn, tmps, assign, body, hy, hR⟩ := hYi (L.take k) x wr hpre hz hJs
      have hbb := hAb2 _ rfl
      dsimp only at hbb
      rw [← ht] at hR
      clear hx ht hpre hSL
      gi_wp2
      refine hR.mono ?_
      rintro e W3 ⟨hk3, ⟨rfl, hJ3⟩ | ⟨rfl, hJx3⟩⟩
      · have hIR3 := hIR.kp hk3 hY (fun gb e h => by
          cases e
          dsimp only at h
          rcases h with h | h
          · have := hSW _ h
            omega
          · omega)
        have hz3 := Nat.le_trans hz hk3.size
        gi_wp2
        go_roundw
        case rel => exact ⟨k + 1, by go_num, by omega, hJ3, hIR3, hz3⟩
        case measure => simp [intOf]; omega
      · gi_wp2
        refine bodyPost_ret (results_none rfl _ _ _) rfl ?_
        exact ⟨⟨_, rfl⟩, .inr ⟨_, List.take_prefix _ _, hJx3⟩⟩
    · have hlz : ¬ (k : Int) < (n : Int) := by omega
      have hkn : k = n := by omega
      subst hkn
      rw [List.take_of_length_le (by rw [hn.out]; exact Nat.le_refl _)] at hJs
      gi_wp2
      go_end0
      exact ⟨⟨_, rfl⟩, .inl hJs⟩
theorem goods_seqT {w : World} {p b N : Nat} {f : List UInt8 → Row} {ks : List (List UInt8)} (h : ST w p b N f ks) (hks : ks.length ≤ 1048576) (Y : TypeId → Prop) (hY : ¬ Y 9) (B : Nat) (S : Nat → Prop) (hS : ∀ k, S k → k < w.heap.size) (hc : w.cell? ⟨B, 0, none⟩ = some (.map (some b))) :
    SeqT Y 62 #[.pointer (some ⟨B, 0, none⟩)] (fun x : List UInt8 => #[.string ⟨x.toArray⟩]) (sortU ks) S w := by
  obtain ⟨D, hm, hD, hs⟩ := h.keys
  have := goods_givesT Y hY B b N D S w hS hc hm (by rw [hD.sz]; exact hks)
  rw [hs] at this
  exact this
end
section
open Go.RowKit Go.Shelf
set_option linter.unusedVariables false
set_option linter.unusedSimpArgs false

/-- Numbers put one after the other. -/
def putsN (st : Option (List UInt8)) (l : List Int) : Option (List UInt8) := l.foldl (fun s n => put s (numCell n)) st
theorem putsN_snoc (st : Option (List UInt8)) (l : List Int) (n : Int) : putsN st (l ++ [n]) = put (putsN st l) (numCell n) := by
  unfold putsN
  rw [List.foldl_append]
  rfl
def Row.ints (r : Row) : List Int := [r.fr, r.he, r.pi, r.sa, r.re, r.rt, r.cn, r.cm, r.sh, r.sc, r.se]
def isInt (n : Int) : Prop := -9223372036854775808 ≤ n ∧ n ≤ 9223372036854775807
/-- In the loop. -/
def PutI (base g : Nat) (v : Value) (st : Option (List UInt8)) (L : List Int) (w w6 : World) (A6 : Option Addr) (wr : World) (k : Nat) : Prop :=
  ∃ vk, MK base wr g vk (putsN st (L.take k)) ∧ Keep (MF g v) w wr ∧ (∀ i, MF g vk i → MF g v i ∨ w6.heap.size ≤ i) ∧ Cnt.IR wr A6 11 L ∧ w6.heap.size ≤ wr.heap.size
set_option maxRecDepth 100000 in
set_option maxHeartbeats 3200000 in
theorem putR_any (base g : Nat) (v : Value) (st : Option (List UInt8)) (fr he pi sa re rt cn cm sh sc se : Int) (w : World) (hm : MK base w g v st) (hI : ∀ n ∈ [fr, he, pi, sa, re, rt, cn, cm, sh, sc, se], isInt n) :
    Calls Tryz.prog 31 #[.agg #[.int .i64 fr, .int .i64 he, .int .i64 pi, .int .i64 sa, .int .i64 re, .int .i64 rt, .int .i64 cn, .int .i64 cm, .int .i64 sh, .int .i64 sc, .int .i64 se], .pointer (some ⟨g, 0, none⟩)] w
      fun e w' => (∃ v0, e = .returned v0) ∧ ∃ v', MK base w' g v' (putsN st [fr, he, pi, sa, re, rt, cn, cm, sh, sc, se]) ∧ Keep (MF g v) w w' ∧ ∀ i, MF g v' i → MF g v i ∨ w.heap.size ≤ i := by
  obtain ⟨L, hL⟩ : ∃ L, [fr, he, pi, sa, re, rt, cn, cm, sh, sc, se] = L := ⟨_, rfl⟩
  rw [hL] at hI ⊢
  go_enter Tryz.func31, Tryz.ntmps31
  have hb2 := (((Below.refl w.heap.size w).alloc (Nat.le_refl _) (.cells #[.int .i64 fr, .int .i64 he, .int .i64 pi, .int .i64 sa, .int .i64 re, .int .i64 rt, .int .i64 cn, .int .i64 cm, .int .i64 sh, .int .i64 sc, .int .i64 se] 44)).alloc (by simp) (.cells #[.int .i64 re, .int .i64 rt, .int .i64 cn, .int .i64 cm, .int .i64 sh, .int .i64 sc, .int .i64 se] 42))
  go_wp2_with fail
  refine (levels_any fr he pi sa _).mono ?_
  rintro e w5 ⟨rfl, hw5⟩
  generalize hW2 : (w.alloc (.cells #[.int .i64 fr, .int .i64 he, .int .i64 pi, .int .i64 sa, .int .i64 re, .int .i64 rt, .int .i64 cn, .int .i64 cm, .int .i64 sh, .int .i64 sc, .int .i64 se] 44)).alloc (.cells #[.int .i64 re, .int .i64 rt, .int .i64 cn, .int .i64 cm, .int .i64 sh, .int .i64 sc, .int .i64 se] 42) = W2 at *
  have hz2 : W2.heap.size = w.heap.size + 1 + 1 := by rw [← hW2]; simp
  have o7 := OJ.built w.heap.size W2 [re, rt, cn, cm, sh, sc, se] (by omega) (by simp [maxLen])
  have hb3 := hb2.alloc hb2.size (.cells #[.int .i64 re, .int .i64 rt, .int .i64 cn, .int .i64 cm, .int .i64 sh, .int .i64 sc, .int .i64 se] 3)
  change OJ w.heap.size (W2.alloc (.cells #[.int .i64 re, .int .i64 rt, .int .i64 cn, .int .i64 cm, .int .i64 sh, .int .i64 sc, .int .i64 se] 3)) (.slice (some ⟨W2.heap.size, 0, none⟩) 7 7) _ at o7
  obtain ⟨W3, hW3⟩ : ∃ W3, W2.alloc (.cells #[.int .i64 re, .int .i64 rt, .int .i64 cn, .int .i64 cm, .int .i64 sh, .int .i64 sc, .int .i64 se] 3) = W3 := ⟨_, rfl⟩
  have hz3 : W3.heap.size = w.heap.size + 3 := by rw [← hW3, World.size_alloc, hz2]
  rw [hW3] at o7 hb3 hw5 ⊢
  obtain ⟨W4, hW4⟩ : ∃ W4, W3.alloc (.cells #[.int .i64 fr, .int .i64 he, .int .i64 pi, .int .i64 sa] 40) = W4 := ⟨_, rfl⟩
  have hz4 : W4.heap.size = W3.heap.size + 1 := by rw [← hW4, World.size_alloc]
  have hb4 := hb3.alloc hb3.size (.cells #[.int .i64 fr, .int .i64 he, .int .i64 pi, .int .i64 sa] 40)
  have o74 := o7.alloc (.cells #[.int .i64 fr, .int .i64 he, .int .i64 pi, .int .i64 sa] 40)
  rw [hW4] at hb4 o74 hw5
  have o4 := OJ.built w.heap.size W4 [fr, he, pi, sa] (by omega) (by simp [maxLen])
  change OJ w.heap.size (W4.alloc (.cells #[.int .i64 fr, .int .i64 he, .int .i64 pi, .int .i64 sa] 3)) (.slice (some ⟨W4.heap.size, 0, none⟩) 4 4) _ at o4
  have o75 := o74.alloc (.cells #[.int .i64 fr, .int .i64 he, .int .i64 pi, .int .i64 sa] 3)
  have hb5 := hb4.alloc hb4.size (.cells #[.int .i64 fr, .int .i64 he, .int .i64 pi, .int .i64 sa] 3)
  rw [← hw5] at o4 o75 hb5
  rw [hz4, hz3] at o4
  rw [hz2] at o75
  obtain ⟨A9, c9, e9, _, _, hir, _⟩ := o75.form
  injection e9 with e9 e91 e92
  subst e9
  clear e91 e92 o7 o74 hw5 hW4 hW3 hW2 hb2 hb3 hb4
  change Cnt.IR w5 _ 7 [re, rt, cn, cm, sh, sc, se] at hir
  go_wp2_with (at_builtin; refine wpAppJ rfl (.tmp 27) (.tmp 28) rfl w.heap.size (.slice (some ⟨w.heap.size + 3 + 1, 0, none⟩) 4 4) [fr, he, pi, sa] rfl o4 (some ⟨w.heap.size + 1 + 1, 0, none⟩) 7 7 [re, rt, cn, cm, sh, sc, se] rfl hir (by simp) hb5.size ?_; rintro v6 w6 hO6 hK6 _; have hO6' : OJ w.heap.size w6 v6 L := (by rw [← hL]; exact hO6); obtain ⟨A6, c6, rfl, _, _, hir6, hA6⟩ := hO6'.form)
  have o4l := o4.lt
  have hb6 := hb5.trans (hK6.below (B := w.heap.size) hb5.size (fun i hi e => by have := (o4l i e).1; omega))
  have hLn : L.length = 11 := by rw [← hL]; rfl
  rw [hLn] at hir6 ⊢
  have hA6' : ∀ ad, A6 = some ad → w.heap.size ≤ ad.block ∧ ad.block < w6.heap.size := fun ad e => ⟨(hA6 ad e).1, (hA6 ad e).2.1⟩
  have hm6 := hm.kept (Keep.of_below hb6) (fun i hi => by have := (hm.foot i hi).2; omega)
  have hft := fun i hi => (hm.foot i hi).2
  replace hL := Lib.hid hL
  replace hLn := Lib.hid hLn
  have hk06 : Keep (MF g v) w w6 := Keep.ofB hb6
  have hz6 := hb6.size
  clear hO6 hO6' hA6 hK6 hir o4 o75 hb5 o4l hb6
  go_wp2
  go_loopw [31] (fun i wr => ∃ k : Nat, i = .int .i64 (k : Int) ∧ k ≤ 11 ∧ PutI base g v st L w w6 A6 wr k) (fun i _ => 11 - (intOf i).toNat)
  case atStart => exact ⟨0, by go_num, by omega, v, hm6, hk06, fun i h => .inl h, hir6, Nat.le_refl _⟩
  case round =>
    obtain ⟨k, rfl, hk, vk, hmk, hkk, hfk, hirk, hzr⟩ := hrel
    by_cases hlt : k < 11
    · have hlz : (k : Int) < (11 : Int) := by omega
      obtain ⟨b, off, x, rfl, hx, hcell⟩ := hirk.place hlt
      have ht : L.take (k + 1) = L.take k ++ [x] := by rw [List.take_add_one, hx]; rfl
      have hxI := hI x (List.mem_of_getElem? hx)
      replace ht := Lib.hid ht
      have hbb := hA6' _ rfl
      dsimp only at hbb
      have hzk := hkk.size
      clear hx
      go_wp2_with fail
      refine (mnum_any base g vk (putsN st (L.take k)) x wr hmk hxI.1 hxI.2).mono ?_
      rintro e W3 ⟨v3, rfl, hm3, hk3, hf3⟩
      have hir3 := hirk.kept hk3 (fun ad e h => by
        cases e
        dsimp only at h
        rcases hfk _ h with h | h
        · have := hft _ h
          omega
        · omega)
      have hz36 : w6.heap.size ≤ wr.heap.size := hzr
      have hk3' := hkk.trans hk3 (fun i hi h => (hfk i h).elim id (fun h => by omega))
      have hf3' : ∀ i, MF g v3 i → MF g v i ∨ w6.heap.size ≤ i := fun i h => (hf3 i h).elim (hfk i) (fun h => .inr (by omega))
      go_wp2
      go_roundw
      case measure => simp [intOf]; omega
      case rel =>
        refine ⟨_, _, _, _, _, _, _, _, _, ⟨k + 1, ?_, by omega, v3, ?_, hk3', hf3', hir3, Nat.le_trans hzr hk3.size⟩, rfl⟩
        · first | rfl | (congr 1; omega) | (simp; done)
        · rw [ht.out, putsN_snoc]
          exact hm3
    · have hkn : k = 11 := by omega
      have hlz : ¬ (k : Int) < (11 : Int) := by omega
      have ht : L.take k = L := List.take_of_length_le (by rw [hLn.out]; omega)
      rw [ht] at hmk
      replace hmk := Lib.hid hmk
      clear ht hkn
      go_wp2
      go_end0
      exact ⟨⟨_, rfl⟩, vk, hmk.out, hkk, fun i h => (hfk i h).elim .inl (fun h => .inr (by omega))⟩
end
end Go.Proofs.YtfpcnenohidfpaaGreat
