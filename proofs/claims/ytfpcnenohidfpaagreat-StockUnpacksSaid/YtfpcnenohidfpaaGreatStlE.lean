/- What holds of a stock's rows behind any calls; what is held, picked, put back and freed is as it was. No condition. -/
import Derived.Test.YtfpcnenohidfpaaGreatStlD
import Derived.Test.YtfpcnenohidfpaaGreatOrd
namespace Go.Proofs.YtfpcnenohidfpaaGreat
open Go.RowKit Go.Shelf
set_option linter.unusedVariables false
set_option linter.unusedSimpArgs false

theorem isInt_wrap (x : Int) : isInt (wrap64 x) := by
  unfold isInt wrap64
  omega
/-- What holds of a stock. -/
structure SK (f : List UInt8 → Row) (ks : List (List UInt8)) : Prop where
  over : ∀ g, overR (f g) = false
  cn : ∀ g, isInt (f g).cn
  good : ∀ g ∈ ks, gOK g = true
theorem SK.start : SK (fun _ => row0) [] := ⟨fun g => by decide, fun g => by unfold isInt; simp [row0], fun g h => by simp at h⟩
theorem gOK_len {g : List UInt8} (h : gOK g = true) : g.length ≤ 16 := by
  unfold gOK at h
  simp only [Bool.and_eq_true, decide_eq_true_eq] at h
  exact h.1.2
theorem SK.len {f : List UInt8 → Row} {ks : List (List UInt8)} (h : SK f ks) : ∀ g ∈ ks, g.length ≤ 140737488355328 := fun g hg => by
  have := gOK_len (h.good g hg)
  omega
/-- A row that is not over: its levels and flows. -/
theorem over_no {r : Row} (h : overR r = false) : ((0 ≤ r.fr ∧ r.fr ≤ 1099511627776) ∧ (0 ≤ r.he ∧ r.he ≤ 1099511627776) ∧ (0 ≤ r.pi ∧ r.pi ≤ 1099511627776) ∧ (0 ≤ r.sa ∧ r.sa ≤ 1099511627776)) ∧ (0 ≤ r.fr + r.he + r.pi + r.sa ∧ r.fr + r.he + r.pi + r.sa ≤ 1099511627776) ∧ flowB r.re r.rt r.cm r.sh r.sc r.se = true := by
  unfold overR overB sumB levB at h
  simp only [Bool.not_eq_false', Bool.and_eq_true] at h
  obtain ⟨⟨h1, h2⟩, h3⟩ := h
  have m1 := cMay_yes h1.1
  have m2 := cMay_yes h1.2.1
  have m3 := cMay_yes h1.2.2.1
  have m4 := cMay_yes h1.2.2.2
  have m5 := cMay_yes h2
  exact ⟨⟨m1, m2, m3, m4⟩, m5, h3⟩
theorem over_mk {r : Row} (h1 : 0 ≤ r.fr) (h2 : 0 ≤ r.he) (h3 : 0 ≤ r.pi) (h4 : 0 ≤ r.sa) (hs : r.fr + r.he + r.pi + r.sa ≤ 1099511627776) (hf : flowB r.re r.rt r.cm r.sh r.sc r.se = true) : overR r = false := by
  unfold overR overB sumB levB
  have c : ∀ n : Int, 0 ≤ n → n ≤ 1099511627776 → cMay n = true := fun n a b => by simp [cMay, a, b]
  rw [c _ h1 (by omega), c _ h2 (by omega), c _ h3 (by omega), c _ h4 (by omega), c _ (by omega) hs, hf]
  rfl
theorem over_lack {r : Row} (h : overR r = false) : lackR r = false := by
  obtain ⟨⟨a, b, c, d⟩, _⟩ := over_no h
  unfold lackR lackB
  exact decide_eq_false (by omega)
theorem SK.ints {f : List UInt8 → Row} {ks : List (List UInt8)} (h : SK f ks) : ∀ g, ∀ n ∈ (f g).ints, isInt n := fun g => by
  obtain ⟨⟨a, b, c, d⟩, _, e⟩ := over_no (h.over g)
  obtain ⟨f1, f2, f3, f4, f5, f6⟩ := flowB_yes e
  have hc := h.cn g
  unfold isInt at *
  intro n hn
  simp only [Row.ints, List.mem_cons, List.not_mem_nil, or_false] at hn
  omega
theorem putsF_no (f : List UInt8 → Row) (ps : List (List UInt8 × Row)) (g : List UInt8) (h : g ∉ ps.map (·.1)) : putsF f ps g = f g := by
  induction ps using snoc_ind with
  | h0 => rfl
  | h1 ps x ih =>
    obtain ⟨s, r⟩ := x
    simp at h
    rw [putsF_snoc]
    show (if g = s then r else putsF f ps g) = f g
    rw [if_neg h.2, ih (by simpa using h.1)]
theorem putsF_in (f : List UInt8 → Row) (ps : List (List UInt8 × Row)) (g : List UInt8) (r : Row) (hn : (ps.map (·.1)).Nodup) (h : (g, r) ∈ ps) : putsF f ps g = r := by
  induction ps using snoc_ind with
  | h0 => cases h
  | h1 ps x ih =>
    obtain ⟨s, q⟩ := x
    rw [List.map_append, List.nodup_append] at hn
    rw [putsF_snoc]
    rcases List.mem_append.1 h with h | h
    · have : g ≠ s := fun e => hn.2.2 g (List.mem_map.2 ⟨_, h, rfl⟩) s (by simp) e
      show (if g = s then q else putsF f ps g) = r
      rw [if_neg this]
      exact ih hn.1 h
    · simp at h
      obtain ⟨rfl, rfl⟩ := h
      exact if_pos rfl
theorem MY.nodup {l : List It} (h : MY l) : (l.map (·.1)).Nodup := h.rise.imp fun hab e => by subst e; exact absurd hab (List.lt_irrefl _)
theorem doE_zero {f : List UInt8 → Row} {ks : List (List UInt8)} {k : Int} {l : List It} (h : doE f ks k l = 0) : knownK k = true ∧ mayL l = true ∧ (takesK k = true → freshN ks l = 0) ∧ (afterL k f l).any lackR = false ∧ (afterL k f l).any overR = false ∧ ks.length + freshN ks l ≤ 64 := by
  unfold doE at h
  by_cases h1 : knownK k = false
  · rw [if_pos h1] at h; cases h
  rw [if_neg h1] at h
  by_cases h2 : mayL l = false
  · rw [if_pos h2] at h; cases h
  rw [if_neg h2] at h
  by_cases h3 : (takesK k && decide (0 < freshN ks l)) = true
  · rw [if_pos h3] at h; cases h
  rw [if_neg h3] at h
  by_cases h4 : (afterL k f l).any lackR = true
  · rw [if_pos h4] at h; cases h
  rw [if_neg h4] at h
  by_cases h5 : (afterL k f l).any overR = true
  · rw [if_pos h5] at h; cases h
  rw [if_neg h5] at h
  by_cases h6 : 64 < ks.length + freshN ks l
  · rw [if_pos h6] at h; cases h
  refine ⟨by simpa using h1, by simpa using h2, fun e => ?_, by simpa using h4, by simpa using h5, by omega⟩
  rw [e] at h3
  simp at h3
  exact h3
theorem pairs_map (k : Int) (f : List UInt8 → Row) (l : List It) : (pairsR k f l).map (·.1) = l.map (·.1) := by
  unfold pairsR
  rw [List.map_map]
  rfl
theorem doF_no {f : List UInt8 → Row} {ks : List (List UInt8)} {k : Int} {l : List It} {g : List UInt8} (h : g ∉ l.map (·.1)) : doF f ks k l g = f g := by
  unfold doF
  split
  · exact putsF_no _ _ _ (by rw [pairs_map]; exact h)
  · rfl
theorem doF_in {f : List UInt8 → Row} {ks : List (List UInt8)} {k : Int} {l : List It} (h : doE f ks k l = 0) {g : List UInt8} {q : Int} (hx : (g, q) ∈ l) : doF f ks k l g = doneR k q (f g) := by
  unfold doF
  rw [if_pos h]
  refine putsF_in _ _ _ _ (by rw [pairs_map]; exact (MY.of_ (doE_zero h).2.1).nodup) ?_
  unfold pairsR
  exact List.mem_map.2 ⟨_, hx, rfl⟩
theorem any_no {p : Row → Bool} {l : List It} {k : Int} {f : List UInt8 → Row} (h : (afterL k f l).any p = false) {g : List UInt8} {q : Int} (hx : (g, q) ∈ l) : p (doneR k q (f g)) = false := by
  rw [List.any_eq_false] at h
  have := h (doneR k q (f g)) (by unfold afterL; exact List.mem_map.2 ⟨_, hx, rfl⟩)
  simpa using this
theorem putsK_mem (ks : List (List UInt8)) (ps : List (List UInt8 × Row)) (g : List UInt8) : g ∈ putsK ks ps ↔ g ∈ ks ∨ g ∈ ps.map (·.1) := by
  induction ps using snoc_ind with
  | h0 => simp [putsK]
  | h1 ps x ih =>
    obtain ⟨s, r⟩ := x
    rw [putsK_snoc, mem_addS, ih]
    simp
    grind
theorem doneR_cn (k q : Int) (r : Row) (h : isInt r.cn) : isInt (doneR k q r).cn := by
  by_cases hk : 1 ≤ k ∧ k ≤ 11
  · rcases doKinds hk with rfl | rfl | rfl | rfl | rfl | rfl | rfl | rfl | rfl | rfl | rfl
    all_goals exact h
  · have e : doneR k q r = r := by
      unfold doneR doneA
      repeat rw [if_neg (by omega)]
      rfl
    rw [e]
    exact h
theorem SK.do_ {f : List UInt8 → Row} {ks : List (List UInt8)} (h : SK f ks) (k : Int) (l : List It) : SK (doF f ks k l) (doK f ks k l) := by
  by_cases h0 : doE f ks k l = 0
  · obtain ⟨_, hm, _, _, h5, _⟩ := doE_zero h0
    have hmy := MY.of_ hm
    refine ⟨fun g => ?_, fun g => ?_, fun g hg => ?_⟩
    · by_cases hg : g ∈ l.map (·.1)
      · obtain ⟨⟨s, q⟩, hx, rfl⟩ := List.mem_map.1 hg
        rw [doF_in h0 hx]
        exact any_no h5 hx
      · rw [doF_no hg]
        exact h.over g
    · by_cases hg : g ∈ l.map (·.1)
      · obtain ⟨⟨s, q⟩, hx, rfl⟩ := List.mem_map.1 hg
        rw [doF_in h0 hx]
        exact doneR_cn _ _ _ (h.cn s)
      · rw [doF_no hg]
        exact h.cn g
    · unfold doK at hg
      rw [if_pos h0, putsK_mem, pairs_map] at hg
      rcases hg with hg | hg
      · exact h.good g hg
      · obtain ⟨x, hx, rfl⟩ := List.mem_map.1 hg
        exact hmy.good x hx
  · unfold doF doK
    rw [if_neg h0, if_neg h0]
    exact h
theorem cntE_zero {f : List UInt8 → Row} {ks : List (List UInt8)} {s : List UInt8} {n : Int} (h : cntE f ks s n = 0) : cMay n = true ∧ s ∈ ks ∧ (f s).he ≤ n ∧ overR (cntR (f s) n) = false := by
  unfold cntE at h
  by_cases h1 : cMay n = false
  · rw [if_pos h1] at h; cases h
  rw [if_neg h1] at h
  by_cases h2 : s ∉ ks
  · rw [if_pos h2] at h; cases h
  rw [if_neg h2] at h
  by_cases h3 : n < (f s).he
  · rw [if_pos h3] at h; cases h
  rw [if_neg h3] at h
  by_cases h4 : overR (cntR (f s) n) = true
  · rw [if_pos h4] at h; cases h
  exact ⟨by simpa using h1, Classical.not_not.1 h2, by omega, by simpa using h4⟩
theorem SK.cnt {f : List UInt8 → Row} {ks : List (List UInt8)} (h : SK f ks) (s : List UInt8) (n : Int) : SK (cntF f ks s n) ks := by
  by_cases h0 : cntE f ks s n = 0
  · obtain ⟨_, _, _, h4⟩ := cntE_zero h0
    unfold cntF
    rw [if_pos h0]
    refine ⟨fun g => ?_, fun g => ?_, h.good⟩
    · by_cases e : g = s
      · subst e; rw [if_pos rfl]; exact h4
      · rw [if_neg e]; exact h.over g
    · by_cases e : g = s
      · subst e; rw [if_pos rfl]; exact isInt_wrap _
      · rw [if_neg e]; exact h.cn g
  · unfold cntF
    rw [if_neg h0]
    exact h
theorem addS_len (ks : List (List UInt8)) (s : List UInt8) : (addS ks s).length ≤ ks.length + 1 := by
  unfold addS
  split <;> simp
theorem putsK_len (ks : List (List UInt8)) (ps : List (List UInt8 × Row)) : (putsK ks ps).length ≤ ks.length + ps.length := by
  induction ps using snoc_ind with
  | h0 => simp [putsK]
  | h1 ps x ih =>
    obtain ⟨s, r⟩ := x
    rw [putsK_snoc]
    have := addS_len (putsK ks ps) s
    rw [List.length_append, List.length_cons, List.length_nil]
    omega
theorem doK_len (f : List UInt8 → Row) (ks : List (List UInt8)) (k : Int) (l : List It) : (doK f ks k l).length ≤ ks.length + l.length := by
  unfold doK
  split
  · have := putsK_len ks (pairsR k f l)
    unfold pairsR at this ⊢
    rw [List.length_map] at this
    exact this
  · omega
/-- Where nothing is new no good is. -/
theorem fresh_zero {ks : List (List UInt8)} {l : List It} (h : freshN ks l = 0) : ∀ x ∈ l, x.1 ∈ ks := fun x hx => by
  unfold freshN at h
  have h2 := List.eq_nil_of_length_eq_zero h
  rw [List.filter_eq_nil_iff] at h2
  have := h2 x hx
  simpa using this
theorem fresh_of {ks : List (List UInt8)} {l : List It} (h : ∀ x ∈ l, x.1 ∈ ks) : freshN ks l = 0 := by
  unfold freshN
  rw [List.filter_eq_nil_iff.2 (fun x hx => by simp [h x hx])]
  rfl
theorem putsK_same (ks : List (List UInt8)) (ps : List (List UInt8 × Row)) (h : ∀ x ∈ ps, x.1 ∈ ks) : putsK ks ps = ks := by
  induction ps using snoc_ind with
  | h0 => rfl
  | h1 ps x ih =>
    obtain ⟨s, r⟩ := x
    rw [putsK_snoc, ih (fun x hx => h x (by simp [hx]))]
    exact addS_in (h (s, r) (by simp))
theorem doK_same {f : List UInt8 → Row} {ks : List (List UInt8)} {k : Int} {l : List It} (h : ∀ x ∈ l, x.1 ∈ ks) : doK f ks k l = ks := by
  unfold doK
  split
  · refine putsK_same _ _ fun x hx => ?_
    unfold pairsR at hx
    obtain ⟨y, hy, rfl⟩ := List.mem_map.1 hx
    exact h y hy
  · rfl
theorem doE_mk {f : List UInt8 → Row} {ks : List (List UInt8)} {k : Int} {l : List It} (h1 : knownK k = true) (h2 : mayL l = true) (h3 : ∀ x ∈ l, x.1 ∈ ks) (h4 : ∀ (g : List UInt8) (q : Int), (g, q) ∈ l → overR (doneR k q (f g)) = false) (hk : ks.length ≤ 64) : doE f ks k l = 0 := by
  have hfr := fresh_of h3
  have a : (afterL k f l).any overR = false := by
    rw [List.any_eq_false]
    intro r hr
    unfold afterL at hr
    obtain ⟨⟨g, q⟩, hx, rfl⟩ := List.mem_map.1 hr
    rw [h4 g q hx]
    simp
  have b : (afterL k f l).any lackR = false := by
    rw [List.any_eq_false]
    intro r hr
    unfold afterL at hr
    obtain ⟨⟨g, q⟩, hx, rfl⟩ := List.mem_map.1 hr
    rw [over_lack (h4 g q hx)]
    simp
  unfold doE
  rw [h1, h2, hfr, a, b]
  simp
  omega
theorem done2 (q : Int) (r : Row) : doneR 2 q r = ⟨wrap64 (r.fr - q), wrap64 (r.he + q), r.pi, r.sa, r.re, r.rt, r.cn, r.cm, r.sh, r.sc, r.se⟩ := rfl
theorem done4 (q : Int) (r : Row) : doneR 4 q r = ⟨r.fr, wrap64 (r.he - q), wrap64 (r.pi + q), r.sa, r.re, r.rt, r.cn, r.cm, r.sh, r.sc, r.se⟩ := rfl
theorem done5 (q : Int) (r : Row) : doneR 5 q r = ⟨r.fr, wrap64 (r.he + q), wrap64 (r.pi - q), r.sa, r.re, r.rt, r.cn, r.cm, r.sh, r.sc, r.se⟩ := rfl
theorem done3 (q : Int) (r : Row) : doneR 3 q r = ⟨wrap64 (r.fr + q), wrap64 (r.he - q), r.pi, r.sa, r.re, r.rt, r.cn, r.cm, r.sh, r.sc, r.se⟩ := rfl
theorem w64 {x : Int} (h : -9223372036854775808 ≤ x ∧ x ≤ 9223372036854775807) : wrap64 x = x := by unfold wrap64; omega
/-- Held, picked, put back and freed: all may be done, and nothing is changed. -/
theorem back_all {f : List UInt8 → Row} {ks : List (List UInt8)} {l : List It} (h : SK f ks) (h0 : doE f ks 2 l = 0) :
    ∃ f1 f2 f3, doF f ks 2 l = f1 ∧ doK f ks 2 l = ks ∧ doE f1 ks 4 l = 0 ∧ doF f1 ks 4 l = f2 ∧ doK f1 ks 4 l = ks ∧ doE f2 ks 5 l = 0 ∧ doF f2 ks 5 l = f3 ∧ doK f2 ks 5 l = ks ∧ doE f3 ks 3 l = 0 ∧ doF f3 ks 3 l = f ∧ doK f3 ks 3 l = ks := by
  obtain ⟨_, hm, hfr, hl, ho, hk⟩ := doE_zero h0
  have hin := fresh_zero (hfr rfl)
  have hk64 : ks.length ≤ 64 := by omega
  have hmy := MY.of_ hm
  -- one good
  have one : ∀ (g : List UInt8) (q : Int), (g, q) ∈ l → doF f ks 2 l g = ⟨(f g).fr - q, (f g).he + q, (f g).pi, (f g).sa, (f g).re, (f g).rt, (f g).cn, (f g).cm, (f g).sh, (f g).sc, (f g).se⟩ ∧ 0 ≤ (f g).fr - q ∧ (1 ≤ q ∧ q ≤ 1099511627776) := fun g q hx => by
    obtain ⟨⟨a, b, c, d⟩, _, _⟩ := over_no (h.over g)
    have hq := hmy.num _ hx
    dsimp only at hq
    have hl2 := any_no hl hx
    rw [done2, w64 (by omega), w64 (by omega)] at hl2
    unfold lackR lackB at hl2
    have := of_decide_eq_false hl2
    dsimp only at this
    refine ⟨?_, by omega, hq⟩
    rw [doF_in h0 hx, done2, w64 (by omega), w64 (by omega)]
  have e4 : doE (doF f ks 2 l) ks 4 l = 0 := doE_mk rfl hm hin (fun g q hx => by
    obtain ⟨e, h1, hq⟩ := one g q hx
    obtain ⟨⟨a, b, c, d⟩, s, fl⟩ := over_no (h.over g)
    rw [e, done4]
    dsimp only
    rw [w64 (by omega), w64 (by omega)]
    exact over_mk (by dsimp only; omega) (by dsimp only; omega) (by dsimp only; omega) (by dsimp only; omega) (by dsimp only; omega) fl) hk64
  have two : ∀ (g : List UInt8) (q : Int), (g, q) ∈ l → doF (doF f ks 2 l) ks 4 l g = ⟨(f g).fr - q, (f g).he, (f g).pi + q, (f g).sa, (f g).re, (f g).rt, (f g).cn, (f g).cm, (f g).sh, (f g).sc, (f g).se⟩ := fun g q hx => by
    obtain ⟨e, h1, hq⟩ := one g q hx
    obtain ⟨⟨a, b, c, d⟩, s, fl⟩ := over_no (h.over g)
    rw [doF_in e4 hx, e, done4]
    dsimp only
    rw [w64 (by omega), w64 (by omega), show (f g).he + q - q = (f g).he by omega]
  have e5 : doE (doF (doF f ks 2 l) ks 4 l) ks 5 l = 0 := doE_mk rfl hm hin (fun g q hx => by
    obtain ⟨e, h1, hq⟩ := one g q hx
    obtain ⟨⟨a, b, c, d⟩, s, fl⟩ := over_no (h.over g)
    rw [two g q hx, done5]
    dsimp only
    rw [w64 (by omega), w64 (by omega)]
    exact over_mk (by dsimp only; omega) (by dsimp only; omega) (by dsimp only; omega) (by dsimp only; omega) (by dsimp only; omega) fl) hk64
  have three : ∀ (g : List UInt8) (q : Int), (g, q) ∈ l → doF (doF (doF f ks 2 l) ks 4 l) ks 5 l g = ⟨(f g).fr - q, (f g).he + q, (f g).pi, (f g).sa, (f g).re, (f g).rt, (f g).cn, (f g).cm, (f g).sh, (f g).sc, (f g).se⟩ := fun g q hx => by
    obtain ⟨e, h1, hq⟩ := one g q hx
    obtain ⟨⟨a, b, c, d⟩, s, fl⟩ := over_no (h.over g)
    rw [doF_in e5 hx, two g q hx, done5]
    dsimp only
    rw [w64 (by omega), w64 (by omega), show (f g).pi + q - q = (f g).pi by omega]
  have e3 : doE (doF (doF (doF f ks 2 l) ks 4 l) ks 5 l) ks 3 l = 0 := doE_mk rfl hm hin (fun g q hx => by
    obtain ⟨e, h1, hq⟩ := one g q hx
    obtain ⟨⟨a, b, c, d⟩, s, fl⟩ := over_no (h.over g)
    rw [three g q hx, done3]
    dsimp only
    rw [w64 (by omega), w64 (by omega)]
    exact over_mk (by dsimp only; omega) (by dsimp only; omega) (by dsimp only; omega) (by dsimp only; omega) (by dsimp only; omega) fl) hk64
  refine ⟨_, _, _, rfl, doK_same hin, e4, rfl, doK_same hin, e5, rfl, doK_same hin, e3, ?_, doK_same hin⟩
  funext g
  by_cases hg : g ∈ l.map (·.1)
  · obtain ⟨⟨s, q⟩, hx, rfl⟩ := List.mem_map.1 hg
    obtain ⟨e, h1, hq⟩ := one s q hx
    obtain ⟨⟨a, b, c, d⟩, sm, fl⟩ := over_no (h.over s)
    rw [doF_in e3 hx, three s q hx, done3]
    dsimp only
    rw [w64 (by omega), w64 (by omega), show (f s).fr - q + q = (f s).fr by omega, show (f s).he + q - q = (f s).he by omega]
  · rw [doF_no hg, doF_no hg, doF_no hg, doF_no hg]
end Go.Proofs.YtfpcnenohidfpaaGreat
