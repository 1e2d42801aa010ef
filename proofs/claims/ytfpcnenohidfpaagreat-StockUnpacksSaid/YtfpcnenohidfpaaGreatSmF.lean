/- The stock's calls: several texts as one (StlA, StlB). No condition but those told at each. -/
import Derived.Test.YtfpcnenohidfpaaGreatSmE
import Derived.Test.YtfpcnenohidfpaaGreatLives6
namespace Go.Proofs.YtfpcnenohidfpaaGreat
section
open Go.RowKit Go.Maps Go.Shelf Go.Sort
set_option linter.unusedVariables false
set_option linter.unusedSimpArgs false

/-- What rows there are behind Do; which goods are known. -/
def doF (f : List UInt8 → Row) (ks : List (List UInt8)) (k : Int) (l : List It) : List UInt8 → Row := if doE f ks k l = 0 then putsF f (pairsR k f l) else f
def doK (f : List UInt8 → Row) (ks : List (List UInt8)) (k : Int) (l : List It) : List (List UInt8) := if doE f ks k l = 0 then putsK ks (pairsR k f l) else ks
def cntF (f : List UInt8 → Row) (ks : List (List UInt8)) (s : List UInt8) (n : Int) : List UInt8 → Row := if cntE f ks s n = 0 then fun k => if k = s then cntR (f s) n else f k else f
def cntV (f : List UInt8 → Row) (ks : List (List UInt8)) (s : List UInt8) (n : Int) : Int := if cntE f ks s n = 0 then moreR (f s) n else 0
theorem cntE_in {f : List UInt8 → Row} {ks : List (List UInt8)} {s : List UInt8} {n : Int} (h : cntE f ks s n = 0) : s ∈ ks := by
  unfold cntE at h
  split at h
  · cases h
  · split at h
    · cases h
    · rename_i h2
      exact Classical.not_not.1 h2
theorem addS_in {ks : List (List UInt8)} {s : List UInt8} (h : s ∈ ks) : addS ks s = ks := by unfold addS; rw [if_pos h]
theorem do_u (k : Int) (A : Option Addr) (n c : Nat) (l : List It) (w : World) {p b N : Nat} {f : List UInt8 → Row} {ks : List (List UInt8)} (h : ST w p b N f ks) (hl : IL w A n l) (hn : n ≤ 1048576) (hw : ∀ x ∈ l, x.1.length ≤ maxLen) (hN : N ≤ 140737488355328) (hks : ks.length ≤ 1099511627776) :
    Calls Tryz.prog 24 #[.pointer (some ⟨p, 0, none⟩), .int .i64 k, .slice A n c] w fun e w' => e = .returned (.int .i64 (doE f ks k l)) ∧ (∃ N', N' ≤ N + n ∧ ST w' p b N' (doF f ks k l) (doK f ks k l)) ∧ Keep (fun i => i = b) w w' := by
  have hln := hl.len
  refine (do_any k A n c l w h hl (by omega) hw (by unfold maxLen; omega) hks).mono ?_
  rintro e w' ⟨rfl, ⟨h1, h2⟩ | ⟨h1, h2, h3⟩⟩
  · unfold doF doK
    rw [if_neg h1, if_neg h1]
    exact ⟨rfl, ⟨N, by omega, h.below h2⟩, Keep.ofB h2⟩
  · unfold doF doK
    rw [if_pos h1, if_pos h1]
    exact ⟨rfl, ⟨_, by omega, h2⟩, h3⟩
theorem count_u (s : List UInt8) (n : Int) (w : World) {p b N : Nat} {f : List UInt8 → Row} {ks : List (List UInt8)} (h : ST w p b N f ks) (hsl : s.length ≤ maxLen) (hN : N ≤ 140737488355328) :
    Calls Tryz.prog 25 #[.pointer (some ⟨p, 0, none⟩), .string ⟨s.toArray⟩, .int .i64 n] w fun e w' => e = .returned (.tuple #[.int .i64 (cntV f ks s n), .int .i64 (cntE f ks s n)]) ∧ (∃ N', N' ≤ N + 1 ∧ ST w' p b N' (cntF f ks s n) ks) ∧ Keep (fun i => i = b) w w' := by
  refine (count_any s n w h hsl (by unfold maxLen; omega)).mono ?_
  rintro e w' ⟨rfl, ⟨h1, h2⟩ | ⟨h1, h2, h3⟩⟩
  · unfold cntF cntV
    rw [if_neg h1, if_neg h1]
    exact ⟨rfl, ⟨N, by omega, h.below h2⟩, Keep.ofB h2⟩
  · unfold cntF cntV
    rw [if_pos h1, if_pos h1]
    rw [addS_in (cntE_in h1)] at h2
    exact ⟨rfl, ⟨_, Nat.le_refl _, h2⟩, h3⟩
end
section
open Go.RowKit Go.Maps Go.Shelf Go.Sort
set_option linter.unusedVariables false
set_option linter.unusedSimpArgs false
attribute [local go_sem] Oper.semAt_some

theorem func_eqS (d : Nat) (fn : Fn) (first cap : Array Value) (W : World) : (Op.equalIn (d + 1) 63 (.func fn first cap) .nilFunc).run Tryz.prog W = .ok false W := by
  simp [Op.equalIn, run_underlying Tryz.underlying63]
theorem func_eq_nilS (fn : Fn) (first cap : Array Value) (W : World) : (binOp .eql 63 (.func fn first cap) .nilFunc).run Tryz.prog W = .ok (.bool false) W := by
  have h := func_eqS 9999 fn first cap W
  simp only [binOp]
  simp [Op.equal, Op.maxDepth, h]
def l5 : List It := [([97], 5)]
def l3 : List It := [([97], 3)]
def f0 : List UInt8 → Row := fun _ => row0
def f1 : List UInt8 → Row := doF f0 [] 1 l5
def k1 : List (List UInt8) := doK f0 [] 1 l5
def f2 : List UInt8 → Row := doF f1 k1 2 l3
def k2 : List (List UInt8) := doK f1 k1 2 l3
def f3 : List UInt8 → Row := cntF f2 k2 [97] 2
def f4 : List UInt8 → Row := cntF f3 k2 [97] 4
theorem l5_wl : WL l5 := fun x hx => by simp [l5] at hx; subst hx; exact ⟨by simp [maxLen], by decide⟩
theorem l5_len : ∀ x ∈ l5, x.1.length ≤ maxLen := fun x hx => (l5_wl x hx).1
theorem l3_len : ∀ x ∈ l3, x.1.length ≤ maxLen := fun x hx => by simp [l3] at hx; subst hx; simp [maxLen]
theorem k_one : k1 = [[97]] ∧ k2 = [[97]] := by constructor <;> decide +kernel
theorem e_one : doE f0 [] 1 l5 = 0 := by decide +kernel
theorem e_two : doE f1 k1 2 l3 = 0 := by decide +kernel
theorem e_three : cntE f2 k2 [97] 2 = 70 := by decide +kernel
theorem e_four : cntE f3 k2 [97] 4 = 0 := by decide +kernel
theorem v_four : cntV f3 k2 [97] 4 = -1 := by decide +kernel
theorem e_five : doE f4 k2 2 l5 = 51 := by decide +kernel
theorem row_four : f4 [97] = ⟨1, 3, 0, 0, 5, 0, -1, 0, 0, 0, 0⟩ := by
  have : (f4 [97]).ints = [1, 3, 0, 0, 5, 0, -1, 0, 0, 0, 0] := by decide +kernel
  generalize f4 [97] = r at this ⊢
  obtain ⟨x0, x1, x2, x3, x4, x5, x6, x7, x8, x9, x10⟩ := r
  simp only [Row.ints] at this
  simp_all
theorem row_off (g : List UInt8) (h : g ≠ [97]) : f4 g = row0 := by
  unfold f4 cntF
  rw [if_pos e_four]
  show (if g = [97] then _ else f3 g) = row0
  rw [if_neg h]
  unfold f3 cntF
  rw [if_neg (by rw [e_three]; decide)]
  unfold f2 doF
  rw [if_pos e_two]
  show (if g = [97] then _ else f1 g) = row0
  rw [if_neg h]
  unfold f1 doF
  rw [if_pos e_one]
  show (if g = [97] then _ else f0 g) = row0
  rw [if_neg h]
  rfl
theorem rows_ok : ∀ g, ∀ n ∈ (f4 g).ints, isInt n := fun g => by
  by_cases h : g = [97]
  · rw [h, row_four]
    intro n hn
    simp [Row.ints] at hn
    unfold isInt
    omega
  · rw [row_off g h]
    intro n hn
    simp [Row.ints, row0] at hn
    unfold isInt
    omega
theorem unp_ok : ∃ f ks, unpS (packC f4 k2) = some (f, ks) := by
  have hp : packC f4 k2 = (packS f4 (put (some []) (numCell (k2.length : Int))) [[97]]).getD [] := by
    unfold packC packO
    rw [show sortU k2 = [[97]] from by rw [k_one.2]; unfold sortU; simp]
  have : (unpS (packC f4 k2)).isSome = true := by
    rw [hp]
    decide +kernel
  obtain ⟨⟨f, ks⟩, h⟩ := Option.isSome_iff_exists.1 this
  exact ⟨f, ks, h⟩
theorem meet_one : (meetL l5 (freeL f4 l5)).length = 1 := by
  have hf : freeL f4 l5 = [([97], 1)] := by
    unfold freeL l5
    simp [row_four]
  rw [hf]
  decide +kernel
set_option maxRecDepth 100000 in
set_option maxHeartbeats 6400000 in
theorem lives_any (w : World) : Calls Tryz.prog 6 #[] w fun e w' => e = .returned (.bool true) ∧ Below w.heap.size w w' := by
  have hnn := func_eq_nilS
  go_enter Tryz.func6, Tryz.ntmps6
  go_wp2_with fail
  refine (snew_any _).mono ?_
  rintro e w1 ⟨p, b, rfl, hS, hpw, hbw, hb⟩
  go_wp2_with fail
  refine (goods_any _ hS).mono ?_
  rintro e w2 ⟨rfl, hww⟩
  replace hS := hS.alloc (.cells #[.map (some b)] 48)
  replace hb := hb.alloc hb.size (.cells #[.map (some b)] 48)
  rw [← hww] at hS hb
  clear hww
  have hlt := hS.lt
  have hil := IL.one w2 [97] 5 66
  have hSa := hS.alloc (.cells #[.string ⟨#[97]⟩, .int .i64 5] 66)
  have hba := hb.alloc hb.size (.cells #[.string ⟨#[97]⟩, .int .i64 5] 66)
  obtain ⟨lb, hlb⟩ : ∃ lb, w2.heap.size = lb := ⟨_, rfl⟩
  rw [hlb] at hil hlt
  replace hlb := Lib.hid hlb
  have hlbb : ¬ lb = b := by omega
  have c1 := do_u 1 (some ⟨lb, 0, none⟩) 1 1 l5 _ hSa hil (by decide) l5_len (by decide) (by decide)
  rw [show doF (fun _ => row0) [] 1 l5 = f1 from rfl, show doK (fun _ => row0) [] 1 l5 = k1 from rfl, show doE (fun _ => row0) [] 1 l5 = 0 from e_one] at c1
  clear hS hb
  go_upto_region 5 with fail
  rw [hlb.out]
  go_wp2_with fail
  refine c1.mono ?_
  rintro e w3 ⟨rfl, ⟨N3, hN3, hS3⟩, hk3⟩
  have hb3 := hba.trans (hk3.below (B := w.heap.size) hba.size (fun i hi e => by omega))
  have hil3 := hil.kept hk3 (fun ad e _ => by cases e; exact hlbb)
  clear c1 hSa hba hil hk3
  have hz3 := hS3.lt
  have hil4 := IL.one w3 [97] 3 66
  have hS4 := hS3.alloc (.cells #[.string ⟨#[97]⟩, .int .i64 3] 66)
  have hb4 := hb3.alloc hb3.size (.cells #[.string ⟨#[97]⟩, .int .i64 3] 66)
  have hil3 := hil3.alloc (.cells #[.string ⟨#[97]⟩, .int .i64 3] 66)
  have c2 := do_u 2 (some ⟨w3.heap.size, 0, none⟩) 1 1 l3 _ hS4 hil4 (by decide) l3_len (by omega) (by rw [k_one.1]; decide)
  rw [show doF f1 k1 2 l3 = f2 from rfl, show doK f1 k1 2 l3 = k2 from rfl, e_two] at c2
  go_wp2_with fail
  refine c2.mono ?_
  rintro e w5 ⟨rfl, ⟨N5, hN5, hS5⟩, hk5⟩
  have hb5 := hb4.trans (hk5.below (B := w.heap.size) hb4.size (fun i hi e => by omega))
  have hil5 := hil3.kept hk5 (fun ad e _ => by cases e; exact hlbb)
  clear c2 hS4 hb4 hil3 hil4 hk5 hS3 hb3
  have c3 := count_u [97] 2 w5 hS5 (by simp [maxLen]) (by omega)
  rw [show cntF f2 k2 [97] 2 = f3 from rfl, e_three] at c3
  go_wp2_with fail
  refine c3.mono ?_
  rintro e w6 ⟨rfl, ⟨N6, hN6, hS6⟩, hk6⟩
  have hb6 := hb5.trans (hk6.below (B := w.heap.size) hb5.size (fun i hi e => by omega))
  have hil6 := hil5.kept hk6 (fun ad e _ => by cases e; exact hlbb)
  clear c3 hS5 hb5 hil5 hk6
  have c4 := count_u [97] 4 w6 hS6 (by simp [maxLen]) (by omega)
  rw [show cntF f3 k2 [97] 4 = f4 from rfl, e_four, v_four] at c4
  go_wp2_with fail
  refine c4.mono ?_
  rintro e w7 ⟨rfl, ⟨N7, hN7, hS7⟩, hk7⟩
  have hb7 := hb6.trans (hk7.below (B := w.heap.size) hb6.size (fun i hi e => by omega))
  have hil7 := hil6.kept hk7 (fun ad e _ => by cases e; exact hlbb)
  clear c4 hS6 hb6 hil6 hk7
  go_wp2_with fail
  refine (spack_any hS7 (by rw [k_one.2]; decide) (fun g hg => by rw [k_one.2] at hg; simp at hg; subst hg; decide) rows_ok).mono ?_
  rintro e w8 ⟨A8, c8, rfl, hc8, hm8, hr8, hx8, hA8⟩
  have hS8 := hS7.below hx8
  have hb8 := hb7.trans (hx8.mono hb7.size)
  have hil8 := hil7.below hx8
  clear hS7 hb7 hil7 hx8
  have hlen8 : (packC f4 k2).length ≤ 140737488355328 := packC_len _ _
  obtain ⟨uf, uk, hu⟩ := unp_ok
  have c5 := sunpack_any A8 _ c8 (packC f4 k2) w8 hr8 hlen8
  rw [hu] at c5
  go_wp2_with fail
  refine c5.mono ?_
  rintro e w9 ⟨hx9, ⟨h0, _⟩ | ⟨f9, ks9, p9, b9, N9, h0, rfl, hS9, _⟩⟩
  · cases h0
  have hS10 := hS8.below hx9
  have hb9 := hb8.trans (hx9.mono hb8.size)
  have hil9 := hil8.below hx9
  clear c5 hS8 hb8 hil8 hx9 hS9 h0 hr8
  have c6 := level_any w9 hS10 [97] (by simp [maxLen])
  rw [row_four] at c6
  go_wp2_with fail
  refine c6.mono ?_
  rintro e w10 ⟨rfl, hx10⟩
  have hS11 := hS10.below hx10
  have hb10 := hb9.trans (hx10.mono hb9.size)
  have hil10 := hil9.below hx10
  clear c6 hS10 hb9 hil9 hx10
  have c7 := flow_any w10 hS11 [97] (by simp [maxLen])
  rw [row_four] at c7
  go_wp2_with fail
  refine c7.mono ?_
  rintro e w11 ⟨rfl, hx11⟩
  have hS12 := hS11.below hx11
  have hb11 := hb10.trans (hx11.mono hb10.size)
  have hil11 := hil10.below hx11
  clear c7 hS11 hb10 hil10 hx11
  have c8' := do_u 2 (some ⟨lb, 0, none⟩) 1 1 l5 w11 hS12 hil11 (by decide) l5_len (by omega) (by rw [k_one.2]; decide)
  rw [e_five] at c8'
  have hd8 : doF f4 k2 2 l5 = f4 := by unfold doF; rw [if_neg (by rw [e_five]; decide)]
  have hk8 : doK f4 k2 2 l5 = k2 := by unfold doK; rw [if_neg (by rw [e_five]; decide)]
  rw [hd8, hk8] at c8'
  clear hd8 hk8
  go_wp2_with fail
  refine c8'.mono ?_
  rintro e w12 ⟨rfl, ⟨N12, hN12, hS13⟩, hk12⟩
  have hb12 := hb11.trans (hk12.below (B := w.heap.size) hb11.size (fun i hi e => by omega))
  have hil12 := hil11.kept hk12 (fun ad e _ => by cases e; exact hlbb)
  clear c8' hS12 hb11 hil11 hk12
  have c9 := offer_any (some ⟨lb, 0, none⟩) 1 1 l5 w12 hS13 hil12 (by decide) l5_wl l5_len
  go_wp2_with fail
  refine c9.mono ?_
  rintro e w13 ⟨v13, rfl, hO13, hx13⟩
  obtain ⟨A13, c13, rfl, -, -, -, -⟩ := hO13.form
  rw [meet_one]
  have hS14 := hS13.below hx13
  have hb13 := hb12.trans (hx13.mono hb12.size)
  clear c9 hS13 hb12 hil12 hx13 hO13
  have d1 := level_any w13 hS14 [97] (by simp [maxLen])
  rw [row_four] at d1
  go_wp2_with fail
  refine d1.mono ?_
  rintro e w14 ⟨rfl, hx14⟩
  have hS15 := hS14.below hx14
  have hb14 := hb13.trans (hx14.mono hb13.size)
  clear d1 hS14 hb13 hx14
  have d2 := flow_any w14 hS15 [97] (by simp [maxLen])
  rw [row_four] at d2
  go_wp2_with fail
  refine d2.mono ?_
  rintro e w15 ⟨rfl, hx15⟩
  have hb15 := hb14.trans (hx15.mono hb14.size)
  clear d2 hS15 hb14 hx15
  have d3 := balanced_any 1 3 0 0 5 0 (-1) 0 0 0 0 w15
  rw [show balB 1 3 0 0 5 0 (-1) 0 0 0 0 = true from by decide] at d3
  go_wp2_with fail
  refine d3.mono ?_
  rintro e w16 ⟨rfl, hx16⟩
  go_wp2
  go_ret
  exact ⟨rfl, hb15.trans (hx16.mono hb15.size)⟩
end
end Go.Proofs.YtfpcnenohidfpaaGreat
