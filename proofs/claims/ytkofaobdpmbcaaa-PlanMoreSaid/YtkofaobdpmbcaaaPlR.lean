/- The document's answers of layer 14: May, Split, Fewest; and the laws' 'small'. No condition but that the lists are ones of memory. -/
import Derived.Test.YtkofaobdpmbcaaaPlO
import Derived.Test.YtkofaobdpmbcaaaRNorm
namespace Go.Proofs.Ytkofaobdpmbcaaa
open Go.RowKit Go.Maps Go.Shelf
set_option linter.unusedVariables false
set_option linter.unusedSimpArgs false

theorem below_drew3 (w : World) (q a b : Nat) : Below w.heap.size w (((w.drewN q).drewN a).drewN b) := by
  have h := Below.refl w.heap.size w
  exact ⟨h.1, h.2, h.3, h.4, h.5⟩
def smallB (l : List It) (ls : List (List It)) : Bool := decide (l.length ≤ 100) && (decide (ls.length ≤ 50) && ls.all fun x => decide (x.length ≤ 100))
set_option maxRecDepth 100000 in
set_option maxHeartbeats 1600000 in
theorem psmall_any (A : Option Addr) (n c : Nat) (l : List It) (R : Option Addr) (m cm : Nat) (ls : List (List It)) (B : Nat) (w : World) (hl : IL w A n l) (hr : RL B w R m ls) (hn : n ≤ 9223372036854775807) (hm : m ≤ 9223372036854775807) :
    Calls Try.prog 10 #[.slice A n c, .slice R m cm] w fun e w' => e = .returned (.bool (smallB l ls)) ∧ w' = w := by
  have hlen := hr.1
  have hll := hl.len
  by_cases h1 : 100 < n
  · have hz : (100 : Int) < (n : Int) := by omega
    have hno : smallB l ls = false := by unfold smallB; rw [decide_eq_false (by omega)]; rfl
    go_enter Try.func10, Try.ntmps10
    go_wp2
    go_ret
    exact ⟨by first | rfl | (rw [hno]; rfl), rfl⟩
  have hz : ¬ (100 : Int) < (n : Int) := by omega
  by_cases h2 : 50 < m
  · have hz2 : (50 : Int) < (m : Int) := by omega
    have hno : smallB l ls = false := by unfold smallB; rw [decide_eq_false (show ¬ ls.length ≤ 50 by omega)]; simp
    go_enter Try.func10, Try.ntmps10
    go_wp2
    go_ret
    exact ⟨by first | rfl | (rw [hno]; rfl), rfl⟩
  have hz2 : ¬ (50 : Int) < (m : Int) := by omega
  have hS := Lib.hid (show smallB l ls = ls.all fun x => decide (x.length ≤ 100) by unfold smallB; rw [decide_eq_true (by omega), decide_eq_true (by omega)]; rfl)
  go_enter Try.func10, Try.ntmps10
  go_wp2
  go_loopw [5] (fun i wr => wr = w ∧ ∃ k : Nat, i = .int .i64 (k : Int) ∧ k ≤ m ∧ Hid ((ls.take k).all (fun x => decide (x.length ≤ 100)) = true)) (fun i _ => m - (intOf i).toNat)
  case atStart => exact ⟨rfl, 0, by go_num, by omega, Lib.hid rfl⟩
  case round =>
    obtain ⟨rfl, k, rfl, hk, ht⟩ := hrel
    by_cases hlt : k < m
    · have hlz : (k : Int) < (m : Int) := by omega
      obtain ⟨b, off, x, Ai, ci, rfl, hx, hcell, _⟩ := hr.place hlt
      obtain ⟨q, hq⟩ : ∃ q, x.length = q := ⟨_, rfl⟩
      rw [hq] at hcell
      by_cases h3 : 100 < q
      · have hz3 : (100 : Int) < (q : Int) := by omega
        have hno := Lib.hid (show smallB l ls = false by
          rw [hS.out, List.all_eq_false]
          exact ⟨x, List.mem_of_getElem? hx, by simp; omega⟩)
        go_wp2
        go_ret
        exact ⟨by rw [hno.out]; rfl, rfl⟩
      · have hz3 : ¬ (100 : Int) < (q : Int) := by omega
        have ht2 := Lib.hid (show (ls.take (k + 1)).all (fun x => decide (x.length ≤ 100)) = true by
          rw [List.take_add_one, hx, List.all_append, ht.out]
          simp
          omega)
        go_wp2
        go_roundw
        case measure => simp [intOf]; omega
        case rel => exact ⟨trivial, k + 1, by go_num, by omega, ht2⟩
    · have hlz : ¬ (k : Int) < (m : Int) := by omega
      have hyes := Lib.hid (show smallB l ls = true by rw [hS.out]; have := ht.out; rw [List.take_of_length_le (by omega)] at this; exact this)
      go_wp2
      go_ret
      exact ⟨by rw [hyes.out]; rfl, rfl⟩

theorem smallB_facts {l : List It} {ls : List (List It)} (h : smallB l ls = true) : l.length ≤ 100 ∧ ls.length ≤ 50 ∧ ∀ x ∈ ls, x.length ≤ 100 := by
  unfold smallB at h
  simp only [Bool.and_eq_true, decide_eq_true_eq, List.all_eq_true] at h
  exact h

set_option maxRecDepth 100000 in
set_option maxHeartbeats 1600000 in
theorem prmay_any (A : Option Addr) (n c : Nat) (l : List It) (R : Option Addr) (m cm : Nat) (ls : List (List It)) (B : Nat) (w : World) (hl : IL w A n l) (hwl : WL l) (hr : RL B w R m ls) (hn : n ≤ 9223372036854775807) (hm : m ≤ 9223372036854775807) :
    Calls Try.prog 13 #[.slice A n c, .slice R m cm] w fun e w' => e = .returned (.bool (mayS l ls)) ∧ Below w.heap.size w w' := by
  have hlen := hr.1
  have key := refmay_b A n c l w hl hn hwl.long
  cases hml : mayL l with
  | false =>
    rw [hml] at key
    have hno := Lib.hid (show mayS l ls = false by unfold mayS mayP; rw [hml, Bool.and_false, Bool.and_false])
    go_enter Try.func13, Try.ntmps13
    go_wp2_with fail
    refine key.mono ?_
    rintro e w1 ⟨rfl, hx1⟩
    go_wp2
    go_ret
    exact ⟨by rw [hno.out]; rfl, hx1⟩
  | true =>
  rw [hml] at key
  by_cases h8 : 8 < m
  · have hz8 : (8 : Int) < (m : Int) := by omega
    have hno := Lib.hid (show mayS l ls = false by unfold mayS; rw [decide_eq_false (by omega)]; rfl)
    go_enter Try.func13, Try.ntmps13
    go_wp2_with fail
    refine key.mono ?_
    rintro e w1 ⟨rfl, hx1⟩
    go_wp2
    go_ret
    exact ⟨by rw [hno.out]; rfl, hx1⟩
  have hz8 : ¬ (8 : Int) < (m : Int) := by omega
  have hS := Lib.hid (show mayS l ls = ls.all mayL by unfold mayS mayP; rw [decide_eq_true (by omega), hml, Bool.and_true]; rfl)
  clear hml
  go_enter Try.func13, Try.ntmps13
  go_wp2_with fail
  refine key.mono ?_
  rintro e w1 ⟨rfl, hx1⟩
  clear key
  go_wp2
  go_loopw [5] (fun i wr => ∃ k : Nat, i = .int .i64 (k : Int) ∧ k ≤ m ∧ Hid ((ls.take k).all mayL = true) ∧ Below w.heap.size w wr) (fun i _ => m - (intOf i).toNat)
  case atStart => exact ⟨0, by go_num, by omega, Lib.hid rfl, hx1⟩
  case round =>
    obtain ⟨k, rfl, hk, ht, hbw⟩ := hrel
    have hr2 := hr.below hbw
    by_cases hlt : k < m
    · have hlz : (k : Int) < (m : Int) := by omega
      obtain ⟨b, off, x, Ai, ci, rfl, hx, hcell, hil, hlc, hcm, hwx, _⟩ := hr2.place hlt
      have hat := Lib.hid (allL_take hx ht.out)
      go_wp2_with fail
      refine (refmay_b Ai x.length ci x _ hil (by omega) hwx.long).mono ?_
      rintro e w2 ⟨rfl, hx2⟩
      have hb2 := hbw.trans (hx2.mono hbw.size)
      cases hmx : mayL x with
      | true =>
        go_wp2
        go_roundw
        case measure => simp [intOf]; omega
        case rel => exact ⟨k + 1, by go_num, by omega, Lib.hid (by rw [hat.out, hmx]), hb2⟩
      | false =>
        have hno := Lib.hid (show mayS l ls = false by rw [hS.out]; exact allL_bad hx hmx)
        go_wp2
        go_ret
        exact ⟨by rw [hno.out]; rfl, hb2⟩
    · have hlz : ¬ (k : Int) < (m : Int) := by omega
      have hyes := Lib.hid (show mayS l ls = true by rw [hS.out]; have := ht.out; rw [List.take_of_length_le (by omega)] at this; exact this)
      go_wp2
      go_ret
      exact ⟨by rw [hyes.out]; rfl, hbw⟩

theorem rest_meet {a b : List It} (ha : MY a) (hb : MY b) : restL a (meetL a b) = restL a b :=
  MY.ext_of (MY.rest ha (MY.meet ha hb)) (MY.rest ha hb) fun g => by
    rw [of_rest ha (MY.meet ha hb), of_meet ha hb, of_rest ha hb]
    have := ha.nonneg g
    have := hb.nonneg g
    omega
/-- What is wanted still: what came in, or a list that the call owns. -/
def WantI (B : Nat) (w : World) (v : Value) (l : List It) : Prop := ∃ A c, v = .slice A l.length c ∧ IL w A l.length l ∧ ((∀ ad, A = some ad → 0 < l.length → ad.block < B) ∨ OI B w v l)
theorem WantI.below {B : Nat} {w w' : World} {v : Value} {l : List It} (h : WantI B w v l) (k : Below w.heap.size w w') : WantI B w' v l := by
  obtain ⟨A, c, rfl, hi, h⟩ := h
  exact ⟨A, c, rfl, hi.below k, h.imp id fun h => h.below k⟩
theorem WantI.of {B base : Nat} {w : World} {v : Value} {l : List It} (h : OI base w v l) (hb : B ≤ base) : WantI B w v l := by
  have h2 := h.mono hb
  obtain ⟨A, c, rfl, _, _, hi, _⟩ := h.form
  exact ⟨A, c, rfl, hi, .inr h2⟩
set_option maxRecDepth 100000 in
set_option maxHeartbeats 3200000 in
theorem prsplit_any (A : Option Addr) (n c : Nat) (l : List It) (R : Option Addr) (m cm : Nat) (ls : List (List It)) (B : Nat) (w : World) (hl : IL w A n l) (hr : RL B w R m ls) (hmy : MY l) (hmys : MYs ls) (hm : m ≤ 1000) :
    Calls Try.prog 14 #[.slice A n c, .slice R m cm] w fun e w' => Below w.heap.size w w' ∧ ∃ v u, e = .returned (.tuple #[v, u]) ∧ OL w.heap.size w' v (givenO l ls) ∧ WantI w.heap.size w' u (leftO l ls) := by
  have hlen := hr.1
  have hll := hl.len
  subst hll
  go_enter Try.func14, Try.ntmps14
  go_wp2
  go_loopw [0, 6, 7, 8] (fun u gv i s wr => ∃ k : Nat, i = .int .i64 (k : Int) ∧ k ≤ m ∧ OL w.heap.size wr gv (givenO l (ls.take k)) ∧ WantI w.heap.size wr u (leftO l (ls.take k)) ∧ Below w.heap.size w wr) (fun _ _ i _ _ => m - (intOf i).toNat)
  case atStart => exact ⟨0, by go_num, by omega, OL.nil _ _, ⟨A, c, rfl, hl, .inl fun ad ha hp => hl.lt ad ha hp⟩, Below.refl _ _⟩
  case round =>
    obtain ⟨k, rfl, hk, hG, hU, hbw⟩ := hrel
    by_cases hlt : k < m
    · have hlz : (k : Int) < (m : Int) := by omega
      obtain ⟨b, off, x, Ai, ci, rfl, hx, hcell0, hil0, hlc, hcm, hwx, _⟩ := hr.place hlt
      have hcell := (hbw.cell (p := ⟨b, off + k, none⟩) (World.block_lt_of_cell? _ _ hcell0)).trans hcell0
      have hil := hil0.below hbw
      have hmL := MY.leftO (hmys.take k) hmy
      have hmx := hmys x (List.mem_of_getElem? hx)
      have htk : leftO l (ls.take (k + 1)) = restL (leftO l (ls.take k)) (meetL (leftO l (ls.take k)) x) := by rw [List.take_add_one, hx, rest_meet hmL hmx]; exact leftO_snoc _ _ _
      have htg : givenO l (ls.take (k + 1)) = givenO l (ls.take k) ++ [meetL (leftO l (ls.take k)) x] := by rw [List.take_add_one, hx]; exact givenO_snoc _ _ _
      have hgl : (givenO l (ls.take k)).length ≤ 1000 := by rw [givenO_len, List.length_take]; omega
      obtain ⟨L, hL⟩ : ∃ L, leftO l (ls.take k) = L := ⟨_, rfl⟩
      rw [hL] at hU hmL htk htg
      obtain ⟨AU, cU, rfl, hUi, _⟩ := hU
      have hle := hmL.len
      have hxl := hmx.len
      have hml := (MY.meet hmL hmx).len
      clear hL
      go_wp2_with fail
      refine (refmeet_any AU Ai L.length cU x.length ci L x _ hUi hil (by omega) (by omega) hmL hmx).mono ?_
      rintro e w4 ⟨v4, rfl, ho4, hx4⟩
      have hb4 := hbw.trans (hx4.mono hbw.size)
      have hG4 := hG.below hx4
      have hU4 := hUi.below hx4
      obtain ⟨A4, c4, rfl, h41, h42, h4il, h4ad⟩ := ho4.form
      go_wp2_with fail
      refine (refrest_any AU A4 L.length cU (meetL L x).length c4 L (meetL L x) _ hU4 h4il (by omega) (by omega) hmL (MY.meet hmL hmx)).mono ?_
      rintro e w5 ⟨v5, rfl, ho5, hx5⟩
      have hb5 := hb4.trans (hx5.mono hb4.size)
      have hG5 := (hG4.below hx5).alloc (.cells #[.slice A4 (meetL L x).length c4] 26)
      have ho45 := (ho4.below hx5).alloc (.cells #[.slice A4 (meetL L x).length c4] 26)
      have h4i5 := (h4il.below hx5).alloc (.cells #[.slice A4 (meetL L x).length c4] 26)
      have ho55 := (ho5.mono hb4.size).alloc (.cells #[.slice A4 (meetL L x).length c4] 26)
      have hb5a := hb5.alloc hb5.size (.cells #[.slice A4 (meetL L x).length c4] 26)
      have hcm4 : c4 ≤ 9223372036854775807 := by unfold maxLen at h42; omega
      clear hG4 hU4 hx4 hx5 h4il ho4 ho5 h4ad hcell hil hUi
      go_wp2_with (at_builtin; refine wpAppL1 rfl _ _ rfl w.heap.size _ _ rfl hG5 w5.heap.size 1 (meetL L x) A4 c4 rfl (by go_simp) h4i5 h41 hcm4 (MY.meet hmL hmx).wl (ho45.ne_row hG5 rfl) (by omega) hb5a.size ?_; rintro v6 w6 hG6 hk6 hl6)
      go_roundw
      case measure => simp [intOf]; omega
      case rel =>
        have hb6 := hb5a.trans (hk6.below hb5a.size (fun j hj e => by have := (hG5.lt j e).1; omega))
        exact ⟨k + 1, by go_num, by omega, by rw [htg]; exact hG6, by rw [htk]; exact WantI.of (ho55.kept hk6 (fun g hg e => hG5.ne ho55 e hg)) (Nat.le_refl _), hb6⟩
    · have hlz : ¬ (k : Int) < (m : Int) := by omega
      rw [List.take_of_length_le (by omega)] at hG hU
      go_wp2
      go_ret2
      exact ⟨hbw, _, _, rfl, hG, hU⟩

set_option maxRecDepth 100000 in
set_option maxHeartbeats 1600000 in
theorem prahead_any (X Y : Option Addr) (n c d : Nat) (x y : List Nat) (w : World) (hx : Cnt.IR w X n (natI x)) (hy : Cnt.IR w Y n (natI y)) (hn : n ≤ 1000) :
    Calls Try.prog 34 #[.slice X n c, .slice Y n d] w fun e w' => e = .returned (.bool (decide (x < y))) ∧ Below w.heap.size w w' := by
  have hxl : x.length = n := by have := hx.len; rw [natI_len] at this; exact this
  have hyl : y.length = n := by have := hy.len; rw [natI_len] at this; exact this
  have hcl := Lib.hid (cmpL_lt x y)
  have hD : ∀ z : Int, cmpL x y = z → decide (x < y) = decide (z < 0) := fun z hz => by
    rw [← hz]
    exact decide_eq_decide.2 hcl.out.symm
  replace hD := Lib.hid hD
  go_enter Try.func34, Try.ntmps34
  go_wp2
  go_loopw [5] (fun i wr => ∃ k q : Nat, i = .int .i64 (k : Int) ∧ k ≤ n ∧ wr = w.drewN q ∧ Hid (cmpL x y = cmpL (x.drop k) (y.drop k))) (fun i _ => n - (intOf i).toNat)
  case atStart => exact ⟨0, 0, by go_num, by omega, rfl, Lib.hid rfl⟩
  case round =>
    obtain ⟨k, q, rfl, hk, rfl, hc⟩ := hrel
    by_cases hkn : k < n
    · have hlz : (k : Int) < (n : Int) := by omega
      obtain ⟨xb, xoff, xz, rfl, hxz, hxc⟩ := hx.place hkn
      obtain ⟨p, hpk⟩ : ∃ p, x[k]? = some p := ⟨_, List.getElem?_eq_getElem (by omega)⟩
      have hpe : xz = (p : Int) := by rw [natI_get hpk] at hxz; injection hxz with hxz; exact hxz.symm
      subst hpe
      have hd := Lib.hid (cmpL_drop (y := y) hpk)
      obtain ⟨yb, yoff, yz, rfl, hyz, hyc⟩ := hy.place hkn
      obtain ⟨r, hrk⟩ : ∃ r, y[k]? = some r := ⟨_, List.getElem?_eq_getElem (by omega)⟩
      have hre : yz = (r : Int) := by rw [natI_get hrk] at hyz; injection hyz with hyz; exact hyz.symm
      subst hre
      have hcx : ∀ q, (w.drewN q).cell? ⟨xb, xoff + k, none⟩ = some (.int .i64 (p : Int)) := fun _ => hxc
      have hcy : ∀ q, (w.drewN q).cell? ⟨yb, yoff + k, none⟩ = some (.int .i64 (r : Int)) := fun _ => hyc
      have hrk2 := Lib.hid hrk
      clear hxz hyz hxc hyc hpk hrk
      by_cases he : p = r
      · have he1 : ((p : Int) == (r : Int)) = true := beq_iff_eq.2 (by omega)
        have he2 : ((p : Int) != (r : Int)) = false := by rw [bne, he1]; rfl
        have he3 : decide (¬ (p : Int) = (r : Int)) = false := decide_eq_false (by omega)
        have he4 : (p : Int) = (r : Int) := by omega
        have hnext := Lib.hid (show cmpL x y = cmpL (x.drop (k + 1)) (y.drop (k + 1)) by rw [hc.out, hd.out, hrk2.out]; show (if p < r then _ else _) = _; rw [if_neg (by omega), if_neg (by omega)])
        clear he
        go_wp2_with fail
        go_quiet (fail)
        go_wp2_with fail
        go_roundw
        case measure => simp [intOf]; omega
        case rel => exact ⟨k + 1, _, by go_num, by omega, rfl, hnext⟩
      · have he1 : ((p : Int) == (r : Int)) = false := beq_eq_false_iff_ne.2 (by omega)
        have he2 : ((p : Int) != (r : Int)) = true := bne_iff_ne.2 (by omega)
        have he4 : ¬ (p : Int) = (r : Int) := by omega
        by_cases h1 : p < r
        · have hz : decide ((p : Int) < (r : Int)) = true := decide_eq_true (by omega)
          have hz2 : (p : Int) < (r : Int) := by omega
          have hz3 : decide (p < r) = true := decide_eq_true h1
          have hfin := Lib.hid (show decide (x < y) = true by rw [hD.out (-1) (by rw [hc.out, hd.out, hrk2.out]; exact if_pos h1)]; rfl)
          clear he h1
          go_wp2_with fail
          go_quiet (fail)
          go_wp2_with fail
          go_quiet (fail)
          go_wp2_with fail
          go_ret
          exact ⟨by rw [hfin.out]; first | rfl | simp, by first | exact below_drewN w _ | exact below_drew3 w _ _ _⟩
        · have hz : decide ((p : Int) < (r : Int)) = false := decide_eq_false (by omega)
          have hz2 : ¬ (p : Int) < (r : Int) := by omega
          have hz3 : decide (p < r) = false := decide_eq_false h1
          have hfin := Lib.hid (show decide (x < y) = false by rw [hD.out 1 (by rw [hc.out, hd.out, hrk2.out]; show (if p < r then _ else _) = _; rw [if_neg h1, if_pos (by omega)])]; rfl)
          clear he h1
          go_wp2_with fail
          go_quiet (fail)
          go_wp2_with fail
          go_quiet (fail)
          go_wp2_with fail
          go_ret
          exact ⟨by rw [hfin.out]; first | rfl | simp, by first | exact below_drewN w _ | exact below_drew3 w _ _ _⟩
    · have hlz : ¬ (k : Int) < (n : Int) := by omega
      have hfin := Lib.hid (show decide (x < y) = false by rw [hD.out 0 (by rw [hc.out, List.drop_eq_nil_of_le (by omega), List.drop_eq_nil_of_le (by omega)]; rfl)]; rfl)
      go_wp2
      go_ret
      exact ⟨by rw [hfin.out]; first | rfl | simp, by first | exact below_drewN w _ | exact below_drew3 w _ _ _⟩
end Go.Proofs.Ytkofaobdpmbcaaa
