/- plan.Visit, places, chosen, fewer. No condition but that the lists are ones of memory. -/
import Derived.Test.YtkofaobdpmbcaaaPlC
import Derived.Laws.BitsLemmas
namespace Go.Proofs.Ytkofaobdpmbcaaa
open Go.RowKit Go.Maps Go.Shelf
set_option linter.unusedVariables false
set_option linter.unusedSimpArgs false

def visitO (f r : Int) : List Int := if 1 ≤ r ∧ r ≤ 8 ∧ 0 ≤ f ∧ f < r then (List.range r.toNat).map (fun (i : Nat) => (f + (i : Int)) % r) else []
theorem vis_take (f r : Int) (k : Nat) (h : k < r.toNat) : ((List.range (k + 1)).map fun (i : Nat) => (f + (i : Int)) % r) = ((List.range k).map fun (i : Nat) => (f + (i : Int)) % r) ++ [(f + (k : Int)) % r] := by
  rw [List.range_succ, List.map_append]
  rfl
theorem IR.one_ (w : World) (z : Int) (t : TypeId) : Cnt.IR (w.alloc (.cells #[.int .i64 z] t)) (some ⟨w.heap.size, 0, none⟩) 1 [z] := Cnt.IR.made w _ t (0, 0) [z] rfl
set_option maxRecDepth 100000 in
set_option maxHeartbeats 1600000 in
theorem pvisit_any (f r : Int) (w : World) : Calls Try.prog 8 #[.int .i64 f, .int .i64 r] w fun e w' => ∃ v, e = .returned v ∧ OJ w.heap.size w' v (visitO f r) ∧ Below w.heap.size w w' := by
  have no : ∀ h : ¬ (1 ≤ r ∧ r ≤ 8 ∧ 0 ≤ f ∧ f < r), OJ w.heap.size w (.slice none 0 0) (visitO f r) := fun h => by unfold visitO; rw [if_neg h]; exact OJ.nil _ _
  by_cases h1 : r < 1
  · have := no (by omega)
    go_enter Try.func8, Try.ntmps8
    go_wp2
    go_ret
    exact ⟨_, rfl, this, Below.refl _ _⟩
  by_cases h2 : 8 < r
  · have := no (by omega)
    go_enter Try.func8, Try.ntmps8
    go_wp2
    go_ret
    exact ⟨_, rfl, this, Below.refl _ _⟩
  by_cases h3 : f < 0
  · have := no (by omega)
    go_enter Try.func8, Try.ntmps8
    go_wp2
    go_ret
    exact ⟨_, rfl, this, Below.refl _ _⟩
  by_cases h4 : r ≤ f
  · have := no (by omega)
    go_enter Try.func8, Try.ntmps8
    go_wp2
    go_ret
    exact ⟨_, rfl, this, Below.refl _ _⟩
  have hyes : visitO f r = (List.range r.toNat).map fun (i : Nat) => (f + (i : Int)) % r := by unfold visitO; rw [if_pos (by omega)]
  rw [hyes]
  clear no hyes
  obtain ⟨R, rfl⟩ : ∃ R : Nat, r = (R : Int) := ⟨r.toNat, by omega⟩
  rw [Int.toNat_natCast]
  go_enter Try.func8, Try.ntmps8
  go_wp2
  go_loopw [5, 6, 23] (fun v s i wr => ∃ k : Nat, i = .int .i64 (k : Int) ∧ k ≤ R ∧ OJ w.heap.size wr v ((List.range k).map fun (i : Nat) => (f + (i : Int)) % (R : Int)) ∧ Below w.heap.size w wr) (fun _ _ i _ => R - (intOf i).toNat)
  case atStart => exact ⟨0, by go_num, by omega, OJ.nil _ _, Below.refl _ _⟩
  case round =>
    obtain ⟨k, rfl, hk, hO, hbw⟩ := hrel
    by_cases hlt : k < R
    · have hlz : (k : Int) < (R : Int) := by omega
      have hz0 : ((R : Int) == 0) = false := beq_eq_false_iff_ne.2 (by omega)
      have hw1 : wrap64 (f + (k : Int)) = f + (k : Int) := by unfold wrap64; omega
      have htm : Int.tmod (f + (k : Int)) (R : Int) = (f + (k : Int)) % (R : Int) := Int.tmod_eq_emod_of_nonneg (by omega)
      have hmod0 := Int.emod_nonneg (f + (k : Int)) (show (R : Int) ≠ 0 by omega)
      have hmod1 := Int.emod_lt_of_pos (f + (k : Int)) (show 0 < (R : Int) by omega)
      have hw2 : wrap64 ((f + (k : Int)) % (R : Int)) = (f + (k : Int)) % (R : Int) := by unfold wrap64; omega
      have hvt := vis_take f (R : Int) k (by omega)
      have hzr := hbw.size
      go_wp2_with (at_builtin; refine wpAppJ rfl _ _ rfl w.heap.size _ _ rfl (hO.alloc _) _ 1 1 [(f + (k : Int)) % (R : Int)] rfl (IR.one_ wr _ _) (by simp; omega) (by simp; omega) ?_; rintro v' w3 hO3 hk3 hl3)
      go_roundw
      case measure => simp [intOf]; omega
      case rel =>
        have hk3' := ((Keep.refl (fun j => u5.ownBlock = some j) wr).alloc (.cells #[.int .i64 ((f + (k : Int)) % (R : Int))] 3)).trans hk3 (fun _ _ h => h)
        exact ⟨k + 1, by go_num, by omega, by rw [hvt]; exact hO3, hbw.trans (hk3'.below hbw.size (fun j hj e => by have := (hO.lt j e).1; omega))⟩
    · have hlz : ¬ (k : Int) < (R : Int) := by omega
      have : k = R := by omega
      subst this
      go_wp2
      go_ret
      exact ⟨_, rfl, hO, hbw⟩

theorem i64_and1 (n : Int) : bits .and .i64 n 1 = n % 2 := by
  have h1 : (BitVec.ofInt 64 1).toNat = 2 ^ 1 - 1 := by decide
  have key : (BitVec.ofInt 64 n &&& BitVec.ofInt 64 1).toNat = (n % ((2 ^ 64 : Nat) : Int)).toNat % 2 ^ 1 := by
    rw [BitVec.toNat_and, BitVec.toNat_ofInt, h1, Nat.and_two_pow_sub_one_eq_mod]
  show IntKind.i64.wrap ((BitVec.ofInt 64 n &&& BitVec.ofInt 64 1).toNat : Nat) = n % 2
  rw [key, IntKind.wrap_i64]
  omega
theorem shift_nat (c k : Nat) : (c : Int) / 2 ^ k = ((c / 2 ^ k : Nat) : Int) := by
  rw [Int.natCast_ediv]
  try rfl
theorem bit_is (c k : Nat) : (bits .and .i64 ((c : Int) / 2 ^ k) 1 == 1) = decide (c / 2 ^ k % 2 = 1) := by
  rw [i64_and1, shift_nat]
  by_cases h : c / 2 ^ k % 2 = 1
  · rw [decide_eq_true h]
    exact beq_iff_eq.2 (by omega)
  · rw [decide_eq_false h]
    exact beq_eq_false_iff_ne.2 (by omega)
def natI (l : List Nat) : List Int := l.map fun (i : Nat) => (i : Int)
theorem natI_snoc (l : List Nat) (p : Nat) : natI (l ++ [p]) = natI l ++ [(p : Int)] := by simp [natI]
theorem natI_len (l : List Nat) : (natI l).length = l.length := by simp [natI]
theorem natI_get {l : List Nat} {k p : Nat} (h : l[k]? = some p) : (natI l)[k]? = some (p : Int) := by simp [natI, h]
set_option maxRecDepth 100000 in
set_option maxHeartbeats 1600000 in
theorem pplaces_any (c : Nat) (hc : c < 256) (w : World) : Calls Try.prog 31 #[.int .i64 (c : Int)] w fun e w' => ∃ v, e = .returned v ∧ OJ w.heap.size w' v (natI (placesO 8 c)) ∧ Below w.heap.size w w' := by
  go_enter Try.func31, Try.ntmps31
  go_wp2
  go_loopw [3, 4, 5] (fun v s i wr => ∃ k : Nat, i = .int .i64 (k : Int) ∧ k ≤ 8 ∧ OJ w.heap.size wr v (natI (placesO k c)) ∧ Below w.heap.size w wr) (fun _ _ i _ => 8 - (intOf i).toNat)
  case atStart => exact ⟨0, by go_num, by omega, OJ.nil _ _, Below.refl _ _⟩
  case round =>
    obtain ⟨k, rfl, hk, hO, hbw⟩ := hrel
    by_cases hlt : k < 8
    · have hlz : (k : Int) < 8 := by omega
      have hps := placesO_succ k c
      have hbt := bit_is c k
      have hlen := placesO_len k c
      rw [← natI_len] at hlen
      have hzr := hbw.size
      by_cases hb : c / 2 ^ k % 2 = 1
      · rw [decide_eq_true hb] at hbt
        rw [if_pos hb] at hps
        have hvt : natI (placesO (k + 1) c) = natI (placesO k c) ++ [(k : Int)] := by rw [hps, natI_snoc]
        clear hb hps
        go_wp2_with (at_builtin; refine wpAppJ rfl _ _ rfl w.heap.size _ _ rfl (hO.alloc _) _ 1 1 [(k : Int)] rfl (IR.one_ wr _ _) (by omega) (by simp; omega) ?_; rintro v' w3 hO3 hk3 hl3)
        go_roundw
        case measure => simp [intOf]; omega
        case rel =>
          have hk3' := ((Keep.refl (fun j => u3.ownBlock = some j) wr).alloc (.cells #[.int .i64 (k : Int)] 3)).trans hk3 (fun _ _ h => h)
          exact ⟨k + 1, by go_num, by omega, by rw [hvt]; exact hO3, hbw.trans (hk3'.below hbw.size (fun j hj e => by have := (hO.lt j e).1; omega))⟩
      · rw [decide_eq_false hb] at hbt
        rw [if_neg hb] at hps
        clear hb
        go_wp2
        go_roundw
        case measure => simp [intOf]; omega
        case rel => exact ⟨k + 1, by go_num, by omega, by rw [hps]; exact hO, hbw⟩
    · have hlz : ¬ (k : Int) < 8 := by omega
      have : k = 8 := by omega
      subst this
      go_wp2
      go_ret
      exact ⟨_, rfl, hO, hbw⟩

set_option maxRecDepth 100000 in
set_option maxHeartbeats 1600000 in
theorem pchosen_any (R : Option Addr) (m cm : Nat) (ls : List (List It)) (B : Nat) (P : Option Addr) (n c : Nat) (ps : List Nat) (w : World) (hr : RL B w R m ls) (hB : B ≤ w.heap.size) (hp : Cnt.IR w P n (natI ps)) (hlt : ∀ p ∈ ps, p < m) (hm : m ≤ 9223372036854775807) (hn : n ≤ 1000) :
    Calls Try.prog 33 #[.slice R m cm, .slice P n c] w fun e w' => ∃ v, e = .returned v ∧ OL w.heap.size w' v (chosenO ls ps) ∧ Below w.heap.size w w' := by
  have hlen := hr.1
  have hpl : ps.length = n := by have := hp.len; rw [natI_len] at this; exact this
  go_enter Try.func33, Try.ntmps33
  go_wp2
  go_loopw [5, 7, 10] (fun v s i wr => ∃ k : Nat, i = .int .i64 (k : Int) ∧ k ≤ n ∧ OL w.heap.size wr v (chosenO ls (ps.take k)) ∧ Below w.heap.size w wr) (fun _ _ i _ => n - (intOf i).toNat)
  case atStart => exact ⟨0, by go_num, by omega, OL.nil _ _, Below.refl _ _⟩
  case round =>
    obtain ⟨k, rfl, hk, hO, hbw⟩ := hrel
    by_cases hkn : k < n
    · have hlz : (k : Int) < (n : Int) := by omega
      obtain ⟨pb, poff, pz, rfl, hpz, hpc0⟩ := hp.place hkn
      obtain ⟨p, hpk⟩ : ∃ p, ps[k]? = some p := ⟨_, List.getElem?_eq_getElem (by omega)⟩
      have hpe : pz = (p : Int) := by rw [natI_get hpk] at hpz; injection hpz with hpz; exact hpz.symm
      subst hpe
      have hpm := hlt p (List.mem_of_getElem? hpk)
      have hpz2 : (p : Int) < (m : Int) := by omega
      have hpc := (hbw.cell (p := ⟨pb, poff + k, none⟩) (World.block_lt_of_cell? _ _ hpc0)).trans hpc0
      obtain ⟨b, off, x, Ai, ci, rfl, hx, hcell0, hil0, hlc, hcm, hwx, hbB⟩ := hr.place hpm
      have hcell := (hbw.cell (p := ⟨b, off + p, none⟩) (World.block_lt_of_cell? _ _ hcell0)).trans hcell0
      have hil := hil0.below hbw
      have htk : chosenO ls (ps.take (k + 1)) = chosenO ls (ps.take k) ++ [x] := by rw [List.take_add_one, hpk]; exact chosenO_snoc _ hx
      have hcl : (chosenO ls (ps.take k)).length ≤ 1000 := by
        unfold chosenO
        have h1 := List.length_filterMap_le (fun p => ls[p]?) (ps.take k)
        have h2 := List.length_take_le k ps
        omega
      have hne : ∀ ad, Ai = some ad → 0 < x.length → u5.ownBlock ≠ some ad.block := fun ad ha hl e => by
        have h1 := hbB ad ha hl
        have h2 := (hO.lt _ e).1
        omega
      have hO4 := hO.alloc (.cells #[.slice Ai x.length ci] 26)
      have hil4 := hil.alloc (.cells #[.slice Ai x.length ci] 26)
      have hzr := hbw.size
      go_wp2_with (at_builtin; refine wpAppL1 rfl _ _ rfl w.heap.size _ _ rfl hO4 wr.heap.size 1 x Ai ci rfl (by go_simp) hil4 hlc hcm hwx hne (by omega) (by simp; omega) ?_; rintro v5 w5 hG5 hk5 hl5)
      go_roundw
      case measure => simp [intOf]; omega
      case rel =>
        have hb4 := hbw.alloc hbw.size (.cells #[.slice Ai x.length ci] 26)
        exact ⟨k + 1, by go_num, by omega, by rw [htk]; exact hG5, hb4.trans (hk5.below hb4.size (fun j hj e => by have := (hO4.lt j e).1; omega))⟩
    · have hlz : ¬ (k : Int) < (n : Int) := by omega
      rw [List.take_of_length_le (by omega)] at hO
      go_wp2
      go_ret
      exact ⟨_, rfl, hO, hbw⟩

/-- What Compare answers of two ints. -/
def cmpI (a b : Int) : Int := if a < b then -1 else if b < a then 1 else 0
theorem isnan_any (a : Int) (w : World) : Calls Try.prog 48 #[.int .i64 a] w fun e w' => e = .returned (.bool false) ∧ w' = w := by
  have h : (a == a) = true := beq_self_eq_true a
  have h2 : (a != a) = false := by rw [bne, h]; rfl
  go_enter Try.func48, Try.ntmps48
  go_wp2
  go_ret
  exact ⟨by simp, rfl⟩
theorem compare_any (a b : Int) (w : World) : Calls Try.prog 41 #[.int .i64 a, .int .i64 b] w fun e w' => e = .returned (.int .i64 (cmpI a b)) ∧ w' = w := by
  by_cases h1 : a < b
  · have hc : cmpI a b = -1 := by unfold cmpI; rw [if_pos h1]
    rw [hc]
    go_enter Try.func41, Try.ntmps41
    go_wp2_with fail
    refine (isnan_any a _).mono ?_
    rintro e w1 ⟨rfl, rfl⟩
    go_wp2_with fail
    refine (isnan_any b _).mono ?_
    rintro e w1 ⟨rfl, rfl⟩
    go_wp2
    go_ret
    exact ⟨rfl, rfl⟩
  by_cases h2 : b < a
  · have hc : cmpI a b = 1 := by unfold cmpI; rw [if_neg h1, if_pos h2]
    rw [hc]
    go_enter Try.func41, Try.ntmps41
    go_wp2_with fail
    refine (isnan_any a _).mono ?_
    rintro e w1 ⟨rfl, rfl⟩
    go_wp2_with fail
    refine (isnan_any b _).mono ?_
    rintro e w1 ⟨rfl, rfl⟩
    go_wp2
    go_ret
    exact ⟨rfl, rfl⟩
  · have hc : cmpI a b = 0 := by unfold cmpI; rw [if_neg h1, if_neg h2]
    rw [hc]
    go_enter Try.func41, Try.ntmps41
    go_wp2_with fail
    refine (isnan_any a _).mono ?_
    rintro e w1 ⟨rfl, rfl⟩
    go_wp2_with fail
    refine (isnan_any b _).mono ?_
    rintro e w1 ⟨rfl, rfl⟩
    go_wp2
    go_ret
    exact ⟨rfl, rfl⟩

/-- What slices.Compare answers of two lists. -/
def cmpL : List Nat → List Nat → Int
  | [], [] => 0
  | [], _ :: _ => -1
  | _ :: _, [] => 1
  | a :: r, b :: s => if a < b then -1 else if b < a then 1 else cmpL r s
theorem cmpL_lt : ∀ (a b : List Nat), cmpL a b < 0 ↔ a < b
  | [], [] => by simp [cmpL]
  | [], _ :: _ => by simp [cmpL]
  | _ :: _, [] => by simp [cmpL]
  | a :: r, b :: s => by
    rw [cmpL, List.cons_lt_cons_iff]
    by_cases h1 : a < b
    · rw [if_pos h1]
      simp [h1]
    · rw [if_neg h1]
      by_cases h2 : b < a
      · rw [if_pos h2]
        have : a ≠ b := by omega
        simp [h1, this]
      · rw [if_neg h2, cmpL_lt r s]
        have : a = b := by omega
        simp [this]
theorem cmpL_drop {x y : List Nat} {k : Nat} {p : Nat} (hx : x[k]? = some p) : cmpL (x.drop k) (y.drop k) = match y[k]? with | none => 1 | some q => if p < q then -1 else if q < p then 1 else cmpL (x.drop (k + 1)) (y.drop (k + 1)) := by
  obtain ⟨hk, e⟩ := List.getElem?_eq_some_iff.1 hx
  rw [List.drop_eq_getElem_cons hk, e]
  cases hy : y[k]? with
  | none =>
    have : y.length ≤ k := List.getElem?_eq_none_iff.1 hy
    rw [List.drop_eq_nil_of_le this]
    rfl
  | some q =>
    obtain ⟨hk2, e2⟩ := List.getElem?_eq_some_iff.1 hy
    rw [List.drop_eq_getElem_cons hk2, e2, cmpL]
set_option maxRecDepth 100000 in
set_option maxHeartbeats 1600000 in
theorem slcompare_any (X Y : Option Addr) (n c m d : Nat) (x y : List Nat) (w : World) (hx : Cnt.IR w X n (natI x)) (hy : Cnt.IR w Y m (natI y)) (hn : n ≤ 1000) (hm : m ≤ 1000) :
    Calls Try.prog 42 #[.slice X n c, .slice Y m d] w fun e w' => e = .returned (.int .i64 (cmpL x y)) ∧ w' = w := by
  have hxl : x.length = n := by have := hx.len; rw [natI_len] at this; exact this
  have hyl : y.length = m := by have := hy.len; rw [natI_len] at this; exact this
  go_enter Try.func42, Try.ntmps42
  go_wp2
  go_loopw [5, 6, 7, 8, 11] (fun s5 s6 s7 s8 i wr => wr = w ∧ ∃ k : Nat, i = .int .i64 (k : Int) ∧ k ≤ n ∧ k ≤ m + n ∧ (k ≤ m ∨ m < n) ∧ Hid (cmpL x y = cmpL (x.drop k) (y.drop k))) (fun _ _ _ _ i _ => n - (intOf i).toNat)
  case atStart => exact ⟨rfl, 0, by go_num, by omega, by omega, by omega, Lib.hid rfl⟩
  case round =>
    obtain ⟨rfl, k, rfl, hk, _, _, hc⟩ := hrel
    by_cases hkn : k < n
    · have hlz : (k : Int) < (n : Int) := by omega
      obtain ⟨xb, xoff, xz, rfl, hxz, hxc⟩ := hx.place hkn
      obtain ⟨p, hpk⟩ : ∃ p, x[k]? = some p := ⟨_, List.getElem?_eq_getElem (by omega)⟩
      have hpe : xz = (p : Int) := by rw [natI_get hpk] at hxz; injection hxz with hxz; exact hxz.symm
      subst hpe
      have hd := Lib.hid (cmpL_drop (y := y) hpk)
      by_cases hkm : m ≤ k
      · have hkz : (m : Int) ≤ (k : Int) := by omega
        have hfin : cmpL x y = 1 := by rw [hc.out, hd.out, List.getElem?_eq_none_iff.2 (by omega)]
        go_wp2
        go_ret
        exact ⟨by first | rfl | (rw [hfin]; rfl), rfl⟩
      · have hkz : ¬ (m : Int) ≤ (k : Int) := by omega
        obtain ⟨yb, yoff, yz, rfl, hyz, hyc⟩ := hy.place (k := k) (by omega)
        obtain ⟨q, hqk⟩ : ∃ q, y[k]? = some q := ⟨_, List.getElem?_eq_getElem (by omega)⟩
        have hqe : yz = (q : Int) := by rw [natI_get hqk] at hyz; injection hyz with hyz; exact hyz.symm
        subst hqe
        have hkz2 : (k : Int) < (m : Int) := by omega
        go_wp2_with fail
        refine (compare_any (p : Int) (q : Int) _).mono ?_
        rintro e w1 ⟨rfl, rfl⟩
        by_cases h1 : p < q
        · have he : cmpI (p : Int) (q : Int) = -1 := by unfold cmpI; rw [if_pos (by omega)]
          have hfin : cmpL x y = -1 := by rw [hc.out, hd.out, hqk]; exact if_pos h1
          rw [he]
          go_wp2
          go_ret
          exact ⟨by first | rfl | (rw [hfin]; rfl), rfl⟩
        by_cases h2 : q < p
        · have he : cmpI (p : Int) (q : Int) = 1 := by unfold cmpI; rw [if_neg (by omega), if_pos (by omega)]
          have hfin : cmpL x y = 1 := by rw [hc.out, hd.out, hqk]; show (if p < q then _ else _) = _; rw [if_neg h1, if_pos h2]
          rw [he]
          go_wp2
          go_ret
          exact ⟨by first | rfl | (rw [hfin]; rfl), rfl⟩
        · have he : cmpI (p : Int) (q : Int) = 0 := by unfold cmpI; rw [if_neg (by omega), if_neg (by omega)]
          have hnext : cmpL x y = cmpL (x.drop (k + 1)) (y.drop (k + 1)) := by rw [hc.out, hd.out, hqk]; show (if p < q then _ else _) = _; rw [if_neg h1, if_neg h2]
          rw [he]
          go_wp2
          go_roundw
          case measure => simp [intOf]; omega
          case rel => exact ⟨trivial, k + 1, by go_num, by omega, by omega, by omega, Lib.hid hnext⟩
    · have hlz : ¬ (k : Int) < (n : Int) := by omega
      have hk' : k = n := by omega
      subst hk'
      by_cases hnm : k < m
      · have hnz : (k : Int) < (m : Int) := by omega
        have hfin : cmpL x y = -1 := by
          rw [hc.out, List.drop_eq_nil_of_le (by omega), List.drop_eq_getElem_cons (by omega)]
          rfl
        go_wp2
        go_ret
        exact ⟨by first | rfl | (rw [hfin]; rfl), rfl⟩
      · have hnz : ¬ (k : Int) < (m : Int) := by omega
        have hfin : cmpL x y = 0 := by
          rw [hc.out, List.drop_eq_nil_of_le (by omega), List.drop_eq_nil_of_le (by omega)]
          rfl
        go_wp2
        go_ret
        exact ⟨by first | rfl | (rw [hfin]; rfl), rfl⟩

theorem or_two (g : Nat) (a b : Int) (w : World) (h0 : w.cell? ⟨g, 0, none⟩ = some (.int .i64 a)) (h1 : w.cell? ⟨g, 1, none⟩ = some (.int .i64 b)) :
    Calls Try.prog 40 #[.slice (some ⟨g, 0, none⟩) 2 2] w fun e w' => e = .returned (.int .i64 (if a = 0 then b else a)) ∧ w' = w := by
  go_enter Try.func40, Try.ntmps40
  go_wp2
  refine wp_loop_rounds 4 ?_
  rw [rounds_succ]
  by_cases ha : a = 0
  · have hb1 : (a == 0) = true := beq_iff_eq.2 ha
    have hb2 : (a != 0) = false := by rw [bne, hb1]; rfl
    have hb3 : decide (¬ a = 0) = false := by rw [decide_not, decide_eq_true ha]; rfl
    go_wp2
    rw [rounds_succ]
    by_cases hb : b = 0
    · have hc1 : (b == 0) = true := beq_iff_eq.2 hb
      have hc2 : (b != 0) = false := by rw [bne, hc1]; rfl
      have hc3 : decide (¬ b = 0) = false := by rw [decide_not, decide_eq_true hb]; rfl
      go_wp2
      rw [rounds_succ]
      go_wp2
      go_ret
      exact ⟨by first | rfl | (rw [if_pos ha, hb]; rfl) | simp [ha] | simp [ha, hb], rfl⟩
    · have hc1 : (b == 0) = false := beq_eq_false_iff_ne.2 hb
      have hc2 : (b != 0) = true := bne_iff_ne.2 hb
      go_wp2
      go_ret
      exact ⟨by first | rfl | (rw [if_pos ha]; rfl) | simp [ha], rfl⟩
  · have hb1 : (a == 0) = false := beq_eq_false_iff_ne.2 ha
    have hb2 : (a != 0) = true := bne_iff_ne.2 ha
    go_wp2
    go_ret
    exact ⟨by first | rfl | (rw [if_neg ha]; rfl) | simp [ha], rfl⟩

set_option maxRecDepth 100000 in
theorem pfewer_any (X Y : Option Addr) (n c m d : Nat) (x y : List Nat) (w : World) (hx : Cnt.IR w X n (natI x)) (hy : Cnt.IR w Y m (natI y)) (hn : n ≤ 1000) (hm : m ≤ 1000) :
    Calls Try.prog 32 #[.slice X n c, .slice Y m d] w fun e w' => e = .returned (.bool (fewB x y)) ∧ Below w.heap.size w w' := by
  have hxl : x.length = n := by have := hx.len; rw [natI_len] at this; exact this
  have hyl : y.length = m := by have := hy.len; rw [natI_len] at this; exact this
  have hfin : fewB x y = decide ((if cmpI (n : Int) (m : Int) = 0 then cmpL x y else cmpI (n : Int) (m : Int)) < 0) := by
    unfold fewB
    rw [hxl, hyl]
    have h3 := cmpL_lt x y
    unfold cmpI
    by_cases h1 : n < m
    · rw [if_pos (show (n : Int) < (m : Int) by omega)]
      simp [h1]
    · rw [if_neg (show ¬ (n : Int) < (m : Int) by omega)]
      by_cases h2 : m < n
      · rw [if_pos (show (m : Int) < (n : Int) by omega)]
        have : n ≠ m := by omega
        simp [h1, this]
      · rw [if_neg (show ¬ (m : Int) < (n : Int) by omega), if_pos rfl]
        have : n = m := by omega
        simp [this, h3]
  rw [hfin]
  obtain ⟨a, ha⟩ : ∃ a, cmpI (n : Int) (m : Int) = a := ⟨_, rfl⟩
  obtain ⟨b, hb⟩ : ∃ b, cmpL x y = b := ⟨_, rfl⟩
  have hbel := (Below.refl w.heap.size w).alloc (Nat.le_refl _) (.cells #[.int .i64 a, .int .i64 b] 3)
  rw [ha, hb]
  have hbk := Blk.new w 3 #[.int .i64 a, .int .i64 b]
  have key := or_two w.heap.size a b (w.alloc (.cells #[.int .i64 a, .int .i64 b] 3)) (hbk.cell 0) (hbk.cell 1)
  obtain ⟨q, hq⟩ : ∃ q, (if a = 0 then b else a) = q := ⟨_, rfl⟩
  rw [hq] at key
  rw [hq]
  clear hfin hq
  go_enter Try.func32, Try.ntmps32
  go_wp2_with fail
  refine (compare_any (n : Int) (m : Int) _).mono ?_
  rintro e w1 ⟨rfl, rfl⟩
  rw [ha]
  go_wp2_with fail
  refine (slcompare_any X Y n c m d x y _ hx hy hn hm).mono ?_
  rintro e w2 ⟨rfl, rfl⟩
  rw [hb]
  go_wp2_with fail
  refine key.mono ?_
  rintro e w3 ⟨rfl, rfl⟩
  go_wp2
  go_ret
  exact ⟨rfl, hbel⟩
end Go.Proofs.Ytkofaobdpmbcaaa
