/- The contracts of the calls that read numbers' cells: the program's and the document's. No condition. -/
import Derived.Test.YtfpcnenohidfpaaGreatNum
namespace Go.Proofs.YtfpcnenohidfpaaGreat
open Go.RowKit
set_option linter.unusedVariables false

def magV : Option Nat → Value
  | some m => .tuple #[.int .i64 (m : Int), .bool true]
  | none => .tuple #[.int .i64 0, .bool false]
def MagPost (r : List UInt8) (size : Nat) (w : World) (e : Ending) (w' : World) : Prop := e = .returned (magV (mag r size)) ∧ w = w'

theorem mag_no {r : List UInt8} {size : Nat} (h : 8 < size ∨ r.length < size ∨ (0 < size ∧ r.head? = some 0)) : mag r size = none := by
  rw [mag, if_pos h]

theorem or_byte (V : Nat) (x : UInt8) (hV : V < 256 ^ 7) : bits .or .u64 ((V : Int) * 256) (x.toNat : Int) = ((V * 256 + x.toNat : Nat) : Int) := by
  have hx := x.toNat_lt
  have h := u64_or_nat (V * 256) x.toNat (by omega) (by omega)
  rw [nat_join 8 (V * 256) x.toNat (by omega) hx] at h
  rw [← h]
  simp

theorem mag_end {r : List UInt8} {size V : Nat} (hmag : Hid (mag r size = if 9223372036854775807 < val (r.take size) then none else some (val (r.take size)))) (hV : Hid (V = val (r.take size))) :
    mag r size = if 9223372036854775807 < V then none else some V := by
  rw [hV.out]
  exact hmag.out

set_option maxRecDepth 100000 in
set_option maxHeartbeats 800000 in
theorem mag_any (A : Option Addr) (n cap : Nat) (r : List UInt8) (size : Nat) (w : World) (hr : RB w A n r) (hc : n ≤ cap) (hm : cap ≤ 9223372036854775807) (hs : size < 128) :
    Calls Tryz.prog 59 #[.slice A n cap, .int .i64 (size : Int)] w (MagPost r size w) := by
  have hl := hr.1
  by_cases h8 : 8 < size
  · have e := mag_no (r := r) (.inl h8)
    go_enter Tryz.func59, Tryz.ntmps59
    go_wp2
    go_ret2
    exact ⟨by rw [e]; rfl, rfl⟩
  by_cases hn : n < size
  · have e := mag_no (r := r) (size := size) (.inr (.inl (by omega)))
    go_enter Tryz.func59, Tryz.ntmps59
    go_wp2
    go_ret2
    exact ⟨by rw [e]; rfl, rfl⟩
  by_cases h0 : size = 0
  · subst h0
    go_enter Tryz.func59, Tryz.ntmps59
    go_wp2
    refine wp_loop_rounds 1 ?_
    rw [rounds_succ]
    go_wp2
    go_ret2
    exact ⟨by simp [mag, val, magV], rfl⟩
  obtain ⟨b, off, rfl, hb, hcell⟩ := hr.place (by omega)
  obtain ⟨x0, hx0, hc0⟩ := hcell 0 (by omega)
  rw [Nat.add_zero] at hc0
  have d1 : decide (8 < (size : Int)) = false := by simp; omega
  have d2 : decide ((n : Int) < (size : Int)) = false := by simp; omega
  have d3 : decide ((0 : Int) < (size : Int)) = true := by simp; omega
  by_cases hz : x0 = 0
  · subst hz
    have e := Lib.hid (mag_no (r := r) (size := size) (.inr (.inr ⟨by omega, by rw [List.head?_eq_getElem?]; exact hx0.out⟩)))
    clear hcell
    go_enter Tryz.func59, Tryz.ntmps59
    go_wp2
    go_ret2
    exact ⟨by rw [e.out]; rfl, rfl⟩
  have hz' : ((x0.toNat : Int) == 0) = false := by
    simp
    intro e
    exact hz (UInt8.toNat_inj.1 (by simpa using e))
  have hmag : Hid (mag r size = if 9223372036854775807 < val (r.take size) then none else some (val (r.take size))) := by
    refine Lib.hid ?_
    rw [mag, if_neg]
    rintro (h | h | ⟨_, h⟩)
    · exact h8 h
    · omega
    · rw [List.head?_eq_getElem?, hx0.out] at h
      injection h with h
      exact hz h
  go_enter Tryz.func59, Tryz.ntmps59
  go_wp2
  go_loop [6, 31] (fun m i => ∃ k : Nat, k ≤ size ∧ i = .int .i64 (k : Int) ∧ ∃ V : Nat, V < 256 ^ k ∧ Hid (V = val (r.take k)) ∧ m = .int .u64 (V : Int)) (fun _ i => size - (intOf i).toNat)
  case atStart => exact ⟨0, Nat.zero_le _, rfl, 0, by simp, Lib.hid (by simp [val]), rfl⟩
  case round =>
    obtain ⟨k, hk, rfl, V, hV, hVe, rfl⟩ := hrel
    by_cases hlt : k < size
    · obtain ⟨x, hx, hcx⟩ := hcell k (by omega)
      have hV7 : V < 256 ^ 7 := Nat.lt_of_lt_of_le hV (Nat.pow_le_pow_right (by decide) (by omega))
      have hxl := x.toNat_lt
      clear hcell
      go_wp2
      go_round
      case rel => exact ⟨k + 1, by omega, by go_num, V * 256 + x.toNat, by rw [Nat.pow_succ]; omega, Lib.hid (by rw [val_take_succ r k (by omega), ← hVe.out]; simp [List.getD, hx.out]), by rw [or_byte V x hV7]⟩
      case measure => simp [intOf]; omega
    · obtain rfl : k = size := by omega
      have he := Lib.hid (mag_end hmag hVe)
      by_cases hbig : 9223372036854775807 < V
      · go_wp2
        go_ret2
        exact ⟨by rw [he.out, if_pos hbig]; rfl, rfl⟩
      · go_wp2
        go_ret2
        exact ⟨by rw [he.out, if_neg hbig]; rfl, rfl⟩

def first2 : Option Nat → Nat → Option (Int × Nat)
  | some n, s => if 128 ≤ n then some ((n : Int), 1 + s) else none
  | none, _ => none
def first3 : Option Nat → Nat → Option (Int × Nat)
  | some n, s => some (-1 - (n : Int), 1 + s)
  | none, _ => none

def firstV : Option (Int × Nat) → Value
  | some (n, k) => .tuple #[.int .i64 n, .int .i64 (k : Int), .int .i64 0]
  | none => .tuple #[.int .i64 0, .int .i64 0, .int .i64 10]
def FirstPost (l : List UInt8) (w : World) (e : Ending) (w' : World) : Prop := e = .returned (firstV (first l)) ∧ w = w'

set_option maxRecDepth 100000 in
set_option maxHeartbeats 800000 in
theorem first_any (A : Option Addr) (n cap : Nat) (l : List UInt8) (w : World) (hr : RB w A n l) (hc : n ≤ cap) (hm : cap ≤ 9223372036854775807) :
    Calls Tryz.prog 35 #[.slice A n cap] w (FirstPost l w) := by
  have hl := hr.1
  cases l with
  | nil =>
    obtain rfl : n = 0 := by simpa using hl.symm
    go_enter Tryz.func35, Tryz.ntmps35
    go_wp2
    go_ret3
    exact ⟨rfl, rfl⟩
  | cons x r =>
    rw [List.length_cons] at hl
    have hxl := x.toNat_lt
    obtain ⟨b, off, rfl, hb, hcell⟩ := hr.place (by omega)
    obtain ⟨x0, hx0, hc0⟩ := hcell 0 (by omega)
    rw [Nat.add_zero] at hc0
    obtain rfl : x = x0 := by simpa using hx0.out
    have hne : ((n : Int) == 0) = false := by simp; omega
    have hpos : decide ((0 : Int) < (n : Int)) = true := by simp; omega
    clear hx0 hcell
    have hcut := hr.sub 1 (by omega) hc
    rw [List.drop_succ_cons, List.drop_zero] at hcut
    have hsl := fun W => run_from W (some ⟨b, off, none⟩) n cap 1 (by omega) (by omega)
    rw [show Int.toNat 1 = 1 from rfl] at hsl
    by_cases h1 : x.toNat < 128
    · have e := Lib.hid (first_cons x r)
      go_enter Tryz.func35, Tryz.ntmps35
      go_wp2
      go_ret3
      exact ⟨by rw [e.out, if_pos h1]; rfl, rfl⟩
    · by_cases h2 : x.toNat < 144
      · obtain ⟨s, hs⟩ : ∃ s : Nat, s = x.toNat - 128 := ⟨_, rfl⟩
        have e : Hid (first (x :: r) = first2 (mag r s) s) := Lib.hid (by rw [first_cons, if_neg h1, if_pos h2, ← hs]; cases mag r s <;> rfl)
        have hsz : (x.toNat : Int) - 128 = (s : Int) := by omega
        have hs16 : s < 128 := by omega
        clear hs
        cases hm' : mag r s with
        | none =>
          have HM := Lib.hid hm'
          clear hm'
          go_enter Tryz.func35, Tryz.ntmps35
          go_wp2_with fail
          with_reducible refine (mag_any _ (n - 1) (cap - 1) r s w hcut (by omega) (by omega) hs16).mono ?_
          rintro e' w' ⟨rfl, rfl⟩
          rw [HM.out, magV]
          go_wp2
          go_ret3
          exact ⟨by rw [e.out, HM.out]; rfl, rfl⟩
        | some m =>
          have hmb := (mag_some hm').2.2.2.1
          have HM := Lib.hid hm'
          clear hm'
          by_cases h128 : 128 ≤ m
          all_goals
            go_enter Tryz.func35, Tryz.ntmps35
            go_wp2_with fail
            with_reducible refine (mag_any _ (n - 1) (cap - 1) r s w hcut (by omega) (by omega) hs16).mono ?_
            rintro e' w' ⟨rfl, rfl⟩
            rw [HM.out, magV]
            go_wp2
            go_ret3
          · exact ⟨by rw [e.out, HM.out, first2, if_pos h128]; rfl, rfl⟩
          · exact ⟨by rw [e.out, HM.out, first2, if_neg h128]; rfl, rfl⟩
      · obtain ⟨s, hs⟩ : ∃ s : Nat, s = x.toNat - 144 := ⟨_, rfl⟩
        have e : Hid (first (x :: r) = first3 (mag r s) s) := Lib.hid (by rw [first_cons, if_neg h1, if_neg h2, ← hs]; cases mag r s <;> rfl)
        have hsz : (x.toNat : Int) - 144 = (s : Int) := by omega
        have hs16 : s < 128 := by omega
        clear hs
        cases hm' : mag r s with
        | none =>
          have HM := Lib.hid hm'
          clear hm'
          go_enter Tryz.func35, Tryz.ntmps35
          go_wp2_with fail
          with_reducible refine (mag_any _ (n - 1) (cap - 1) r s w hcut (by omega) (by omega) hs16).mono ?_
          rintro e' w' ⟨rfl, rfl⟩
          rw [HM.out, magV]
          go_wp2
          go_ret3
          exact ⟨by rw [e.out, HM.out]; rfl, rfl⟩
        | some m =>
          have hmb := (mag_some hm').2.2.2.1
          have HM := Lib.hid hm'
          clear hm'
          go_enter Tryz.func35, Tryz.ntmps35
          go_wp2_with fail
          with_reducible refine (mag_any _ (n - 1) (cap - 1) r s w hcut (by omega) (by omega) hs16).mono ?_
          rintro e' w' ⟨rfl, rfl⟩
          rw [HM.out, magV]
          go_wp2
          go_ret3
          exact ⟨by rw [e.out, HM.out, first3]; go_num, rfl⟩

def Huge (V : Nat) : Prop := 9223372036854775808 ≤ V
instance (V : Nat) : Decidable (Huge V) := inferInstanceAs (Decidable (9223372036854775808 ≤ V))
theorem huge_yes {V : Nat} (h : Huge V) : decide ((9223372036854775808 : Int) ≤ (V : Int)) = true := by
  unfold Huge at h
  exact decide_eq_true (by omega)
theorem huge_no {V : Nat} (h : ¬ Huge V) : decide ((9223372036854775808 : Int) ≤ (V : Int)) = false := by
  unfold Huge at h
  exact decide_eq_false (by omega)
theorem huge_le {V : Nat} (h : ¬ Huge V) : (V : Int) ≤ 9223372036854775807 := by
  unfold Huge at h
  omega

theorem refTail_huge (l r : List UInt8) (size : Nat) (n : Int) :
    refTail l r size n = if r.length < size then none else if Huge (val (r.take size)) then none else if numCell n = l.take (1 + size) then some (n, 1 + size) else none := rfl

theorem Below.drewN {B : Nat} {a w : World} (h : Below B a w) (n : Nat) : Below B a (w.drewN n) := ⟨h.os, h.tape, h.output, h.size, h.block⟩

def refFirstV : Option (Int × Nat) → Value
  | some (n, k) => .tuple #[.int .i64 n, .int .i64 (k : Int)]
  | none => .tuple #[.int .i64 0, .int .i64 0]

set_option maxRecDepth 100000 in
set_option maxHeartbeats 800000 in
theorem refFirst_any (A : Option Addr) (n cap : Nat) (l : List UInt8) (w : World) (hr : RB w A n l) (hc : n ≤ cap) (hm : cap ≤ 9223372036854775807) :
    Calls Tryz.prog 44 #[.slice A n cap] w fun e w' => e = .returned (refFirstV (first l)) ∧ Below w.heap.size w w' := by
  have hl := hr.1
  cases l with
  | nil =>
    obtain rfl : n = 0 := by simpa using hl.symm
    go_enter Tryz.func44, Tryz.ntmps44
    go_wp2
    go_ret2
    exact ⟨rfl, Below.refl _ _⟩
  | cons x r =>
    rw [List.length_cons] at hl
    have hxl := x.toNat_lt
    obtain ⟨b, off, rfl, hb, hcell⟩ := hr.place (by omega)
    obtain ⟨x0, hx0, hc0⟩ := hcell 0 (by omega)
    rw [Nat.add_zero] at hc0
    obtain rfl : x = x0 := by simpa using hx0.out
    have hne : ((n : Int) == 0) = false := by simp; omega
    have hpos : decide ((0 : Int) < (n : Int)) = true := by simp; omega
    clear hx0
    rw [← ref_first]
    have e := Lib.hid (refFirst_cons x r)
    by_cases h1 : x.toNat < 128
    · clear hcell
      go_enter Tryz.func44, Tryz.ntmps44
      go_wp2
      go_ret2
      exact ⟨by rw [e.out, if_pos h1]; rfl, Below.refl _ _⟩
    · by_cases h2 : 129 ≤ x.toNat ∧ x.toNat ≤ 136
      · obtain ⟨h2, h3⟩ := h2
        rw [if_neg h1, if_pos ⟨h2, h3⟩] at e
        obtain ⟨s, hs⟩ : ∃ s : Nat, s = x.toNat - 128 := ⟨_, rfl⟩
        rw [← hs] at e
        have hsz : (x.toNat : Int) - 128 = (s : Int) := by omega
        have hs8 : s ≤ 8 := by omega
        clear hs
        by_cases hlen : n < 1 + s
        · clear hcell
          go_enter Tryz.func44, Tryz.ntmps44
          go_wp2
          go_ret2
          exact ⟨by rw [e.out, refTail, if_pos (by omega)]; rfl, Below.refl _ _⟩
        go_enter Tryz.func44, Tryz.ntmps44
        go_wp2
        go_loop [6, 7] (fun m i => ∃ k : Nat, k ≤ s ∧ i = .int .i64 (k : Int) ∧ ∃ V : Nat, V < 256 ^ k ∧ Hid (V = val (r.take k)) ∧ m = .int .u64 (V : Int)) (fun _ i => s - (intOf i).toNat)
        case atStart => exact ⟨0, Nat.zero_le _, rfl, 0, by simp, Lib.hid (by simp [val]), rfl⟩
        case round =>
          obtain ⟨k, hk, rfl, V, hV, hVe, rfl⟩ := hrel
          by_cases hlt : k < s
          · obtain ⟨y, hy, hcy⟩ := hcell (1 + k) (by omega)
            have hV7 : V < 256 ^ 7 := Nat.lt_of_lt_of_le hV (Nat.pow_le_pow_right (by decide) (by omega))
            have hyl := y.toNat_lt
            clear hcell
            go_wp2
            go_round
            case rel => exact ⟨k + 1, by omega, by go_num, V * 256 + y.toNat, by rw [Nat.pow_succ]; omega, Lib.hid (by rw [val_take_succ r k (by omega), ← hVe.out]; have hy' := hy.out; rw [Nat.add_comm 1 k, List.getElem?_cons_succ] at hy'; simp [List.getD, hy']), by go_num⟩
            case measure => simp [intOf]; omega
          · obtain rfl : k = s := by omega
            clear hcell
            by_cases hbig : Huge V
            · have hd := huge_yes hbig
              go_wp2
              go_ret2
              exact ⟨by rw [e.out, refTail_huge, if_neg (by omega), ← hVe.out, if_pos hbig]; rfl, Below.refl _ _⟩
            have hlong : 1 + k ≤ cap := by omega
            have hd := huge_no hbig
            have hsm := huge_le hbig
            go_wp2_with fail
            with_reducible refine (refNum_any ((V : Int)) w (by omega) (by omega)).mono ?_
            rintro e' w1 ⟨v1, rfl, ho1, hb1⟩
            obtain ⟨A1, cap1, rfl, hl1, hm1, hr1, _⟩ := ho1.form
            clear ho1
            have hs1 := fun q => run_str (w1.drewN q) A1 _ cap1 _ (hr1.drewN q)
            have hr2 : RB w1 (some ⟨b, off, none⟩) n (x :: r) := hr.kept (Keep.of_below hb1) fun ad had => by cases had; simp; omega
            have hs2 := fun q => run_str (w1.drewN q) (some ⟨b, off, none⟩) (1 + k) cap _ ((hr2.take (1 + k) (by omega)).drewN q)
            go_wp2_with fail
            go_quiet (fail)
            go_wp2
            all_goals go_ret2
            · have ht : (!numCell (V : Int) == (x :: r).take (1 + k)) = true := by assumption
              exact ⟨by rw [e.out, refTail_huge, if_neg (by omega), ← hVe.out, if_neg hbig, if_neg (by simpa using ht)]; rfl, Below.drewN hb1 _⟩
            · have ht : (!numCell (V : Int) == (x :: r).take (1 + k)) = false := by assumption
              exact ⟨by rw [e.out, refTail_huge, if_neg (by omega), ← hVe.out, if_neg hbig, if_pos (by simpa using ht)]; go_num, Below.drewN hb1 _⟩
      · by_cases h4 : 144 ≤ x.toNat ∧ x.toNat ≤ 152
        · obtain ⟨h3, h4⟩ := h4
          rw [if_neg h1, if_neg h2, if_pos ⟨h3, h4⟩] at e
          have d1 : decide ((129 : Int) ≤ (x.toNat : Int)) = true := by simp; omega
          have d2 : decide ((x.toNat : Int) ≤ 136) = false := by simp; omega
          clear h2
          obtain ⟨s, hs⟩ : ∃ s : Nat, s = x.toNat - 144 := ⟨_, rfl⟩
          rw [← hs] at e
          have hsz : (x.toNat : Int) - 144 = (s : Int) := by omega
          have hs8 : s ≤ 8 := by omega
          clear hs
          by_cases hlen : n < 1 + s
          · clear hcell
            go_enter Tryz.func44, Tryz.ntmps44
            go_wp2
            go_ret2
            exact ⟨by rw [e.out, refTail, if_pos (by omega)]; rfl, Below.refl _ _⟩
          go_enter Tryz.func44, Tryz.ntmps44
          go_wp2
          go_loop [6, 7] (fun m i => ∃ k : Nat, k ≤ s ∧ i = .int .i64 (k : Int) ∧ ∃ V : Nat, V < 256 ^ k ∧ Hid (V = val (r.take k)) ∧ m = .int .u64 (V : Int)) (fun _ i => s - (intOf i).toNat)
          case atStart => exact ⟨0, Nat.zero_le _, rfl, 0, by simp, Lib.hid (by simp [val]), rfl⟩
          case round =>
            obtain ⟨k, hk, rfl, V, hV, hVe, rfl⟩ := hrel
            by_cases hlt : k < s
            · obtain ⟨y, hy, hcy⟩ := hcell (1 + k) (by omega)
              have hV7 : V < 256 ^ 7 := Nat.lt_of_lt_of_le hV (Nat.pow_le_pow_right (by decide) (by omega))
              have hyl := y.toNat_lt
              clear hcell
              go_wp2
              go_round
              case rel => exact ⟨k + 1, by omega, by go_num, V * 256 + y.toNat, by rw [Nat.pow_succ]; omega, Lib.hid (by rw [val_take_succ r k (by omega), ← hVe.out]; have hy' := hy.out; rw [Nat.add_comm 1 k, List.getElem?_cons_succ] at hy'; simp [List.getD, hy']), by go_num⟩
              case measure => simp [intOf]; omega
            · obtain rfl : k = s := by omega
              clear hcell
              by_cases hbig : Huge V
              · have hd := huge_yes hbig
                go_wp2
                go_ret2
                exact ⟨by rw [e.out, refTail_huge, if_neg (by omega), ← hVe.out, if_pos hbig]; rfl, Below.refl _ _⟩
              have hlong : 1 + k ≤ cap := by omega
              have hd := huge_no hbig
              have hsm := huge_le hbig
              go_wp2_with fail
              with_reducible refine (refNum_any ((-1 - (V : Int))) w (by omega) (by omega)).mono ?_
              rintro e' w1 ⟨v1, rfl, ho1, hb1⟩
              obtain ⟨A1, cap1, rfl, hl1, hm1, hr1, _⟩ := ho1.form
              clear ho1
              have hs1 := fun q => run_str (w1.drewN q) A1 _ cap1 _ (hr1.drewN q)
              have hr2 : RB w1 (some ⟨b, off, none⟩) n (x :: r) := hr.kept (Keep.of_below hb1) fun ad had => by cases had; simp; omega
              have hs2 := fun q => run_str (w1.drewN q) (some ⟨b, off, none⟩) (1 + k) cap _ ((hr2.take (1 + k) (by omega)).drewN q)
              go_wp2_with fail
              go_quiet (fail)
              go_wp2
              all_goals go_ret2
              · have ht : (!numCell (-1 - (V : Int)) == (x :: r).take (1 + k)) = true := by assumption
                exact ⟨by rw [e.out, refTail_huge, if_neg (by omega), ← hVe.out, if_neg hbig, if_neg (by simpa using ht)]; rfl, Below.drewN hb1 _⟩
              · have ht : (!numCell (-1 - (V : Int)) == (x :: r).take (1 + k)) = false := by assumption
                exact ⟨by rw [e.out, refTail_huge, if_neg (by omega), ← hVe.out, if_neg hbig, if_pos (by simpa using ht)]; go_num, Below.drewN hb1 _⟩
        · rw [if_neg h1, if_neg h2, if_neg h4] at e
          clear hcell
          go_enter Tryz.func44, Tryz.ntmps44
          go_wp2
          all_goals go_ret2
          all_goals exact ⟨by rw [e.out]; rfl, Below.refl _ _⟩
end Go.Proofs.YtfpcnenohidfpaaGreat
