/- life.Reach: a walk over what may come behind. No condition. -/
import Derived.Test.YtpcngkbjeiclkaaLiQ
namespace Go.Proofs.Ytpcngkbjeiclkaa
open Go.RowKit
set_option linter.unusedVariables false
set_option linter.unusedSimpArgs false

/-- Those of l that are not in r, put behind it. -/
def addL (r l : List Int) : List Int := l.foldl (fun r x => if x ∈ r then r else r ++ [x]) r
theorem addL_snoc (r l : List Int) (x : Int) : addL r (l ++ [x]) = if x ∈ addL r l then addL r l else addL r l ++ [x] := by
  unfold addL
  rw [List.foldl_append]
  rfl
def rAt (f : Int) : Nat → List Int
  | 0 => bhK f
  | i + 1 => addL (rAt f i) (bhK ((rAt f i).getD i 0))
theorem rAt_none {f : Int} (h : ¬ (1 ≤ f ∧ f ≤ 10)) (i : Nat) : rAt f i = [] := by
  induction i with
  | zero => exact bhK_none h
  | succ i ih =>
    unfold rAt
    rw [ih]
    rfl
theorem rAt_len (f : Int) (i : Nat) (hi : i ≤ 10) : (rAt f i).length ≤ 10 := by
  by_cases h : 1 ≤ f ∧ f ≤ 10
  · revert i
    rcases kinds10 h with rfl | rfl | rfl | rfl | rfl | rfl | rfl | rfl | rfl | rfl
    all_goals decide +kernel
  · rw [rAt_none h]
    exact Nat.zero_le _
/-- What is reached of a state. -/
def reachK (f : Int) : List Int := rAt f 10
theorem rAt_end (f : Int) (i : Nat) (hi : i ≤ 10) (hl : (rAt f i).length ≤ i) : rAt f i = reachK f := by
  by_cases h : 1 ≤ f ∧ f ≤ 10
  · revert i
    rcases kinds10 h with rfl | rfl | rfl | rfl | rfl | rfl | rfl | rfl | rfl | rfl
    all_goals decide +kernel
  · unfold reachK
    rw [rAt_none h, rAt_none h]
theorem addL_len (r l : List Int) : (addL r l).length ≤ r.length + l.length := by
  induction l generalizing r with
  | nil => simp [addL]
  | cons x l ih =>
    unfold addL
    rw [List.foldl_cons]
    have := ih (if x ∈ r then r else r ++ [x])
    unfold addL at this
    refine Nat.le_trans this ?_
    split <;> simp <;> omega

set_option maxRecDepth 100000 in
set_option maxHeartbeats 3200000 in
theorem reach_any (f to : Int) (w : World) : Calls Try.prog 15 #[.int .i64 f, .int .i64 to] w fun e w' => e = .returned (.bool (decide (to ∈ reachK f))) ∧ Below w.heap.size w w' := by
  obtain ⟨B, hB⟩ : ∃ B, B = decide (to ∈ reachK f) := ⟨_, rfl⟩
  rw [← hB]
  replace hB := Lib.hid hB
  go_enter Try.func15, Try.ntmps15
  go_wp2_with fail
  refine (behind_any f _).mono ?_
  rintro e w1 ⟨v, rfl, hO, hb⟩
  go_wp2
  go_loopw [5, 6, 8, 21, 22, 23] (fun v i s8 s21 s22 s23 wr => ∃ k : Nat, i = .int .i64 (k : Int) ∧ k ≤ 10 ∧ OI w.heap.size wr v (rAt f k) ∧ Below w.heap.size w wr) (fun _ i _ _ _ _ _ => 11 - (intOf i).toNat)
  case atStart => exact ⟨0, by go_num, by omega, hO, hb⟩
  case round =>
    clear hO hb
    obtain ⟨k, rfl, hk, hO, hbw⟩ := hrel
    obtain ⟨wo, rfl⟩ : ∃ wo : World, wo = wr := ⟨_, rfl⟩
    have hl10 := rAt_len f k hk
    obtain ⟨R, hR⟩ : ∃ R, rAt f k = R := ⟨_, rfl⟩
    rw [hR] at hO hl10
    obtain ⟨A, cap, rfl, hc1, hc2, hr, -⟩ := hO.form
    obtain ⟨n, hn⟩ : ∃ n, R.length = n := ⟨_, rfl⟩
    rw [hn] at hr hc1 hl10
    rw [hn] at hO ⊢
    by_cases hlt : k < n
    · have hlz : (k : Int) < (n : Int) := by omega
      obtain ⟨b, off, x, rfl, hx, hcell⟩ := hr.place hlt
      have hnx : rAt f (k + 1) = addL R (bhK x) := by
        show addL (rAt f k) (bhK ((rAt f k).getD k 0)) = _
        rw [hR, List.getD_eq_getElem?_getD, hx]
        rfl
      clear hR hx
      replace hnx := Lib.hid hnx
      replace hn := Lib.hid hn
      go_wp2_with fail
      refine (behind_any x _).mono ?_
      rintro e w2 ⟨vl, rfl, hL, hb2⟩
      have hO2 := hO.kept (Keep.of_below hb2) (fun g hg e => by have := (hO.lt g hg).2; omega)
      have hbw2 := hbw.trans (hb2.mono hbw.size)
      have hl6 := bhK_len x
      obtain ⟨L, hLe⟩ : ∃ L, bhK x = L := ⟨_, rfl⟩
      rw [hLe] at hL hnx hl6
      obtain ⟨AL, cL, rfl, hL1, hL2, hLr, hLb⟩ := hL.form
      obtain ⟨m, hm⟩ : ∃ m, L.length = m := ⟨_, rfl⟩
      rw [hm] at hLr hL1 hl6 ⊢
      have hAL : ∀ ad, AL = some ad → ad.block < w2.heap.size ∧ ¬ (some b = some ad.block) := fun ad e => ⟨(hLb ad e).2.1, fun e2 => by
        have h1 := (hLb ad e).1
        have h2 := (hO.lt b rfl).2
        cases e2
        omega⟩
      clear hL hLb hLe hcell hO hbw hb2 hr
      replace hm := Lib.hid hm
      go_wp2
      go_loopw [5, 8, 23] (fun v s i wq => ∃ j : Nat, i = .int .i64 (j : Int) ∧ j ≤ m ∧ OI w.heap.size wq v (addL R (L.take j)) ∧ IR wq AL m L ∧ (∀ ad, AL = some ad → ad.block < wq.heap.size ∧ ¬ (v.ownBlock = some ad.block)) ∧ Below w.heap.size w wq) (fun _ _ i _ => m - (intOf i).toNat)
      case atStart => exact ⟨0, by go_num, by omega, hO2, hLr, hAL, hbw2⟩
      case round =>
        clear hO2 hLr hAL hbw2
        obtain ⟨j, rfl, hj, hO, hLr, hAL, hbw⟩ := hrel
        by_cases hjm : j < m
        · have hjz : (j : Int) < (m : Int) := by omega
          have hal := addL_len R (L.take j)
          rw [List.length_take] at hal
          have hn2 := hn.out
          have hsn : ∀ y, L[j]? = some y → addL R (L.take (j + 1)) = if y ∈ addL R (L.take j) then addL R (L.take j) else addL R (L.take j) ++ [y] := fun y hy => by
            rw [List.take_add_one, hy]
            exact addL_snoc _ _ _
          obtain ⟨bl, ol, y, rfl, hy, hcell⟩ := hLr.place hjm
          have hsn := Lib.hid (hsn y hy)
          have hALb := hAL _ rfl
          clear hy
          obtain ⟨T, hT⟩ : ∃ T, addL R (L.take j) = T := ⟨_, rfl⟩
          rw [hT] at hO hal hsn
          have hTl : T.length ≤ 100 := by omega
          clear hT hal hn2
          have hwsz := hbw.size
          obtain ⟨AT, cT, rfl, hT1, hT2, hTr, -⟩ := hO.form
          by_cases hin : y ∈ T
          · have hd := decide_eq_true hin
            have hs := hsn.out
            rw [if_pos hin] at hs
            clear hsn hin
            go_wp2_with fail
            refine (contains_any AT _ cT T y _ hTr (by omega)).mono ?_
            rw [hd]
            rintro e w' ⟨rfl, hww⟩
            subst w'
            clear hd
            go_wp2
            go_roundw
            case measure => simp [intOf]; omega
            case rel => exact ⟨j + 1, by go_num, by omega, by rw [hs]; exact hO, hLr, hAL, hbw⟩
          · have hd := decide_eq_false hin
            have hs := hsn.out
            rw [if_neg hin] at hs
            clear hsn hin
            replace hs := Lib.hid hs
            go_wp2_with fail
            refine (contains_any AT _ cT T y _ hTr (by omega)).mono ?_
            rw [hd]
            rintro e w' ⟨rfl, hww⟩
            subst w'
            clear hd
            have hOa := hO.alloc (.cells #[.int .i64 y] 3)
            have hy1 : IR (wr.alloc (.cells #[.int .i64 y] 3)) (some ⟨wr.heap.size, 0, none⟩) 1 [y] := IR.made wr _ _ (0, 0) [y] rfl
            have hLa := hLr.alloc (.cells #[.int .i64 y] 3)
            have hba := hbw.alloc hbw.size (.cells #[.int .i64 y] 3)
            go_wp2_with (at_builtin; refine wpAppI rfl _ _ rfl w.heap.size _ _ rfl hOa _ 1 1 [y] rfl hy1 (by omega) hba.size ?_; rintro v' w3 hO3 hk3 hl3)
            go_roundw
            case measure => simp [intOf]; omega
            case rel =>
              refine ⟨j + 1, by go_num, by omega, by rw [hs.out]; exact hO3, hLa.kept hk3 (fun ad e => by cases e; exact hALb.2), fun ad e => ?_, hba.trans (hk3.below hba.size (fun q hq e => by have := (hOa.lt q e).1; omega))⟩
              cases e
              refine ⟨Nat.lt_of_lt_of_le hALb.1 (Nat.le_trans (by simp) hk3.size), fun e => ?_⟩
              rcases hl3 with h | h
              · exact hALb.2 (h ▸ e)
              · rw [h] at e
                have h1 := hALb.1
                simp only [World.size_alloc, Option.some.injEq] at e
                omega
        · have hjz : ¬ (j : Int) < (m : Int) := by omega
          have hjm' : j = m := by omega
          subst hjm'
          rw [List.take_of_length_le (by rw [hm.out]; exact Nat.le_refl _)] at hO
          go_wp2
          go_roundw
          case measure => simp [intOf]; omega
          case rel => exact ⟨k + 1, by go_num, by omega, by rw [hnx.out]; exact hO, hbw⟩
    · have hlz : ¬ (k : Int) < (n : Int) := by omega
      have he := rAt_end f k hk (by rw [hR, hn]; omega)
      rw [hR] at he
      clear hR
      have hBD : decide (to ∈ R) = B := by rw [he, hB.out]
      clear he hB
      have hn9 : n ≤ 9223372036854775807 := by omega
      go_wp2_with fail
      refine (contains_any A n cap R to _ hr hn9).mono ?_
      rw [hBD]
      rintro e w' ⟨rfl, hww⟩
      subst w'
      clear hBD
      go_wp2
      go_ret
      exact ⟨rfl, hbw⟩
end Go.Proofs.Ytpcngkbjeiclkaa
