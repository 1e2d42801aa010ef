/- entrepotref20.Reach: twelve rounds over what may come behind. No condition. -/
import Derived.Test.YtpcngkbjeiclkaaLiL
namespace Go.Proofs.Ytpcngkbjeiclkaa
open Go.RowKit
set_option linter.unusedVariables false
set_option linter.unusedSimpArgs false

/-- Those of l that are neither in s nor in m, put behind m. -/
def addM (s m l : List Int) : List Int := l.foldl (fun m x => if x ∈ s ∨ x ∈ m then m else m ++ [x]) m
theorem addM_snoc (s m l : List Int) (x : Int) : addM s m (l ++ [x]) = if x ∈ s ∨ x ∈ addM s m l then addM s m l else addM s m l ++ [x] := by
  unfold addM
  rw [List.foldl_append]
  rfl
theorem addM_len (s m l : List Int) : (addM s m l).length ≤ m.length + l.length := by
  induction l generalizing m with
  | nil => simp [addM]
  | cons x l ih =>
    unfold addM
    rw [List.foldl_cons]
    have := ih (if x ∈ s ∨ x ∈ m then m else m ++ [x])
    unfold addM at this
    refine Nat.le_trans this ?_
    split <;> simp <;> omega
theorem oiMono {base base' : Nat} {w : World} {v : Value} {l : List Int} (h : OI base w v l) (hb : base' ≤ base) : OI base' w v l := by
  refine ⟨h.1, ?_⟩
  rcases h.2 with hn | ⟨g, cap, cur, hv, hb', rest⟩
  · exact .inl hn
  · exact .inr ⟨g, cap, cur, hv, by omega, rest⟩
def moreAt (s : List Int) : Nat → List Int
  | 0 => []
  | i + 1 => addM s (moreAt s i) (bhK (s.getD i 0))
theorem moreAt_len (s : List Int) (i : Nat) : (moreAt s i).length ≤ 6 * i := by
  induction i with
  | zero => exact Nat.zero_le _
  | succ i ih =>
    unfold moreAt
    have h1 := addM_len s (moreAt s i) (bhK (s.getD i 0))
    have h2 := bhK_len (s.getD i 0)
    omega
def sAt (f : Int) : Nat → List Int
  | 0 => bhK f
  | i + 1 => sAt f i ++ moreAt (sAt f i) (sAt f i).length
theorem sAt_none {f : Int} (h : ¬ (1 ≤ f ∧ f ≤ 10)) (i : Nat) : sAt f i = [] := by
  induction i with
  | zero => exact bhK_none h
  | succ i ih =>
    unfold sAt
    rw [ih]
    rfl
theorem sAt_len (f : Int) (i : Nat) (hi : i ≤ 12) : (sAt f i).length ≤ 10 := by
  by_cases h : 1 ≤ f ∧ f ≤ 10
  · revert i
    rcases kinds10 h with rfl | rfl | rfl | rfl | rfl | rfl | rfl | rfl | rfl | rfl
    all_goals decide +kernel
  · rw [sAt_none h]
    exact Nat.zero_le _
theorem sAt_sub (f : Int) : (∀ x ∈ sAt f 12, x ∈ reachK f) ∧ ∀ x ∈ reachK f, x ∈ sAt f 12 := by
  by_cases h : 1 ≤ f ∧ f ≤ 10
  · rcases kinds10 h with rfl | rfl | rfl | rfl | rfl | rfl | rfl | rfl | rfl | rfl
    all_goals decide +kernel
  · unfold reachK
    rw [sAt_none h, rAt_none h]
    exact ⟨fun _ h => h, fun _ h => h⟩
theorem sAt_in (f x : Int) : decide (x ∈ sAt f 12) = decide (x ∈ reachK f) := decide_eq_decide.2 ⟨(sAt_sub f).1 x, (sAt_sub f).2 x⟩

set_option maxRecDepth 100000 in
set_option maxHeartbeats 3200000 in
theorem rreach_any (f to : Int) (w : World) : Calls Try.prog 16 #[.int .i64 f, .int .i64 to] w fun e w' => e = .returned (.bool (decide (to ∈ reachK f))) ∧ Below w.heap.size w w' := by
  obtain ⟨B, hB⟩ : ∃ B, B = decide (to ∈ reachK f) := ⟨_, rfl⟩
  rw [← hB]
  replace hB := Lib.hid hB
  go_enter Try.func16, Try.ntmps16
  go_wp2_with fail
  refine (rbehind_any f _).mono ?_
  rintro e w1 ⟨v, rfl, hO, hb⟩
  go_wp2
  go_loopw [5, 6, 7, 8, 9, 10] (fun v i s7 s8 s9 s10 wr => ∃ k : Nat, i = .int .i64 (k : Int) ∧ k ≤ 12 ∧ OI w.heap.size wr v (sAt f k) ∧ Below w.heap.size w wr) (fun _ i _ _ _ _ _ => 12 - (intOf i).toNat)
  case atStart => exact ⟨0, by go_num, by omega, hO, hb⟩
  case round =>
    clear hO hb
    obtain ⟨k, rfl, hk, hO, hbw⟩ := hrel
    obtain ⟨wo, rfl⟩ : ∃ wo : World, wo = wr := ⟨_, rfl⟩
    have hl10 := sAt_len f k hk
    by_cases hlt : k < 12
    · have hlz : (k : Int) < 12 := by omega
      have hnx : sAt f (k + 1) = sAt f k ++ moreAt (sAt f k) (sAt f k).length := rfl
      obtain ⟨R, hR⟩ : ∃ R, sAt f k = R := ⟨_, rfl⟩
      rw [hR] at hO hl10 hnx
      clear hR
      replace hnx := Lib.hid hnx
      obtain ⟨b0, hb0⟩ : ∃ b0, wo.heap.size = b0 := ⟨_, rfl⟩
      have hO5 : ∀ g, u5.ownBlock = some g → g < b0 := fun g hg => by rw [← hb0]; exact (hO.lt g hg).2
      have hb0w : w.heap.size ≤ b0 := by rw [← hb0]; exact hbw.size
      have hz0 : b0 ≤ wo.heap.size := by omega
      clear hb0
      go_wp2
      go_loopw [7, 8, 9, 10] (fun m i s9 s10 wq => ∃ j : Nat, i = .int .i64 (j : Int) ∧ j ≤ R.length ∧ OI w.heap.size wq u5 R ∧ OI b0 wq m (moreAt R j) ∧ b0 ≤ wq.heap.size ∧ Below w.heap.size w wq) (fun _ i _ _ _ => R.length - (intOf i).toNat)
      case atStart => exact ⟨0, by go_num, by omega, hO, OI.nil _ _, hz0, hbw⟩
      case round =>
        clear hO hbw hz0
        obtain ⟨j, rfl, hj, hO, hM, hbz, hbw⟩ := hrel
        obtain ⟨wp, rfl⟩ : ∃ wp : World, wp = wr := ⟨_, rfl⟩
        have hml := moreAt_len R j
        obtain ⟨A, cap, rfl, hc1, hc2, hr, hAb⟩ := hO.form
        obtain ⟨n, hn⟩ : ∃ n, R.length = n := ⟨_, rfl⟩
        rw [hn] at hr hc1 hl10 hj hO hnx
        rw [hn]
        by_cases hjn : j < n
        · have hjz : (j : Int) < (n : Int) := by omega
          obtain ⟨b, off, x, rfl, hx, hcell⟩ := hr.place hjn
          have hms : moreAt R (j + 1) = addM R (moreAt R j) (bhK x) := by
            show addM R (moreAt R j) (bhK (R.getD j 0)) = _
            rw [List.getD_eq_getElem?_getD, hx]
            rfl
          clear hx
          obtain ⟨M, hMe⟩ : ∃ M, moreAt R j = M := ⟨_, rfl⟩
          rw [hMe] at hM hms hml
          clear hMe
          have hM60 : M.length ≤ 60 := by omega
          clear hml
          replace hms := Lib.hid hms
          replace hn := Lib.hid hn
          go_wp2_with fail
          refine (rbehind_any x _).mono ?_
          rintro e w2 ⟨vl, rfl, hL, hb2⟩
          have hO2 := hO.kept (Keep.of_below hb2) (fun g hg e => by have := (hO.lt g hg).2; omega)
          have hM2 := hM.kept (Keep.of_below hb2) (fun g hg e => by have := (hM.lt g hg).2; omega)
          have hbw2 := hbw.trans (hb2.mono hbw.size)
          have hbz2 := Nat.le_trans hbz hb2.size
          have hl6 := bhK_len x
          obtain ⟨L, hLe⟩ : ∃ L, bhK x = L := ⟨_, rfl⟩
          rw [hLe] at hL hms hl6
          obtain ⟨AL, cL, rfl, hL1, hL2, hLr, hLb⟩ := hL.form
          obtain ⟨q, hq⟩ : ∃ q, L.length = q := ⟨_, rfl⟩
          rw [hq] at hLr hL1 hl6 ⊢
          have hAL : ∀ ad, AL = some ad → ad.block < w2.heap.size ∧ ¬ (u7.ownBlock = some ad.block) := fun ad e => ⟨(hLb ad e).2.1, fun e2 => by
            have h1 := (hLb ad e).1
            have h2 := (hM.lt _ e2).2
            omega⟩
          have hRb : b < b0 := hO5 b rfl
          clear hL hLb hLe hcell hO hM hbw hb2 hr hAb hbz
          replace hq := Lib.hid hq
          go_wp2
          go_loopw [7, 10] (fun m i wq => ∃ t : Nat, i = .int .i64 (t : Int) ∧ t ≤ q ∧ OI w.heap.size wq (.slice (some ⟨b, off, none⟩) n cap) R ∧ OI b0 wq m (addM R M (L.take t)) ∧ IR wq AL q L ∧ (∀ ad, AL = some ad → ad.block < wq.heap.size ∧ ¬ (m.ownBlock = some ad.block)) ∧ b0 ≤ wq.heap.size ∧ Below w.heap.size w wq) (fun _ i _ => q - (intOf i).toNat)
          case atStart => exact ⟨0, by go_num, by omega, hO2, hM2, hLr, hAL, hbz2, hbw2⟩
          case round =>
            clear hO2 hM2 hLr hAL hbw2 hbz2
            obtain ⟨t, rfl, ht, hO, hM, hLr, hAL, hbz, hbw⟩ := hrel
            by_cases htq : t < q
            · have htz : (t : Int) < (q : Int) := by omega
              have hal := addM_len R M (L.take t)
              rw [List.length_take] at hal
              have hsn : ∀ y, L[t]? = some y → addM R M (L.take (t + 1)) = if y ∈ R ∨ y ∈ addM R M (L.take t) then addM R M (L.take t) else addM R M (L.take t) ++ [y] := fun y hy => by
                rw [List.take_add_one, hy]
                exact addM_snoc _ _ _ _
              obtain ⟨bl, ol, y, rfl, hy, hcell⟩ := hLr.place htq
              have hsn := Lib.hid (hsn y hy)
              have hALb := hAL _ rfl
              clear hy
              obtain ⟨T, hT⟩ : ∃ T, addM R M (L.take t) = T := ⟨_, rfl⟩
              rw [hT] at hM hal hsn
              have hTl : T.length ≤ 100 := by omega
              clear hT hal
              have hwsz := hbw.size
              obtain ⟨A1, c1, hv1, hO1, hO3, hOr, -⟩ := hO.form
              have hRn := hn.out
              rw [hRn] at hOr
              simp only [Value.slice.injEq] at hv1
              obtain ⟨e1, e2, e3⟩ := hv1
              subst e1
              subst e3
              clear e2
              obtain ⟨AT, cT, rfl, hT1, hT2, hTr, -⟩ := hM.form
              clear hO1
              by_cases hin : y ∈ R
              · have hd := decide_eq_true hin
                have hs := hsn.out
                rw [if_pos (.inl hin)] at hs
                clear hsn hin hRn
                replace hs := Lib.hid hs
                go_wp2_with fail
                refine (in_any _ n cap R y _ hOr (by omega)).mono ?_
                rw [hd]
                rintro e w' ⟨rfl, hww⟩
                subst w'
                clear hd
                go_wp2
                go_roundw
                case measure => simp [intOf]; omega
                case rel => exact ⟨t + 1, by go_num, by omega, hO, by rw [hs.out]; exact hM, hLr, hAL, hbz, hbw⟩
              · have hd := decide_eq_false hin
                by_cases hin2 : y ∈ T
                · have hd2 := decide_eq_true hin2
                  have hs := hsn.out
                  rw [if_pos (.inr hin2)] at hs
                  clear hsn hin hin2 hRn
                  replace hs := Lib.hid hs
                  go_wp2_with fail
                  refine (in_any _ n cap R y _ hOr (by omega)).mono ?_
                  rw [hd]
                  rintro e w' ⟨rfl, hww⟩
                  subst w'
                  clear hd
                  go_wp2_with fail
                  refine (in_any AT _ cT T y _ hTr (by omega)).mono ?_
                  rw [hd2]
                  rintro e w' ⟨rfl, hww⟩
                  subst w'
                  clear hd2
                  go_wp2
                  go_roundw
                  case measure => simp [intOf]; omega
                  case rel => exact ⟨t + 1, by go_num, by omega, hO, by rw [hs.out]; exact hM, hLr, hAL, hbz, hbw⟩
                · have hd2 := decide_eq_false hin2
                  have hs := hsn.out
                  rw [if_neg (fun h => h.elim hin hin2)] at hs
                  clear hsn hin hin2 hRn
                  replace hs := Lib.hid hs
                  go_wp2_with fail
                  refine (in_any _ n cap R y _ hOr (by omega)).mono ?_
                  rw [hd]
                  rintro e w' ⟨rfl, hww⟩
                  subst w'
                  clear hd
                  go_wp2_with fail
                  refine (in_any AT _ cT T y _ hTr (by omega)).mono ?_
                  rw [hd2]
                  rintro e w' ⟨rfl, hww⟩
                  subst w'
                  clear hd2
                  have hOa := hO.alloc (.cells #[.int .i64 y] 3)
                  have hMa := hM.alloc (.cells #[.int .i64 y] 3)
                  have hy1 : IR (wr.alloc (.cells #[.int .i64 y] 3)) (some ⟨wr.heap.size, 0, none⟩) 1 [y] := IR.made wr _ _ (0, 0) [y] rfl
                  have hLa := hLr.alloc (.cells #[.int .i64 y] 3)
                  have hba := hbw.alloc hbw.size (.cells #[.int .i64 y] 3)
                  have hza : b0 ≤ (wr.alloc (.cells #[.int .i64 y] 3)).heap.size := by simp only [World.size_alloc]; omega
                  go_wp2_with (at_builtin; refine wpAppI rfl _ _ rfl b0 _ _ rfl hMa _ 1 1 [y] rfl hy1 (by omega) hza ?_; rintro v' w3 hO3 hk3 hl3)
                  go_roundw
                  case measure => simp [intOf]; omega
                  case rel =>
                    refine ⟨t + 1, by go_num, by omega, hOa.kept hk3 (fun g hg e => by have h1 := (hMa.lt g e).1; have h2 : some b = some g := hg; have h3 := Option.some.inj h2; omega), by rw [hs.out]; exact hO3, hLa.kept hk3 (fun ad e => by cases e; exact hALb.2), fun ad e => ?_, Nat.le_trans hza hk3.size, hba.trans (hk3.below hba.size (fun q hq e => by have := (hMa.lt q e).1; omega))⟩
                    cases e
                    refine ⟨Nat.lt_of_lt_of_le hALb.1 (Nat.le_trans (by simp) hk3.size), fun e => ?_⟩
                    rcases hl3 with h | h
                    · exact hALb.2 (h ▸ e)
                    · rw [h] at e
                      have h1 := hALb.1
                      simp only [World.size_alloc, Option.some.injEq] at e
                      omega
            · have htz : ¬ (t : Int) < (q : Int) := by omega
              have htq' : t = q := by omega
              subst htq'
              rw [List.take_of_length_le (by rw [hq.out]; exact Nat.le_refl _)] at hM
              go_wp2
              go_roundw
              case measure => simp [intOf]; omega
              case rel => exact ⟨j + 1, by go_num, by omega, hO, by rw [hms.out]; exact hM, hbz, hbw⟩
        · have hjz : ¬ (j : Int) < (n : Int) := by omega
          have hjn' : j = n := by omega
          subst hjn'
          obtain ⟨M, hMe⟩ : ∃ M, moreAt R j = M := ⟨_, rfl⟩
          rw [hMe] at hM hml hnx
          clear hMe hjz hjn
          obtain ⟨AM, cM, rfl, hM1, hM2, hMr, hMb⟩ := hM.form
          replace hn := Lib.hid hn
          have hmt : M.length ≤ 60 := by omega
          have hN : OI wp.heap.size (wp.alloc (.cells #[] 3)) (.slice (some ⟨wp.heap.size, 0, none⟩) 0 0) [] := OI.built wp.heap.size wp [] (Nat.le_refl _) (by decide)
          have hra := hr.alloc (.cells #[] 3)
          have hMra := hMr.alloc (.cells #[] 3)
          have hba := hbw.alloc hbw.size (.cells #[] 3)
          have hwz := hbw.size
          have hza : wp.heap.size ≤ (wp.alloc (.cells #[] 3)).heap.size := by simp
          go_wp2_with (first | (at_builtin; refine wpAppI rfl _ _ rfl wp.heap.size _ _ rfl hN _ j cap R rfl hra (by simp; omega) hza ?_; rintro v3 w3 hG3 hk3 hl3; have hMr3 := hMra.kept hk3 (fun ad e1 e2 => by have h1 := (hMb ad e1).2.1; have h2 := (hN.lt _ e2).1; omega); have hz3 := Nat.le_trans hza hk3.size; have hb3 := hba.trans (hk3.below hba.size (fun q hq e => by have := (hN.lt q e).1; omega)); have hl3' : ([] ++ R).length ≤ 10 := by (rw [List.nil_append, hn.out]; exact hl10)) | (at_builtin; refine wpAppI rfl _ _ rfl wp.heap.size _ _ rfl hG3 _ _ cM M rfl hMr3 (by omega) hz3 ?_; rintro v4 w4 hG4 hk4 hl4))
          go_roundw
          case measure => simp [intOf]; omega
          case rel =>
            refine ⟨k + 1, by go_num, by omega, ?_, hb3.trans (hk4.below hb3.size (fun q hq e => by have := (hG3.lt q e).1; omega))⟩
            rw [hnx.out]
            exact oiMono (by simpa using hG4) hwz
    · have hlz : ¬ (k : Int) < 12 := by omega
      have hk12 : k = 12 := by omega
      subst hk12
      have he := sAt_in f to
      obtain ⟨R, hR⟩ : ∃ R, sAt f 12 = R := ⟨_, rfl⟩
      rw [hR] at hO hl10 he
      clear hR
      have hBD : decide (to ∈ R) = B := by rw [he, hB.out]
      clear he hB
      obtain ⟨A, cap, rfl, hc1, hc2, hr, -⟩ := hO.form
      obtain ⟨n, hn⟩ : ∃ n, R.length = n := ⟨_, rfl⟩
      rw [hn] at hr hl10 ⊢
      have hn9 : n ≤ 9223372036854775807 := by omega
      clear hc1 hO hn
      go_wp2_with fail
      refine (in_any A n cap R to _ hr hn9).mono ?_
      rw [hBD]
      rintro e w' ⟨rfl, hww⟩
      subst w'
      clear hBD
      go_wp2
      go_ret
      exact ⟨rfl, hbw⟩
end Go.Proofs.Ytpcngkbjeiclkaa
