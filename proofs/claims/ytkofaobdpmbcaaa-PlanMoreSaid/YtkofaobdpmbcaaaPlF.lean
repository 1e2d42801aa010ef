/- plan.Fewest. No condition but that the lists are ones of memory. -/
import Derived.Test.YtkofaobdpmbcaaaPlD
namespace Go.Proofs.Ytkofaobdpmbcaaa
open Go.RowKit Go.Maps Go.Shelf
set_option linter.unusedVariables false
set_option linter.unusedSimpArgs false

theorem OJ.below {base : Nat} {w w' : World} {v : Value} {l : List Int} (h : OJ base w v l) (k : Below w.heap.size w w') : OJ base w' v l := h.kept (Keep.of_below k) fun g hg => by have := (h.lt g hg).2; omega
theorem OJ.mono {base b' : Nat} {w : World} {v : Value} {l : List Int} (h : OJ base w v l) (hb : b' ≤ base) : OJ b' w v l := by
  refine ⟨h.1, ?_⟩
  rcases h.2 with hn | ⟨g, cap, cur, hv, hbb, rest⟩
  · exact .inl hn
  · exact .inr ⟨g, cap, cur, hv, by omega, rest⟩
def enP (l : List It) (ls : List (List It)) (ps : List Nat) : Bool := enoughO l (chosenO ls ps)
def fewestO (l : List It) (ls : List (List It)) : List Nat := match decide (l.length = 0) || !enoughO l ls with
  | true => []
  | false => bestP ls.length (enP l ls) (2 ^ ls.length)
theorem places8 {n c : Nat} (hn : n ≤ 8) (hc : c < 2 ^ n) : placesO 8 c = placesO n c := by
  have := placesO_more hc (8 - n)
  rwa [show n + (8 - n) = 8 by omega] at this
theorem best_len (n : Nat) (en : List Nat → Bool) (k : Nat) : (bestP n en k).length ≤ n := by
  induction k with
  | zero => exact placesO_len _ _
  | succ k ih =>
    rw [bestP_succ]
    unfold stepP
    split
    · exact placesO_len _ _
    · exact ih
set_option maxRecDepth 100000 in
set_option maxHeartbeats 3200000 in
theorem pfewest_any (A : Option Addr) (n c : Nat) (l : List It) (R : Option Addr) (m cm : Nat) (ls : List (List It)) (B : Nat) (w : World) (hl : IL w A n l) (hwl : WL l) (hr : RL B w R m ls) (hB : B ≤ w.heap.size) (hn : n * 24 ≤ 140737488355328) (hm : m ≤ 9223372036854775807) :
    Calls Try.prog 18 #[.slice A n c, .slice R m cm] w fun e w' => ∃ v, e = .returned v ∧ OJ w.heap.size w' v (natI (fewestO l ls)) ∧ Below w.heap.size w w' := by
  have hlen := hr.1
  have hll := hl.len
  by_cases h0 : n = 0
  · have hno : fewestO l ls = [] := by unfold fewestO; rw [decide_eq_true (by omega)]; rfl
    subst h0
    go_enter Try.func18, Try.ntmps18
    go_wp2
    go_ret
    exact ⟨_, rfl, by rw [hno]; exact OJ.nil _ _, Below.refl _ _⟩
  have h0b : ((n : Int) == 0) = false := beq_eq_false_iff_ne.2 (by omega)
  have key := penough_any A n c l R m cm ls B w hl hwl hr hn hm
  cases hen : enoughO l ls with
  | false =>
    rw [hen] at key
    have hno : fewestO l ls = [] := by unfold fewestO; rw [decide_eq_false (by omega), hen]; rfl
    go_enter Try.func18, Try.ntmps18
    go_wp2_with fail
    refine key.mono ?_
    rintro e w1 ⟨rfl, hx1⟩
    go_wp2
    go_ret
    exact ⟨_, rfl, by rw [hno]; exact OJ.nil _ _, hx1⟩
  | true =>
    rw [hen] at key
    have hyes : fewestO l ls = bestP m (enP l ls) (2 ^ m) := by unfold fewestO; rw [decide_eq_false (by omega), hen, hlen]; rfl
    have h8 : m ≤ 8 := by
      unfold enoughO mayS at hen
      simp only [Bool.and_eq_true, decide_eq_true_eq] at hen
      omega
    rw [hyes]
    clear hyes hen
    obtain ⟨N, hN⟩ : ∃ N, 2 ^ m = N := ⟨_, rfl⟩
    have hN1 : 1 ≤ N := by rw [← hN]; exact Nat.one_le_two_pow
    have hN256 : N ≤ 256 := by
      rw [← hN]
      calc 2 ^ m ≤ 2 ^ 8 := Nat.pow_le_pow_right (by decide) h8
        _ = 256 := rfl
    have hP8 : ∀ c, c < N → placesO 8 c = placesO m c := fun c hc => places8 h8 (by rw [hN]; exact hc)
    have hbest0 : bestP m (enP l ls) 0 = placesO m (N - 1) := by unfold bestP; rw [hN]; rfl
    rw [hN]
    have hzs : (2 : Int) ^ m = (N : Int) := by rw [← hN]; simp
    have hw1 : wrap64 ((2 : Int) ^ m) = (N : Int) := by rw [hzs]; unfold wrap64; omega
    have hw2 : wrap64 ((N : Int) - 1) = ((N - 1 : Nat) : Int) := by unfold wrap64; omega
    go_enter Try.func18, Try.ntmps18
    go_wp2_with fail
    refine key.mono ?_
    rintro e w1 ⟨rfl, hx1⟩
    clear key
    go_wp2_with fail
    rw [show ((N : Int) - 1) = ((N - 1 : Nat) : Int) by omega]
    refine (pplaces_any (N - 1) (by omega) _).mono ?_
    rintro e w2 ⟨v2, rfl, ho2, hx2⟩
    rw [hP8 (N - 1) (by omega), ← hbest0] at ho2
    have hb2 := hx1.trans (hx2.mono hx1.size)
    have ho2' := ho2.mono hx1.size
    clear ho2 hx1 hx2 hbest0 hzs hw1 hw2
    go_wp2
    go_loopw [6, 7, 8, 25] (fun v s7 s8 i wr => ∃ k : Nat, i = .int .i64 (k : Int) ∧ k ≤ N ∧ OJ w.heap.size wr v (natI (bestP m (enP l ls) k)) ∧ Below w.heap.size w wr) (fun _ _ _ i _ => N - (intOf i).toNat)
    case atStart => exact ⟨0, by go_num, by omega, ho2', hb2⟩
    case round =>
      obtain ⟨k, rfl, hk, hO, hbw⟩ := hrel
      by_cases hlt : k < N
      · have hlz : (k : Int) < (N : Int) := by omega
        have hsucc := bestP_succ m (enP l ls) k
        have hbl := best_len m (enP l ls) k
        rw [← natI_len] at hbl
        have hpl := placesO_len m k
        have hps8 := hP8 k hlt
        go_wp2_with fail
        refine (pplaces_any k (by omega) _).mono ?_
        rintro e w3 ⟨v3, rfl, ho3, hx3⟩
        rw [hps8] at ho3
        obtain ⟨P, hP⟩ : ∃ P, placesO m k = P := ⟨_, rfl⟩
        obtain ⟨T, hT⟩ : ∃ T, bestP m (enP l ls) k = T := ⟨_, rfl⟩
        have hPm : ∀ p ∈ P, p < m := fun p hp => by rw [← hP] at hp; exact placesO_lt hp
        rw [hP] at ho3 hpl
        rw [hT] at hO hbl
        have hst : bestP m (enP l ls) (k + 1) = match fewB P T && enP l ls P with | true => P | false => T := by rw [hsucc, ← hP, ← hT]; rfl
        clear hsucc hP hT hps8
        have hb3 := hbw.trans (hx3.mono hbw.size)
        have hO3 := hO.below hx3
        obtain ⟨A3, c3, rfl, h31, h32, h3r, h3a⟩ := ho3.form
        obtain ⟨AT, cT, rfl, hT1, hT2, hTr, hTa⟩ := hO3.form
        rw [natI_len] at h31 h3r hT1 hTr hbl
        rw [natI_len, natI_len]
        have ho3' := ho3.mono hbw.size
        rw [natI_len] at ho3' hO3
        go_wp2_with fail
        refine (pfewer_any A3 AT P.length c3 T.length cT P T _ h3r hTr (by omega) (by omega)).mono ?_
        rintro e w4 ⟨rfl, hx4⟩
        have hb4 := hb3.trans (hx4.mono hb3.size)
        have hO4 := hO3.below hx4
        have ho4 := ho3'.below hx4
        have h4r := h3r.below hx4
        cases hf : fewB P T with
        | false =>
          have hst2 : bestP m (enP l ls) (k + 1) = T := by rw [hst, hf]; rfl
          go_wp2
          go_roundw
          case measure => simp [intOf]; omega
          case rel => exact ⟨k + 1, by go_num, by omega, by rw [hst2]; exact hO4, hb4⟩
        | true =>
          go_wp2_with fail
          refine (pchosen_any R m cm ls B A3 P.length c3 P _ (hr.below hb4) (Nat.le_trans hB hb4.size) h4r hPm hm (by omega)).mono ?_
          rintro e w5 ⟨v5, rfl, hL5, hx5⟩
          have hb5 := hb4.trans (hx5.mono hb4.size)
          have hO5 := hO4.below hx5
          have ho5 := ho4.below hx5
          obtain ⟨A5, c5, rfl, h51, h52, h5r⟩ := hL5.form
          have hcl : (chosenO ls P).length ≤ 8 := by
            unfold chosenO
            have h1 := List.length_filterMap_le (fun p => ls[p]?) P
            omega
          go_wp2_with fail
          refine (penough_any A n c l A5 (chosenO ls P).length c5 (chosenO ls P) _ _ (hl.below hb5) hwl h5r hn (by omega)).mono ?_
          rintro e w6 ⟨rfl, hx6⟩
          have hb6 := hb5.trans (hx6.mono hb5.size)
          have hO6 := hO5.below hx6
          have ho6 := ho5.below hx6
          cases he : enoughO l (chosenO ls P) with
          | false =>
            have hst2 : bestP m (enP l ls) (k + 1) = T := by rw [hst, hf, show enP l ls P = false from he]; rfl
            go_wp2
            go_roundw
            case measure => simp [intOf]; omega
            case rel => exact ⟨k + 1, by go_num, by omega, by rw [hst2]; exact hO6, hb6⟩
          | true =>
            have hst2 : bestP m (enP l ls) (k + 1) = P := by rw [hst, hf, show enP l ls P = true from he]; rfl
            go_wp2
            go_roundw
            case measure => simp [intOf]; omega
            case rel => exact ⟨k + 1, by go_num, by omega, by rw [hst2]; exact ho6, hb6⟩
      · have hlz : ¬ (k : Int) < (N : Int) := by omega
        have : k = N := by omega
        subst this
        go_wp2
        go_ret
        exact ⟨_, rfl, hO, hbw⟩
end Go.Proofs.Ytkofaobdpmbcaaa
