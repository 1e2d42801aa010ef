/- 'PlanMore' returns true for every input: the row of this law, proved. No condition. -/
import Derived.Test.YtkofaobdpmbcaaaPlT
import Derived.Test.YtkofaobdpmbcaaaPlH
import Derived.Test.YtkofaobdpmbcaaaPlL
import Derived.Test.YtkofaobdpmbcaaaPlR
import Derived.ProofKit
import Derived.OpenShut
import Derived.ShutString
import Derived.ChangeOld
import Derived.SizedLaws
namespace Go.Proofs.Ytkofaobdpmbcaaa
open Go.RowKit
set_option linter.unusedVariables false
set_option linter.unusedSimpArgs false
theorem wpAppLG {w : World} {ops : Array Oper} {rest : List Oper} {o : Oper} {a : Act} {Q : Exit → Act → World → Prop} (hgd : Region.wanted o (yielded ops a.tmps) = true) (s x : Operand) (ho : o.op = .call { callee := .builtin .append, args := #[s, x], argTypes := #[27, 27] })
    (base : Nat) (v : Value) (ls : List (List It)) (hs : a.eval s = v) (hown : OL base w v ls) (A : Option Addr) (m c : Nat) (news : List (List It)) (hx : a.eval x = .slice A m c) (B : Nat) (hr : RL B w A m news) (hB : B ≤ base)
    (hn : ls.length + m ≤ 1099511627776) (hbase : base ≤ w.heap.size)
    (h : ∀ v' w', OL base w' v' (ls ++ news) → Keep (fun k => v.ownBlock = some k) w w' → wpList Try.prog ops Q rest (a.put o.dst v') w') : wpList Try.prog ops Q (o :: rest) a w := by
  unfold wpList
  rw [if_pos hgd]
  exact .inl (wp_appL s x ho base v ls hs hown A m c news hx B hr hB hn hbase h)
theorem RL.one {B : Nat} {w : World} {g : Nat} {A : Option Addr} {n c : Nat} {l : List It} (hc : w.cell? ⟨g, 0, none⟩ = some (.slice A n c)) (hl : IL w A n l) (hlt : ∀ ad, A = some ad → 0 < l.length → ad.block < B) (h1 : n ≤ c) (h2 : c ≤ 9223372036854775807) (hw : WL l) : RL B w (some ⟨g, 0, none⟩) 1 [l] := by
  have hn := hl.len
  subst hn
  refine ⟨rfl, fun i l' hi => ?_⟩
  match i, hi with
  | 0, hi =>
    simp at hi
    subst hi
    exact ⟨g, 0, A, c, rfl, hc, hl, h1, h2, hw, hlt⟩
theorem mys_app {ls : List (List It)} {m : List It} (h : MYs (ls ++ [m])) : MYs ls ∧ MY m := ⟨fun l hl => h l (by simp [hl]), h m (by simp)⟩
theorem mayS_more {l : List It} {ls : List (List It)} {m : List It} (h : mayS l (ls ++ [m]) = true) : mayS l ls = true := by
  obtain ⟨h8, hp⟩ := mayS_facts h
  obtain ⟨hw, ho⟩ := mayP_my hp
  have h2 := my_mayP hw (mys_app ho).1
  unfold mayS
  rw [h2, decide_eq_true (by rw [List.length_append] at h8; omega)]
  rfl
theorem more_left {l : List It} {ls : List (List It)} {m : List It} (hw : MY l) (ho : MYs ls) (hm : MY m) : restL (leftO l (ls ++ [m])) (leftO l ls) = [] := by
  have hL := MY.leftO ho hw
  rw [leftO_snoc]
  have hr := MY.rest hL hm
  have h := MY.rest hr hL
  refine List.eq_nil_of_length_eq_zero (h.nil_iff.2 fun g => ?_)
  rw [of_rest hr hL, of_rest hL hm]
  have h1 := hm.nonneg g
  have h2 := hL.nonneg g
  omega
theorem enoughO_iff {l : List It} {ls : List (List It)} (h : mayS l ls = true) : enoughO l ls = true ↔ ∀ g, ofL l g ≤ sumO ls g := by
  obtain ⟨h8, hp⟩ := mayS_facts h
  obtain ⟨hw, ho⟩ := mayP_my hp
  rw [← left_nil hw ho]
  unfold enoughO missO
  rw [h, hp]
  simp
theorem more_enough {l : List It} {ls : List (List It)} {m : List It} (h : mayS l (ls ++ [m]) = true) (he : enoughO l ls = true) : enoughO l (ls ++ [m]) = true := by
  obtain ⟨h8, hp⟩ := mayS_facts h
  obtain ⟨hw, ho⟩ := mayP_my hp
  rw [enoughO_iff h]
  rw [enoughO_iff (mayS_more h)] at he
  intro g
  exact Int.le_trans (he g) (sumO_sub (List.sublist_append_left _ _) ho g)
theorem more_fewest {l : List It} {ls : List (List It)} {m : List It} (h : mayS l (ls ++ [m]) = true) : (fewestO l ls).length = 0 ∨ (0 < (fewestO l (ls ++ [m])).length ∧ (fewestO l (ls ++ [m])).length ≤ (fewestO l ls).length) := by
  by_cases h0 : l.length = 0
  · left
    rw [fewest_no (.inr h0)]
    rfl
  cases he : enoughO l ls with
  | false =>
    left
    unfold fewestO
    rw [he, Bool.not_false, Bool.or_true]
    rfl
  | true =>
    right
    have he2 := more_enough h he
    have hx : fewestO l ls = bestP ls.length (enP l ls) (2 ^ ls.length) := by
      unfold fewestO
      rw [decide_eq_false h0, he]
      rfl
    have hy : fewestO l (ls ++ [m]) = bestP (ls.length + 1) (enP l (ls ++ [m])) (2 ^ (ls.length + 1)) := by
      unfold fewestO
      rw [decide_eq_false h0, he2, List.length_append]
      rfl
    have ha : enP l ls (placesO ls.length (2 ^ ls.length - 1)) = true := by
      unfold enP
      rw [chosen_all]
      exact he
    have hb : enP l (ls ++ [m]) (placesO (ls.length + 1) (2 ^ (ls.length + 1) - 1)) = true := by
      have := chosen_all (ls ++ [m])
      rw [List.length_append, show [m].length = 1 from rfl] at this
      unfold enP
      rw [this]
      exact he2
    obtain ⟨⟨c, hc, hcx⟩, hx2, _⟩ := bestP_best ls.length (enP l ls) ha (2 ^ ls.length) (Nat.le_refl _)
    obtain ⟨_, hy2, hy3⟩ := bestP_best (ls.length + 1) (enP l (ls ++ [m])) hb (2 ^ (ls.length + 1)) (Nat.le_refl _)
    rw [← hx] at hcx hx2
    rw [← hy] at hy2 hy3
    have hp := placesO_more hc 1
    have hc2 : c < 2 ^ (ls.length + 1) := by rw [Nat.pow_succ]; omega
    have hlt : ∀ p ∈ placesO ls.length c, p < ls.length := fun p hp => placesO_lt hp
    have hen : enP l (ls ++ [m]) (placesO (ls.length + 1) c) = true := by
      rw [hp]
      rw [hcx] at hx2
      unfold enP at hx2 ⊢
      rw [chosen_more hlt]
      exact hx2
    have h5 := few_len (hy3 c hc2 hen)
    rw [hp, ← hcx] at h5
    refine ⟨?_, h5⟩
    cases hq : fewestO l (ls ++ [m]) with
    | cons a r => simp
    | nil =>
      exfalso
      rw [hq] at hy2
      unfold enP at hy2
      have h6 : mayS l (chosenO (ls ++ [m]) []) = true := by
        obtain ⟨h8, hp⟩ := mayS_facts h
        obtain ⟨hw, ho⟩ := mayP_my hp
        have h2 := my_mayP hw (offers := []) (fun l hl => by simp at hl)
        unfold mayS
        rw [show chosenO (ls ++ [m]) [] = [] from rfl, h2]
        rfl
      obtain ⟨h8, hp⟩ := mayS_facts h
      obtain ⟨hw, ho⟩ := mayP_my hp
      rw [enoughO_iff h6, show chosenO (ls ++ [m]) [] = [] from rfl, ← left_nil hw (fun l hl => by simp at hl)] at hy2
      exact h0 hy2
set_option maxRecDepth 100000 in
set_option maxHeartbeats 12800000 in
theorem planMore_walk {w : World} (a0 : Option Addr) (len0 cap0 : Nat) (z0 : List It) (hr0 : IL w a0 len0 z0) (hw0 : WL z0) (hc0 : len0 ≤ cap0) (hm0 : cap0 ≤ 9223372036854775807) (hl0 : cap0 * 24 ≤ 140737488351232) (a1 : Option Addr) (len1 cap1 : Nat) (f1 : List (List It)) (ho1 : RL w.heap.size w a1 len1 f1) (hc1 : len1 ≤ cap1) (hm1 : cap1 ≤ 9223372036854775807) (a2 : Option Addr) (len2 cap2 : Nat) (z2 : List It) (hr2 : IL w a2 len2 z2) (hw2 : WL z2) (hc2 : len2 ≤ cap2) (hm2 : cap2 ≤ 9223372036854775807) (hl2 : cap2 * 24 ≤ 140737488351232) :
    Calls Try.prog 6 #[.slice a0 len0 cap0, .slice a1 len1 cap1, .slice a2 len2 cap2] w fun e w' => e = .returned (.bool true) ∧ Below w.heap.size w w' := by
  have hlen := ho1.1
  have hz0len := hr0.len
  have hz2len := hr2.len
  have key0 := psmall_any a0 len0 cap0 z0 a1 len1 cap1 f1 _ w hr0 ho1 (by omega) (by omega)
  have early : ∀ sm, smallB z0 f1 = sm → (sm = false ∨ 7 < len1) → Calls Try.prog 6 #[.slice a0 len0 cap0, .slice a1 len1 cap1, .slice a2 len2 cap2] w fun e w' => e = .returned (.bool true) ∧ Below w.heap.size w w' := by
    intro sm hsm hno
    rw [hsm] at key0
    clear hsm
    cases sm with
    | false =>
      go_enter Try.func6, Try.ntmps6
      go_wp2_with fail
      refine key0.mono ?_
      rintro e w' ⟨rfl, rfl⟩
      go_wp2_with fail
      refine (plives_any _).mono ?_
      rintro e w1 ⟨rfl, hx1⟩
      go_wp2
      go_ret
      exact ⟨rfl, hx1⟩
    | true =>
      have hz7 : (7 : Int) < (len1 : Int) := by
        rcases hno with h | h
        · cases h
        · omega
      go_enter Try.func6, Try.ntmps6
      go_wp2_with fail
      refine key0.mono ?_
      rintro e w' ⟨rfl, rfl⟩
      go_wp2_with fail
      refine (plives_any _).mono ?_
      rintro e w1 ⟨rfl, hx1⟩
      go_wp2
      go_ret
      exact ⟨rfl, hx1⟩
  cases hsm : smallB z0 f1 with
  | false => exact early _ hsm (.inl rfl)
  | true =>
  by_cases h7 : 7 < len1
  · exact early _ hsm (.inr h7)
  have hz7 : ¬ (7 : Int) < (len1 : Int) := by omega
  obtain ⟨hs1, _, _⟩ := smallB_facts hsm
  rw [hsm] at key0
  clear early hsm
  have hAlen : (f1 ++ [z2]).length = len1 + 1 := by simp [hlen]
  have hltz : ∀ ad, a2 = some ad → 0 < z2.length → ad.block < w.heap.size := fun ad ha hl => hr2.lt ad ha (by omega)
  have hMay := fun A c B W h1 h2 => prmay_any a0 len0 cap0 z0 A (len1 + 1) c (f1 ++ [z2]) B W h1 hw0 h2 (by omega) (by omega)
  go_enter Try.func6, Try.ntmps6
  go_wp2_with fail
  refine key0.mono ?_
  rintro e w' ⟨rfl, hww⟩
  subst w'
  clear key0
  go_wp2_with (first | (at_builtin; refine wpAppLG (by first | rfl | simp [Region.wanted, yielded, hz7]) _ _ rfl w.heap.size _ [] rfl (OL.made w.heap.size w (Nat.le_refl _)) a1 len1 cap1 f1 rfl w.heap.size (ho1.alloc _) (Nat.le_refl _) (by simp; omega) (by simp) ?_; rintro v1 w1 hv1 hk1; rw [List.nil_append] at hv1; have hb1 : Below w.heap.size w w1 := ((Below.refl w.heap.size w).alloc (Nat.le_refl _) (.cells #[] 26)).trans (hk1.below (by simp) (own_lt rfl)); have hv1a := hv1.alloc (.cells #[.slice a2 len2 cap2] 26); have hb1a := hb1.alloc hb1.size (.cells #[.slice a2 len2 cap2] 26); have hone : RL w.heap.size (w1.alloc (.cells #[.slice a2 len2 cap2] 26)) (some ⟨w1.heap.size, 0, none⟩) 1 [z2] := RL.one (by go_simp) (hr2.below hb1a) hltz hc2 hm2 hw2) | (at_builtin; refine wpAppLG (by first | rfl | simp [Region.wanted, yielded, hz7]) _ _ rfl w.heap.size v1 f1 rfl hv1a _ 1 1 [z2] rfl w.heap.size hone (Nat.le_refl _) (by omega) hb1a.size ?_; rintro v2 w2 hv2 hk2; have hb2 := hv1a.keep_below hb1a hk2 hb1a.size; obtain ⟨A2, c2, hv2e, h21, h22, h2r⟩ := hv2.form; subst hv2e; rw [hAlen] at h2r; rw [hAlen]))
  refine (hMay _ _ _ _ (hr0.below hb2) h2r).mono ?_
  rintro e w3 ⟨rfl, hx3⟩
  have hb3 := hb2.trans (hx3.mono hb2.size)
  clear hMay hv1a hone hv1 hk1 hv2 hk2 h2r hb2 hx3 hb1 hb1a
  cases hms : mayS z0 (f1 ++ [z2]) with
  | false =>
    go_wp2_with fail
    refine (plives_any _).mono ?_
    rintro e w4 ⟨rfl, hx4⟩
    go_wp2
    go_ret
    exact ⟨rfl, hb3.trans (hx4.mono hb3.size)⟩
  | true =>
    have hms1 := mayS_more hms
    obtain ⟨h8, hmp⟩ := mayS_facts hms
    obtain ⟨hmy, hmysa⟩ := mayP_my hmp
    obtain ⟨hmys, hmz⟩ := mys_app hmysa
    have hml := more_left hmy hmys hmz
    have hmf := more_fewest hms
    have hme := more_enough (l := z0) (ls := f1) (m := z2) hms
    have hr03 := hr0.below hb3
    have ho13 := ho1.below hb3
    have hr23 := hr2.below hb3
    have hB := hb3.size
    have hSa := fun W h1 h2 => psplit_any a0 len0 cap0 z0 a1 len1 cap1 f1 w.heap.size W h1 hw0 h2 (by omega) (by omega)
    have hSb := fun A c B W h1 h2 => psplit_any a0 len0 cap0 z0 A (len1 + 1) c (f1 ++ [z2]) B W h1 hw0 h2 (by omega) (by omega)
    unfold SplitPost at hSa hSb
    rw [hms1] at hSa
    rw [hms] at hSb
    have hFa := fun W h1 h2 h3 => pfewest_any a0 len0 cap0 z0 a1 len1 cap1 f1 w.heap.size W h1 hw0 h2 h3 (by omega) (by omega)
    have hFb := fun A c B W h1 h2 h3 => pfewest_any a0 len0 cap0 z0 A (len1 + 1) c (f1 ++ [z2]) B W h1 hw0 h2 h3 (by omega) (by omega)
    have hEa := fun W h1 h2 => penough_any a0 len0 cap0 z0 a1 len1 cap1 f1 w.heap.size W h1 hw0 h2 (by omega) (by omega)
    have hEb := fun A c B W h1 h2 => penough_any a0 len0 cap0 z0 A (len1 + 1) c (f1 ++ [z2]) B W h1 hw0 h2 (by omega) (by omega)
    have hLa := MY.leftO hmys hmy
    have hLb := MY.leftO hmysa hmy
    obtain ⟨en, hen⟩ : ∃ b, enoughO z0 f1 = b := ⟨_, rfl⟩
    rw [hen] at hEa hme
    obtain ⟨X, hX⟩ : ∃ X, natI (fewestO z0 f1) = X := ⟨_, rfl⟩
    obtain ⟨Y, hY⟩ : ∃ Y, natI (fewestO z0 (f1 ++ [z2])) = Y := ⟨_, rfl⟩
    obtain ⟨p, hp⟩ : ∃ p, X.length = p := ⟨_, rfl⟩
    obtain ⟨q, hq⟩ : ∃ q, Y.length = q := ⟨_, rfl⟩
    have hpe : (fewestO z0 f1).length = p := by rw [← hp, ← hX, natI_len]
    have hqe : (fewestO z0 (f1 ++ [z2])).length = q := by rw [← hq, ← hY, natI_len]
    rw [hpe, hqe] at hmf
    rw [hX] at hFa
    rw [hY] at hFb
    obtain ⟨La, hLae⟩ : ∃ L, leftO z0 f1 = L := ⟨_, rfl⟩
    obtain ⟨Lb, hLbe⟩ : ∃ L, leftO z0 (f1 ++ [z2]) = L := ⟨_, rfl⟩
    rw [hLae] at hLa hSa hml
    rw [hLbe] at hLb hSb hml
    clear hX hY hpe hqe hLae hLbe hms hms1 hmp h8 hen
    replace hml := Lib.hid hml
    replace hmf := Lib.hid hmf
    replace hme := Lib.hid hme
    have hla16 := hLa.len
    have hlb16 := hLb.len
    go_wp2_with (first | (at_builtin; refine wpAppLG (by rfl) _ _ rfl w3.heap.size _ [] rfl (OL.made w3.heap.size w3 (Nat.le_refl _)) a1 len1 cap1 f1 rfl w.heap.size (ho13.alloc _) hB (by simp; omega) (by simp) ?_; rintro v1 w1 hv1 hk1; rw [List.nil_append] at hv1; have hb1 : Below w3.heap.size w3 w1 := ((Below.refl w3.heap.size w3).alloc (Nat.le_refl _) (.cells #[] 26)).trans (hk1.below (by simp) (own_lt rfl)); have hv1a := hv1.alloc (.cells #[.slice a2 len2 cap2] 26); have hb1a := hb1.alloc hb1.size (.cells #[.slice a2 len2 cap2] 26); have hone : RL w.heap.size (w1.alloc (.cells #[.slice a2 len2 cap2] 26)) (some ⟨w1.heap.size, 0, none⟩) 1 [z2] := RL.one (by go_simp) (hr23.below hb1a) hltz hc2 hm2 hw2) | (at_builtin; refine wpAppLG (by rfl) _ _ rfl w3.heap.size v1 f1 rfl hv1a _ 1 1 [z2] rfl w.heap.size hone hB (by omega) hb1a.size ?_; rintro v2 w4 hv2 hk2; have hx4 := hv1a.keep_below hb1a hk2 hb1a.size; obtain ⟨A2, c2, hv2e, h21, h22, h2r⟩ := hv2.form; subst hv2e; rw [hAlen] at h2r; rw [hAlen]))
    have hb4 := hb3.trans (hx4.mono hb3.size)
    obtain ⟨B2, hB2⟩ : ∃ B, w4.heap.size = B := ⟨_, rfl⟩
    have h2r := h2r
    rw [hB2] at h2r
    clear hv1 hk1 hb1 hv1a hb1a hone hv2 hk2 hx4 h21 h22 hr03 ho13 hr23
    refine (hSa _ (hr0.below hb4) (ho1.below hb4)).mono ?_
    rintro e w5 ⟨hx5, v5, u5, rfl, hG5, hU5⟩
    clear hG5
    have hb5 := hb4.trans (hx5.mono hb4.size)
    have h2r5 := h2r.below hx5
    go_wp2_with fail
    refine (hSb _ _ _ _ (hr0.below hb5) h2r5).mono ?_
    rintro e w6 ⟨hx6, v6, u6, rfl, hG6, hU6⟩
    clear hG6
    have hb6 := hb5.trans (hx6.mono hb5.size)
    have h2r6 := h2r5.below hx6
    have hU56 := hU5.below hx6
    go_wp2_with fail
    refine (hFa _ (hr0.below hb6) (ho1.below hb6) hb6.size).mono ?_
    rintro e w7 ⟨v7, rfl, hX7, hx7⟩
    have hb7 := hb6.trans (hx7.mono hb6.size)
    have h2r7 := h2r6.below hx7
    have hz7s : B2 ≤ w7.heap.size := by rw [← hB2]; exact Nat.le_trans hx5.size (Nat.le_trans hx6.size hx7.size)
    go_wp2_with fail
    refine (hFb _ _ _ _ (hr0.below hb7) h2r7 hz7s).mono ?_
    rintro e w8 ⟨v8, rfl, hY8, hx8⟩
    have hb8 := hb7.trans (hx8.mono hb7.size)
    have h2r8 := h2r7.below hx8
    have hX8 := hX7.below hx8
    have hU58 := (hU56.below hx7).below hx8
    have hU68 := (hU6.below hx7).below hx8
    go_wp2_with fail
    refine (plives_any _).mono ?_
    rintro e w9 ⟨rfl, hx9⟩
    have hb9 := hb8.trans (hx9.mono hb8.size)
    have h2r9 := h2r8.below hx9
    obtain ⟨AX, cX, rfl, _⟩ := (hX8.below hx9).form
    obtain ⟨AY, cY, rfl, _⟩ := (hY8.below hx9).form
    obtain ⟨AU, cU, rfl, _, _, hUi, _⟩ := (hU58.below hx9).form
    obtain ⟨AW, cW, rfl, _, _, hWi, _⟩ := (hU68.below hx9).form
    rw [hp, hq]
    clear hU5 hU56 hU58 hU6 hU68 hX7 hX8 hY8 hx5 hx6 hx7 hx8 hx9 h2r h2r5 h2r6 h2r7 h2r8 hSa hSb hFa hFb
    go_wp2_with fail
    refine (refrest_any AW AU Lb.length cW La.length cU Lb La _ hWi hUi (by omega) (by omega) hLb hLa).mono ?_
    rintro e w10 ⟨v10, rfl, ho10, hx10⟩
    rw [hml.out] at ho10
    obtain ⟨AR, cR, rfl, _⟩ := ho10.form
    have hb10 := hb9.trans (hx10.mono hb9.size)
    have h2r10 := h2r9.below hx10
    clear ho10 hx10 h2r9 hWi hUi
    by_cases hp0 : p = 0
    · have hpz : ((p : Int) == 0) = true := beq_iff_eq.2 (by omega)
      clear hmf
      go_wp2_with fail
      refine (hEa _ (hr0.below hb10) (ho1.below hb10)).mono ?_
      rintro e w11 ⟨rfl, hx11⟩
      have hb11 := hb10.trans (hx11.mono hb10.size)
      cases en with
      | false =>
        go_wp2
        go_ret
        exact ⟨rfl, hb11⟩
      | true =>
        go_wp2_with fail
        refine (hEb _ _ _ _ (hr0.below hb11) (h2r10.below hx11)).mono ?_
        rintro e w12 ⟨rfl, hx12⟩
        rw [hme.out (by first | trivial | rfl)]
        go_wp2
        go_ret
        exact ⟨rfl, hb11.trans (hx12.mono hb11.size)⟩
    · have hpz : ((p : Int) == 0) = false := beq_eq_false_iff_ne.2 (by omega)
      have hmf2 := hmf.out
      have hq0 : (0 : Int) < (q : Int) := by omega
      have hqp : (q : Int) ≤ (p : Int) := by omega
      clear hmf hmf2
      go_wp2_with fail
      refine (hEa _ (hr0.below hb10) (ho1.below hb10)).mono ?_
      rintro e w11 ⟨rfl, hx11⟩
      have hb11 := hb10.trans (hx11.mono hb10.size)
      cases en with
      | false =>
        go_wp2
        go_ret
        exact ⟨rfl, hb11⟩
      | true =>
        go_wp2_with fail
        refine (hEb _ _ _ _ (hr0.below hb11) (h2r10.below hx11)).mono ?_
        rintro e w12 ⟨rfl, hx12⟩
        rw [hme.out (by first | trivial | rfl)]
        go_wp2
        go_ret
        exact ⟨rfl, hb11.trans (hx12.mono hb11.size)⟩

namespace planMoreDone
open Go.ChangeShapes Go.WideShapes Go.ChangeAt
set_option maxRecDepth 100000 in
theorem lifted (os : Os) (started : os.Started) (H : Type) (enc : TypeId × Value → H) :
    ReturnsInHanded {} Try.checked os 6 .any (Rows.planMoreSpec.pre6 enc Try.prog Try.f6 Rows.planMoreRow.domain false) (Rows.planMoreSpec.post enc Try.prog Try.f6 false true false false) := by
  refine returnsInHanded_of_change_sized (C := Try.checked) own started (by kernel_rfl) Try.func6
    (ChangeSpec.witness6 (enc := enc) (C := Try.checked) false ⟨#[], #[Value.slice none 0 0, Value.slice none 0 0, Value.slice none 0 0], []⟩ 8 (by kernel_rfl) (by kernel_rfl) (by kernel_rfl) (by kernel_rfl)) ?_
  intro W base args ds gs before hval0 hW hcnd hsz0 _
  have hsz : (DataW.weightsEach Try.prog (Try.f6.params.toList ++ Rows.planMoreSpec.plain.varTypes Try.prog) (ds ++ gs)).all (· ≤ reachBytes) = true := hsz0
  clear hsz0
  have hval : ∀ (j : Nat) t v, Try.f6.params[j]? = some t → args[j]? = some v → Value.okWide Try.prog W .any base t v := hval0
  have hW' := hW
  obtain ⟨p, q, hA0, hV, rfl, hfz, hnd⟩ := hW
  have hA : DataW.TrodAll enc Try.prog W 0 (fun _ => true) true Try.f6.params.toList args.toList ds p := hA0
  rw [Try.params6] at hA hval hsz
  obtain ⟨v0, vs0, d0, ds0, p0, q0, hargs, rfl, rfl, h0, r0⟩ := trodAll_cons hA
  obtain ⟨v1, vs1, d1, ds1, p1, q1, rfl, rfl, rfl, h1, r1⟩ := trodAll_cons r0
  obtain ⟨v2, vs2, d2, ds2, p2, q2, rfl, rfl, rfl, h2, r2⟩ := trodAll_cons r1
  obtain ⟨rfl, rfl, rfl⟩ := trodAll_nil r2
  obtain rfl : args = #[v0, v1, v2] := by cases args; simp_all
  obtain ⟨rfl, rfl⟩ := trodVars_none hV
  obtain ⟨a0, len0, cap0, rfl⟩ := okWide_slice Try.underlying26 (hval 0 26 v0 rfl rfl)
  have k0 := h0
  have lt0 : ∀ x ∈ p0, x.block < W.heap.size := by obtain ⟨m, hm⟩ := k0; exact DataW.trod_lt m _ _ _ hm
  obtain ⟨z0, hr0, hw0, hc0, hm0, hd0⟩ := items_open h0
  have hl0 : cap0 * 24 ≤ 140737488351232 := by
    rcases hd0 with ⟨_, h⟩ | ⟨es, sp, rfl, h⟩
    · omega
    · have := sized_slice hsz (j := 0) (t := 26) (e := 40) rfl rfl Try.underlying26
      rw [bytes_item] at this
      simp only [reachBytes] at this
      omega
  obtain ⟨a1, len1, cap1, rfl⟩ := okWide_slice Try.underlying27 (hval 1 27 v1 rfl rfl)
  have k1 := h1
  have lt1 : ∀ x ∈ p1, x.block < W.heap.size := by obtain ⟨m, hm⟩ := k1; exact DataW.trod_lt m _ _ _ hm
  obtain ⟨f1, ho1, hc1, hm1⟩ := irows_open h1
  obtain ⟨a2, len2, cap2, rfl⟩ := okWide_slice Try.underlying26 (hval 2 26 v2 rfl rfl)
  have k2 := h2
  have lt2 : ∀ x ∈ p2, x.block < W.heap.size := by obtain ⟨m, hm⟩ := k2; exact DataW.trod_lt m _ _ _ hm
  obtain ⟨z2, hr2, hw2, hc2, hm2, hd2⟩ := items_open h2
  have hl2 : cap2 * 24 ≤ 140737488351232 := by
    rcases hd2 with ⟨_, h⟩ | ⟨es, sp, rfl, h⟩
    · omega
    · have := sized_slice hsz (j := 2) (t := 26) (e := 40) rfl rfl Try.underlying26
      rw [bytes_item] at this
      simp only [reachBytes] at this
      omega
  clear hA0 hval0
  refine (planMore_walk (w := W) a0 len0 cap0 z0 hr0 hw0 hc0 hm0 hl0 a1 len1 cap1 f1 ho1 hc1 hm1 a2 len2 cap2 z2 hr2 hw2 hc2 hm2 hl2).mono fun e W' ⟨he, bel⟩ => ?_
  subst he
  exact ⟨_, rfl, _, _, _, [], _, [], hW', trodAll_mk1 (shut_bool Try.underlying4 _), (trodAll_cons_mk (Below.trod laidOut (by kernel_rfl) (of_decide_eq_true (by kernel_rfl)) k0 bel lt0) (trodAll_cons_mk (Below.trod laidOut (by kernel_rfl) (of_decide_eq_true (by kernel_rfl)) k1 bel lt1) (trodAll_cons_mk (Below.trod laidOut (by kernel_rfl) (of_decide_eq_true (by kernel_rfl)) k2 bel lt2) trodAll_mk0))), rfl, bel.frame _, fun h => by cases h⟩

theorem over : Rows.planMoreRow.holds Try.pinned (OpenSpec.ofChange Rows.planMoreSpec) :=
  OpenClaim.holds_of_wide 6 Try.f6 rfl rfl rfl rfl rfl rfl rfl ⟨rfl, rfl, rfl, rfl, rfl⟩ rfl rfl rfl rfl rfl (by kernel_rfl) Try.func6 (by kernel_rfl)
    (of_decide_eq_true (by kernel_rfl)) (by unfold Func.isWrapper; first | (rw [if_pos (by decide +kernel)]; kernel_rfl) | (rw [if_neg (by decide +kernel)]; exact ⟨rfl, rfl⟩))
    (fun os started H enc _ => lifted os started H enc)

/-- The statement. -/
theorem proved : Rows.PlanMoreSaid := over
end planMoreDone
end Go.Proofs.Ytkofaobdpmbcaaa
