/- 'PlanSplits' returns true for every input: the row of this law, proved. No condition. -/
import Derived.Test.YtkofaobdpmbcaaaPlT
import Derived.Test.YtkofaobdpmbcaaaPlR
import Derived.ProofKit
import Derived.OpenShut
import Derived.ShutString
import Derived.ChangeOld
import Derived.SizedLaws
namespace Go.Proofs.Ytkofaobdpmbcaaa
open Go.RowKit
set_option linter.unusedVariables false
set_option linter.unusedSimpArgs false
theorem rest_of_meet {a b : List It} (ha : MY a) (hb : MY b) : restL (meetL a b) b = [] := by
  have h := MY.rest (MY.meet ha hb) hb
  refine List.eq_nil_of_length_eq_zero (h.nil_iff.2 fun g => ?_)
  rw [of_rest (MY.meet ha hb) hb, of_meet ha hb]
  omega
theorem given_meets {offers : List (List It)} (ho : MYs offers) : ∀ {want : List It}, MY want → ∀ (i : Nat) (x y : List It), (givenO want offers)[i]? = some x → offers[i]? = some y → MY x ∧ restL x y = [] := by
  induction offers with
  | nil => intro want _ i x y h; simp [givenO] at h
  | cons o r ih =>
    intro want h i x y hx hy
    have hmo := ho o (by simp)
    cases i with
    | zero =>
      simp [givenO] at hx hy
      subst hx hy
      exact ⟨MY.meet h hmo, rest_of_meet h hmo⟩
    | succ i =>
      simp [givenO] at hx hy
      exact ih (fun l hl => ho l (by simp [hl])) (MY.rest h hmo) i x y hx hy
theorem flat_len {ls : List (List It)} (h : MYs ls) : ls.flatten.length ≤ 16 * ls.length := by
  induction ls with
  | nil => simp
  | cons x r ih =>
    have h1 := ih fun l hl => h l (by simp [hl])
    have h2 := (h x (by simp)).len
    simp only [List.flatten_cons, List.length_append, List.length_cons]
    omega
theorem flat_wl {ls : List (List It)} (h : MYs ls) : WL ls.flatten := fun x hx => by
  obtain ⟨l, hl, hxl⟩ := List.mem_flatten.1 hx
  exact (h l hl).wl x hxl
set_option maxRecDepth 100000 in
set_option maxHeartbeats 12800000 in
theorem planSplits_walk {w : World} (a0 : Option Addr) (len0 cap0 : Nat) (z0 : List It) (hr0 : IL w a0 len0 z0) (hw0 : WL z0) (hc0 : len0 ≤ cap0) (hm0 : cap0 ≤ 9223372036854775807) (hl0 : cap0 * 24 ≤ 140737488351232) (a1 : Option Addr) (len1 cap1 : Nat) (f1 : List (List It)) (ho1 : RL w.heap.size w a1 len1 f1) (hc1 : len1 ≤ cap1) (hm1 : cap1 ≤ 9223372036854775807) :
    Calls Try.prog 4 #[.slice a0 len0 cap0, .slice a1 len1 cap1] w fun e w' => e = .returned (.bool true) ∧ Below w.heap.size w w' := by
  have hlen := ho1.1
  have hz0len := hr0.len
  have key0 := psmall_any a0 len0 cap0 z0 a1 len1 cap1 f1 _ w hr0 ho1 (by omega) (by omega)
  cases hsm : smallB z0 f1 with
  | false =>
    rw [hsm] at key0
    go_enter Try.func4, Try.ntmps4
    go_wp2_with fail
    refine key0.mono ?_
    rintro e w' ⟨rfl, rfl⟩
    go_wp2_with fail
    refine (plives_any _).mono ?_
    rintro e w1 ⟨rfl, hx1⟩
    go_wp2
    go_ret
    exact ⟨rfl, hx1⟩
  | true =>
  rw [hsm] at key0
  obtain ⟨hs1, hs2, hs3⟩ := smallB_facts hsm
  have key1 := psplit_any a0 len0 cap0 z0 a1 len1 cap1 f1 _ w hr0 hw0 ho1 (by omega) (by omega)
  unfold SplitPost at key1
  obtain ⟨en, hen⟩ : ∃ b, enoughO z0 f1 = b := ⟨_, rfl⟩
  have hEn := fun W h1 h2 => penough_any a0 len0 cap0 z0 a1 len1 cap1 f1 w.heap.size W h1 hw0 h2 (by omega) (by omega)
  have hMy := fun W h1 h2 => prmay_any a0 len0 cap0 z0 a1 len1 cap1 f1 w.heap.size W h1 hw0 h2 (by omega) (by omega)
  rw [hen] at hEn
  go_enter Try.func4, Try.ntmps4
  go_wp2_with fail
  refine key0.mono ?_
  rintro e w' ⟨rfl, hww⟩
  subst w'
  clear key0 hsm
  cases hms : mayS z0 f1 with
  | false =>
    rw [hms] at key1 hMy
    have hen0 : en = false := by rw [← hen]; unfold enoughO; rw [hms]; rfl
    subst hen0
    go_wp2_with fail
    refine key1.mono ?_
    rintro e w5 ⟨hx5, rfl⟩
    go_wp2_with fail
    refine (hEn _ (hr0.below hx5) (ho1.below hx5)).mono ?_
    rintro e w6 ⟨rfl, hx6⟩
    have hb6 := hx5.trans (hx6.mono hx5.size)
    go_wp2_with fail
    refine (plives_any _).mono ?_
    rintro e w7 ⟨rfl, hx7⟩
    have hb7 := hb6.trans (hx7.mono hb6.size)
    go_wp2_with fail
    refine (hMy _ (hr0.below hb7) (ho1.below hb7)).mono ?_
    rintro e w8 ⟨rfl, hx8⟩
    go_wp2
    go_ret
    exact ⟨rfl, hb7.trans (hx8.mono hb7.size)⟩
  | true =>
    rw [hms] at key1 hMy
    have hmp : mayP z0 f1 = true := by unfold mayS at hms; rw [Bool.and_eq_true] at hms; exact hms.2
    have h8 : len1 ≤ 8 := by unfold mayS at hms; simp only [Bool.and_eq_true, decide_eq_true_eq] at hms; omega
    obtain ⟨hmy, hmys⟩ := mayP_my hmp
    have hl16 := (MY.leftO hmys hmy).len
    have hend := split_gather hmy hmys
    have hgm := given_meets hmys hmy
    have hgl := givenO_len f1 z0
    have hgmy := MYs.given hmys hmy
    have hz16 := hmy.len
    have hene : en = decide ((leftO z0 f1).length = 0) := by rw [← hen]; unfold enoughO missO; rw [hms, hmp]; rfl
    have hLw := (MY.leftO hmys hmy).wl
    have hLong : ∀ x ∈ leftO z0 f1 ++ (givenO z0 f1).flatten, x.1.length ≤ 9223372036854775807 := fun x hx => by
      have := (WL.app hLw (flat_wl hgmy) x hx).1
      unfold maxLen at this
      omega
    obtain ⟨L, hL⟩ : ∃ L, leftO z0 f1 = L := ⟨_, rfl⟩
    obtain ⟨GV, hGV⟩ : ∃ G, givenO z0 f1 = G := ⟨_, rfl⟩
    rw [hL, hGV] at key1 hend hLong
    clear hLw
    rw [hL] at hl16 hene
    rw [hGV] at hgm hgl hgmy
    have key3 := fun W h1 h2 => prsplit_any a0 len0 cap0 z0 a1 len1 cap1 f1 w.heap.size W h1 h2 hmy hmys (by omega)
    rw [hL, hGV] at key3
    clear hms hmp hen hL hGV
    replace hene := Lib.hid hene
    replace hgl : GV.length = len1 := by omega
    go_wp2_with fail
    refine key1.mono ?_
    rintro e w5 ⟨hx5, v5, u5, rfl, hG5, hU5⟩
    clear key1
    go_wp2_with fail
    refine (hEn _ (hr0.below hx5) (ho1.below hx5)).mono ?_
    rintro e w6 ⟨rfl, hx6⟩
    have hb6 := hx5.trans (hx6.mono hx5.size)
    go_wp2_with fail
    refine (plives_any _).mono ?_
    rintro e w7 ⟨rfl, hx7⟩
    have hb7 := hb6.trans (hx7.mono hb6.size)
    go_wp2_with fail
    refine (hMy _ (hr0.below hb7) (ho1.below hb7)).mono ?_
    rintro e w8 ⟨rfl, hx8⟩
    have hb8 := hb7.trans (hx8.mono hb7.size)
    go_wp2_with fail
    refine (key3 _ (hr0.below hb8) (ho1.below hb8)).mono ?_
    rintro e w9 ⟨hx9, v9, u9, rfl, hG9, A9, c9, rfl, h9i, _⟩
    clear key3 hEn hMy
    have hb9 := hb8.trans (hx9.mono hb8.size)
    have hr9 := hr0.below hb9
    have ho9 := ho1.below hb9
    have hG59 := (((hG5.below hx6).below hx7).below hx8).below hx9
    have hU59 := (((hU5.below hx6).below hx7).below hx8).below hx9
    obtain ⟨AA, cA, rfl, _, _, hAr⟩ := hG59.form
    obtain ⟨AB, cB, rfl, _, _, hBr⟩ := hG9.form
    obtain ⟨AU, cU, rfl, _, _, hUi, _⟩ := hU59.form
    rw [hgl] at hAr hBr
    rw [hgl]
    clear hG5 hU5 hx5 hx6 hb6 hx7 hb7 hx8 hb8 hx9 hG59 hU59 hG9 hr0 ho1
    obtain ⟨NL, hNL⟩ : ∃ n, L.length = n := ⟨_, rfl⟩
    rw [hNL] at hl16 h9i hUi
    rw [hNL]
    have hself := fun W h1 h2 => same_self AU A9 NL cU NL c9 L W h1 h2 (by omega)
    have hz1 : ((len1 : Int) == (len1 : Int)) = true := beq_self_eq_true _
    have hzn : ((NL : Int) == 0) = en := by
      rw [hene.out, hNL]
      by_cases h : NL = 0
      · rw [decide_eq_true h, h]
        rfl
      · rw [decide_eq_false h]
        exact beq_eq_false_iff_ne.2 (by omega)
    have hEq : OI w9.heap.size (w9.alloc (.cells #[] 40)) (.slice (some ⟨w9.heap.size, 0, none⟩) 0 0) [] := OI.made _ _ (Nat.le_refl _)
    clear hene
    go_wp2_with fail
    refine (hself _ hUi h9i).mono ?_
    rintro e w10 ⟨rfl, hx10⟩
    have hb10 := hb9.trans (hx10.mono hb9.size)
    have hA10 := hAr.below hx10
    have hB10 := hBr.below hx10
    have ho10 := ho9.below hx10
    have hz10 := hr9.below hx10
    have hU10 := hUi.below hx10
    clear hself hx10 hEq hAr hBr ho9 hr9 hUi h9i hb9
    go_wp2_with (at_builtin; refine wpAppI rfl _ _ rfl w10.heap.size _ [] rfl (OI.made w10.heap.size w10 (Nat.le_refl _)) AU NL cU L rfl (hU10.alloc _) hU10.none_zero (by simp; omega) (by simp) ?_; rintro va wa hoa ka _; rw [List.nil_append] at hoa; have hxa : Below w10.heap.size w10 wa := ((Below.refl w10.heap.size w10).alloc (Nat.le_refl _) (.cells #[] 40)).trans (ka.below (by simp) (own_lt rfl)))
    have hLlen : L.length = NL := hNL
    go_loopw [10, 11] (fun all i wr => ∃ k : Nat, i = .int .i64 (k : Int) ∧ k ≤ len1 ∧ OI w10.heap.size wr all (L ++ (GV.take k).flatten) ∧ Below w10.heap.size w10 wr) (fun _ i _ => len1 - (intOf i).toNat)
    case atStart => exact ⟨0, by go_num, by omega, by simpa using hoa, hxa⟩
    case round =>
      obtain ⟨i, rfl, hi, hO, hbw⟩ := hrel
      have hfl := flat_len (hgmy.take i)
      rw [List.length_take] at hfl
      by_cases hlt : i < len1
      · have hlz : (i : Int) < (len1 : Int) := by omega
        obtain ⟨ga, oa, x, Aa, ca, rfl, hx, hca, hia, _⟩ := (hA10.below hbw).place hlt
        obtain ⟨gb, ob, x', Ab, cb, rfl, hx', hcb, hib, _⟩ := (hB10.below hbw).place hlt
        obtain ⟨go, oo, y, Ao, co, rfl, hy, hco, hio, _⟩ := (ho10.below hbw).place hlt
        rw [hx] at hx'
        injection hx' with hx'
        subst hx'
        obtain ⟨hmx, hRN⟩ := hgm i x y hx hy
        have hmy2 := hmys y (List.mem_of_getElem? hy)
        have hxs := hmx.len
        have hys := hmy2.len
        have htk : (GV.take (i + 1)).flatten = (GV.take i).flatten ++ x := by rw [List.take_add_one, hx]; simp
        obtain ⟨LA, hLA⟩ : ∃ n, x.length = n := ⟨_, rfl⟩
        obtain ⟨LO, hLO⟩ : ∃ n, y.length = n := ⟨_, rfl⟩
        rw [hLA] at hca hia hcb hib hxs
        rw [hLO] at hco hio hys
        clear hx hy
        replace htk := Lib.hid htk
        replace hia := hia.drew
        replace hib := hib.drew
        replace hio := hio.drew
        have hO := hO
        go_wp2_with fail
        refine wp_region_held_drew (S := (fun w' => w'.cell? ⟨ga, oa + i, none⟩ = some (.slice Aa LA ca) ∧ w'.cell? ⟨gb, ob + i, none⟩ = some (.slice Ab LA cb) ∧ w'.cell? ⟨go, oo + i, none⟩ = some (.slice Ao LO co))) (by kernel_rfl) ⟨hca, hcb, hco⟩ (fun hHeld => ?_)
        iterate 8 (refine tkP (by rfl) (by (simp only [List.getElem?_toArray, List.getElem?_cons_succ, List.getElem?_cons_zero]; rfl)) (by kernel_rfl) (by kernel_rfl) (by kernel_rfl) (by exact fun _ _ _ h => h) (by rfl) (by (intro w hSw; (try dsimp only at hSw); go_simp <;> with_reducible rfl)) (by assumption) ?_; try simp only [Act.put, List.setIfInBounds_toArray, List.set_cons_zero, List.set_cons_succ])
        refine wpAnyH_ready (rs := [8]) (by kernel_rfl) (by simp) ?_
        refine AllReadyH.cons (by (simp only [List.getElem?_toArray, List.getElem?_cons_succ, List.getElem?_cons_zero]; rfl)) (fun K hK => ?_) AllReadyH.nil
        go_simp
        refine (same_self Aa Ab LA ca LA cb x _ hia hib (by omega)).mono ?_
        rintro e wA ⟨rfl, hxA⟩
        have hxA : Below wr.drew.heap.size wr.drew wA := hxA
        have hia0 := hia.below hxA
        have hio0 := hio.below hxA
        have hca0 := (hxA.cell (p := ⟨ga, oa + i, none⟩) (World.block_lt_of_cell? _ _ hca)).trans hca
        have hcb0 := (hxA.cell (p := ⟨gb, ob + i, none⟩) (World.block_lt_of_cell? _ _ hcb)).trans hcb
        have hco0 := (hxA.cell (p := ⟨go, oo + i, none⟩) (World.block_lt_of_cell? _ _ hco)).trans hco
        go_wp2_with fail
        refine hK.out _ _ ⟨hca0, hcb0, hco0⟩ (fun hHeld2 => ?_)
        clear hK K hHeld
        have hHeld := hHeld2
        clear hHeld2
        try simp only [Act.put, List.setIfInBounds_toArray, List.set_cons_zero, List.set_cons_succ]
        iterate 10 (refine tkP (by rfl) (by (simp only [List.getElem?_toArray, List.getElem?_cons_succ, List.getElem?_cons_zero]; rfl)) (by kernel_rfl) (by kernel_rfl) (by kernel_rfl) (by exact fun _ _ _ h => h) (by rfl) (by (intro w hSw; (try dsimp only at hSw); go_simp <;> with_reducible rfl)) (by assumption) ?_; try simp only [Act.put, List.setIfInBounds_toArray, List.set_cons_zero, List.set_cons_succ])
        refine wpAnyH_ready (rs := [19]) (by kernel_rfl) (by simp) ?_
        refine AllReadyH.cons (by (simp only [List.getElem?_toArray, List.getElem?_cons_succ, List.getElem?_cons_zero]; rfl)) (fun K hK => ?_) AllReadyH.nil
        go_simp
        refine (refrest_any Aa Ao LA ca LO co x y _ hia0 hio0 (by omega) (by omega) hmx hmy2).mono ?_
        rintro e wB ⟨v11, rfl, ho11, hxB⟩
        have hxB : Below wA.heap.size wA wB := hxB
        rw [hRN] at ho11
        obtain ⟨AR, cR, rfl, _⟩ := ho11.form
        have hca1 := (hxB.cell (p := ⟨ga, oa + i, none⟩) (World.block_lt_of_cell? _ _ hca0)).trans hca0
        have hcb1 := (hxB.cell (p := ⟨gb, ob + i, none⟩) (World.block_lt_of_cell? _ _ hcb0)).trans hcb0
        have hco1 := (hxB.cell (p := ⟨go, oo + i, none⟩) (World.block_lt_of_cell? _ _ hco0)).trans hco0
        go_wp2_with fail
        refine hK.out _ _ ⟨hca1, hcb1, hco1⟩ (fun hHeld2 => ?_)
        clear hK K hHeld
        have hHeld := hHeld2
        clear hHeld2
        try simp only [Act.put, List.setIfInBounds_toArray, List.set_cons_zero, List.set_cons_succ]
        iterate 3 (refine tkP (by rfl) (by (simp only [List.getElem?_toArray, List.getElem?_cons_succ, List.getElem?_cons_zero]; rfl)) (by kernel_rfl) (by kernel_rfl) (by kernel_rfl) (by exact fun _ _ _ h => h) (by rfl) (by (intro w hSw; (try dsimp only at hSw); go_simp <;> with_reducible rfl)) (by assumption) ?_; try simp only [Act.put, List.setIfInBounds_toArray, List.set_cons_zero, List.set_cons_succ])
        refine wpAnyH_done (by kernel_rfl) ?_ _
        have hOd : OI w10.heap.size wB u10 (L ++ (GV.take i).flatten) := ((hO.drew).below hxA).below hxB
        have hb11 : Below w10.heap.size w10 wB := (Below.drew hbw).trans ((hxA.mono hbw.size).trans (hxB.mono (Nat.le_trans hbw.size hxA.size)))
        go_wp2_with (at_builtin; refine wpAppI rfl _ _ rfl w10.heap.size u10 (L ++ (GV.take i).flatten) rfl hOd Aa LA ca x rfl ((hia.below hxA).below hxB) hia.none_zero (by rw [List.length_append]; omega) hb11.size ?_; rintro vb wb hob kb _; have hbb := hb11.trans (kb.below hb11.size (fun j hj e => by have := (hOd.lt j e).1; omega)))
        go_roundw
        case measure => simp [intOf]; omega
        case rel => exact ⟨i + 1, by go_num, by omega, by rw [htk.out, ← List.append_assoc]; exact hob, hbb⟩
      · have hlz : ¬ (i : Int) < (len1 : Int) := by omega
        have hil : i = len1 := by omega
        subst hil
        rw [List.take_of_length_le (by omega)] at hO
        have hsr : ∀ x ∈ L ++ GV.flatten, x.1.length ≤ 9223372036854775807 := hLong
        obtain ⟨AV, cV, rfl, _, _, hVi, _⟩ := hO.form
        obtain ⟨NV, hNV⟩ : ∃ n, (L ++ GV.flatten).length = n := ⟨_, rfl⟩
        have hNV2 : NV ≤ 1048576 := by rw [← hNV]; rw [List.take_of_length_le (by omega)] at hfl; rw [List.length_append]; omega
        rw [hNV] at hVi
        rw [hNV]
        have hbz := hb10.trans (hbw.mono hb10.size)
        go_wp2_with fail
        refine (refnorm_any AV NV cV _ _ hVi hNV2 hsr).mono ?_
        rintro e w12 ⟨v12, rfl, ho12, hx12⟩
        rw [hend.2] at ho12
        rw [hend.1]
        have hz12 := (hz10.below hbw).below hx12
        have hb12 := hbz.trans (hx12.mono hbz.size)
        obtain ⟨AZ, cZ, rfl, _, _, hZi, _⟩ := ho12.form
        rw [hz0len] at hZi
        rw [hz0len]
        go_wp2_with fail
        refine (same_self AZ a0 len0 cZ len0 cap0 z0 _ hZi hz12 (by omega)).mono ?_
        rintro e w13 ⟨rfl, hx13⟩
        go_wp2
        go_ret
        exact ⟨rfl, hb12.trans (hx13.mono hb12.size)⟩

namespace planSplitsDone
open Go.ChangeShapes Go.WideShapes Go.ChangeAt
set_option maxRecDepth 100000 in
theorem lifted (os : Os) (started : os.Started) (H : Type) (enc : TypeId × Value → H) :
    ReturnsInHanded {} Try.checked os 4 .any (Rows.planSplitsSpec.pre6 enc Try.prog Try.f4 Rows.planSplitsRow.domain false) (Rows.planSplitsSpec.post enc Try.prog Try.f4 false true false false) := by
  refine returnsInHanded_of_change_sized (C := Try.checked) own started (by kernel_rfl) Try.func4
    (ChangeSpec.witness6 (enc := enc) (C := Try.checked) false ⟨#[], #[Value.slice none 0 0, Value.slice none 0 0], []⟩ 8 (by kernel_rfl) (by kernel_rfl) (by kernel_rfl) (by kernel_rfl)) ?_
  intro W base args ds gs before hval0 hW hcnd hsz0 _
  have hsz : (DataW.weightsEach Try.prog (Try.f4.params.toList ++ Rows.planSplitsSpec.plain.varTypes Try.prog) (ds ++ gs)).all (· ≤ reachBytes) = true := hsz0
  clear hsz0
  have hval : ∀ (j : Nat) t v, Try.f4.params[j]? = some t → args[j]? = some v → Value.okWide Try.prog W .any base t v := hval0
  have hW' := hW
  obtain ⟨p, q, hA0, hV, rfl, hfz, hnd⟩ := hW
  have hA : DataW.TrodAll enc Try.prog W 0 (fun _ => true) true Try.f4.params.toList args.toList ds p := hA0
  rw [Try.params4] at hA hval hsz
  obtain ⟨v0, vs0, d0, ds0, p0, q0, hargs, rfl, rfl, h0, r0⟩ := trodAll_cons hA
  obtain ⟨v1, vs1, d1, ds1, p1, q1, rfl, rfl, rfl, h1, r1⟩ := trodAll_cons r0
  obtain ⟨rfl, rfl, rfl⟩ := trodAll_nil r1
  obtain rfl : args = #[v0, v1] := by cases args; simp_all
  obtain ⟨rfl, rfl⟩ := trodVars_none hV
  obtain ⟨a0, len0, cap0, rfl⟩ := okWide_slice Try.underlying26 (hval 0 26 v0 rfl rfl)
  have k0 := h0
  have lt0 : ∀ x ∈ p0, x.block < W.heap.size := by obtain ⟨m, hm⟩ := k0; exact DataW.trod_lt m _ _ _ hm
  obtain ⟨z0, hr0, hw0, hc0, hm0, hd0⟩ := items_open h0
  have hl0 : cap0 * 24 ≤ 140737488351232 := by
    rcases hd0 with ⟨_, h⟩ | ⟨es, sp, rfl, h⟩
    · omega
    · have := sized_slice hsz (j := 0) (t := 26) (e := 40) rfl rfl Try.underlying26
      rw [bytes_item] at this
      simp only [reachBytes] at this
      omega
  obtain ⟨a1, len1, cap1, rfl⟩ := okWide_slice Try.underlying27 (hval 1 27 v1 rfl rfl)
  have k1 := h1
  have lt1 : ∀ x ∈ p1, x.block < W.heap.size := by obtain ⟨m, hm⟩ := k1; exact DataW.trod_lt m _ _ _ hm
  obtain ⟨f1, ho1, hc1, hm1⟩ := irows_open h1
  clear hA0 hval0
  refine (planSplits_walk (w := W) a0 len0 cap0 z0 hr0 hw0 hc0 hm0 hl0 a1 len1 cap1 f1 ho1 hc1 hm1).mono fun e W' ⟨he, bel⟩ => ?_
  subst he
  exact ⟨_, rfl, _, _, _, [], _, [], hW', trodAll_mk1 (shut_bool Try.underlying4 _), (trodAll_cons_mk (Below.trod laidOut (by kernel_rfl) (of_decide_eq_true (by kernel_rfl)) k0 bel lt0) (trodAll_cons_mk (Below.trod laidOut (by kernel_rfl) (of_decide_eq_true (by kernel_rfl)) k1 bel lt1) trodAll_mk0)), rfl, bel.frame _, fun h => by cases h⟩

theorem over : Rows.planSplitsRow.holds Try.pinned (OpenSpec.ofChange Rows.planSplitsSpec) :=
  OpenClaim.holds_of_wide 4 Try.f4 rfl rfl rfl rfl rfl rfl rfl ⟨rfl, rfl, rfl, rfl, rfl⟩ rfl rfl rfl rfl rfl (by kernel_rfl) Try.func4 (by kernel_rfl)
    (of_decide_eq_true (by kernel_rfl)) (by unfold Func.isWrapper; first | (rw [if_pos (by decide +kernel)]; kernel_rfl) | (rw [if_neg (by decide +kernel)]; exact ⟨rfl, rfl⟩))
    (fun os started H enc _ => lifted os started H enc)

/-- The statement. -/
theorem proved : Rows.PlanSplitsSaid := over
end planSplitsDone
end Go.Proofs.Ytkofaobdpmbcaaa
