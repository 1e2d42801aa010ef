/- 'BacklogAll' returns true for every input: the row of this law, proved. No condition. -/
import Derived.Test.YtnkekjaljhpmjaaBkJ
import Derived.Test.YtnkekjaljhpmjaaBkL
import Derived.ProofKit
import Derived.OpenShut
import Derived.ShutString
import Derived.ChangeOld
import Derived.SizedLaws
namespace Go.Proofs.Ytnkekjaljhpmjaa
open Go.RowKit
set_option linter.unusedVariables false
set_option linter.unusedSimpArgs false
/-- Orders that were tried; the first i, as they stand behind News. -/
def rowsF (ks : List Int) : List Wt := ks.map fun k => ⟨k, false⟩
def rowsM (ks : List Int) (i : Nat) : List Wt := (ks.take i).map (fun k => ⟨k, false⟩) ++ (ks.drop i).map (fun k => ⟨k, true⟩)
theorem rowsF_len (ks : List Int) : (rowsF ks).length = ks.length := List.length_map _
theorem rowsM_len (ks : List Int) (i : Nat) : (rowsM ks i).length = ks.length := by simp [rowsM]; omega
theorem rowsF_snoc (ks : List Int) (x : Int) : rowsF ks ++ [⟨x, false⟩] = rowsF (ks ++ [x]) := by simp [rowsF]
theorem push_rows (ks : List Int) (x : Int) : (pushE (rowsF ks) x = 0 ∧ 1 ≤ x ∧ pushL (rowsF ks) x = rowsF (ks ++ [x])) ∨ (∃ e, pushE (rowsF ks) x = e ∧ (e == 0) = false ∧ pushL (rowsF ks) x = rowsF ks) := by
  by_cases h : pushE (rowsF ks) x = 0
  · left
    refine ⟨h, ?_, by unfold pushL; rw [if_pos h, rowsF_snoc]⟩
    unfold pushE at h
    by_cases h1 : x < 1
    · rw [if_pos h1] at h; omega
    · omega
  · exact .inr ⟨_, rfl, beq_eq_false_iff_ne.2 h, by unfold pushL; rw [if_neg h]⟩
theorem news_rows {ks : List Int} (h : ∀ x ∈ ks, 1 ≤ x) : newsL (rowsF ks) 0 = rowsM ks 0 := by
  unfold newsL rowsF rowsM
  rw [List.map_map]
  simp only [List.take_zero, List.map_nil, List.nil_append, List.drop_zero]
  refine List.map_congr_left fun x hx => ?_
  have := h x hx
  simp
  omega
theorem rowsM_at {ks : List Int} {i : Nat} {x : Int} (hx : ks[i]? = some x) : (rowsM ks i)[i]? = some ⟨x, true⟩ := by
  obtain ⟨hi, he⟩ := List.getElem?_eq_some_iff.1 hx
  unfold rowsM
  rw [List.getElem?_append_right (by simp; omega), List.getElem?_map, List.getElem?_drop]
  simp [Nat.min_eq_left (Nat.le_of_lt hi), hi, he]
theorem rowsM_set {ks : List Int} {i : Nat} {x : Int} (hx : ks[i]? = some x) : (rowsM ks i).set i ⟨x, false⟩ = rowsM ks (i + 1) := by
  obtain ⟨hi, he⟩ := List.getElem?_eq_some_iff.1 hx
  unfold rowsM
  rw [List.set_append_right _ _ (by simp; omega), List.take_add_one, hx, List.drop_eq_getElem_cons hi]
  simp [Nat.min_eq_left (Nat.le_of_lt hi), he]
theorem rowsM_find {ks : List Int} {i : Nat} (hi : i < ks.length) : i ≤ (rowsM ks i).findIdx isR := by
  refine List.le_findIdx_of_not (by rw [rowsM_len]; exact hi) fun j hj => ?_
  have h1 : (rowsM ks i)[j]? = some ⟨ks[j]'(by omega), false⟩ := by
    unfold rowsM
    rw [List.getElem?_append_left (by simp; omega), List.getElem?_map, List.getElem?_take, if_pos hj, List.getElem?_eq_getElem (by omega)]
    rfl
  obtain ⟨h2, h3⟩ := List.getElem?_eq_some_iff.1 h1
  rw [h3]
  rfl
theorem try_rows {ks : List Int} {i : Nat} {x : Int} (hx : ks[i]? = some x) : tryP (rowsM ks i) 0 = (x, true, rowsM ks (i + 1), x) := by
  obtain ⟨hi, _⟩ := List.getElem?_eq_some_iff.1 hx
  have h := try_at (o := 0) (by omega) (idx_found (rowsM_find hi) (rowsM_at hx) rfl).2 (rowsM_at hx)
  rw [show tryP (rowsM ks i) 0 = _ from h, rowsM_set hx]
theorem try_rows_end (ks : List Int) (i : Nat) (h : ks.length ≤ i) : tryP (rowsM ks i) 0 = (0, false, rowsM ks i, 0) := by
  refine try_none (idx_none.2 fun x hx => ?_)
  unfold rowsM at hx
  rw [List.drop_eq_nil_of_le h] at hx
  rw [List.map_nil, List.append_nil] at hx
  obtain ⟨k, _, rfl⟩ := List.mem_map.1 hx
  rfl
theorem back_rows {x : Int} (h : 1 ≤ x) : backB x x = true ∧ backO x x = 0 := by
  have h1 : backB x x = true := by unfold backB; simp; omega
  exact ⟨h1, by unfold backO; rw [h1]; rfl⟩
/-- Where the first loop stands. -/
structure AllR (B : Nat) (w : World) (p : Nat) (v : Value) (wr : World) (k : Nat) (ks : List Int) (F : Nat → Prop) (o : Int) (l : List Wt) : Prop where
  le : ks.length ≤ k
  one : ∀ x ∈ ks, 1 ≤ x
  own : OI B wr v ks
  bk : BK F wr p l o
  ap : ∀ g, v.ownBlock = some g → ¬ F g
  lo : ∀ g, F g → B ≤ g
  bel : Below B w wr
/-- A call that writes F and makes memory. -/
theorem AllR.call {B : Nat} {w : World} {p : Nat} {v : Value} {wr w' : World} {k : Nat} {ks : List Int} {F : Nat → Prop} {o o' : Int} {l l' : List Wt} (h : AllR B w p v wr k ks F o l) (hB : B ≤ w.heap.size) (hk : Keep F wr w') (hb : BK (fun k => F k ∨ wr.heap.size ≤ k) w' p l' o') :
    AllR B w p v w' k ks (fun k => F k ∨ wr.heap.size ≤ k) o' l' := by
  have hs := h.bel.size
  refine ⟨h.le, h.one, h.own.kept hk h.ap, hb, fun g hg e => ?_, fun g e => ?_, h.bel.trans (hk.below (Nat.le_trans hB hs) fun i hi e => by have := h.lo i e; omega)⟩
  · rcases e with e | e
    · exact h.ap g hg e
    · have := (h.own.lt g hg).2; omega
  · rcases e with e | e
    · exact h.lo g e
    · omega
/-- An order more. -/
theorem AllR.more {B : Nat} {w : World} {p : Nat} {v v' : Value} {wr w' : World} {k : Nat} {ks : List Int} {F : Nat → Prop} {o : Int} {l : List Wt} {x : Int} (h : AllR B w p v wr k ks F o l) (hB : B ≤ w.heap.size) (hx : 1 ≤ x) (hO : OI B w' v' (ks ++ [x])) (hk : Keep (fun k => v.ownBlock = some k) wr w') (he : v'.ownBlock = v.ownBlock ∨ v'.ownBlock = some wr.heap.size) :
    ∃ F', AllR B w p v' w' (k + 1) (ks ++ [x]) F' o l := by
  refine ⟨fun i => F i ∧ i < wr.heap.size, by simp; exact h.le, fun y hy => ?_, hO, (h.bk.mono (G := fun i => F i ∧ i < wr.heap.size) fun i hi e => ⟨e, hi⟩).kept hk (fun g hg e => h.ap g e hg.1), fun g hg e => ?_, fun g e => h.lo g e.1, h.bel.trans (hk.below (Nat.le_trans hB h.bel.size) fun i hi e => by have := (h.own.lt i e).1; omega)⟩
  · rcases List.mem_append.1 hy with hy | hy
    · exact h.one y hy
    · simp at hy; omega
  · rcases he with he | he
    · exact h.ap g (by rw [← he, hg]) e.1
    · rw [hg] at he
      injection he with he
      have := e.2
      omega
theorem AllR.alloc {B : Nat} {w : World} {p : Nat} {v : Value} {wr : World} {k : Nat} {ks : List Int} {F : Nat → Prop} {o : Int} {l : List Wt} (h : AllR B w p v wr k ks F o l) (hB : B ≤ w.heap.size) (ob : Obj) : AllR B w p v (wr.alloc ob) k ks F o l :=
  ⟨h.le, h.one, h.own.alloc ob, h.bk.alloc ob, h.ap, h.lo, h.bel.alloc (Nat.le_trans hB h.bel.size) ob⟩
theorem AllR.next {B : Nat} {w : World} {p : Nat} {v : Value} {wr : World} {k : Nat} {ks : List Int} {F : Nat → Prop} {o : Int} {l : List Wt} (h : AllR B w p v wr k ks F o l) : AllR B w p v wr (k + 1) ks F o l :=
  ⟨Nat.le_succ_of_le h.le, h.one, h.own, h.bk, h.ap, h.lo, h.bel⟩
theorem BK.widen {F : Nat → Prop} {w : World} {p : Nat} {l : List Wt} {o : Int} (h : BK F w p l o) (N : Nat) : BK (fun k => F k ∨ N ≤ k) w p l o := h.mono fun _ _ e => .inl e
set_option maxRecDepth 100000 in
set_option maxHeartbeats 1600000 in
theorem backlogAll_walk {w : World} (A : Option Addr) (n c : Nat) (l : List Int) (hr : IR w A n l) (hc : n ≤ c) (hm : c ≤ 9223372036854775807) :
    Calls Try.prog 7 #[.slice A n c] w fun e w' => e = .returned (.bool true) ∧ Below w.heap.size w w' := by
  by_cases hn : 200 < n
  · have hz : (200 : Int) < (n : Int) := by omega
    go_enter Try.func7, Try.ntmps7
    go_wp2_with fail
    refine (bnew_any _).mono ?_
    rintro e w1 ⟨rfl, h1, hb1⟩
    go_wp2_with fail
    refine (lives_any _).mono ?_
    rintro e w2 ⟨rfl, hx2⟩
    have hb2 := hb1.trans (hx2.mono hb1.size)
    clear h1 hb1 hx2
    go_wp2_with fail
    refine (lives_any _).mono ?_
    rintro e w3 ⟨rfl, hx3⟩
    have hb3 := hb2.trans (hx3.mono hb2.size)
    go_wp2
    go_ret
    exact ⟨rfl, hb3⟩
  · have hz : ¬ (200 : Int) < (n : Int) := by omega
    go_enter Try.func7, Try.ntmps7
    go_wp2_with fail
    refine (bnew_any _).mono ?_
    rintro e w1 ⟨rfl, h1, hb1⟩
    go_wp2_with fail
    refine (lives_any _).mono ?_
    rintro e w2 ⟨rfl, hx2⟩
    have hR : AllR w.heap.size w w.heap.size (.slice none 0 0) w2 0 [] (fun k => w.heap.size ≤ k) 0 (rowsF []) :=
      ⟨Nat.le_refl _, (fun x hx => by cases hx), OI.nil _ _, h1.below hx2, (fun g hg => by cases hg), fun g hg => hg, hb1.trans (hx2.mono hb1.size)⟩
    obtain ⟨B, hB⟩ : ∃ B, w.heap.size = B := ⟨_, rfl⟩
    have hBw : B ≤ w.heap.size := by omega
    rw [hB] at hR ⊢
    clear h1 hb1 hx2
    go_wp2
    go_loopw [4, 5] (fun v i wr => ∃ (k : Nat) (ks : List Int) (F : Nat → Prop), i = .int .i64 (k : Int) ∧ k ≤ n ∧ AllR B w B v wr k ks F 0 (rowsF ks)) (fun _ i _ => n - (intOf i).toNat)
    case atStart => exact ⟨0, [], _, by go_num, by omega, hR⟩
    case round =>
      obtain ⟨k, ks, F, rfl, hk, hR⟩ := hrel
      obtain ⟨A2, c2, rfl, _, _, hir2, _⟩ := hR.own.form
      by_cases hlt : k < n
      · as_aux_lemma =>
        have hlz : (k : Int) < (n : Int) := by omega
        have hk0 : (0 : Int) ≤ (k : Int) := by omega
        have hrr := hr.below (hB ▸ hR.bel)
        obtain ⟨b, off, x, rfl, hx, hcx⟩ := hrr.place hlt
        have hp := bpush_any x hR.bk (by rw [rowsF_len]; have := hR.le; omega)
        have hkl := hR.le
        obtain ⟨N2, hN2⟩ : ∃ N2, ks.length = N2 := ⟨_, rfl⟩
        rw [hN2]
        rcases push_rows ks x with ⟨he, hx1, hl⟩ | ⟨er, he, her, hl⟩
        · rw [he, hl] at hp
          clear hl he
          go_wp2_with fail
          refine hp.mono ?_
          rintro e w3 ⟨rfl, hbk, hkp⟩
          have hR3 := hR.call hBw hkp hbk
          have hcx3 : w3.cell? ⟨b, off + k, none⟩ = some (.int .i64 x) := by
            obtain ⟨b', off', x', e1, hx', hc'⟩ := (hr.below (hB ▸ hR3.bel)).place hlt
            rw [hx] at hx'
            cases hx'
            cases e1
            exact hc'
          have hR4 := hR3.alloc hBw (.cells #[.int .i64 x] 3)
          have hO4 := hR4.own
          rw [hN2] at hO4
          have hir := IR.made w3 #[.int .i64 x] 3 (0, 0) [x] rfl
          clear hR hrr hp hbk hkp hcx hR3
          go_wp2_with (at_builtin; refine wpAppI rfl (.tmp 37) (.tmp 42) rfl B (.slice A2 N2 c2) ks rfl hO4 (some ⟨w3.heap.size, 0, none⟩) 1 1 [x] rfl hir (by simp; omega) (Nat.le_trans hBw hR4.bel.size) ?_; intro v5 w5 hO5 hK5 e5)
          rw [← hN2] at hK5 e5
          obtain ⟨F', hR5⟩ := hR4.more hBw hx1 hO5 hK5 e5
          clear hR4 hO5 hK5 e5 hir
          obtain ⟨A5, c5, rfl, _⟩ := hR5.own.form
          go_wp2
          go_roundw
          case measure => simp [intOf]; omega
          case rel => exact ⟨k + 1, ks ++ [x], F', by go_num, by omega, hR5⟩
        · rw [he, hl] at hp
          clear hl he
          go_wp2_with fail
          refine hp.mono ?_
          rintro e w3 ⟨rfl, hbk, hkp⟩
          have hR3 := (hR.call hBw hkp hbk).next
          rw [hN2] at hR3
          clear hR hrr hp hbk hkp hcx
          go_wp2
          go_roundw
          case measure => simp [intOf]; omega
          case rel => exact ⟨k + 1, ks, _, by go_num, by omega, hR3⟩
      · have hlz : ¬ (k : Int) < (n : Int) := by omega
        have hkl := hR.le
        have hle := rowsF_len ks
        have hnw := bnews_any hR.bk (by omega)
        rw [news_rows hR.one] at hnw
        obtain ⟨N2, hN2⟩ : ∃ N2, ks.length = N2 := ⟨_, rfl⟩
        rw [hN2] at hR hir2 ⊢
        go_wp2_with fail
        refine hnw.mono ?_
        rintro e w3 ⟨⟨_, rfl⟩, hbk, hkp⟩
        have hR3 := hR.call hBw hkp (hbk.widen _)
        obtain ⟨F3, hF3⟩ : ∃ F3, (fun k => F k ∨ wr.heap.size ≤ k) = F3 := ⟨_, rfl⟩
        rw [hF3] at hR3
        clear hnw hR hbk hkp hF3 hir2
        go_wp2
        go_loopw [6] (fun i ws => ∃ (j : Nat) (F : Nat → Prop), i = .int .i64 (j : Int) ∧ j ≤ N2 ∧ AllR B w B (.slice A2 N2 c2) ws k ks F 0 (rowsM ks j)) (fun i _ => N2 - (intOf i).toNat)
        case atStart => exact ⟨0, F3, by go_num, by omega, hR3⟩
        case round =>
          obtain ⟨j, F4, rfl, hj, hR4⟩ := hrel
          clear hR3
          have hml := rowsM_len ks j
          by_cases hjl : j < N2
          · as_aux_lemma =>
            have hlz : (j : Int) < (N2 : Int) := by omega
            have hk0 : (0 : Int) ≤ (j : Int) := by omega
            obtain ⟨A6, c6, e6, _, _, hir6, _⟩ := hR4.own.form
            rw [hN2] at e6 hir6
            cases e6
            obtain ⟨b, off, x, rfl, hx, hcx⟩ := hir6.place hjl
            have hx1 := hR4.one x (List.mem_of_getElem? hx)
            have ht := btry_any hR4.bk (by omega)
            rw [try_rows hx] at ht
            go_wp2_with fail
            refine ht.mono ?_
            rintro e w5 ⟨rfl, hbk, hkp⟩
            dsimp only at hbk
            have hR5 := hR4.call hBw hkp (hbk.widen _)
            clear hR4 ht hbk hkp hir6 hcx
            obtain ⟨A6, c6, e6, _, _, hir6, _⟩ := hR5.own.form
            rw [hN2] at e6 hir6
            cases e6
            obtain ⟨b', off', x', e7, hx', hcx⟩ := hir6.place hjl
            cases e7
            rw [hx] at hx'
            cases hx'
            have hbb := bback_any x hR5.bk
            rw [(back_rows hx1).1, (back_rows hx1).2] at hbb
            go_wp2_with fail
            refine hbb.mono ?_
            rintro e w6 ⟨rfl, hbk, hkp⟩
            have hR6 := hR5.call hBw hkp (hbk.widen _)
            clear hR5 hbb hbk hkp hir6 hcx
            go_wp2
            go_roundw
            case measure => simp [intOf]; omega
            case rel => exact ⟨j + 1, _, by go_num, by omega, hR6⟩
          · as_aux_lemma =>
            have hlz : ¬ (j : Int) < (N2 : Int) := by omega
            have ht := btry_any hR4.bk (by omega)
            rw [try_rows_end ks j (by omega)] at ht
            go_wp2_with fail
            refine ht.mono ?_
            rintro e w5 ⟨rfl, hbk, hkp⟩
            dsimp only at hbk
            have hR5 := hR4.call hBw hkp (hbk.widen _)
            have hln := blen_any hR5.bk
            rw [hml, hN2] at hln
            have hb5 := hR5.bel
            clear hR4 ht hbk hkp hR5
            go_wp2_with fail
            refine hln.mono ?_
            rintro e w6 ⟨rfl, hww⟩
            subst w6
            go_wp2
            go_ret
            exact ⟨by simp, hB ▸ hb5⟩

namespace backlogAllDone
open Go.ChangeShapes Go.WideShapes Go.ChangeAt
set_option maxRecDepth 100000 in
theorem lifted (os : Os) (started : os.Started) (H : Type) (enc : TypeId × Value → H) :
    ReturnsInHanded {} Try.checked os 7 .any (Rows.backlogAllSpec.pre6 enc Try.prog Try.f7 Rows.backlogAllRow.domain false) (Rows.backlogAllSpec.post enc Try.prog Try.f7 false true false false) := by
  refine returnsInHanded_of_change_sized (C := Try.checked) own started (by kernel_rfl) Try.func7
    (ChangeSpec.witness6 (enc := enc) (C := Try.checked) false ⟨#[], #[Value.slice none 0 0], []⟩ 8 (by kernel_rfl) (by kernel_rfl) (by kernel_rfl) (by kernel_rfl)) ?_
  intro W base args ds gs before hval0 hW hcnd hsz0 _
  have hsz : (DataW.weightsEach Try.prog (Try.f7.params.toList ++ Rows.backlogAllSpec.plain.varTypes Try.prog) (ds ++ gs)).all (· ≤ reachBytes) = true := hsz0
  clear hsz0
  have hval : ∀ (j : Nat) t v, Try.f7.params[j]? = some t → args[j]? = some v → Value.okWide Try.prog W .any base t v := hval0
  have hW' := hW
  obtain ⟨p, q, hA0, hV, rfl, hfz, hnd⟩ := hW
  have hA : DataW.TrodAll enc Try.prog W 0 (fun _ => true) true Try.f7.params.toList args.toList ds p := hA0
  rw [Try.params7] at hA hval hsz
  obtain ⟨v0, vs0, d0, ds0, p0, q0, hargs, rfl, rfl, h0, r0⟩ := trodAll_cons hA
  obtain ⟨rfl, rfl, rfl⟩ := trodAll_nil r0
  obtain rfl : args = #[v0] := by cases args; simp_all
  obtain ⟨rfl, rfl⟩ := trodVars_none hV
  obtain ⟨a0, len0, cap0, rfl⟩ := okWide_slice Try.underlying47 (hval 0 47 v0 rfl rfl)
  have k0 := h0
  have lt0 : ∀ x ∈ p0, x.block < W.heap.size := by obtain ⟨m, hm⟩ := k0; exact DataW.trod_lt m _ _ _ hm
  obtain ⟨f0, ho0, hc0, hm0⟩ := ints_open h0
  clear hA0 hval0
  refine (backlogAll_walk (w := W) a0 len0 cap0 f0 ho0 hc0 hm0).mono fun e W' ⟨he, bel⟩ => ?_
  subst he
  exact ⟨_, rfl, _, _, _, [], _, [], hW', trodAll_mk1 (shut_bool Try.underlying4 _), (trodAll_cons_mk (Below.trod laidOut (by kernel_rfl) (of_decide_eq_true (by kernel_rfl)) k0 bel lt0) trodAll_mk0), rfl, bel.frame _, fun h => by cases h⟩

theorem over : Rows.backlogAllRow.holds Try.pinned (OpenSpec.ofChange Rows.backlogAllSpec) :=
  OpenClaim.holds_of_wide 7 Try.f7 rfl rfl rfl rfl rfl rfl rfl ⟨rfl, rfl, rfl, rfl, rfl⟩ rfl rfl rfl rfl rfl (by kernel_rfl) Try.func7 (by kernel_rfl)
    (of_decide_eq_true (by kernel_rfl)) (by unfold Func.isWrapper; first | (rw [if_pos (by decide +kernel)]; kernel_rfl) | (rw [if_neg (by decide +kernel)]; exact ⟨rfl, rfl⟩))
    (fun os started H enc _ => lifted os started H enc)

/-- The statement. -/
theorem proved : Rows.BacklogAllSaid := over
end backlogAllDone
end Go.Proofs.Ytnkekjaljhpmjaa
