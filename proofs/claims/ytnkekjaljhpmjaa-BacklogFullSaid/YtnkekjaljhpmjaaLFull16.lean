/- 'BacklogFull' returns true for every input: the row of this law, proved. No condition. -/
import Derived.Test.YtnkekjaljhpmjaaBkO
import Derived.Test.YtnkekjaljhpmjaaBkL
import Derived.Test.YtnkekjaljhpmjaaBkX
import Derived.ProofKit
import Derived.OpenShut
import Derived.ShutString
import Derived.ChangeOld
import Derived.SizedLaws
namespace Go.Proofs.Ytnkekjaljhpmjaa
open Go.RowKit
set_option linter.unusedVariables false
set_option linter.unusedSimpArgs false
/-- So many orders from that one on. -/
def rowsR (f : Int) (i : Nat) : List Wt := (List.range i).map fun (j : Nat) => (⟨f + (j : Int), false⟩ : Wt)
theorem rowsR_len (f : Int) (i : Nat) : (rowsR f i).length = i := by simp [rowsR]
theorem rowsR_at (f : Int) (i j : Nat) (h : j < i) : (rowsR f i)[j]? = some ⟨f + (j : Int), false⟩ := by simp [rowsR, h]
theorem rowsR_snoc (f : Int) (i : Nat) : rowsR f i ++ [⟨f + (i : Int), false⟩] = rowsR f (i + 1) := by simp [rowsR, List.range_succ]
theorem rowsR_mem {f : Int} {i : Nat} {x : Wt} (h : x ∈ rowsR f i) : f ≤ x.k ∧ x.k < f + (i : Int) := by
  obtain ⟨j, hj, rfl⟩ := List.mem_map.1 h
  have := List.mem_range.1 hj
  constructor <;> dsimp only <;> omega
theorem rowsR_nd (f : Int) (i : Nat) : ((rowsR f i).map Wt.k).Nodup := by
  unfold rowsR
  rw [List.map_map]
  refine List.Pairwise.map _ (fun a b h e => h ?_) List.nodup_range
  simp only [Function.comp] at e
  omega
theorem placeR_out {f : Int} {i : Nat} {k : Int} (h : k < f ∨ f + (i : Int) ≤ k) : placeW (rowsR f i) k = -1 := place_none.2 fun x hx e => by
  have := rowsR_mem hx
  omega
theorem placeR_in {f : Int} {i : Nat} {k : Int} (h1 : f ≤ k) (h2 : k < f + (i : Int)) : placeW (rowsR f i) k = k - f := by
  have hj : (k - f).toNat < i := by omega
  have := place_at (rowsR_at f i (k - f).toNat hj) (rowsR_nd f i)
  rw [show ((⟨f + ((k - f).toNat : Int), false⟩ : Wt)).k = k from by dsimp only; omega] at this
  rw [this]
  omega
theorem pushR_ok {f : Int} {i : Nat} (hf : 1 ≤ f) (hi : i < 256) : pushE (rowsR f i) (f + (i : Int)) = 0 ∧ pushL (rowsR f i) (f + (i : Int)) = rowsR f (i + 1) := by
  have h : pushE (rowsR f i) (f + (i : Int)) = 0 := by
    unfold pushE
    rw [if_neg (by omega), placeR_out (by omega), if_neg (by omega), rowsR_len, if_neg (by omega)]
  exact ⟨h, by unfold pushL; rw [if_pos h, rowsR_snoc]⟩
theorem pushR_full {f : Int} (hf : 1 ≤ f) : pushE (rowsR f 256) (f + 256) = 2 ∧ pushL (rowsR f 256) (f + 256) = rowsR f 256 := by
  have h : pushE (rowsR f 256) (f + 256) = 2 := by
    unfold pushE
    rw [if_neg (by omega), placeR_out (by omega), if_neg (by omega), rowsR_len, if_pos (by omega)]
  exact ⟨h, by unfold pushL; rw [h]; rfl⟩
theorem pushR_twice {f : Int} (hf : 1 ≤ f) : pushE (rowsR f 256) (f + 7) = 5 ∧ pushL (rowsR f 256) (f + 7) = rowsR f 256 := by
  have h : pushE (rowsR f 256) (f + 7) = 5 := by
    unfold pushE
    rw [if_neg (by omega), placeR_in (by omega) (by omega), if_pos (by omega)]
  exact ⟨h, by unfold pushL; rw [h]; rfl⟩
/-- One dropped. -/
theorem dropR {f d : Int} (hf : 1 ≤ f) (h1 : f ≤ d) (h2 : d < f + 256) :
    (dropL (rowsR f 256) d).length = 255 ∧ (∀ x ∈ dropL (rowsR f 256) d, f ≤ x.k ∧ x.k < f + 256 ∧ x.k ≠ d) ∧ ((dropL (rowsR f 256) d).map Wt.k).Nodup := by
  rcases idx_cases (fun x => decide (x.k = d)) (rowsR f 256) with ⟨h3, _⟩ | ⟨i, x, h3, hx, hr, hil, hfi⟩
  · have := placeR_in (i := 256) h1 (by omega)
    have h4 : placeW (rowsR f 256) d = -1 := h3
    omega
  · unfold dropL
    rw [hfi]
    rw [rowsR_len] at hil
    have hxk : x.k = d := by simpa using hr
    refine ⟨by rw [List.length_eraseIdx_of_lt (by rw [rowsR_len]; exact hil), rowsR_len], fun y hy => ?_, ?_⟩
    · obtain ⟨j, hj, hy2⟩ := List.mem_eraseIdx_iff_getElem?.1 hy
      have hm := rowsR_mem (List.mem_of_getElem? hy2)
      refine ⟨hm.1, by omega, fun e => hj ?_⟩
      have e1 := place_at hx (rowsR_nd f 256)
      have e2 := place_at hy2 (rowsR_nd f 256)
      rw [hxk] at e1
      rw [e, e1] at e2
      omega
    · exact ((List.eraseIdx_sublist _ i).map Wt.k).nodup (rowsR_nd f 256)
theorem full_end {l : List Wt} {f d : Int} (hf : 1 ≤ f) (h1 : f ≤ d) (h2 : d < f + 256) (h : l.length = 255 ∧ (∀ x ∈ l, f ≤ x.k ∧ x.k < f + 256 ∧ x.k ≠ d) ∧ (l.map Wt.k).Nodup) :
    pushE l (f + 256) = 0 ∧ pushL l (f + 256) = l ++ [⟨f + 256, false⟩] ∧ placeW (l ++ [⟨f + 256, false⟩]) (f + 256) = 255 ∧ placeW (l ++ [⟨f + 256, false⟩]) d = -1 := by
  obtain ⟨hl, hm, hn⟩ := h
  have hp : placeW l (f + 256) = -1 := place_none.2 fun x hx e => by have := hm x hx; omega
  have he : pushE l (f + 256) = 0 := by
    unfold pushE
    rw [if_neg (by omega), hp, if_neg (by omega), if_neg (by omega)]
  have hnd : ((l ++ [(⟨f + 256, false⟩ : Wt)]).map Wt.k).Nodup := by
    rw [List.map_append, List.nodup_append]
    refine ⟨hn, by simp, fun a ha b hb e => ?_⟩
    obtain ⟨x, hx, rfl⟩ := List.mem_map.1 ha
    simp at hb
    have := hm x hx
    omega
  refine ⟨he, by unfold pushL; rw [if_pos he], ?_, place_none.2 fun x hx e => ?_⟩
  · have := place_at (l := l ++ [(⟨f + 256, false⟩ : Wt)]) (i := 255) (x := ⟨f + 256, false⟩) (by rw [List.getElem?_append_right (by omega), hl]; rfl) hnd
    simpa using this
  · rcases List.mem_append.1 hx with hx | hx
    · exact (hm x hx).2.2 e
    · simp at hx
      subst hx
      dsimp only at e
      omega
theorem drop_up {B : Nat} {w : World} {p : Nat} {l : List Wt} {o : Int} (k : Int) (b : Bool) (l' : List Wt) (o' : Int) (h : BK (fun k => B ≤ k) w p l o) (hB : B ≤ w.heap.size) (hl : l.length ≤ 1048576) (hb : decide (0 ≤ placeW l k) = b) (hl' : dropL l k = l') (ho : dropO l o k = o') :
    Calls Try.prog 14 #[.pointer (some ⟨p, 0, none⟩), .int .i64 k] w fun e w' => e = .returned (.bool b) ∧ BK (fun k => B ≤ k) w' p l' o' ∧ Below B w w' := by
  subst hb
  subst hl'
  subst ho
  exact (bdrop_any k h hl).mono fun e w' hh => ⟨hh.1, hh.2.1, up_keep hh.2.2 hB⟩
set_option maxRecDepth 100000 in
set_option maxHeartbeats 1600000 in
theorem backlogFull_walk {w : World} (f : Int) (hwf : (Lit.int .i64 f).wf = true) (d : Int) (hwd : (Lit.int .i64 d).wf = true) :
    Calls Try.prog 5 #[.int .i64 f, .int .i64 d] w fun e w' => e = .returned (.bool true) ∧ Below w.heap.size w w' := by
  obtain ⟨hf0, hf1⟩ := wf_int hwf
  obtain ⟨hd0, hd1⟩ := wf_int hwd
  by_cases hff : 1 ≤ f ∧ f ≤ 1099511627776
  · obtain ⟨hf2, hf3⟩ := hff
    have hz1 : decide (f < 1) = false := decide_eq_false (by omega)
    have hz2 : decide ((1099511627776 : Int) < f) = false := decide_eq_false (by omega)
    go_enter Try.func5, Try.ntmps5
    go_wp2_with fail
    refine (bnew_any _).mono ?_
    rintro e w1 ⟨rfl, h1, hb1⟩
    go_wp2_with fail
    refine (lives_any _).mono ?_
    rintro e w2 ⟨rfl, hx2⟩
    have h2 := h1.below hx2
    have hb2 := hb1.trans (hx2.mono hb1.size)
    obtain ⟨B, hB⟩ : ∃ B, w.heap.size = B := ⟨_, rfl⟩
    rw [hB] at h2 hb2 ⊢
    clear h1 hb1 hx2
    have hB2 : BK (fun k => B ≤ k) w2 B (rowsR f 0) 0 := h2
    clear h2
    go_wp2
    go_loopw [6] (fun i wr => ∃ k : Nat, i = .int .i64 (k : Int) ∧ k ≤ 256 ∧ BK (fun k => B ≤ k) wr B (rowsR f k) 0 ∧ Below B w wr) (fun i _ => 256 - (intOf i).toNat)
    case atStart => exact ⟨0, by go_num, by omega, hB2, hb2⟩
    case round =>
      obtain ⟨k, rfl, hk, hBk, hb⟩ := hrel
      clear hB2 hb2
      have hzk : B ≤ wr.heap.size := by have := hb.size; omega
      by_cases hlt : k < 256
      · as_aux_lemma =>
        have hlz : decide ((k : Int) < 256) = true := decide_eq_true (by omega)
        have hs1 : f + (k : Int) ≤ 9223372036854775807 := by omega
        have hs0 : -9223372036854775808 ≤ f + (k : Int) := by omega
        obtain ⟨hp1, hp2⟩ := pushR_ok hf2 hlt
        have hp := push_up (f + (k : Int)) 0 (rowsR f (k + 1)) hBk hzk (by rw [rowsR_len]; omega) hp1 hp2
        clear hp1 hp2
        go_wp2_with fail
        refine hp.mono ?_
        rintro e w3 ⟨rfl, hB3, hx3⟩
        have hb3 := hb.trans hx3
        clear hBk hb hp hx3
        go_wp2
        go_roundw
        case measure => simp [intOf]; omega
        case rel => exact ⟨k + 1, by go_num, by omega, hB3, hb3⟩
      · have hk256 : k = 256 := by omega
        subst hk256
        have hs1 : f + 256 ≤ 9223372036854775807 := by omega
        have hs0 : -9223372036854775808 ≤ f + 256 := by omega
        have hs3 : f + 7 ≤ 9223372036854775807 := by omega
        have hs2 : -9223372036854775808 ≤ f + 7 := by omega
        have hs5 : f + 255 ≤ 9223372036854775807 := by omega
        have hs4 : -9223372036854775808 ≤ f + 255 := by omega
        obtain ⟨hp1, hp2⟩ := pushR_full hf2
        have hp := push_up (f + 256) 2 (rowsR f 256) hBk hzk (by rw [rowsR_len]; omega) hp1 hp2
        clear hp1 hp2
        go_wp2_with fail
        refine hp.mono ?_
        rintro e w4 ⟨rfl, hB4, hx4⟩
        have hb4 := hb.trans hx4
        have hz4 : B ≤ w4.heap.size := by have := hb4.size; omega
        obtain ⟨hp1, hp2⟩ := pushR_twice hf2
        have hp := push_up (f + 7) 5 (rowsR f 256) hB4 hz4 (by rw [rowsR_len]; omega) hp1 hp2
        clear hp1 hp2 hBk hb hx4
        go_wp2_with fail
        refine hp.mono ?_
        rintro e w5 ⟨rfl, hB5, hx5⟩
        have hb5 := hb4.trans hx5
        have hz5 : B ≤ w5.heap.size := by have := hb5.size; omega
        clear hB4 hb4 hp hx5
        by_cases hin1 : f ≤ d
        · by_cases hin2 : d ≤ f + 255
          · as_aux_lemma =>
            have hdc1 : decide (f ≤ d) = true := decide_eq_true hin1
            have hdc2 : decide (d ≤ f + 255) = true := decide_eq_true hin2
            have hdr := dropR (d := d) hf2 hin1 (by omega)
            have hpi := placeR_in (f := f) (i := 256) hin1 (by omega)
            obtain ⟨l2, hl2⟩ : ∃ l2, dropL (rowsR f 256) d = l2 := ⟨_, rfl⟩
            rw [hl2] at hdr
            have hdd := drop_up d true l2 0 hB5 hz5 (by rw [rowsR_len]; omega) (by rw [hpi]; exact decide_eq_true (by omega)) hl2 (by unfold dropO backO backB; split <;> simp)
            obtain ⟨he, hl3, hpa, hpb⟩ := full_end hf2 hin1 (by omega) hdr
            obtain ⟨l3, hl3e⟩ : ∃ l3, l2 ++ [(⟨f + 256, false⟩ : Wt)] = l3 := ⟨_, rfl⟩
            rw [hl3e] at hl3 hpa hpb
            have hl3n : l3.length = 256 := by rw [← hl3e, List.length_append, hdr.1]; rfl
            go_wp2_with fail
            refine hdd.mono ?_
            rintro e w6 ⟨rfl, hB6, hx6⟩
            have hb6 := hb5.trans hx6
            have hz6 : B ≤ w6.heap.size := by have := hb6.size; omega
            clear hB5 hx6 hdd hb5
            have hp := push_up (f + 256) 0 l3 hB6 hz6 (by omega) he hl3
            go_wp2_with fail
            refine hp.mono ?_
            rintro e w7 ⟨rfl, hB7, hx7⟩
            have hb7 := hb6.trans hx7
            have hz7 : B ≤ w7.heap.size := by have := hb7.size; omega
            clear hB6 hx7 hp hb6
            have hp := place_up (f + 256) 255 hB7 hz7 (by omega) hpa
            go_wp2_with fail
            refine hp.mono ?_
            rintro e w8 ⟨rfl, hB8, hx8⟩
            have hb8 := hb7.trans hx8
            have hz8 : B ≤ w8.heap.size := by have := hb8.size; omega
            clear hB7 hx8 hp hb7
            have hp := place_up d (-1) hB8 hz8 (by omega) hpb
            go_wp2_with fail
            refine hp.mono ?_
            rintro e w9 ⟨rfl, hB9, hx9⟩
            have hb9 := hb8.trans hx9
            clear hB8 hx9 hp hb8
            go_wp2
            go_ret
            exact ⟨rfl, hB ▸ hb9⟩
          · as_aux_lemma =>
            have hdc1 : decide (f ≤ d) = true := decide_eq_true hin1
            have hdc2 : decide (d ≤ f + 255) = false := decide_eq_false hin2
            have hdp : placeW (rowsR f 256) d = -1 := placeR_out (by omega)
            have hdd := drop_up d false (rowsR f 256) 0 hB5 hz5 (by rw [rowsR_len]; omega) (by rw [hdp]; rfl) (dropL_none hdp) (by unfold dropO; rw [hdp]; rfl)
            go_wp2_with fail
            refine hdd.mono ?_
            rintro e w6 ⟨rfl, hB6, hx6⟩
            have hb6 := hb5.trans hx6
            clear hB5 hx6 hdd
            go_wp2
            go_ret
            exact ⟨rfl, hB ▸ hb6⟩
        · as_aux_lemma =>
          have hdc1 : decide (f ≤ d) = false := decide_eq_false hin1
          have hdp : placeW (rowsR f 256) d = -1 := placeR_out (by omega)
          have hdd := drop_up d false (rowsR f 256) 0 hB5 hz5 (by rw [rowsR_len]; omega) (by rw [hdp]; rfl) (dropL_none hdp) (by unfold dropO; rw [hdp]; rfl)
          go_wp2_with fail
          refine hdd.mono ?_
          rintro e w6 ⟨rfl, hB6, hx6⟩
          have hb6 := hb5.trans hx6
          clear hB5 hx6 hdd
          go_wp2
          go_ret
          exact ⟨rfl, hB ▸ hb6⟩
  · by_cases h1 : f < 1
    · have hz1 : decide (f < 1) = true := decide_eq_true h1
      as_aux_lemma =>
        go_enter Try.func5, Try.ntmps5
        go_wp2_with fail
        refine (bnew_any _).mono ?_
        rintro e w1 ⟨rfl, h1, hb1⟩
        go_wp2_with fail
        refine (lives_any _).mono ?_
        rintro e w2 ⟨rfl, hx2⟩
        have hb2 := hb1.trans (hx2.mono hb1.size)
        clear h1 hb1 hx2
        go_wp2_with fail
        refine (lives_any _).mono ?_
        rintro e w3 ⟨rfl, hx3⟩
        have hb3 := hb2.trans (hx3.mono hb2.size)
        go_wp2
        go_ret
        exact ⟨rfl, hb3⟩
    · have hz1 : decide (f < 1) = false := decide_eq_false h1
      have hz2 : decide ((1099511627776 : Int) < f) = true := decide_eq_true (by omega)
      as_aux_lemma =>
        go_enter Try.func5, Try.ntmps5
        go_wp2_with fail
        refine (bnew_any _).mono ?_
        rintro e w1 ⟨rfl, h1, hb1⟩
        go_wp2_with fail
        refine (lives_any _).mono ?_
        rintro e w2 ⟨rfl, hx2⟩
        have hb2 := hb1.trans (hx2.mono hb1.size)
        clear h1 hb1 hx2
        go_wp2_with fail
        refine (lives_any _).mono ?_
        rintro e w3 ⟨rfl, hx3⟩
        have hb3 := hb2.trans (hx3.mono hb2.size)
        go_wp2
        go_ret
        exact ⟨rfl, hb3⟩

namespace backlogFullDone
open Go.ChangeShapes Go.WideShapes Go.ChangeAt
set_option maxRecDepth 100000 in
theorem lifted (os : Os) (started : os.Started) (H : Type) (enc : TypeId × Value → H) :
    ReturnsInHanded {} Try.checked os 5 .any (Rows.backlogFullSpec.pre6 enc Try.prog Try.f5 Rows.backlogFullRow.domain false) (Rows.backlogFullSpec.post enc Try.prog Try.f5 false true false false) := by
  refine returnsInHanded_of_change_sized (C := Try.checked) own started (by kernel_rfl) Try.func5
    (ChangeSpec.witness6 (enc := enc) (C := Try.checked) false ⟨#[], #[Value.int .i64 0, Value.int .i64 0], []⟩ 8 (by kernel_rfl) (by kernel_rfl) (by kernel_rfl) (by kernel_rfl)) ?_
  intro W base args ds gs before hval0 hW hcnd hsz0 _
  have hsz : (DataW.weightsEach Try.prog (Try.f5.params.toList ++ Rows.backlogFullSpec.plain.varTypes Try.prog) (ds ++ gs)).all (· ≤ reachBytes) = true := hsz0
  clear hsz0
  have hval : ∀ (j : Nat) t v, Try.f5.params[j]? = some t → args[j]? = some v → Value.okWide Try.prog W .any base t v := hval0
  have hW' := hW
  obtain ⟨p, q, hA0, hV, rfl, hfz, hnd⟩ := hW
  have hA : DataW.TrodAll enc Try.prog W 0 (fun _ => true) true Try.f5.params.toList args.toList ds p := hA0
  rw [Try.params5] at hA hval hsz
  obtain ⟨v0, vs0, d0, ds0, p0, q0, hargs, rfl, rfl, h0, r0⟩ := trodAll_cons hA
  obtain ⟨v1, vs1, d1, ds1, p1, q1, rfl, rfl, rfl, h1, r1⟩ := trodAll_cons r0
  obtain ⟨rfl, rfl, rfl⟩ := trodAll_nil r1
  obtain rfl : args = #[v0, v1] := by cases args; simp_all
  obtain ⟨rfl, rfl⟩ := trodVars_none hV
  obtain ⟨a0, rfl, rfl, rfl, w0⟩ := open_int Try.underlying3 (hval 0 3 v0 rfl rfl) h0
  obtain ⟨a1, rfl, rfl, rfl, w1⟩ := open_int Try.underlying3 (hval 1 3 v1 rfl rfl) h1
  clear hA0 hval0
  refine (backlogFull_walk (w := W) a0 w0 a1 w1).mono fun e W' ⟨he, bel⟩ => ?_
  subst he
  exact ⟨_, rfl, _, _, _, [], _, [], hW', trodAll_mk1 (shut_bool Try.underlying4 _), (trodAll_cons_mk (shut_int Try.underlying3 w0) (trodAll_cons_mk (shut_int Try.underlying3 w1) trodAll_mk0)), rfl, bel.frame _, fun h => by cases h⟩

theorem over : Rows.backlogFullRow.holds Try.pinned (OpenSpec.ofChange Rows.backlogFullSpec) :=
  OpenClaim.holds_of_wide 5 Try.f5 rfl rfl rfl rfl rfl rfl rfl ⟨rfl, rfl, rfl, rfl, rfl⟩ rfl rfl rfl rfl rfl (by kernel_rfl) Try.func5 (by kernel_rfl)
    (of_decide_eq_true (by kernel_rfl)) (by unfold Func.isWrapper; first | (rw [if_pos (by decide +kernel)]; kernel_rfl) | (rw [if_neg (by decide +kernel)]; exact ⟨rfl, rfl⟩))
    (fun os started H enc _ => lifted os started H enc)

/-- The statement. -/
theorem proved : Rows.BacklogFullSaid := over
end backlogFullDone
end Go.Proofs.Ytnkekjaljhpmjaa
