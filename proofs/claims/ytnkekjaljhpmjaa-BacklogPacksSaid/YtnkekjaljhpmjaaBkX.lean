/- slices.Delete of one row; Drop. No condition but that the backlog lies in memory. -/
import Derived.Test.YtnkekjaljhpmjaaBkC
import Derived.Laws.OwnMore
namespace Go.Proofs.Ytnkekjaljhpmjaa
open Go.RowKit
set_option linter.unusedVariables false
set_option linter.unusedSimpArgs false

theorem clearWOt (w : World) {base g i c : Nat} {l : List Wt} (h : WO base w (.slice (some ⟨g, 0, none⟩) i c) l) (m cc : Nat) (hm : 0 < m) (hmc : i + m ≤ c) (ty : TypeId) :
    ∃ w', (Builtin.clear_ #[56] ty #[.slice (some ⟨g, i * 2, none⟩) m cc]).run Try.prog w = .ok (.tuple #[]) w' ∧ WO base w' (.slice (some ⟨g, 0, none⟩) i c) l ∧ Keep (fun k => k = g) w w' := by
  have hn := h.len
  obtain ⟨q, rfl⟩ : ∃ q, m = q + 1 := ⟨m - 1, by omega⟩
  rcases h.2 with ⟨h0, _⟩ | ⟨g', cap, cur, e, hb, hg, hl, hmx, hs, ht⟩
  · cases h0
  · injection e with e1 e2 e3
    cases e1
    subst e3
    have hone : ∀ v ∈ (Builtin.zeroCells #[Value.int .i64 0, .bool false] (q + 1)).toList, v.oneCell' = true := by
      intro v hv
      simp [Builtin.zeroCells] at hv
      obtain ⟨a, _, rfl⟩ := hv
      have : a % 2 = 0 ∨ a % 2 = 1 := by omega
      rcases this with e | e <;> rw [e] <;> rfl
    have hlen : (Builtin.zeroCells #[Value.int .i64 0, .bool false] (q + 1)).toList.length = (q + 1) * 2 := by simp [Builtin.zeroCells]
    have hst := run_storeCells_at Try.prog g (i * 2) 60 _ 0 cur w hg (by rw [hlen, hs]; omega) hone
    rw [hlen] at hst
    obtain ⟨Z, hZ⟩ : ∃ Z, (Builtin.zeroCells #[Value.int .i64 0, .bool false] (q + 1)).toList = Z := ⟨_, rfl⟩
    rw [hZ] at hlen hst
    refine ⟨w.setRow g (cur.toList.take (i * 2 + 0) ++ Z ++ cur.toList.drop (i * 2 + 0 + (q + 1) * 2)).toArray, ?_, ?_, ?_⟩
    · simp only [Builtin.clear_, Sem.run_bind, run_underlying WO_under, Result.andThen_ok, WO_zero, Value.cells, hZ, hst]
      simp [hst, hZ]
    · refine ⟨h.1, .inr ⟨g, c, _, by rw [← e2], hb, setRow_heap w g cur _ 60 _ hg, hl, hmx, ?_, ?_⟩⟩
      · simp [hlen]
        omega
      · rw [hn.1] at ht ⊢
        rw [← ht]
        simp only [Nat.add_zero]
        rw [List.append_assoc, List.take_append_of_le_length (by simp; omega), List.take_take, Nat.min_self]
    · have hgr : w.grownBy (w.setRow g (cur.toList.take (i * 2 + 0) ++ Z ++ cur.toList.drop (i * 2 + 0 + (q + 1) * 2)).toArray) (some g) := by
        refine ⟨rfl, rfl, rfl, by simp [World.setRow], fun k hk hne => ?_⟩
        have hne' : ¬ g = k := fun e => hne (by rw [e])
        simp only [World.setRow, Array.getElem?_modify, if_neg hne']
      exact (Keep.of_grown hgr).mono fun k _ e => (Option.some.inj e).symm
theorem elemW : Try.prog.elem 56 = 60 := by kernel_rfl
theorem sliceW_all (W : World) (g n c i : Nat) (I J : Int) (hI : I = (i : Int)) (hJ : J = I + 1) (hi : i < n) (hc : n ≤ c) :
    ∃ v, (Instr.slice 56 (.slice (some ⟨g, 0, none⟩) n c) (some (.int .i64 I)) (some (.int .i64 J)) (some (.int .i64 (n : Int)))).run Try.prog W = .ok v W := by
  subst hJ
  subst hI
  rw [run_slice_lhm W 56 _ n c (by rw [elemW]; exact WO_under) .i64 .i64 .i64 (i : Int) ((i : Int) + 1) (n : Int) (by omega) (by omega) (by omega) (by omega), elemW, Try.sizeOf60]
  exact ⟨_, rfl⟩
/-- Where s[j:] lies. -/
theorem sliceW_at (g n c i : Nat) (hi : i < n) (hc : n ≤ c) : ∃ off, (if c = i + 1 then some (⟨g, 0, none⟩ : Addr) else some ⟨g, (i + 1) * 2, none⟩) = some ⟨g, off, none⟩ ∧ (i + 1 < n → off = (i + 1) * 2) := by
  by_cases h : c = i + 1
  · exact ⟨0, if_pos h, fun h2 => by omega⟩
  · exact ⟨(i + 1) * 2, if_neg h, fun _ => rfl⟩
theorem sliceW_one (W : World) (g N n c : Nat) (hn : n = N + 1) (hc : n ≤ c) :
    (Instr.slice 56 (.slice (some ⟨g, 0, none⟩) N c) (some (.int .i64 (N : Int))) (some (.int .i64 (n : Int))) none).run Try.prog W = .ok (.slice (some ⟨g, N * 2, none⟩) 1 (c - N)) W := by
  subst hn
  rw [run_slice_lh W 56 _ N c (by rw [elemW]; exact WO_under) .i64 .i64 (N : Int) ((N + 1 : Nat) : Int) (by omega) (by omega) (by omega), elemW, Try.sizeOf60]
  simp [Result.andThen, sliced]
  rw [if_neg (by omega)]
  simp [Addr.add]
  omega
theorem WR.drop_end {w : World} (a : Addr) {n : Nat} {l : List Wt} (h : l = []) (hn : n = 0) : WR w (some a) n l := by
  subst h
  subst hn
  exact WR.nil _ _
/-- append(s[:i], s[i+1:]...), in place. -/
theorem run_shift (w : World) {base g n c : Nat} {l : List Wt} (h : WO base w (.slice (some ⟨g, 0, none⟩) n c) l) (i off m cc : Nat) (hi : i < n) (hm : m = n - (i + 1)) (hoff : i + 1 < n → off = (i + 1) * 2) (ty : TypeId) :
    ∃ w', (Builtin.append_ #[56, 56] ty #[.slice (some ⟨g, 0, none⟩) i c, .slice (some ⟨g, off, none⟩) m cc]).run Try.prog w = .ok (.slice (some ⟨g, 0, none⟩) (n - 1) c) w' ∧ WO base w' (.slice (some ⟨g, 0, none⟩) (n - 1) c) (l.eraseIdx i) ∧ Keep (fun k => k = g) w w' := by
  have hn := h.len
  obtain ⟨ti, hti, hz, hs, hb⟩ := info_parts WO_info
  have hf := h.first i (by omega)
  have hfl : (l.take i).length = i := by rw [List.length_take]; omega
  have hr : WR w (some ⟨g, off, none⟩) m (l.drop (i + 1)) := by
    by_cases h1 : i + 1 < n
    · have := h.wr.from g 0 rfl (i + 1) (by omega)
      rw [hoff h1, hm]
      simpa using this
    · exact WR.drop_end _ (List.drop_eq_nil_of_le (by omega)) (by omega)
  have hown : w.ownsRow base 60 2 (.slice (some ⟨g, 0, none⟩) i c) i ((l.take i).flatMap Wt.cs) := by
    have := hf
    unfold WO at this
    rw [hfl] at this
    exact this
  obtain ⟨w', hrun, ho, hg⟩ := run_append_fits (P := Try.prog) w base 56 ty 60 ti 2 Try.underlying56 hti hs g i c _ hown ⟨g, off, none⟩ m cc ((l.drop (i + 1)).flatMap Wt.cs)
    (by rw [WO_len, hr.len]) hr.cells_get (fun u hu => by
        obtain ⟨x, _, hx⟩ := List.mem_flatMap.1 hu
        exact x.cs_one u hx) (by omega)
  rw [show i + m = n - 1 by omega] at hrun ho
  refine ⟨w', hrun, ?_, (Keep.of_grown hg).mono fun k _ e => (Option.some.inj e).symm⟩
  have he : l.eraseIdx i = l.take i ++ l.drop (i + 1) := List.eraseIdx_eq_take_drop_succ ..
  have hlen : (l.eraseIdx i).length = n - 1 := by rw [List.length_eraseIdx_of_lt (by omega)]; omega
  show w'.ownsRow base 60 2 _ (l.eraseIdx i).length ((l.eraseIdx i).flatMap Wt.cs)
  rw [hlen, he, List.flatMap_append]
  exact ho
theorem wp_runW {w : World} {o : Oper} {a : Act} {K : Act → World → Prop} {Q : Exit → Act → World → Prop} (s x : Operand) (ho : o.op = .call { callee := .builtin .append, args := #[s, x], argTypes := #[56, 56] })
    {V X v : Value} {w' : World} (hs : a.eval s = V) (hx : a.eval x = X) (hrun : (Builtin.append_ #[56, 56] o.type #[V, X]).run Try.prog w = .ok v w') (h : K (a.put o.dst v) w') : o.wp Try.prog a w K Q := by
  unfold Oper.wp execOp
  simp only [ho, resolve, invoke, builtin, Sem.run_bind, Sem.run_pure, Result.andThen_ok, List.map_toArray, List.map_cons, List.map_nil, hs, hx, hrun]
  exact h
/-- What Delete answers. -/
def DelPost (w : World) (g n c i : Nat) (l : List Wt) (e : Ending) (w' : World) : Prop := e = .returned (.slice (some ⟨g, 0, none⟩) (n - 1) c) ∧ WO 0 w' (.slice (some ⟨g, 0, none⟩) (n - 1) c) (l.eraseIdx i) ∧ Keep (fun k => k = g) w w'
set_option maxRecDepth 100000 in
set_option maxHeartbeats 1600000 in
theorem delete_any {w : World} (g n c : Nat) (l : List Wt) (i : Nat) (h : WO 0 w (.slice (some ⟨g, 0, none⟩) n c) l) (hi : i < n) (hn : n ≤ 1048576) :
    Calls Try.prog 32 #[.slice (some ⟨g, 0, none⟩) n c, .int .i64 (i : Int), .int .i64 ((i : Int) + 1)] w (DelPost w g n c i l) := by
  have hnl := h.len
  have hic : i ≤ c := by omega
  have hzi : (i : Int) ≤ (c : Int) := by omega
  have hz0 : (0 : Int) ≤ (i : Int) + 1 := by omega
  have hzn : (i : Int) + 1 ≤ (n : Int) := by omega
  have hzc : (n : Int) ≤ (c : Int) := by omega
  obtain ⟨off, hoe, hoff⟩ := sliceW_at g n c i hi hnl.2
  obtain ⟨w5, hrun, hO5, hk5⟩ := run_shift w.drew h.drew i off (n - (i + 1)) (c - (i + 1)) hi rfl hoff 56
  rw [← hoe] at hrun
  obtain ⟨N, hN⟩ : ∃ N, n - 1 = N := ⟨_, rfl⟩
  unfold DelPost
  rw [hN] at hrun hO5 ⊢
  have hone := sliceW_one w5 g N n c (by omega) hnl.2
  obtain ⟨w6, hclr, hO6, hk6⟩ := clearWOt w5 hO5 1 (c - N) (by omega) (by omega) 0
  have hk7 : Keep (fun k => k = g) w w6 := (Keep.trans (a := w) (b := w5) ⟨hk5.os, hk5.tape, hk5.output, hk5.size, hk5.block⟩ hk6 (fun _ _ e => e))
  have HOE := Lib.hid hoe
  clear h hoe hoff hk5 hk6 hO5
  go_enter Try.func32, Try.ntmps32
  go_wp2
  refine wp_region_held_drew (S := (fun _ => True)) (by kernel_rfl) trivial (fun hHeld => ?_)
  refine wpAnyH_take (i := 0) (oi := ?oi0) (v := ?v0) ?hi0 (by kernel_rfl) (by kernel_rfl) (by kernel_rfl) ?hq0 (Or.inl ⟨?hw0, ?hy0⟩) (by assumption) ?rest0
  case hi0 => (simp only [List.getElem?_toArray, List.getElem?_cons_succ, List.getElem?_cons_zero]; rfl)
  case hq0 => exact fun _ _ _ h => h
  case hw0 => rfl
  case hy0 => (intro w hSw; (try dsimp only at hSw); go_simp <;> with_reducible rfl)
  try simp only [Act.put, List.setIfInBounds_toArray, List.set_cons_zero, List.set_cons_succ]
  refine wpAnyH_take (i := 1) (oi := ?oi1) (v := ?v1) ?hi1 (by kernel_rfl) (by kernel_rfl) (by kernel_rfl) ?hq1 (Or.inl ⟨?hw1, ?hy1⟩) (by assumption) ?rest1
  case hi1 => (simp only [List.getElem?_toArray, List.getElem?_cons_succ, List.getElem?_cons_zero]; rfl)
  case hq1 => exact fun _ _ _ h => h
  case hw1 => rfl
  case hy1 => (intro w hSw; (try dsimp only at hSw); go_simp <;> with_reducible rfl)
  try simp only [Act.put, List.setIfInBounds_toArray, List.set_cons_zero, List.set_cons_succ]
  refine wpAnyH_take (i := 2) (oi := ?oi2) (v := ?v2) ?hi2 (by kernel_rfl) (by kernel_rfl) (by kernel_rfl) ?hq2 (Or.inl ⟨?hw2, ?hy2⟩) (by assumption) ?rest2
  case hi2 => (simp only [List.getElem?_toArray, List.getElem?_cons_succ, List.getElem?_cons_zero]; rfl)
  case hq2 => exact fun _ _ _ h => h
  case hw2 => rfl
  case hy2 => (intro w hSw; (try dsimp only at hSw); go_simp <;> with_reducible rfl)
  try simp only [Act.put, List.setIfInBounds_toArray, List.set_cons_zero, List.set_cons_succ]
  refine wpAnyH_take (i := 3) (oi := ?oi3) (v := ?v3) ?hi3 (by kernel_rfl) (by kernel_rfl) (by kernel_rfl) ?hq3 (Or.inl ⟨?hw3, ?hy3⟩) (by assumption) ?rest3
  case hi3 => (simp only [List.getElem?_toArray, List.getElem?_cons_succ, List.getElem?_cons_zero]; rfl)
  case hq3 => exact fun _ _ _ h => h
  case hw3 => rfl
  case hy3 => (intro w hSw; (try dsimp only at hSw); go_simp <;> with_reducible rfl)
  try simp only [Act.put, List.setIfInBounds_toArray, List.set_cons_zero, List.set_cons_succ]
  refine wpAnyH_take (i := 4) (oi := ?oi4) (v := ?v4) ?hi4 (by kernel_rfl) (by kernel_rfl) (by kernel_rfl) ?hq4 (Or.inl ⟨?hw4, ?hy4⟩) (by assumption) ?rest4
  case hi4 => (simp only [List.getElem?_toArray, List.getElem?_cons_succ, List.getElem?_cons_zero]; rfl)
  case hq4 => exact fun _ _ _ h => h
  case hw4 => rfl
  case hy4 => (intro w hSw; (try dsimp only at hSw); go_simp <;> with_reducible rfl)
  try simp only [Act.put, List.setIfInBounds_toArray, List.set_cons_zero, List.set_cons_succ]
  refine wpAnyH_take (i := 5) (oi := ?oi5) (v := ?v5) ?hi5 (by kernel_rfl) (by kernel_rfl) (by kernel_rfl) ?hq5 (Or.inl ⟨?hw5, ?hy5⟩) (by assumption) ?rest5
  case hi5 => (simp only [List.getElem?_toArray, List.getElem?_cons_succ, List.getElem?_cons_zero]; rfl)
  case hq5 => exact fun _ _ _ h => h
  case hw5 => rfl
  case hy5 => (intro w hSw; (try dsimp only at hSw); go_simp <;> with_reducible rfl)
  try simp only [Act.put, List.setIfInBounds_toArray, List.set_cons_zero, List.set_cons_succ]
  refine wpAnyH_ready (rs := [6]) (by kernel_rfl) (by simp) ?_
  refine AllReadyH.cons (o := ?o6) ?hi6 (fun K hK => ?st6) AllReadyH.nil
  case hi6 => (simp only [List.getElem?_toArray, List.getElem?_cons_succ, List.getElem?_cons_zero]; rfl)
  rw [if_pos (by rfl)]
  refine wp_runW (.tmp 22) (.tmp 25) rfl rfl rfl hrun ?_
  refine hK.out _ _ trivial (fun hHeld2 => ?_)
  clear hK K hHeld
  have hHeld := hHeld2
  clear hHeld2
  try simp only [Act.put, List.setIfInBounds_toArray, List.set_cons_zero, List.set_cons_succ]
  refine wpAnyH_take (i := 7) (oi := ?oi7) (v := ?v7) ?hi7 (by kernel_rfl) (by kernel_rfl) (by kernel_rfl) ?hq7 (Or.inl ⟨?hw7, ?hy7⟩) (by assumption) ?rest7
  case hi7 => (simp only [List.getElem?_toArray, List.getElem?_cons_succ, List.getElem?_cons_zero]; rfl)
  case hq7 => exact fun _ _ _ h => h
  case hw7 => rfl
  case hy7 => (intro w hSw; (try dsimp only at hSw); go_simp <;> with_reducible rfl)
  try simp only [Act.put, List.setIfInBounds_toArray, List.set_cons_zero, List.set_cons_succ]
  refine wpAnyH_done (by kernel_rfl) ?_ _
  rw [HOE.out]
  go_wp2
  go_ret
  exact ⟨rfl, hO6, hk7⟩
/-- Who is out when it was dropped. -/
def dropO (l : List Wt) (o k : Int) : Int := if 0 ≤ placeW l k then backO o k else o
theorem dropL_none {l : List Wt} {k : Int} (h : placeW l k = -1) : dropL l k = l := by
  unfold dropL
  have h2 : ∀ x ∈ l, x.k ≠ k := place_none.1 h
  have h3 : (l.findIdx fun x => decide (x.k = k)) = l.length := List.findIdx_eq_length.2 fun x hx => by simpa using h2 x hx
  rw [h3, List.eraseIdx_of_length_le (Nat.le_refl _)]
/-- What Drop answers. -/
def DropPost (F : Nat → Prop) (w : World) (p : Nat) (l : List Wt) (o k : Int) (e : Ending) (w' : World) : Prop := e = .returned (.bool (decide (0 ≤ placeW l k))) ∧ BK F w' p (dropL l k) (dropO l o k) ∧ Keep F w w'
set_option maxRecDepth 100000 in
set_option maxHeartbeats 1600000 in
theorem bdrop_any {F : Nat → Prop} {w : World} {p : Nat} {l : List Wt} {o : Int} (k : Int) (h : BK F w p l o) (hl : l.length ≤ 1048576) : Calls Try.prog 14 #[.pointer (some ⟨p, 0, none⟩), .int .i64 k] w (DropPost F w p l o k) := by
  have hp := bplace_any k h hl
  unfold DropPost
  rcases idx_cases (fun x => decide (x.k = k)) l with ⟨hn, _⟩ | ⟨i, x, hix, hx, hr, hil, hfi⟩
  · have hpl : placeW l k = -1 := hn
    rw [dropL_none hpl, show dropO l o k = o from by unfold dropO; rw [hpl]; rfl, hpl]
    rw [hpl] at hp
    clear hn hpl
    go_enter Try.func14, Try.ntmps14
    go_wp2_with fail
    refine hp.mono ?_
    rintro e w1 ⟨rfl, hb⟩
    have h1 := h.below hb
    go_wp2
    go_ret
    exact ⟨rfl, h1, (Keep.of_below hb).mono fun k h1 h2 => by omega⟩
  · have hpl : placeW l k = (i : Int) := hix
    have hlt : decide ((i : Int) < 0) = false := decide_eq_false (by omega)
    have hdp : (decide (0 ≤ (i : Int))) = true := decide_eq_true (by omega)
    rw [show dropL l k = l.eraseIdx i from by unfold dropL; rw [hfi], show dropO l o k = backO o k from by unfold dropO; rw [if_pos (by omega)], hpl, hdp]
    rw [hpl] at hp
    clear hpl hix hfi hr hx hdp
    obtain ⟨o2, ho2⟩ : ∃ o2, backO o k = o2 := ⟨_, rfl⟩
    rw [ho2]
    go_enter Try.func14, Try.ntmps14
    go_wp2_with fail
    refine hp.mono ?_
    rintro e w1 ⟨rfl, hb⟩
    have h1 := h.below hb
    have kb : Keep F w w1 := (Keep.of_below hb).mono fun k h1 h2 => by omega
    have hbk := bback_any k h1
    rw [ho2] at hbk
    clear h h1 hp
    go_wp2_with fail
    refine hbk.mono ?_
    rintro e w2 ⟨rfl, h2, k2⟩
    have kb2 := kb.trans k2 (fun _ _ e => e)
    clear hbk kb k2 hb
    obtain ⟨v, hV⟩ := h2
    obtain ⟨A, c, rfl, hfm⟩ := hV.own.form
    clear hfm
    obtain ⟨N, hN⟩ : ∃ N, l.length = N := ⟨_, rfl⟩
    rw [hN] at hV hil hl
    obtain ⟨g, x, rfl, hx, c0, c1⟩ := hV.own.place hil
    obtain ⟨q0, q1⟩ := hV.fields
    have hd := delete_any g N c l i hV.own hil hl
    have hi1 : (i : Int) + 1 ≤ 9223372036854775807 := by omega
    have hi0 : (-9223372036854775808 : Int) ≤ (i : Int) + 1 := by omega
    clear hx c0 c1
    go_wp2_with fail
    refine hd.mono ?_
    rintro e w3 ⟨rfl, hO3, k3⟩
    have hgp : ¬ p = g := fun e => hV.ne (by rw [e]; rfl)
    have pc3 := hV.pc.kept k3 hgp
    have f3 := pc3.frozen 0
    have hpl3 := pc3.lt
    have q3 := pc3.cell 0
    simp at q3
    have pc4 := pc3.set_ 0 (.slice (some ⟨g, 0, none⟩) (N - 1) c)
    simp at pc4
    have kp : Keep (fun k => k = p) w3 (w3.setCell ⟨p, 0, none⟩ (.slice (some ⟨g, 0, none⟩) (N - 1) c)) := (Keep.refl (fun k => k = p) w3).setCell (p := ⟨p, 0, none⟩) (fun _ => rfl) _
    have hne := hV.ne
    have h4 : BV F (w3.setCell ⟨p, 0, none⟩ (.slice (some ⟨g, 0, none⟩) (N - 1) c)) p (.slice (some ⟨g, 0, none⟩) (N - 1) c) (l.eraseIdx i) o2 := ⟨pc4, hO3.kept kp (fun b hb e => hne (by rw [← e]; exact hb)), (fun e => hne e), hV.fp, fun b hb => hV.fv b hb⟩
    have kF : Keep F w (w3.setCell ⟨p, 0, none⟩ (.slice (some ⟨g, 0, none⟩) (N - 1) c)) := (kb2.trans k3 (fun b hb e => by rw [e]; exact hV.fv g rfl)).trans kp (fun b hb e => by rw [e]; exact hV.fp)
    clear hd hO3 k3 pc4 pc3 kp hV kb2
    go_wp2
    go_ret
    exact ⟨rfl, ⟨_, h4⟩, kF⟩
end Go.Proofs.Ytnkekjaljhpmjaa
