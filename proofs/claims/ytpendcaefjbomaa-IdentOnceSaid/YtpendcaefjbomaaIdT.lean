/- Identities: Tell. No condition but that the table lies in memory. -/
import Derived.Test.YtpendcaefjbomaaIdA
namespace Go.Proofs.Ytpendcaefjbomaa
open Go.RowKit Go.Maps Go.Shelf Go.Sort
set_option linter.unusedVariables false
set_option linter.unusedSimpArgs false

/-- A number's record put, of a client who is there. -/
theorem TS.putN {F : Nat → Prop} {w wA wB : World} {p b K : Nat} {cl : Int → Cl} {cs : List Int} (h : TS F w p b K cl cs) {c : Int} (hc : c ∈ cs) (hA : Below w.heap.size w wA) (kB : Keep (fun i => i = (cl c).b) wA wB) {g' : Int → Rq} {ns' : List Int}
    (hm : ∃ N, N ≤ K + 1 ∧ MO rq0.v wB (cl c).b N (fun j => (g' j).v) ns') :
    TS F wB p b (K + 1) (fun i => if i = c then ⟨(cl c).k, (cl c).b, g', ns'⟩ else cl i) cs ∧ Keep F w wB := by
  obtain ⟨N, hN, hM⟩ := h.mp
  have hadd : addK cs c = cs := if_pos hc
  have hM2 := (hM.below hA).kept kB (fun e => (h.ok c hc).2.2.2 e.symm)
  have e : (fun i => if i ∈ cs then (cl i).v else clZ) = fun i => if i = c then .agg #[.int .i64 (cl c).k, .map (some (cl c).b)] else if i ∈ cs then (cl i).v else clZ := by
    funext i
    by_cases e : i = c
    · rw [if_pos e, e, if_pos hc]; rfl
    · rw [if_neg e]
  rw [e] at hM2
  obtain ⟨_, g2, g3⟩ := TS.put h (.inl ⟨hc, rfl⟩) hA kB (Keep.refl _ wB) (g' := g') hm ⟨N, by omega, by rw [hadd]; exact hM2⟩
  rw [hadd] at g2
  refine ⟨g2.mono (fun k _ hk => hk.elim id (fun e => by rw [e]; exact (h.ok c hc).2.1)), g3⟩
set_option maxRecDepth 100000 in
set_option maxHeartbeats 3200000 in
theorem tell_none {F : Nat → Prop} {w : World} {p b K : Nat} {cl : Int → Cl} {cs : List Int} (h : TS F w p b K cl cs) (c n e x : Int) (wc : (Lit.int .i64 c).wf = true) (wn : (Lit.int .i64 n).wf = true) (hc : mayC c) (hn : mayN n) (he : 0 ≤ e ∧ e ≤ 1000) (hin : n ∉ (cl c).ns) :
    Calls Try.prog 13 #[.pointer (some ⟨p, 0, none⟩), .agg #[.int .i64 c, .int .i64 n, .int .i64 e, .int .i64 x]] w fun e' w' => e' = .returned (.int .i64 4) ∧ Below w.heap.size w w' := by
  have h0 := h.alloc (.cells #[.int .i64 c, .int .i64 n, .int .i64 e, .int .i64 x] 35)
  have hof := of_any h0 c wc
  have hA0 := Blk.new w 35 #[.int .i64 c, .int .i64 n, .int .i64 e, .int .i64 x]
  have hb0 := (Below.refl w.heap.size w).alloc (Nat.le_refl _) (.cells #[.int .i64 c, .int .i64 n, .int .i64 e, .int .i64 x] 35)
  have a0 := hA0.cell 0
  have a1 := hA0.cell 1
  have a2 := hA0.cell 2
  simp only [List.getElem?_toArray, List.getElem?_cons_succ, List.getElem?_cons_zero] at a0 a1 a2
  have d1 : decide (e < (0 : Int)) = false := decide_eq_false (by omega)
  have d2 : decide ((1000 : Int) < e) = false := decide_eq_false (by omega)
  go_enter Try.func13, Try.ntmps13
  go_wp2_with fail
  refine (client_yes hc _).mono ?_
  rintro e' w' ⟨rfl, hww⟩
  subst w'
  go_wp2_with fail
  refine (number_yes hn _).mono ?_
  rintro e' w' ⟨rfl, hww⟩
  subst w'
  go_wp2_with fail
  refine hof.mono ?_
  rintro e' w1 ⟨mb, rfl, ⟨⟨N, hN, hm⟩, hr⟩, hb1⟩
  have hz0 : (w.alloc (.cells #[.int .i64 c, .int .i64 n, .int .i64 e, .int .i64 x] 35)).heap.size = w.heap.size + 1 := by simp
  have hA1 := hA0.kept (Keep.of_below hb1) (by omega)
  have hb1' := hb0.trans (hb1.mono hb0.size)
  have hff := field_m (cl c).k mb w1
  have hbz := hb1'.size
  clear hof hb0 hA0 a0 a1 a2
  obtain ⟨r, hrr⟩ : ∃ r, (cl c).g n = r := ⟨_, rfl⟩
  have hlk := hm.look Try.underlying66 (zero_rq _) wn
  try dsimp only at hlk
  rw [hrr] at hlk
  obtain ⟨rm, rd, rc, rn, re, rx⟩ := r
  change (Instr.lookup _ _ _ _).run _ _ = Result.ok (.tuple #[.agg #[.int .u64 rm, .bool rd, .int .i64 rc, .int .i64 rn, .int .i64 re, .int .i64 rx], .bool (decide (n ∈ (cl c).ns))]) _ at hlk
  rw [show decide (n ∈ (cl c).ns) = false from decide_eq_false hin] at hlk
  have hQ1 := Blk.new w1 72 #[.int .u64 rm, .bool rd, .int .i64 rc, .int .i64 rn, .int .i64 re, .int .i64 rx]
  have hbE := hb1'.alloc hb1'.size (.cells #[.int .u64 rm, .bool rd, .int .i64 rc, .int .i64 rn, .int .i64 re, .int .i64 rx] 72)
  have q_1 := hQ1.cell 1
  simp only [List.getElem?_toArray, List.getElem?_cons_succ, List.getElem?_cons_zero] at q_1
  have a1 := hA1.cell 1
  simp only [List.getElem?_toArray, List.getElem?_cons_succ, List.getElem?_cons_zero] at a1
  go_wp2
  go_ret
  exact ⟨rfl, hbE⟩
set_option maxRecDepth 100000 in
set_option maxHeartbeats 3200000 in
theorem tell_twice {F : Nat → Prop} {w : World} {p b K : Nat} {cl : Int → Cl} {cs : List Int} (h : TS F w p b K cl cs) (c n e x : Int) (wc : (Lit.int .i64 c).wf = true) (wn : (Lit.int .i64 n).wf = true) (hc : mayC c) (hn : mayN n) (he : 0 ≤ e ∧ e ≤ 1000) (hin : n ∈ (cl c).ns) (hd : ((cl c).g n).d = true) :
    Calls Try.prog 13 #[.pointer (some ⟨p, 0, none⟩), .agg #[.int .i64 c, .int .i64 n, .int .i64 e, .int .i64 x]] w fun e' w' => e' = .returned (.int .i64 5) ∧ Below w.heap.size w w' := by
  have h0 := h.alloc (.cells #[.int .i64 c, .int .i64 n, .int .i64 e, .int .i64 x] 35)
  have hof := of_any h0 c wc
  have hA0 := Blk.new w 35 #[.int .i64 c, .int .i64 n, .int .i64 e, .int .i64 x]
  have hb0 := (Below.refl w.heap.size w).alloc (Nat.le_refl _) (.cells #[.int .i64 c, .int .i64 n, .int .i64 e, .int .i64 x] 35)
  have a0 := hA0.cell 0
  have a1 := hA0.cell 1
  have a2 := hA0.cell 2
  simp only [List.getElem?_toArray, List.getElem?_cons_succ, List.getElem?_cons_zero] at a0 a1 a2
  have d1 : decide (e < (0 : Int)) = false := decide_eq_false (by omega)
  have d2 : decide ((1000 : Int) < e) = false := decide_eq_false (by omega)
  go_enter Try.func13, Try.ntmps13
  go_wp2_with fail
  refine (client_yes hc _).mono ?_
  rintro e' w' ⟨rfl, hww⟩
  subst w'
  go_wp2_with fail
  refine (number_yes hn _).mono ?_
  rintro e' w' ⟨rfl, hww⟩
  subst w'
  go_wp2_with fail
  refine hof.mono ?_
  rintro e' w1 ⟨mb, rfl, ⟨⟨N, hN, hm⟩, hr⟩, hb1⟩
  have hz0 : (w.alloc (.cells #[.int .i64 c, .int .i64 n, .int .i64 e, .int .i64 x] 35)).heap.size = w.heap.size + 1 := by simp
  have hA1 := hA0.kept (Keep.of_below hb1) (by omega)
  have hb1' := hb0.trans (hb1.mono hb0.size)
  have hff := field_m (cl c).k mb w1
  have hbz := hb1'.size
  clear hof hb0 hA0 a0 a1 a2
  obtain ⟨r, hrr⟩ : ∃ r, (cl c).g n = r := ⟨_, rfl⟩
  rw [hrr] at hd
  have hlk := hm.look Try.underlying66 (zero_rq _) wn
  try dsimp only at hlk
  rw [hrr] at hlk
  obtain ⟨rm, rd, rc, rn, re, rx⟩ := r
  change (Instr.lookup _ _ _ _).run _ _ = Result.ok (.tuple #[.agg #[.int .u64 rm, .bool rd, .int .i64 rc, .int .i64 rn, .int .i64 re, .int .i64 rx], .bool (decide (n ∈ (cl c).ns))]) _ at hlk
  rw [show decide (n ∈ (cl c).ns) = true from decide_eq_true hin] at hlk
  dsimp only at hd
  subst hd
  have hQ1 := Blk.new w1 72 #[.int .u64 rm, .bool true, .int .i64 rc, .int .i64 rn, .int .i64 re, .int .i64 rx]
  have hbE := hb1'.alloc hb1'.size (.cells #[.int .u64 rm, .bool true, .int .i64 rc, .int .i64 rn, .int .i64 re, .int .i64 rx] 72)
  have q_1 := hQ1.cell 1
  simp only [List.getElem?_toArray, List.getElem?_cons_succ, List.getElem?_cons_zero] at q_1
  have a1 := hA1.cell 1
  simp only [List.getElem?_toArray, List.getElem?_cons_succ, List.getElem?_cons_zero] at a1
  go_wp2
  go_ret
  exact ⟨rfl, hbE⟩
set_option maxRecDepth 100000 in
set_option maxHeartbeats 3200000 in
theorem tell_ok {F : Nat → Prop} {w : World} {p b K : Nat} {cl : Int → Cl} {cs : List Int} (h : TS F w p b K cl cs) (c n e x : Int) (wc : (Lit.int .i64 c).wf = true) (wn : (Lit.int .i64 n).wf = true) (hc : mayC c) (hn : mayN n) (he : 0 ≤ e ∧ e ≤ 1000) (hK : K < maxLen) (hin : n ∈ (cl c).ns) (hd : ((cl c).g n).d = false) :
    Calls Try.prog 13 #[.pointer (some ⟨p, 0, none⟩), .agg #[.int .i64 c, .int .i64 n, .int .i64 e, .int .i64 x]] w fun e' w' => e' = .returned (.int .i64 0) ∧ TS F w' p b (K + 1) (fun i => if i = c then ⟨(cl c).k, (cl c).b, fun j => if j = n then ⟨((cl c).g n).m, true, c, n, e, x⟩ else (cl c).g j, (cl c).ns⟩ else cl i) cs ∧ Keep F w w' := by
  have h0 := h.alloc (.cells #[.int .i64 c, .int .i64 n, .int .i64 e, .int .i64 x] 35)
  have hof := of_any h0 c wc
  have hA0 := Blk.new w 35 #[.int .i64 c, .int .i64 n, .int .i64 e, .int .i64 x]
  have hb0 := (Below.refl w.heap.size w).alloc (Nat.le_refl _) (.cells #[.int .i64 c, .int .i64 n, .int .i64 e, .int .i64 x] 35)
  have a0 := hA0.cell 0
  have a1 := hA0.cell 1
  have a2 := hA0.cell 2
  simp only [List.getElem?_toArray, List.getElem?_cons_succ, List.getElem?_cons_zero] at a0 a1 a2
  have d1 : decide (e < (0 : Int)) = false := decide_eq_false (by omega)
  have d2 : decide ((1000 : Int) < e) = false := decide_eq_false (by omega)
  go_enter Try.func13, Try.ntmps13
  go_wp2_with fail
  refine (client_yes hc _).mono ?_
  rintro e' w' ⟨rfl, hww⟩
  subst w'
  go_wp2_with fail
  refine (number_yes hn _).mono ?_
  rintro e' w' ⟨rfl, hww⟩
  subst w'
  go_wp2_with fail
  refine hof.mono ?_
  rintro e' w1 ⟨mb, rfl, ⟨⟨N, hN, hm⟩, hr⟩, hb1⟩
  have hz0 : (w.alloc (.cells #[.int .i64 c, .int .i64 n, .int .i64 e, .int .i64 x] 35)).heap.size = w.heap.size + 1 := by simp
  have hA1 := hA0.kept (Keep.of_below hb1) (by omega)
  have hb1' := hb0.trans (hb1.mono hb0.size)
  have hff := field_m (cl c).k mb w1
  have hbz := hb1'.size
  clear hof hb0 hA0 a0 a1 a2
  obtain ⟨r, hrr⟩ : ∃ r, (cl c).g n = r := ⟨_, rfl⟩
  rw [hrr] at hd
  have hlk := hm.look Try.underlying66 (zero_rq _) wn
  try dsimp only at hlk
  rw [hrr] at hlk
  obtain ⟨rm, rd, rc, rn, re, rx⟩ := r
  change (Instr.lookup _ _ _ _).run _ _ = Result.ok (.tuple #[.agg #[.int .u64 rm, .bool rd, .int .i64 rc, .int .i64 rn, .int .i64 re, .int .i64 rx], .bool (decide (n ∈ (cl c).ns))]) _ at hlk
  rw [show decide (n ∈ (cl c).ns) = true from decide_eq_true hin] at hlk
  dsimp only at hd
  subst hd
  have hQ1 := Blk.new w1 72 #[.int .u64 rm, .bool false, .int .i64 rc, .int .i64 rn, .int .i64 re, .int .i64 rx]
  have hbE := hb1'.alloc hb1'.size (.cells #[.int .u64 rm, .bool false, .int .i64 rc, .int .i64 rn, .int .i64 re, .int .i64 rx] 72)
  have q_1 := hQ1.cell 1
  simp only [List.getElem?_toArray, List.getElem?_cons_succ, List.getElem?_cons_zero] at q_1
  have a1 := hA1.cell 1
  simp only [List.getElem?_toArray, List.getElem?_cons_succ, List.getElem?_cons_zero] at a1
  have hcs : c ∈ cs := Classical.byContradiction fun hnc => by
    rw [(h.no c hnc).2.1] at hin
    cases hin
  obtain rfl : mb = (cl c).b := hr.elim (fun e => e.2) (fun e => absurd hcs e.1)
  have hm2 := hm.alloc (.cells #[.int .u64 rm, .bool false, .int .i64 rc, .int .i64 rn, .int .i64 re, .int .i64 rx] 72)
  have hA2 := hA1.alloc (.cells #[.int .u64 rm, .bool false, .int .i64 rc, .int .i64 rn, .int .i64 re, .int .i64 rx] 72)
  have q_0 := hQ1.cell 0
  have b0 := hA2.cell 0
  have b1 := hA2.cell 1
  have b2 := hA2.cell 2
  have b3 := hA2.cell 3
  simp only [List.getElem?_toArray, List.getElem?_cons_succ, List.getElem?_cons_zero] at q_0 b0 b1 b2 b3
  obtain ⟨w5, hrun5, hm5, hk5⟩ := hm2.upd Try.underlying66 (show N < maxLen by omega) wn (.agg #[.int .u64 rm, .bool true, .int .i64 c, .int .i64 n, .int .i64 e, .int .i64 x])
  go_wp2
  go_ret
  have e1 : (fun j => (if j = n then (⟨rm, true, c, n, e, x⟩ : Rq) else (cl c).g j).v) = fun i => if i = n then .agg #[.int .u64 rm, .bool true, .int .i64 c, .int .i64 n, .int .i64 e, .int .i64 x] else ((cl c).g i).v := by
    funext j
    by_cases e : j = n
    · rw [if_pos e, if_pos e]; rfl
    · rw [if_neg e, if_neg e]
  have hadd : addK (cl c).ns n = (cl c).ns := if_pos hin
  rw [hadd, ← e1] at hm5
  have key := TS.putN h hcs hbE hk5 (g' := fun j => if j = n then (⟨rm, true, c, n, e, x⟩ : Rq) else (cl c).g j) ⟨N + 1, by omega, hm5⟩
  rw [hrr]
  exact ⟨rfl, key⟩
set_option maxRecDepth 100000 in
set_option maxHeartbeats 3200000 in
theorem tell_nil (c n e x : Int) (w : World) : Calls Try.prog 13 #[.pointer none, .agg #[.int .i64 c, .int .i64 n, .int .i64 e, .int .i64 x]] w fun e' w' => e' = .returned (.int .i64 6) ∧ Below w.heap.size w w' := by
  have hb0 := (Below.refl w.heap.size w).alloc (Nat.le_refl _) (.cells #[.int .i64 c, .int .i64 n, .int .i64 e, .int .i64 x] 35)
  go_enter Try.func13, Try.ntmps13
  go_wp2
  go_ret
  exact ⟨rfl, hb0⟩
set_option maxRecDepth 100000 in
set_option maxHeartbeats 3200000 in
theorem tell_arg (q : Addr) (c n e x : Int) (hq : ¬ (mayC c ∧ mayN n ∧ 0 ≤ e ∧ e ≤ 1000)) (w : World) : Calls Try.prog 13 #[.pointer (some q), .agg #[.int .i64 c, .int .i64 n, .int .i64 e, .int .i64 x]] w fun e' w' => e' = .returned (.int .i64 1) ∧ Below w.heap.size w w' := by
  have hA0 := Blk.new w 35 #[.int .i64 c, .int .i64 n, .int .i64 e, .int .i64 x]
  have hb0 := (Below.refl w.heap.size w).alloc (Nat.le_refl _) (.cells #[.int .i64 c, .int .i64 n, .int .i64 e, .int .i64 x] 35)
  have a0 := hA0.cell 0
  have a1 := hA0.cell 1
  have a2 := hA0.cell 2
  simp only [List.getElem?_toArray, List.getElem?_cons_succ, List.getElem?_cons_zero] at a0 a1 a2
  by_cases hc : mayC c
  · by_cases hn : mayN n
    · by_cases he : 0 ≤ e
      · have d1 : decide (e < (0 : Int)) = false := decide_eq_false (by omega)
        have d2 : decide ((1000 : Int) < e) = true := decide_eq_true (by
          refine Classical.byContradiction fun h => hq ⟨hc, hn, he, by omega⟩)
        clear hq he
        go_enter Try.func13, Try.ntmps13
        go_wp2_with fail
        refine (client_yes hc _).mono ?_
        rintro e' w' ⟨rfl, hww⟩
        subst w'
        go_wp2_with fail
        refine (number_yes hn _).mono ?_
        rintro e' w' ⟨rfl, hww⟩
        subst w'
        go_wp2
        go_ret
        exact ⟨rfl, hb0⟩
      · have d1 : decide (e < (0 : Int)) = true := decide_eq_true (by omega)
        clear hq he
        go_enter Try.func13, Try.ntmps13
        go_wp2_with fail
        refine (client_yes hc _).mono ?_
        rintro e' w' ⟨rfl, hww⟩
        subst w'
        go_wp2_with fail
        refine (number_yes hn _).mono ?_
        rintro e' w' ⟨rfl, hww⟩
        subst w'
        go_wp2
        go_ret
        exact ⟨rfl, hb0⟩
    · go_enter Try.func13, Try.ntmps13
      go_wp2_with fail
      refine (client_yes hc _).mono ?_
      rintro e' w' ⟨rfl, hww⟩
      subst w'
      go_wp2_with fail
      refine (number_no hn _).mono ?_
      rintro e' w' ⟨rfl, hww⟩
      subst w'
      go_wp2
      go_ret
      exact ⟨rfl, hb0⟩
  · go_enter Try.func13, Try.ntmps13
    go_wp2_with fail
    refine (client_no hc _).mono ?_
    rintro e' w' ⟨rfl, hww⟩
    subst w'
    go_wp2
    go_ret
    exact ⟨rfl, hb0⟩
end Go.Proofs.Ytpendcaefjbomaa
