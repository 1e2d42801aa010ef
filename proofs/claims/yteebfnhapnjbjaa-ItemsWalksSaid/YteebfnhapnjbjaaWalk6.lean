/- walk: what is gone over, up to some. No condition but the list's length in memory. -/
import Derived.Test.YteebfnhapnjbjaaKept6
import Derived.OwnWalkIn
namespace Go.Proofs.Yteebfnhapnjbjaa
open Go.RowKit Go.Maps Go.Shelf Go.Sort
set_option linter.unusedVariables false
set_option linter.unusedSimpArgs false
attribute [local go_sem] Oper.semAt_some

theorem wpAppIn {F : Fence} {n : Nat} {w : World} {ops : Array Oper} {rest : List Oper} {o : Oper} {a : Act} {Q : Exit → Act → World → Prop} (hgd : o.guard = none) (s x : Operand) (ho : o.op = .call { callee := .builtin .append, args := #[s, x], argTypes := #[22, 22] })
    (base : Nat) (v : Value) (l : List It) (hs : a.eval s = v) (hown : OI base w v l) (A : Option Addr) (m c : Nat) (news : List It) (hx : a.eval x = .slice A m c) (hr : IL w A m news) (hmn : A = none → m = 0)
    (hn : (l.length + m) * 24 ≤ 140737488355328) (hbase : base ≤ w.heap.size)
    (h : ∀ v' w', OI base w' v' (l ++ news) → Keep (fun k => v.ownBlock = some k) w w' → (v'.ownBlock = v.ownBlock ∨ v'.ownBlock = some w.heap.size) → wpListIn F n Try.prog ops Q rest (a.put o.dst v') w') : wpListIn F n Try.prog ops Q (o :: rest) a w := by
  refine wpListIn_plain hgd fun K hK => ?_
  obtain ⟨v', w', hrun, h2, h3, h4⟩ := run_appI w base o.type v l hown A m c news hr hmn hn hbase
  unfold Oper.wpIn
  refine ⟨?_, ?_⟩
  · simp [Oper.about, ho, resolve, Target.leads, Sem.run_pure]
  · rw [Oper.semAt_plain F _ _ (by rw [ho]; intro c hc'; cases hc')]
    simp [execOp, ho, resolve, invoke, builtin, hs, hx, hrun, Result.andThen]
    exact hK _ _ (h v' w' h2 h3 h4)
theorem OI.grown {base n : Nat} {X Y : World} {v : Value} {l : List It} {row : Option Nat} (h : OI base X v l) (hg : X.grownBy Y row) (hr : ∀ r, row = some r → n ≤ r ∧ ∃ o : Obj, X.heap[r]? = some o ∧ o.isCells = false) : OI base Y v l :=
  h.kept (Keep.of_grown hg) fun g hgv => by
    obtain ⟨o, h1, h2⟩ := h.blk g hgv
    exact row_not hr h1 h2
/-- Up to some. -/
def walkL (l : List It) (m : Int) : List It := match decide (1 ≤ m ∧ m ≤ (l.length : Int)) with | true => l.take m.toNat | false => l

set_option maxRecDepth 100000 in
set_option maxHeartbeats 3200000 in
theorem walk_any (A : Option Addr) (n c : Nat) (l : List It) (m : Int) (w : World) (hl : IL w A n l) (hn : n * 24 ≤ 140737488355328) :
    Calls Try.prog 33 #[.slice A n c, .int .i64 m] w fun e w' => ∃ v, e = .returned (.tuple #[v, .bool true]) ∧ OI w.heap.size w' v (walkL l m) ∧ Below w.heap.size w w' := by
  have hlen := hl.len
  refine (callsIn_wide (n := 9)).1 ?_
  refine callsIn_of_wp_marks Try.func33 rfl trivial ?_ rfl
  simp only [Try.ntmps33, List.size_toArray, List.length_cons, List.length_nil, Nat.reduceAdd, Nat.reduceSub, Array.replicate_succ, Array.replicate_zero, List.push_toArray, List.append_toArray, List.nil_append, List.cons_append]
  have hM0 := CL.new w (.int .i64 m) 3
  have hl0 := hl.alloc (.cells #[.int .i64 m] 3)
  have hb0 := (Below.refl w.heap.size w).alloc (Nat.le_refl _) (.cells #[.int .i64 m] 3)
  have hfn := func_eq_nil6
  gi_wp2_with (refine ⟨trivial, ?_⟩; gi_at_call 39; refine (callsIn_wide.2 (all_any A n c l _ hl0 hn)).mono ?_; rintro e w2 ⟨B, CA, cc, rfl, hBl, hC, hil, hb2⟩)
  --NAME
  have hM2 := hM0.below hb2
  have hbw2 := hb0.trans (hb2.mono hb0.size)
  have hz2 := hb2.size
  rw [World.size_alloc] at hz2
  have hCA := hil.lt
  have hM3 := hM2.alloc (.cells #[.slice none 0 0] 22)
  have hC3 := hC.alloc (.cells #[.slice none 0 0] 22)
  have hil3 := hil.alloc (.cells #[.slice none 0 0] 22)
  have hO3 := CL.new w2 (.slice none 0 0) 22
  have hb3 := hbw2.alloc hbw2.size (.cells #[.slice none 0 0] 22)
  generalize hW : w2.alloc (.cells #[.slice none 0 0] 22) = W0 at *
  have hz0 : W0.heap.size = w2.heap.size + 1 := by rw [← hW]; simp
  clear hW hM0 hl0 hb0 hM2 hbw2 hC hil
  refine range_over' CA l.length cc l B (fun k => k = w2.heap.size) rfl rfl hC3.at_ hil3 (fun ad h h' => by have := hCA ad h h'; omega) (by omega)
    (fun pre W => (∀ j : Nat, 1 ≤ j → j ≤ pre.length → (j : Int) ≠ m) ∧ CL W w.heap.size (.int .i64 m) ∧ (∃ v, CL W w2.heap.size v ∧ OI (w2.heap.size + 1) W v pre) ∧ Below w.heap.size w W)
    (fun c pre W => c = .exit 0 ∧ (1 ≤ pre.length ∧ (pre.length : Int) = m) ∧ (∃ v, CL W w2.heap.size v ∧ OI (w2.heap.size + 1) W v pre) ∧ Below w.heap.size w W)
    (fun s X Y row h hg hr => ⟨h.1, h.2.1.row hg hr, h.2.2.1.elim fun v hv => ⟨v, hv.1.row hg hr, hv.2.grown hg hr⟩, below_row h.2.2.2 hg (by have := h.2.1.lt; omega) (by omega) hr⟩)
    (fun c s X Y row h hg hr => ⟨h.1, h.2.1, h.2.2.1.elim fun v hv => ⟨v, hv.1.row hg hr, hv.2.grown hg hr⟩, below_row h.2.2.2 hg (by obtain ⟨v, hv, _⟩ := h.2.2.1; have := hv.lt; omega) (by omega) hr⟩)
    ⟨fun j h h' => by simp at h'; omega, hM3, ⟨_, hO3, OI.nil _ _⟩, hb3⟩ ?round ?done ?stop
  case round =>
    apply Exists.intro
    constructor
    · intro l' x W K hx hK
      gi_wp2
      exact hK
    · rintro l' pre ⟨s, q⟩ W hx hzW ⟨hne, hm, ⟨v, hO, ho⟩, hb⟩ hlen
      dsimp only at hx ⊢
      have hbz := hb.size
      have hoL := (ho.alloc (.cells #[.string ⟨s.toArray⟩, .int .i64 q] 28)).lt
      have hoB := (ho.alloc (.cells #[.string ⟨s.toArray⟩, .int .i64 q] 28)).blk
      have c0 := hO.at_
      have c1 := (hO.alloc (.cells #[.string ⟨s.toArray⟩, .int .i64 q] 28)).at_
      have hN : (pre ++ [(s, q)]).length = pre.length + 1 := by simp
      have hfin : ∀ (v' : Value) (W3 : World), OI (w2.heap.size + 1) W3 v' (pre ++ [(s, q)]) → Keep (fun k => v.ownBlock = some k) (W.alloc (.cells #[.string ⟨s.toArray⟩, .int .i64 q] 28)) W3 →
          CL W3 w2.heap.size v ∧ CL W3 w.heap.size (.int .i64 m) ∧ KeepsFrom W0.heap.size W (W3.setCell ⟨w2.heap.size, 0, none⟩ v') ∧ KX W0.heap.size (fun k => k = w2.heap.size) W (W3.setCell ⟨w2.heap.size, 0, none⟩ v') ∧ CL (W3.setCell ⟨w2.heap.size, 0, none⟩ v') w.heap.size (.int .i64 m) ∧ CL (W3.setCell ⟨w2.heap.size, 0, none⟩ v') w2.heap.size v' ∧ OI (w2.heap.size + 1) (W3.setCell ⟨w2.heap.size, 0, none⟩ v') v' (pre ++ [(s, q)]) ∧ Below w.heap.size w (W3.setCell ⟨w2.heap.size, 0, none⟩ v') := by
        intro v' W3 h3 k3
        have hO3 := (hO.alloc (.cells #[.string ⟨s.toArray⟩, .int .i64 q] 28)).kept k3 (fun e => by have := (hoL _ e).1; omega)
        have hm3 := (hm.alloc (.cells #[.string ⟨s.toArray⟩, .int .i64 q] 28)).kept k3 (fun e => by have := (hoL _ e).1; omega)
        have hal : Below W.heap.size W (W.alloc (.cells #[.string ⟨s.toArray⟩, .int .i64 q] 28)) := (Below.refl W.heap.size W).alloc (Nat.le_refl _) _
        have hb4 := (hb.alloc hb.size (.cells #[.string ⟨s.toArray⟩, .int .i64 q] 28)).trans (k3.below (by simp; omega) (fun k hk e => by have := (hoL _ e).1; omega))
        refine ⟨hO3, hm3, ((Keep.from_below hal).trans (k3.from fun k _ _ e => hoB k e)).trans ((KeepsOthers.setCell W3 _ _).from _), ⟨?_, fun k hk hS => ?_⟩, hm3.other (by omega) _ _, hO3.set_ _, h3.set_ (by omega) _ _, hb4.setCell (p := ⟨w2.heap.size, 0, none⟩) (by dsimp only; omega) _⟩
        · have h5 := k3.size
          have h6 : (W3.setCell ⟨w2.heap.size, 0, none⟩ v').heap.size = W3.heap.size := by simp [World.setCell]
          rw [World.size_alloc] at h5
          omega
        · rw [Below.heap_setCell _ _ _ _ (by exact hS), k3.block k (by simp; omega) (fun e => by have := (hoL _ e).1; omega)]
          exact hal.block k (by omega)
      by_cases he : (pre.length : Int) + 1 = m
      · have hz : ((pre.length : Int) + 1 == m) = true := beq_iff_eq.2 he
        gi_wp2_with (gi_at_builtin; refine wpAppIn rfl _ _ rfl (w2.heap.size + 1) _ _ rfl (ho.alloc _) _ 1 1 [(s, q)] rfl (IL.one W s q _) (fun h => by cases h) (by omega) (by simp; omega) ?_; rintro v' W3 h3 k3 _; obtain ⟨hO5, hm5, hkf, hkx, hm6, hO6, ho6, hb6⟩ := hfin v' W3 h3 k3; obtain ⟨A6, c6, hv6, hl6, hx6, _, _⟩ := h3.form; rw [hN] at hv6; subst hv6; have c5 := hO5.at_; have f5 := hO5.fz; have c6 := hm5.at_)
        --NAME2
        exact ⟨hkf, rfl, ⟨by omega, by rw [hN]; omega⟩, ⟨_, hO6, ho6⟩, hb6⟩
      · have hz : ((pre.length : Int) + 1 == m) = false := beq_eq_false_iff_ne.2 he
        gi_wp2_with (gi_at_builtin; refine wpAppIn rfl _ _ rfl (w2.heap.size + 1) _ _ rfl (ho.alloc _) _ 1 1 [(s, q)] rfl (IL.one W s q _) (fun h => by cases h) (by omega) (by simp; omega) ?_; rintro v' W3 h3 k3 _; obtain ⟨hO5, hm5, hkf, hkx, hm6, hO6, ho6, hb6⟩ := hfin v' W3 h3 k3; obtain ⟨A6, c6, hv6, hl6, hx6, _, _⟩ := h3.form; rw [hN] at hv6; subst hv6; have c5 := hO5.at_; have f5 := hO5.fz; have c6 := hm5.at_)
        refine ⟨hkf, hkx, fun j h h' => ?_, hm6, ⟨_, hO6, ho6⟩, hb6⟩
        rw [hN] at h'
        by_cases hj : j = pre.length + 1
        · rw [hj]
          omega
        · exact hne j h (by omega)
  case done =>
    rintro D W hD ⟨hne, hm, ⟨v, hO, ho⟩, hb⟩ hDf
    have c0 := hO.at_
    have hwl : walkL l m = l := by
      unfold walkL
      rw [decide_eq_false]
      intro h
      exact hne m.toNat (by omega) (by omega) (by omega)
    dsimp only
    gi_wp2
    refine ⟨by simp, .inl ⟨_, _, rfl, run_takeDeferred hDf, ?_⟩⟩
    refine ⟨.tuple #[v, .bool true], by simp [results, Try.f33, go_sem], _, rfl, ?_, below_putD hb (by omega) hDf⟩
    rw [hwl]
    exact (ho.mono (by omega)).putD hDf
  case stop =>
    rintro D c pre W hD hpre ⟨rfl, ⟨hp1, hpm⟩, ⟨v, hO, ho⟩, hb⟩ hDf
    have c0 := hO.at_
    have hwl : walkL l m = pre := by
      have hle := hpre.length_le
      unfold walkL
      rw [decide_eq_true (by omega)]
      show l.take m.toNat = pre
      rw [show m.toNat = pre.length by omega]
      exact (List.prefix_iff_eq_take.1 hpre).symm
    dsimp only
    gi_wp2
    refine ⟨by simp, .inl ⟨_, _, rfl, run_takeDeferred hDf, ?_⟩⟩
    refine ⟨.tuple #[v, .bool true], by simp [results, Try.f33, go_sem], _, rfl, ?_, below_putD hb (by omega) hDf⟩
    rw [hwl]
    exact (ho.mono (by omega)).putD hDf
end Go.Proofs.Yteebfnhapnjbjaa
