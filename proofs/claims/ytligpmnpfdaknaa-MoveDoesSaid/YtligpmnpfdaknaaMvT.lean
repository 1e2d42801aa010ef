/- Moves: find. -/
import Derived.Test.YtligpmnpfdaknaaMvN
namespace Go.Proofs.Ytligpmnpfdaknaa
open Go.RowKit Go.Maps Go.Shelf Go.Sort
set_option linter.unusedVariables false
set_option linter.unusedSimpArgs false

theorem keep_turned {w w' : World} {b : Nat} (h : w.mapTurned w' b) : Keep (fun i => i = b) w w' := by
  obtain ⟨es, clock, es', clock', hb, rfl⟩ := h
  exact ⟨rfl, rfl, rfl, by simp [ChangeMaps.setBlock], fun i _ hi => ChangeMaps.heap_setBlock_other hb _ hi⟩
theorem PS.deleted {F : Nat → Prop} {w w' : World} {p b N : Nat} {f : Int → Rec} {ks : List Int} {k : Int} {D : DataW Value} (h : PS F w p b N f ks) (hm : w'.ownsMap Try.prog 3 rR b N (D.del (.int .i64 k))) (hD : PM D f ks) (ht : w.mapTurned w' b) :
    PS F w' p b N (fun i => if i = k then rec0 else f i) (ks.erase k) := by
  have kk := keep_turned ht
  refine ⟨h.pc.kept kk h.ne, ⟨_, hm, hD.del k⟩, h.ne, h.fp, fun i hi => ?_, fun i hi => ?_⟩
  · by_cases e : i = k
    · rw [if_pos e]
    · rw [if_neg e]
      exact h.no i fun m => hi (hD.nd.mem_erase_iff.2 ⟨e, m⟩)
  · obtain ⟨e, m⟩ := hD.nd.mem_erase_iff.1 hi
    rw [if_neg e]
    exact (h.ok i m).kept kk fun g _ _ h3 e3 => h3 e3
set_option maxRecDepth 100000 in
set_option maxHeartbeats 3200000 in
theorem find_yes {F : Nat → Prop} {w : World} {p b N : Nat} {f : Int → Rec} {ks : List Int} (h : PS F w p b N f ks) (k : Int) (hkw : (Lit.int .i64 k).wf = true) (g : k ∈ ks) :
    Calls Try.prog 32 #[.pointer (some ⟨p, 0, none⟩), .int .i64 k] w fun e w' => e = .returned (.tuple #[(f k).v, .int .i64 0]) ∧ Below w.heap.size w w' := by
  have hlk := (h.alloc (.cells #[.int .i64 0, .int .i64 0, .int .i64 0, .slice none 0 0, .bool false] 42)).look hkw
  have hb1 := (Below.refl w.heap.size w).alloc (Nat.le_refl _) (.cells #[.int .i64 0, .int .i64 0, .int .i64 0, .slice none 0 0, .bool false] 42)
  have hpa := pall_any (h.alloc (.cells #[.int .i64 0, .int .i64 0, .int .i64 0, .slice none 0 0, .bool false] 42))
  rw [decide_eq_true g] at hlk
  clear g h
  generalize hr : f k = r0 at *
  obtain ⟨rm, rf, rt, ⟨A0, n0, c0, l0⟩, rc⟩ := r0
  change (Instr.lookup _ _ _ _).run _ _ = Result.ok (.tuple #[.agg #[.int .i64 rm, .int .i64 rf, .int .i64 rt, .slice A0 n0 c0, .bool rc], .bool true]) _ at hlk
  have hb2 := hb1.alloc hb1.size (.cells #[.int .i64 rm, .int .i64 rf, .int .i64 rt, .slice A0 n0 c0, .bool rc] 42)
  have e1 := (Blk.new w 42 #[.int .i64 0, .int .i64 0, .int .i64 0, .slice none 0 0, .bool false]).alloc (.cells #[.int .i64 rm, .int .i64 rf, .int .i64 rt, .slice A0 n0 c0, .bool rc] 42)
  have z0 := e1.cell 0
  have z1 := e1.cell 1
  have z2 := e1.cell 2
  have z3 := e1.cell 3
  have z4 := e1.cell 4
  have zf := fun i => e1.frozen i
  have zl := e1.lt
  simp at z0 z1 z2 z3 z4
  go_enter Try.func32, Try.ntmps32
  go_wp2_with fail
  refine hpa.mono ?_
  rintro e w' ⟨rfl, hww⟩
  subst hww
  clear hpa hr
  go_wp2_with fail
  have hbE := (Below.refl w.heap.size w).alloc (Nat.le_refl _) (.cells #[.int .i64 rm, .int .i64 rf, .int .i64 rt, .slice A0 n0 c0, .bool rc] 42)
  replace hbE := hbE.alloc hbE.size (.cells #[.int .i64 rm, .int .i64 rf, .int .i64 rt, .slice A0 n0 c0, .bool rc] 42)
  refine bodyPost_ret (v := .tuple #[.agg #[.int .i64 rm, .int .i64 rf, .int .i64 rt, .slice A0 n0 c0, .bool rc], .int .i64 0]) (by simp [results, Try.results32, go_sem]) rfl ?_
  exact ⟨rfl, hbE⟩
set_option maxRecDepth 100000 in
set_option maxHeartbeats 3200000 in
theorem find_no {F : Nat → Prop} {w : World} {p b N : Nat} {f : Int → Rec} {ks : List Int} (h : PS F w p b N f ks) (k : Int) (hkw : (Lit.int .i64 k).wf = true) (g : k ∉ ks) :
    Calls Try.prog 32 #[.pointer (some ⟨p, 0, none⟩), .int .i64 k] w fun e w' => e = .returned (.tuple #[rec0.v, .int .i64 4]) ∧ Below w.heap.size w w' := by
  have hlk := (h.alloc (.cells #[.int .i64 0, .int .i64 0, .int .i64 0, .slice none 0 0, .bool false] 42)).look hkw
  have hb1 := (Below.refl w.heap.size w).alloc (Nat.le_refl _) (.cells #[.int .i64 0, .int .i64 0, .int .i64 0, .slice none 0 0, .bool false] 42)
  have hpa := pall_any (h.alloc (.cells #[.int .i64 0, .int .i64 0, .int .i64 0, .slice none 0 0, .bool false] 42))
  rw [h.no k g, decide_eq_false g, rec0_v] at hlk
  rw [rec0_v]
  clear g h
  have hb2 := hb1.alloc hb1.size (.cells #[.int .i64 0, .int .i64 0, .int .i64 0, .slice none 0 0, .bool false] 42)
  have e1 := (Blk.new w 42 #[.int .i64 0, .int .i64 0, .int .i64 0, .slice none 0 0, .bool false]).alloc (.cells #[.int .i64 0, .int .i64 0, .int .i64 0, .slice none 0 0, .bool false] 42)
  have z0 := e1.cell 0
  have z1 := e1.cell 1
  have z2 := e1.cell 2
  have z3 := e1.cell 3
  have z4 := e1.cell 4
  have zf := fun i => e1.frozen i
  have zl := e1.lt
  simp at z0 z1 z2 z3 z4
  go_enter Try.func32, Try.ntmps32
  go_wp2_with fail
  refine hpa.mono ?_
  rintro e w' ⟨rfl, hww⟩
  subst hww
  clear hpa
  go_wp2_with fail
  have hbE := (Below.refl w.heap.size w).alloc (Nat.le_refl _) (.cells #[.int .i64 0, .int .i64 0, .int .i64 0, .slice none 0 0, .bool false] 42)
  replace hbE := hbE.alloc hbE.size (.cells #[.int .i64 0, .int .i64 0, .int .i64 0, .slice none 0 0, .bool false] 42)
  refine bodyPost_ret (v := .tuple #[.agg #[.int .i64 0, .int .i64 0, .int .i64 0, .slice none 0 0, .bool false], .int .i64 4]) (by simp [results, Try.results32, go_sem]) rfl ?_
  exact ⟨rfl, hbE⟩
set_option maxRecDepth 100000 in
set_option maxHeartbeats 3200000 in
theorem find_nil (k : Int) (w : World) (hkw : (Lit.int .i64 k).wf = true) :
    Calls Try.prog 32 #[.pointer none, .int .i64 k] w fun e w' => e = .returned (.tuple #[recZ, .int .i64 6]) ∧ Below w.heap.size w w' := by
  have hlk := look_nilR (w.alloc (.cells #[.int .i64 0, .int .i64 0, .int .i64 0, .slice none 0 0, .bool false] 42)) hkw
  have hb1 := (Below.refl w.heap.size w).alloc (Nat.le_refl _) (.cells #[.int .i64 0, .int .i64 0, .int .i64 0, .slice none 0 0, .bool false] 42)
  have hpa := pall_nil (w.alloc (.cells #[.int .i64 0, .int .i64 0, .int .i64 0, .slice none 0 0, .bool false] 42))
  have hb2 := hb1.alloc hb1.size (.cells #[.int .i64 0, .int .i64 0, .int .i64 0, .slice none 0 0, .bool false] 42)
  have e1 := (Blk.new w 42 #[.int .i64 0, .int .i64 0, .int .i64 0, .slice none 0 0, .bool false]).alloc (.cells #[.int .i64 0, .int .i64 0, .int .i64 0, .slice none 0 0, .bool false] 42)
  have z0 := e1.cell 0
  have z1 := e1.cell 1
  have z2 := e1.cell 2
  have z3 := e1.cell 3
  have z4 := e1.cell 4
  have zf := fun i => e1.frozen i
  have zl := e1.lt
  simp at z0 z1 z2 z3 z4
  go_enter Try.func32, Try.ntmps32
  go_wp2_with fail
  refine hpa.mono ?_
  rintro e w' ⟨rfl, hww⟩
  subst hww
  clear hpa
  go_wp2_with fail
  have hbE := (Below.refl w.heap.size w).alloc (Nat.le_refl _) (.cells #[.int .i64 0, .int .i64 0, .int .i64 0, .slice none 0 0, .bool false] 42)
  replace hbE := hbE.alloc hbE.size (.cells #[.int .i64 0, .int .i64 0, .int .i64 0, .slice none 0 0, .bool false] 42)
  refine bodyPost_ret (v := .tuple #[.agg #[.int .i64 0, .int .i64 0, .int .i64 0, .slice none 0 0, .bool false], .int .i64 6]) (by simp [results, Try.results32, go_sem]) rfl ?_
  exact ⟨rfl, hbE⟩
theorem go_nil (k fr to : Int) (A : Option Addr) (n c : Nat) (w : World) (hkw : (Lit.int .i64 k).wf = true) : Calls Try.prog 9 #[.pointer none, .int .i64 k, .int .i64 fr, .int .i64 to, .slice A n c] w fun e w' => e = .returned (.int .i64 6) ∧ Below w.heap.size w w' := by
  have hl := look_nilR w hkw
  go_enter Try.func9, Try.ntmps9
  go_wp2_with fail
  refine (pall_nil w).mono ?_
  rintro e w' ⟨rfl, hww⟩
  subst hww
  go_wp2
  go_ret
  exact ⟨rfl, (Below.refl _ _).alloc (Nat.le_refl _) _⟩
set_option maxRecDepth 100000 in
theorem come_nil (k : Int) (w : World) (hkw : (Lit.int .i64 k).wf = true) : Calls Try.prog 11 #[.pointer none, .int .i64 k] w fun e w' => e = .returned (.tuple #[.slice none 0 0, .int .i64 6]) ∧ Below w.heap.size w w' := by
  go_enter Try.func11, Try.ntmps11
  go_wp2_with fail
  refine (find_nil k w hkw).mono ?_
  rintro e w1 ⟨rfl, hb⟩
  go_wp2
  go_ret2
  exact ⟨rfl, hb.alloc hb.size _⟩
set_option maxRecDepth 100000 in
theorem forget_nil (k : Int) (w : World) (hkw : (Lit.int .i64 k).wf = true) : Calls Try.prog 14 #[.pointer none, .int .i64 k] w fun e w' => e = .returned (.int .i64 6) ∧ Below w.heap.size w w' := by
  go_enter Try.func14, Try.ntmps14
  go_wp2_with fail
  refine (find_nil k w hkw).mono ?_
  rintro e w1 ⟨rfl, hb⟩
  go_wp2
  go_ret
  exact ⟨rfl, hb.alloc hb.size _⟩
set_option maxRecDepth 100000 in
theorem come_no {F : Nat → Prop} {w : World} {p b N : Nat} {f : Int → Rec} {ks : List Int} (h : PS F w p b N f ks) (k : Int) (hkw : (Lit.int .i64 k).wf = true) (g : k ∉ ks) : Calls Try.prog 11 #[.pointer (some ⟨p, 0, none⟩), .int .i64 k] w fun e w' => e = .returned (.tuple #[.slice none 0 0, .int .i64 4]) ∧ Below w.heap.size w w' := by
  have hf := find_no h k hkw g
  rw [rec0_v] at hf
  go_enter Try.func11, Try.ntmps11
  go_wp2_with fail
  refine hf.mono ?_
  rintro e w1 ⟨rfl, hb⟩
  go_wp2
  go_ret2
  exact ⟨rfl, hb.alloc hb.size _⟩
set_option maxRecDepth 100000 in
theorem forget_no {F : Nat → Prop} {w : World} {p b N : Nat} {f : Int → Rec} {ks : List Int} (h : PS F w p b N f ks) (k : Int) (hkw : (Lit.int .i64 k).wf = true) (g : k ∉ ks) : Calls Try.prog 14 #[.pointer (some ⟨p, 0, none⟩), .int .i64 k] w fun e w' => e = .returned (.int .i64 4) ∧ Below w.heap.size w w' := by
  have hf := find_no h k hkw g
  rw [rec0_v] at hf
  go_enter Try.func14, Try.ntmps14
  go_wp2_with fail
  refine hf.mono ?_
  rintro e w1 ⟨rfl, hb⟩
  go_wp2
  go_ret
  exact ⟨rfl, hb.alloc hb.size _⟩
set_option maxRecDepth 100000 in
theorem come_twice {F : Nat → Prop} {w : World} {p b N : Nat} {f : Int → Rec} {ks : List Int} (h : PS F w p b N f ks) (k : Int) (hkw : (Lit.int .i64 k).wf = true) (g : k ∈ ks) (hc : (f k).c = true) : Calls Try.prog 11 #[.pointer (some ⟨p, 0, none⟩), .int .i64 k] w fun e w' => e = .returned (.tuple #[.slice none 0 0, .int .i64 5]) ∧ Below w.heap.size w w' := by
  have hf := find_yes h k hkw g
  generalize hr : f k = r0 at *
  obtain ⟨rm, rf, rt, ⟨A0, n0, c0, l0⟩, rc⟩ := r0
  obtain rfl : rc = true := hc
  change Calls _ _ _ _ (fun e w' => e = .returned (.tuple #[.agg #[.int .i64 rm, .int .i64 rf, .int .i64 rt, .slice A0 n0 c0, .bool true], .int .i64 0]) ∧ Below w.heap.size w w') at hf
  clear hr
  go_enter Try.func11, Try.ntmps11
  go_wp2_with fail
  refine hf.mono ?_
  rintro e w1 ⟨rfl, hb⟩
  go_wp2
  go_ret2
  exact ⟨rfl, hb.alloc hb.size _⟩
set_option maxRecDepth 100000 in
theorem forget_state {F : Nat → Prop} {w : World} {p b N : Nat} {f : Int → Rec} {ks : List Int} (h : PS F w p b N f ks) (k : Int) (hkw : (Lit.int .i64 k).wf = true) (g : k ∈ ks) (hc : (f k).c = false) : Calls Try.prog 14 #[.pointer (some ⟨p, 0, none⟩), .int .i64 k] w fun e w' => e = .returned (.int .i64 80) ∧ Below w.heap.size w w' := by
  have hf := find_yes h k hkw g
  generalize hr : f k = r0 at *
  obtain ⟨rm, rf, rt, ⟨A0, n0, c0, l0⟩, rc⟩ := r0
  obtain rfl : rc = false := hc
  change Calls _ _ _ _ (fun e w' => e = .returned (.tuple #[.agg #[.int .i64 rm, .int .i64 rf, .int .i64 rt, .slice A0 n0 c0, .bool false], .int .i64 0]) ∧ Below w.heap.size w w') at hf
  clear hr
  go_enter Try.func14, Try.ntmps14
  go_wp2_with fail
  refine hf.mono ?_
  rintro e w1 ⟨rfl, hb⟩
  go_wp2
  go_ret
  exact ⟨rfl, hb.alloc hb.size _⟩
set_option maxRecDepth 100000 in
theorem forget_ok {F : Nat → Prop} {w : World} {p b N : Nat} {f : Int → Rec} {ks : List Int} (h : PS F w p b N f ks) (k : Int) (hkw : (Lit.int .i64 k).wf = true) (g : k ∈ ks) (hc : (f k).c = true) : Calls Try.prog 14 #[.pointer (some ⟨p, 0, none⟩), .int .i64 k] w fun e w' => e = .returned (.int .i64 0) ∧ PS F w' p b N (fun i => if i = k then rec0 else f i) (ks.erase k) ∧ Keep (fun i => i = b) w w' := by
  have hf := find_yes h k hkw g
  obtain ⟨r0, hr⟩ : ∃ r0, f k = r0 := ⟨_, rfl⟩
  rw [hr] at hf hc
  obtain ⟨rm, rf, rt, ⟨A0, n0, c0, l0⟩, rc⟩ := r0
  obtain rfl : rc = true := hc
  change Calls _ _ _ _ (fun e w' => e = .returned (.tuple #[.agg #[.int .i64 rm, .int .i64 rf, .int .i64 rt, .slice A0 n0 c0, .bool true], .int .i64 0]) ∧ Below w.heap.size w w') at hf
  clear hr
  go_enter Try.func14, Try.ntmps14
  go_wp2_with fail
  refine hf.mono ?_
  rintro e w1 ⟨rfl, hb⟩
  have hb2 := hb.alloc hb.size (.cells #[.int .i64 rm, .int .i64 rf, .int .i64 rt, .slice A0 n0 c0, .bool true] 42)
  have hP2 := h.below hb2
  have s1 := hP2.pc.cell 0
  simp at s1
  obtain ⟨D, hm, hD⟩ := hP2.mp
  clear hf
  go_wp2_with (at_delete; refine wpList_delete_own _ rfl _ _ 59 3 rfl 42 (int_keyed Try.underlying3) Try.underlying59 rR b N D rfl hm _ _ rfl (keyI hkw) ?_; intro w4 hm4 hturn4)
  go_ret
  exact ⟨rfl, hP2.deleted hm4 hD hturn4, (Keep.ofB (S := fun i => i = b) hb2).trans (keep_turned hturn4) (fun _ _ e => e)⟩
end Go.Proofs.Ytligpmnpfdaknaa
