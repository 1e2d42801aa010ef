/- Looks of a stock and of the document's rows that say the same. No condition but that both lie in memory. -/
import Derived.Test.YtfpcnenohidfpaaGreatStlL
import Derived.Laws.StructEq
namespace Go.Proofs.YtfpcnenohidfpaaGreat
open Go.RowKit Go.Maps Go.Shelf Go.Sort
set_option linter.unusedVariables false
set_option linter.unusedSimpArgs false
attribute [local go_sem] Oper.semAt_some

theorem func_eqL (d : Nat) (fn : Fn) (first cap : Array Value) (W : World) : (Op.equalIn (d + 1) 63 (.func fn first cap) .nilFunc).run Tryz.prog W = .ok false W := by
  simp [Op.equalIn, run_underlying Tryz.underlying63]
theorem func_eq_nilL (fn : Fn) (first cap : Array Value) (W : World) : (binOp .eql 63 (.func fn first cap) .nilFunc).run Tryz.prog W = .ok (.bool false) W := by
  have h := func_eqL 9999 fn first cap W
  simp only [binOp]
  simp [Op.equal, Op.maxDepth, h]
theorem lev_neq (fr he pi sa : Int) (W : World) : (binOp .neq 40 (.agg #[.int .i64 fr, .int .i64 he, .int .i64 pi, .int .i64 sa]) (.agg #[.int .i64 fr, .int .i64 he, .int .i64 pi, .int .i64 sa])).run Tryz.prog W = .ok (.bool false) W := by
  have hS : Tryz.prog.underlying 40 = some (.struct (Tryz.prog.fieldsOf 40)) := by kernel_rfl
  have hp : Tryz.prog.stoodInHeld 40 = false := by kernel_rfl
  have u3 := Tryz.underlying3
  have a3 := Tryz.isAgg3
  have z3 := Tryz.sizeOf3
  rw [run_neq_struct, show (10000 : Nat) = 9999 + 1 from rfl, run_equalIn_agg W 9999 _ _ _ hS hp]
  simp only [Program.fieldsOf, Tryz.underlying40]
  go_simp
theorem flo_neq (re rt cn cm sh sc se : Int) (W : World) : (binOp .neq 42 (.agg #[.int .i64 re, .int .i64 rt, .int .i64 cn, .int .i64 cm, .int .i64 sh, .int .i64 sc, .int .i64 se]) (.agg #[.int .i64 re, .int .i64 rt, .int .i64 cn, .int .i64 cm, .int .i64 sh, .int .i64 sc, .int .i64 se])).run Tryz.prog W = .ok (.bool false) W := by
  have hS : Tryz.prog.underlying 42 = some (.struct (Tryz.prog.fieldsOf 42)) := by kernel_rfl
  have hp : Tryz.prog.stoodInHeld 42 = false := by kernel_rfl
  have u3 := Tryz.underlying3
  have a3 := Tryz.isAgg3
  have z3 := Tryz.sizeOf3
  rw [run_neq_struct, show (10000 : Nat) = 9999 + 1 from rfl, run_equalIn_agg W 9999 _ _ _ hS hp]
  simp only [Program.fieldsOf, Tryz.underlying42]
  go_simp
theorem keep_ownL {β : Type} (S : Nat → Prop) (w : World) : OwnFrom w.heap.size (fun (_ : β) W => Keep S w W) :=
  fun s A A' row hs hg hr => ⟨hg.os.trans hs.os, hg.tape.trans hs.tape, hg.output.trans hs.output, Nat.le_trans hs.size hg.size, fun k hk hn => (hg.block k (Nat.lt_of_lt_of_le hk hs.size) (fun e => by have := (hr k e.symm).1; omega)).trans (hs.block k hk hn)⟩
theorem blk_rowL {B : Nat} {A A' : World} {row : Option Nat} {g : Nat} {t : TypeId} {cs : Array Value} (h : Blk A g t cs) (hg : A.grownBy A' row) (hr : ∀ r, row = some r → B ≤ r ∧ ∃ o : Obj, A.heap[r]? = some o ∧ o.isCells = false) : Blk A' g t cs :=
  (hg.block g h.lt (fun e => by
    obtain ⟨o, ho, hc⟩ := (hr g e.symm).2
    rw [show A.heap[g]? = _ from h] at ho
    cases ho
    cases hc)).trans h
theorem then_normalL {K : Act → World → Prop} {Q : Exit → Act → World → Prop} {a : Act} {w : World} : Exit.then K Q .normal a w = K a w := rfl
set_option maxRecDepth 100000 in
set_option maxHeartbeats 6400000 in
theorem looks_any {F : Nat → Prop} {w : World} {p b N0 q : Nat} {f : List UInt8 → Row} {ks : List (List UInt8)} (h : ST w p b N0 f ks) (hq : RS F w q (ks.map fun g => (⟨g, f g⟩ : GR))) (hsrt : sortU ks = ks) (hks : ks.length ≤ 64) (hgl : ∀ g ∈ ks, g.length ≤ 16) (hbal : ∀ g ∈ ks, (f g).bal = true) :
    Calls Tryz.prog 7 #[.pointer (some ⟨p, 0, none⟩), .pointer (some ⟨q, 0, none⟩)] w fun e w' => e = .returned (.bool true) ∧ Below w.heap.size w w' := by
  have hfn := func_eq_nilL
  obtain ⟨vx, hV⟩ := hq
  obtain ⟨Ax, cx, rfl, _⟩ := hV.own.form
  obtain ⟨n, hn⟩ : ∃ n, ks.length = n := ⟨_, rfl⟩
  have hrn : (ks.map fun g => (⟨g, f g⟩ : GR)).length = n := by rw [List.length_map, hn]
  rw [hrn] at hV
  rw [hn] at hks
  have hql := hV.pc.lt
  have hpl := h.lt
  obtain ⟨w2, hw2⟩ : ∃ W, (w.alloc (.cells #[.pointer (some ⟨q, 0, none⟩)] 27)).alloc (.cells #[.bool false] 4) = W := ⟨_, rfl⟩
  have hb2 : Below w.heap.size w w2 := by rw [← hw2]; exact ((Below.refl w.heap.size w).alloc (Nat.le_refl _) _).alloc (by simp) _
  refine (callsIn_wide (n := 9)).1 ?_
  refine callsIn_of_wp_marks Tryz.func7 rfl trivial ?_ rfl
  simp only [Tryz.ntmps7, List.size_toArray, List.length_cons, List.length_nil, Nat.reduceAdd, Nat.reduceSub, Array.replicate_succ, Array.replicate_zero, List.push_toArray, List.append_toArray, List.nil_append, List.cons_append]
  have hz2 : w2.heap.size = w.heap.size + 2 := by rw [← hw2]; simp
  have e0 : Blk w2 w.heap.size 27 #[.pointer (some ⟨q, 0, none⟩)] := by rw [← hw2]; exact (Blk.new w _ _).alloc _
  have e1 : Blk w2 (w.heap.size + 1) 4 #[.bool false] := by
    rw [← hw2]
    have := Blk.new (w.alloc (.cells #[.pointer (some ⟨q, 0, none⟩)] 27)) 4 #[.bool false]
    rw [World.size_alloc] at this
    exact this
  have hgoods := goods_any w2 (h.below hb2)
  replace hz2 := Lib.hid hz2
  have c2 := e0.cell 0
  simp only [List.getElem?_toArray, List.getElem?_cons_zero] at c2
  refine wpIn_wide.2 ?_
  go_wp2_with fail
  clear c2
  refine hgoods.mono ?_
  rintro e w3 ⟨rfl, hww⟩
  subst w3
  clear hgoods hw2
  have g0 := (e0.alloc (.cells #[.map (some b)] 48)).alloc (.cells #[.int .i64 0] 3)
  have g1 := (e1.alloc (.cells #[.map (some b)] 48)).alloc (.cells #[.int .i64 0] 3)
  have g2 := cell_old (.cells #[.int .i64 0] 3) (cell_new_a w2 (.map (some b)) 48).1
  have g3 := Blk.new (w2.alloc (.cells #[.map (some b)] 48)) 3 #[.int .i64 0]
  rw [World.size_alloc] at g3
  have hb5 := (hb2.alloc hb2.size (.cells #[.map (some b)] 48)).alloc (by have := hb2.size; simp; omega) (.cells #[.int .i64 0] 3)
  go_wp2
  generalize hW5 : (w2.alloc (.cells #[.map (some b)] 48)).alloc (.cells #[.int .i64 0] 3) = W5 at *
  have hz5a : W5.heap.size = w2.heap.size + 2 := by rw [← hW5]; simp
  have hz5 : w2.heap.size + 2 ≤ W5.heap.size := Nat.le_of_eq hz5a.symm
  have hz5b : W5.heap.size ≤ w2.heap.size + 2 := Nat.le_of_eq hz5a
  clear hz5a
  clear hW5 e0 e1
  have hzA : w.heap.size + 2 ≤ w2.heap.size := Nat.le_of_eq hz2.out.symm
  have hzB : w2.heap.size ≤ w.heap.size + 2 := Nat.le_of_eq hz2.out
  have hST5 := h.below hb5
  have hV0 : RV (fun k => k < w.heap.size) w q (.slice Ax n cx) (ks.map fun g => (⟨g, f g⟩ : GR)) := ⟨hV.pc, hV.own, hV.ne, hV.pc.lt, fun g hg => (hV.own.lt g hg).2⟩
  have hV5 := hV0.below hb5
  have hgs := goods_seq hST5 (by omega) w2.heap.size (fun k => k = w2.heap.size + 1) (fun k e => by omega) g2
  rw [hsrt] at hgs
  replace hn := Lib.hid hn
  clear hV hV0 hsrt hb2 g2
  refine (wpIn_wide (n := 9)).1 ?_
  refine range_own (a := _) (w := W5) (w0 := W5) (gf := 62) (lb := #[.pointer (some ⟨w2.heap.size, 0, none⟩)]) (by first | rfl | simp [go_sem]) (enters_of Tryz.func62 (by kernel_rfl) rfl) hgs (Below.refl _ _) (fun k e => by omega) (fun _ => rfl)
    (fun pre W => pre <+: ks ∧ Keep (fun k => k = w2.heap.size + 1) W5 W ∧ Blk W (w2.heap.size + 1) 3 #[.int .i64 (pre.length : Int)])
    (fun c pre W => False) ?hI ?hIx ⟨List.nil_prefix, Keep.refl _ _, g3⟩ ?round ?done ?stop
  case hI => exact fun s A A' row h hg hr => ⟨h.1, keep_ownL (β := List (List UInt8)) _ W5 s A A' row h.2.1 hg hr, blk_rowL h.2.2 hg hr⟩
  case hIx => exact fun c s A A' row h hg hr => h
  case round =>
    apply Exists.intro
    constructor
    · intro l' x W K hK
      gi_wp2
      exact hK
    · rintro l' pre s W hpre hz ⟨hp1, hk, hi⟩
      obtain ⟨j, hj⟩ : ∃ j, pre.length = j := ⟨_, rfl⟩
      have hlx : ks[j]? = some s := by
        obtain ⟨r, hr⟩ := hpre
        rw [← hr, ← hj]
        simp
      have hjn : j < n := by
        have := (List.getElem?_eq_some_iff.1 hlx).1
        have := hn.out
        omega
      rw [hj] at hi
      have hjz : decide (n ≤ j) = false := decide_eq_false (by omega)
      have hjz2 : decide ((n : Int) ≤ (j : Int)) = false := decide_eq_false (by omega)
      have hjz3 : (0 : Int) ≤ (j : Int) := by omega
      have hjz4 : (j : Int) < (n : Int) := by omega
      have hVW := hV5.kept hk (fun i e e2 => by omega)
      obtain ⟨Ax', cx', hvx, _, _, hcs⟩ := hVW.own.form
      simp only [Value.slice.injEq] at hvx
      obtain ⟨rfl, -, rfl⟩ := hvx
      obtain ⟨gb, rfl, hc2⟩ := hcs j ⟨s, f s⟩ (by rw [List.getElem?_map, hlx]; rfl)
      have c7 := hc2 0 _ rfl
      rw [Nat.add_zero] at c7
      have c4 := hVW.pc.cell 0
      have c3 := (g0.kept hk (by omega)).cell 0
      have c6 := hi.cell 0
      simp only [List.getElem?_toArray, List.getElem?_cons_zero] at c3 c4 c6
      change W.cell? ⟨gb, j * 12, none⟩ = some (.string ⟨s.toArray⟩) at c7
      have hiD := hi.drew
      have kD : Keep (fun k => k = w2.heap.size + 1) W W.drew := Keep.ofB (S := fun k => k = w2.heap.size + 1) (Below.refl W.heap.size W).drew
      have hpre2 := hpre
      clear hcs hc2 hVW hlx hp1 hi
      gi_wp2
      refine wpIn_region_round (S := (fun W => W.cell? ⟨w.heap.size, 0, none⟩ = some (.pointer (some ⟨q, 0, none⟩)) ∧ W.cell? ⟨q, 0, none⟩ = some (.slice (some ⟨gb, 0, none⟩) n cx) ∧ W.cell? ⟨w2.heap.size + 1, 0, none⟩ = some (.int .i64 (j : Int)) ∧ W.cell? ⟨gb, j * 12, none⟩ = some (.string ⟨s.toArray⟩))) (by kernel_rfl) (by kernel_rfl) (by rintro ⟨a, w, h⟩; exact h) ⟨c3, c4, c6, c7⟩ (fun hHeld => ?_)
      clear c3 c4 c6 c7
      generalize hWd : W.drew = wz at *
      (refine tkI 0 (by (simp only [List.getElem?_toArray, List.getElem?_cons_succ, List.getElem?_cons_zero]; rfl)) (by kernel_rfl) (by kernel_rfl) (by kernel_rfl) (by exact fun _ _ _ h => h) (by rfl) (by (intro w hSw; (try dsimp only at hSw); go_simp <;> with_reducible rfl)) (by assumption) ?_; try simp only [Act.put, List.setIfInBounds_toArray, List.set_cons_zero, List.set_cons_succ])
      (refine tkI 1 (by (simp only [List.getElem?_toArray, List.getElem?_cons_succ, List.getElem?_cons_zero]; rfl)) (by kernel_rfl) (by kernel_rfl) (by kernel_rfl) (by exact fun _ _ _ h => h) (by rfl) (by (intro w hSw; (try dsimp only at hSw); go_simp <;> with_reducible rfl)) (by assumption) ?_; try simp only [Act.put, List.setIfInBounds_toArray, List.set_cons_zero, List.set_cons_succ])
      (refine tkI 2 (by (simp only [List.getElem?_toArray, List.getElem?_cons_succ, List.getElem?_cons_zero]; rfl)) (by kernel_rfl) (by kernel_rfl) (by kernel_rfl) (by exact fun _ _ _ h => h) (by rfl) (by (intro w hSw; (try dsimp only at hSw); go_simp <;> with_reducible rfl)) (by assumption) ?_; try simp only [Act.put, List.setIfInBounds_toArray, List.set_cons_zero, List.set_cons_succ])
      (refine tkI 3 (by (simp only [List.getElem?_toArray, List.getElem?_cons_succ, List.getElem?_cons_zero]; rfl)) (by kernel_rfl) (by kernel_rfl) (by kernel_rfl) (by exact fun _ _ _ h => h) (by rfl) (by (intro w hSw; (try dsimp only at hSw); go_simp <;> with_reducible rfl)) (by assumption) ?_; try simp only [Act.put, List.setIfInBounds_toArray, List.set_cons_zero, List.set_cons_succ])
      (refine tkI 4 (by (simp only [List.getElem?_toArray, List.getElem?_cons_succ, List.getElem?_cons_zero]; rfl)) (by kernel_rfl) (by kernel_rfl) (by kernel_rfl) (by exact fun _ _ _ h => h) (by rfl) (by (intro w hSw; (try dsimp only at hSw); go_simp <;> with_reducible rfl)) (by assumption) ?_; try simp only [Act.put, List.setIfInBounds_toArray, List.set_cons_zero, List.set_cons_succ])
      (refine tkI 5 (by (simp only [List.getElem?_toArray, List.getElem?_cons_succ, List.getElem?_cons_zero]; rfl)) (by kernel_rfl) (by kernel_rfl) (by kernel_rfl) (by exact fun _ _ _ h => h) (by rfl) (by (intro w hSw; (try dsimp only at hSw); go_simp <;> with_reducible rfl)) (by assumption) ?_; try simp only [Act.put, List.setIfInBounds_toArray, List.set_cons_zero, List.set_cons_succ])
      (refine tkI 6 (by (simp only [List.getElem?_toArray, List.getElem?_cons_succ, List.getElem?_cons_zero]; rfl)) (by kernel_rfl) (by kernel_rfl) (by kernel_rfl) (by exact fun _ _ _ h => h) (by rfl) (by (intro w hSw; (try dsimp only at hSw); go_simp <;> with_reducible rfl)) (by assumption) ?_; try simp only [Act.put, List.setIfInBounds_toArray, List.set_cons_zero, List.set_cons_succ])
      (refine tkI 7 (by (simp only [List.getElem?_toArray, List.getElem?_cons_succ, List.getElem?_cons_zero]; rfl)) (by kernel_rfl) (by kernel_rfl) (by kernel_rfl) (by exact fun _ _ _ h => h) (by rfl) (by (intro w hSw; (try dsimp only at hSw); go_simp <;> with_reducible rfl)) (by assumption) ?_; try simp only [Act.put, List.setIfInBounds_toArray, List.set_cons_zero, List.set_cons_succ])
      (refine tkI 8 (by (simp only [List.getElem?_toArray, List.getElem?_cons_succ, List.getElem?_cons_zero]; rfl)) (by kernel_rfl) (by kernel_rfl) (by kernel_rfl) (by exact fun _ _ _ h => h) (by rfl) (by (intro w hSw; (try dsimp only at hSw); go_simp <;> with_reducible rfl)) (by assumption) ?_; try simp only [Act.put, List.setIfInBounds_toArray, List.set_cons_zero, List.set_cons_succ])
      (refine tkI 9 (by (simp only [List.getElem?_toArray, List.getElem?_cons_succ, List.getElem?_cons_zero]; rfl)) (by kernel_rfl) (by kernel_rfl) (by kernel_rfl) (by exact fun _ _ _ h => h) (by rfl) (by (intro w hSw; (try dsimp only at hSw); go_simp <;> with_reducible rfl)) (by assumption) ?_; try simp only [Act.put, List.setIfInBounds_toArray, List.set_cons_zero, List.set_cons_succ])
      (refine tkI 10 (by (simp only [List.getElem?_toArray, List.getElem?_cons_succ, List.getElem?_cons_zero]; rfl)) (by kernel_rfl) (by kernel_rfl) (by kernel_rfl) (by exact fun _ _ _ h => h) (by rfl) (by (intro w hSw; (try dsimp only at hSw); go_simp <;> with_reducible rfl)) (by assumption) ?_; try simp only [Act.put, List.setIfInBounds_toArray, List.set_cons_zero, List.set_cons_succ])
      (refine tkI 11 (by (simp only [List.getElem?_toArray, List.getElem?_cons_succ, List.getElem?_cons_zero]; rfl)) (by kernel_rfl) (by kernel_rfl) (by kernel_rfl) (by exact fun _ _ _ h => h) (by rfl) (by (intro w hSw; (try dsimp only at hSw); go_simp <;> with_reducible rfl)) (by assumption) ?_; try simp only [Act.put, List.setIfInBounds_toArray, List.set_cons_zero, List.set_cons_succ])
      (refine tkI 12 (by (simp only [List.getElem?_toArray, List.getElem?_cons_succ, List.getElem?_cons_zero]; rfl)) (by kernel_rfl) (by kernel_rfl) (by kernel_rfl) (by exact fun _ _ _ h => h) (by rfl) (by (intro w hSw; (try dsimp only at hSw); go_simp <;> with_reducible rfl)) (by assumption) ?_; try simp only [Act.put, List.setIfInBounds_toArray, List.set_cons_zero, List.set_cons_succ])
      (refine tkI 13 (by (simp only [List.getElem?_toArray, List.getElem?_cons_succ, List.getElem?_cons_zero]; rfl)) (by kernel_rfl) (by kernel_rfl) (by kernel_rfl) (by exact fun _ _ _ h => h) (by rfl) (by (intro w hSw; (try dsimp only at hSw); go_simp <;> with_reducible rfl)) (by assumption) ?_; try simp only [Act.put, List.setIfInBounds_toArray, List.set_cons_zero, List.set_cons_succ])
      (refine tkI 14 (by (simp only [List.getElem?_toArray, List.getElem?_cons_succ, List.getElem?_cons_zero]; rfl)) (by kernel_rfl) (by kernel_rfl) (by kernel_rfl) (by exact fun _ _ _ h => h) (by rfl) (by (intro w hSw; (try dsimp only at hSw); go_simp <;> with_reducible rfl)) (by assumption) ?_; try simp only [Act.put, List.setIfInBounds_toArray, List.set_cons_zero, List.set_cons_succ])
      (refine tkI 15 (by (simp only [List.getElem?_toArray, List.getElem?_cons_succ, List.getElem?_cons_zero]; rfl)) (by kernel_rfl) (by kernel_rfl) (by kernel_rfl) (by exact fun _ _ _ h => h) (by rfl) (by (intro w hSw; (try dsimp only at hSw); go_simp <;> with_reducible rfl)) (by assumption) ?_; try simp only [Act.put, List.setIfInBounds_toArray, List.set_cons_zero, List.set_cons_succ])
      (refine tkI 16 (by (simp only [List.getElem?_toArray, List.getElem?_cons_succ, List.getElem?_cons_zero]; rfl)) (by kernel_rfl) (by kernel_rfl) (by kernel_rfl) (by exact fun _ _ _ h => h) (by rfl) (by (intro w hSw; (try dsimp only at hSw); go_simp <;> with_reducible rfl)) (by assumption) ?_; try simp only [Act.put, List.setIfInBounds_toArray, List.set_cons_zero, List.set_cons_succ])
      (refine tkI 17 (by (simp only [List.getElem?_toArray, List.getElem?_cons_succ, List.getElem?_cons_zero]; rfl)) (by kernel_rfl) (by kernel_rfl) (by kernel_rfl) (by exact fun _ _ _ h => h) (by rfl) (by (intro w hSw; (try dsimp only at hSw); go_simp <;> with_reducible rfl)) (by assumption) ?_; try simp only [Act.put, List.setIfInBounds_toArray, List.set_cons_zero, List.set_cons_succ])
      (refine tkI 18 (by (simp only [List.getElem?_toArray, List.getElem?_cons_succ, List.getElem?_cons_zero]; rfl)) (by kernel_rfl) (by kernel_rfl) (by kernel_rfl) (by exact fun _ _ _ h => h) (by rfl) (by (intro w hSw; (try dsimp only at hSw); go_simp <;> with_reducible rfl)) (by assumption) ?_; try simp only [Act.put, List.setIfInBounds_toArray, List.set_cons_zero, List.set_cons_succ])
      refine wpAnyH_done (by kernel_rfl) ?_ _
      have d0 := hiD.cell 0
      have df := hiD.frozen 0
      have dl := hiD.lt
      simp only [List.getElem?_toArray, List.getElem?_cons_zero] at d0
      have hset := hiD.set_ 0 (.int .i64 ((j : Int) + 1))
      simp only [List.setIfInBounds_toArray, List.set_cons_zero] at hset
      have kS := kD.trans ((Keep.refl (fun k => k = w2.heap.size + 1) wz).setCell (p := ⟨w2.heap.size + 1, 0, none⟩) (fun _ => rfl) (.int .i64 ((j : Int) + 1))) (fun _ _ e => e)
      clear hHeld
      gi_wp2
      refine ⟨kS, hpre2, hk.trans kS (fun _ _ e => e), ?_⟩
      rw [List.length_append, hj, List.length_singleton]
      exact hset
  case done =>
    rintro D W hD ⟨-, hk, hi⟩ hDf
    rw [hn.out] at hi
    have hVW := hV5.kept hk (fun i e e2 => by omega)
    have hSTW := hST5.kept hk (by omega) (by omega)
    have he0 := g0.kept hk (by omega)
    have he1 := g1.kept hk (by omega)
    have hbW := hb5.trans (hk.below (B := w.heap.size) hb5.size (fun i hi e => by omega))
    have hDl := (Array.getElem?_eq_some_iff.1 hDf).1
    clear hV5 hST5 g0 g1 hk hb5
    go_wp2
    go_loopw [8] (fun i wr => ∃ k : Nat, i = .int .i64 (k : Int) ∧ k ≤ n ∧ Below W.heap.size W wr) (fun i _ => n - (intOf i).toNat)
    case atStart => exact ⟨0, by go_num, by omega, Below.refl _ _⟩
    case round =>
      obtain ⟨k, rfl, hkn, hbr⟩ := hrel
      have hV1 := hVW.below hbr
      have a0 := (he0.kept (Keep.of_below hbr) (Nat.not_le.2 he0.lt)).cell 0
      have a1 := hV1.pc.cell 0
      simp only [List.getElem?_toArray, List.getElem?_cons_zero] at a0 a1
      by_cases hlt : k < n
      · as_aux_lemma =>
        have hlz : (k : Int) < (n : Int) := by omega
        have hk0 : (0 : Int) ≤ (k : Int) := by omega
        obtain ⟨s, hs⟩ : ∃ s, ks[k]? = some s := ⟨_, List.getElem?_eq_getElem (by have := hn.out; omega)⟩
        have hsm := List.mem_of_getElem? hs
        have hslen := hgl s hsm
        obtain ⟨Ax', cx', hvx, _, _, hcs⟩ := hV1.own.form
        simp only [Value.slice.injEq] at hvx
        obtain ⟨rfl, -, rfl⟩ := hvx
        obtain ⟨gb, rfl, hc2⟩ := hcs k ⟨s, f s⟩ (by rw [List.getElem?_map, hs]; rfl)
        have hbb := hbal s hsm
        have hlev := fun U (hU : Below wr.heap.size wr U) => level_any U ((hSTW.below hbr).below hU) s (by unfold maxLen; omega)
        have hflo := fun U (hU : Below wr.heap.size wr U) => flow_any U ((hSTW.below hbr).below hU) s (by unfold maxLen; omega)
        obtain ⟨r, hr⟩ : ∃ r, f s = r := ⟨_, rfl⟩
        rw [hr] at hc2 hbb hlev hflo
        obtain ⟨fr, he, pi, sa, re, rt, cn, cm, sh, sc, se⟩ := r
        dsimp only at hlev hflo
        unfold Row.bal at hbb
        dsimp only at hbb
        have hba := fun U => balanced_any fr he pi sa re rt cn cm sh sc se U
        rw [hbb] at hba
        have q0 := hc2 0 _ rfl
        have q1 := hc2 1 _ rfl
        have q2 := hc2 2 _ rfl
        have q3 := hc2 3 _ rfl
        have q4 := hc2 4 _ rfl
        have q5 := hc2 5 _ rfl
        have q6 := hc2 6 _ rfl
        have q7 := hc2 7 _ rfl
        have q8 := hc2 8 _ rfl
        have q9 := hc2 9 _ rfl
        have q10 := hc2 10 _ rfl
        have q11 := hc2 11 _ rfl
        rw [Nat.add_zero] at q0
        have hln := lev_neq fr he pi sa
        have hfl := flo_neq re rt cn cm sh sc se
        have hB0 := Blk.new wr 59 #[.string ⟨s.toArray⟩, .int .i64 fr, .int .i64 he, .int .i64 pi, .int .i64 sa, .int .i64 re, .int .i64 rt, .int .i64 cn, .int .i64 cm, .int .i64 sh, .int .i64 sc, .int .i64 se]
        have hbA := hbr.alloc hbr.size (.cells #[.string ⟨s.toArray⟩, .int .i64 fr, .int .i64 he, .int .i64 pi, .int .i64 sa, .int .i64 re, .int .i64 rt, .int .i64 cn, .int .i64 cm, .int .i64 sh, .int .i64 sc, .int .i64 se] 59)
        have hbA2 := (Below.refl wr.heap.size wr).alloc (Nat.le_refl _) (.cells #[.string ⟨s.toArray⟩, .int .i64 fr, .int .i64 he, .int .i64 pi, .int .i64 sa, .int .i64 re, .int .i64 rt, .int .i64 cn, .int .i64 cm, .int .i64 sh, .int .i64 sc, .int .i64 se] 59)
        clear hcs hc2 hr hbal hgl hV1 hVW hSTW
        go_upto_region 14 with fail
        clear q0 q1 q2 q3 q4 q5 q6 q7 q8 q9 q10 q11 a0 a1
        obtain ⟨rb, hrb⟩ : ∃ rb, wr.heap.size = rb := ⟨_, rfl⟩
        obtain ⟨W3, hW3⟩ : ∃ W3, wr.alloc (.cells #[.string ⟨s.toArray⟩, .int .i64 fr, .int .i64 he, .int .i64 pi, .int .i64 sa, .int .i64 re, .int .i64 rt, .int .i64 cn, .int .i64 cm, .int .i64 sh, .int .i64 sc, .int .i64 se] 59) = W3 := ⟨_, rfl⟩
        rw [hW3] at hB0 hbA hbA2 ⊢
        have hz0 := hbA2.drew
        replace hB0 := hB0.drew
        try rw [hrb]
        rw [hrb] at hB0
        clear hW3
        have hbz := hz0
        refine wp_calm ?_
        refine wp_region_held_drew (S := (fun W => W.cell? ⟨rb, 0, none⟩ = some (.string ⟨s.toArray⟩) ∧ W.cell? ⟨rb, 1, none⟩ = some (.int .i64 fr) ∧ W.cell? ⟨rb, 2, none⟩ = some (.int .i64 he) ∧ W.cell? ⟨rb, 3, none⟩ = some (.int .i64 pi) ∧ W.cell? ⟨rb, 4, none⟩ = some (.int .i64 sa) ∧ W.cell? ⟨rb, 5, none⟩ = some (.int .i64 re) ∧ W.cell? ⟨rb, 6, none⟩ = some (.int .i64 rt) ∧ W.cell? ⟨rb, 7, none⟩ = some (.int .i64 cn) ∧ W.cell? ⟨rb, 8, none⟩ = some (.int .i64 cm) ∧ W.cell? ⟨rb, 9, none⟩ = some (.int .i64 sh) ∧ W.cell? ⟨rb, 10, none⟩ = some (.int .i64 sc) ∧ W.cell? ⟨rb, 11, none⟩ = some (.int .i64 se))) (by kernel_rfl) (growS hB0) (fun hHeld => ?_)
        generalize W3.drew = wz at *
        have hy0 := Below.refl wz.heap.size wz
        (refine tkI 0 (by (simp only [List.getElem?_toArray, List.getElem?_cons_succ, List.getElem?_cons_zero]; rfl)) (by kernel_rfl) (by kernel_rfl) (by kernel_rfl) (by exact fun _ _ _ h => h) (by rfl) (by (intro w hSw; (try dsimp only at hSw); go_simp <;> with_reducible rfl)) (by assumption) ?_; try simp only [Act.put, List.setIfInBounds_toArray, List.set_cons_zero, List.set_cons_succ])
        (refine tkI 1 (by (simp only [List.getElem?_toArray, List.getElem?_cons_succ, List.getElem?_cons_zero]; rfl)) (by kernel_rfl) (by kernel_rfl) (by kernel_rfl) (by exact fun _ _ _ h => h) (by rfl) (by (intro w hSw; (try dsimp only at hSw); go_simp <;> with_reducible rfl)) (by assumption) ?_; try simp only [Act.put, List.setIfInBounds_toArray, List.set_cons_zero, List.set_cons_succ])
        (refine tkI 2 (by (simp only [List.getElem?_toArray, List.getElem?_cons_succ, List.getElem?_cons_zero]; rfl)) (by kernel_rfl) (by kernel_rfl) (by kernel_rfl) (by exact fun _ _ _ h => h) (by rfl) (by (intro w hSw; (try dsimp only at hSw); go_simp <;> with_reducible rfl)) (by assumption) ?_; try simp only [Act.put, List.setIfInBounds_toArray, List.set_cons_zero, List.set_cons_succ])
        (refine tkI 4 (by (simp only [List.getElem?_toArray, List.getElem?_cons_succ, List.getElem?_cons_zero]; rfl)) (by kernel_rfl) (by kernel_rfl) (by kernel_rfl) (by exact fun _ _ _ h => h) (by rfl) (by (intro w hSw; (try dsimp only at hSw); go_simp <;> with_reducible rfl)) (by assumption) ?_; try simp only [Act.put, List.setIfInBounds_toArray, List.set_cons_zero, List.set_cons_succ])
        (refine tkI 5 (by (simp only [List.getElem?_toArray, List.getElem?_cons_succ, List.getElem?_cons_zero]; rfl)) (by kernel_rfl) (by kernel_rfl) (by kernel_rfl) (by exact fun _ _ _ h => h) (by rfl) (by (intro w hSw; (try dsimp only at hSw); go_simp <;> with_reducible rfl)) (by assumption) ?_; try simp only [Act.put, List.setIfInBounds_toArray, List.set_cons_zero, List.set_cons_succ])
        refine wpAnyH_ready (rs := [3]) (by kernel_rfl) (by simp) ?_
        refine AllReadyH.cons (by (simp only [List.getElem?_toArray, List.getElem?_cons_succ, List.getElem?_cons_zero]; rfl)) (fun K hK => ?_) AllReadyH.nil
        go_simp
        refine (hlev _ hz0).mono ?_
        rintro e u1 ⟨rfl, hx1⟩
        have hz1 := hz0.trans (hx1.mono hz0.size)
        have hy1 := hy0.trans (hx1.mono hy0.size)
        have hB1 := hB0.kept (Keep.of_below hy1) (Nat.not_le.2 hB0.lt)
        refine hK.out _ _ (growS hB1) (fun hHeld2 => ?_)
        clear hK K hHeld
        have hHeld := hHeld2
        clear hHeld2
        try simp only [Act.put, List.setIfInBounds_toArray, List.set_cons_zero, List.set_cons_succ]
        (refine tkI 6 (by (simp only [List.getElem?_toArray, List.getElem?_cons_succ, List.getElem?_cons_zero]; rfl)) (by kernel_rfl) (by kernel_rfl) (by kernel_rfl) (by exact fun _ _ _ h => h) (by rfl) (by (intro w hSw; (try dsimp only at hSw); go_simp <;> with_reducible rfl)) (by assumption) ?_; try simp only [Act.put, List.setIfInBounds_toArray, List.set_cons_zero, List.set_cons_succ])
        (refine tkI 7 (by (simp only [List.getElem?_toArray, List.getElem?_cons_succ, List.getElem?_cons_zero]; rfl)) (by kernel_rfl) (by kernel_rfl) (by kernel_rfl) (by exact fun _ _ _ h => h) (by rfl) (by (intro w hSw; (try dsimp only at hSw); go_simp <;> with_reducible rfl)) (by assumption) ?_; try simp only [Act.put, List.setIfInBounds_toArray, List.set_cons_zero, List.set_cons_succ])
        (refine tkI 8 (by (simp only [List.getElem?_toArray, List.getElem?_cons_succ, List.getElem?_cons_zero]; rfl)) (by kernel_rfl) (by kernel_rfl) (by kernel_rfl) (by exact fun _ _ _ h => h) (by rfl) (by (intro w hSw; (try dsimp only at hSw); go_simp <;> with_reducible rfl)) (by assumption) ?_; try simp only [Act.put, List.setIfInBounds_toArray, List.set_cons_zero, List.set_cons_succ])
        (refine tkI 9 (by (simp only [List.getElem?_toArray, List.getElem?_cons_succ, List.getElem?_cons_zero]; rfl)) (by kernel_rfl) (by kernel_rfl) (by kernel_rfl) (by exact fun _ _ _ h => h) (by rfl) (by (intro w hSw; (try dsimp only at hSw); go_simp <;> with_reducible rfl)) (by assumption) ?_; try simp only [Act.put, List.setIfInBounds_toArray, List.set_cons_zero, List.set_cons_succ])
        (refine tkI 10 (by (simp only [List.getElem?_toArray, List.getElem?_cons_succ, List.getElem?_cons_zero]; rfl)) (by kernel_rfl) (by kernel_rfl) (by kernel_rfl) (by exact fun _ _ _ h => h) (by rfl) (by (intro w hSw; (try dsimp only at hSw); go_simp <;> with_reducible rfl)) (by assumption) ?_; try simp only [Act.put, List.setIfInBounds_toArray, List.set_cons_zero, List.set_cons_succ])
        (refine tkI 12 (by (simp only [List.getElem?_toArray, List.getElem?_cons_succ, List.getElem?_cons_zero]; rfl)) (by kernel_rfl) (by kernel_rfl) (by kernel_rfl) (by exact fun _ _ _ h => h) (by rfl) (by (intro w hSw; (try dsimp only at hSw); go_simp <;> with_reducible rfl)) (by assumption) ?_; try simp only [Act.put, List.setIfInBounds_toArray, List.set_cons_zero, List.set_cons_succ])
        (refine tkI 13 (by (simp only [List.getElem?_toArray, List.getElem?_cons_succ, List.getElem?_cons_zero]; rfl)) (by kernel_rfl) (by kernel_rfl) (by kernel_rfl) (by exact fun _ _ _ h => h) (by rfl) (by (intro w hSw; (try dsimp only at hSw); go_simp <;> with_reducible rfl)) (by assumption) ?_; try simp only [Act.put, List.setIfInBounds_toArray, List.set_cons_zero, List.set_cons_succ])
        refine wpAnyH_ready (rs := [11]) (by kernel_rfl) (by simp) ?_
        refine AllReadyH.cons (by (simp only [List.getElem?_toArray, List.getElem?_cons_succ, List.getElem?_cons_zero]; rfl)) (fun K hK => ?_) AllReadyH.nil
        go_simp
        refine (hflo _ hz1).mono ?_
        rintro e u2 ⟨rfl, hx2⟩
        have hz2 := hz1.trans (hx2.mono hz1.size)
        have hy2 := hy1.trans (hx2.mono hy1.size)
        have hB2 := hB0.kept (Keep.of_below hy2) (Nat.not_le.2 hB0.lt)
        refine hK.out _ _ (growS hB2) (fun hHeld2 => ?_)
        clear hK K hHeld
        have hHeld := hHeld2
        clear hHeld2
        try simp only [Act.put, List.setIfInBounds_toArray, List.set_cons_zero, List.set_cons_succ]
        (refine tkI 14 (by (simp only [List.getElem?_toArray, List.getElem?_cons_succ, List.getElem?_cons_zero]; rfl)) (by kernel_rfl) (by kernel_rfl) (by kernel_rfl) (by exact fun _ _ _ h => h) (by rfl) (by (intro w hSw; (try dsimp only at hSw); go_simp <;> with_reducible rfl)) (by assumption) ?_; try simp only [Act.put, List.setIfInBounds_toArray, List.set_cons_zero, List.set_cons_succ])
        (refine tkI 15 (by (simp only [List.getElem?_toArray, List.getElem?_cons_succ, List.getElem?_cons_zero]; rfl)) (by kernel_rfl) (by kernel_rfl) (by kernel_rfl) (by exact fun _ _ _ h => h) (by rfl) (by (intro w hSw; (try dsimp only at hSw); go_simp <;> with_reducible rfl)) (by assumption) ?_; try simp only [Act.put, List.setIfInBounds_toArray, List.set_cons_zero, List.set_cons_succ])
        (refine tkI 16 (by (simp only [List.getElem?_toArray, List.getElem?_cons_succ, List.getElem?_cons_zero]; rfl)) (by kernel_rfl) (by kernel_rfl) (by kernel_rfl) (by exact fun _ _ _ h => h) (by rfl) (by (intro w hSw; (try dsimp only at hSw); go_simp <;> with_reducible rfl)) (by assumption) ?_; try simp only [Act.put, List.setIfInBounds_toArray, List.set_cons_zero, List.set_cons_succ])
        (refine tkI 17 (by (simp only [List.getElem?_toArray, List.getElem?_cons_succ, List.getElem?_cons_zero]; rfl)) (by kernel_rfl) (by kernel_rfl) (by kernel_rfl) (by exact fun _ _ _ h => h) (by rfl) (by (intro w hSw; (try dsimp only at hSw); go_simp <;> with_reducible rfl)) (by assumption) ?_; try simp only [Act.put, List.setIfInBounds_toArray, List.set_cons_zero, List.set_cons_succ])
        (refine tkI 18 (by (simp only [List.getElem?_toArray, List.getElem?_cons_succ, List.getElem?_cons_zero]; rfl)) (by kernel_rfl) (by kernel_rfl) (by kernel_rfl) (by exact fun _ _ _ h => h) (by rfl) (by (intro w hSw; (try dsimp only at hSw); go_simp <;> with_reducible rfl)) (by assumption) ?_; try simp only [Act.put, List.setIfInBounds_toArray, List.set_cons_zero, List.set_cons_succ])
        (refine tkI 19 (by (simp only [List.getElem?_toArray, List.getElem?_cons_succ, List.getElem?_cons_zero]; rfl)) (by kernel_rfl) (by kernel_rfl) (by kernel_rfl) (by exact fun _ _ _ h => h) (by rfl) (by (intro w hSw; (try dsimp only at hSw); go_simp <;> with_reducible rfl)) (by assumption) ?_; try simp only [Act.put, List.setIfInBounds_toArray, List.set_cons_zero, List.set_cons_succ])
        (refine tkI 20 (by (simp only [List.getElem?_toArray, List.getElem?_cons_succ, List.getElem?_cons_zero]; rfl)) (by kernel_rfl) (by kernel_rfl) (by kernel_rfl) (by exact fun _ _ _ h => h) (by rfl) (by (intro w hSw; (try dsimp only at hSw); go_simp <;> with_reducible rfl)) (by assumption) ?_; try simp only [Act.put, List.setIfInBounds_toArray, List.set_cons_zero, List.set_cons_succ])
        refine wpAnyH_ready (rs := [21]) (by kernel_rfl) (by simp) ?_
        refine AllReadyH.cons (by (simp only [List.getElem?_toArray, List.getElem?_cons_succ, List.getElem?_cons_zero]; rfl)) (fun K hK => ?_) AllReadyH.nil
        go_simp
        refine (hba _).mono ?_
        rintro e u3 ⟨rfl, hx3⟩
        have hz3 := hz2.trans (hx3.mono hz2.size)
        have hy3 := hy2.trans (hx3.mono hy2.size)
        have hB3 := hB0.kept (Keep.of_below hy3) (Nat.not_le.2 hB0.lt)
        refine hK.out _ _ (growS hB3) (fun hHeld2 => ?_)
        clear hK K hHeld
        have hHeld := hHeld2
        clear hHeld2
        try simp only [Act.put, List.setIfInBounds_toArray, List.set_cons_zero, List.set_cons_succ]
        (refine tkI 22 (by (simp only [List.getElem?_toArray, List.getElem?_cons_succ, List.getElem?_cons_zero]; rfl)) (by kernel_rfl) (by kernel_rfl) (by kernel_rfl) (by exact fun _ _ _ h => h) (by rfl) (by (intro w hSw; (try dsimp only at hSw); go_simp <;> with_reducible rfl)) (by assumption) ?_; try simp only [Act.put, List.setIfInBounds_toArray, List.set_cons_zero, List.set_cons_succ])
        (refine tkI 23 (by (simp only [List.getElem?_toArray, List.getElem?_cons_succ, List.getElem?_cons_zero]; rfl)) (by kernel_rfl) (by kernel_rfl) (by kernel_rfl) (by exact fun _ _ _ h => h) (by rfl) (by (intro w hSw; (try dsimp only at hSw); go_simp <;> with_reducible rfl)) (by assumption) ?_; try simp only [Act.put, List.setIfInBounds_toArray, List.set_cons_zero, List.set_cons_succ])
        refine wpAnyH_done (by kernel_rfl) ?_ _
        try rw [then_normalL]
        have hbF := hbr.trans (hz3.mono hbr.size)
        clear hHeld hB0 hB1 hB2 hB3 hlev hflo hba hln hfl hy0 hy1 hy2 hy3 hx1 hx2 hx3 hbA hbA2
        go_wp2
        go_roundw
        case measure => simp [intOf]; omega
        case rel => exact ⟨k + 1, by go_num, by omega, hbF⟩
      · as_aux_lemma =>
        have hlz : ¬ (k : Int) < (n : Int) := by omega
        have hi1 := hi.kept (Keep.of_below hbr) (Nat.not_le.2 hi.lt)
        have hr1 := he1.kept (Keep.of_below hbr) (Nat.not_le.2 he1.lt)
        have i0 := hi1.cell 0
        have r0 := hr1.cell 0
        simp only [List.getElem?_toArray, List.getElem?_cons_zero] at i0 r0
        have rf := hr1.frozen 0
        have rl := hr1.lt
        have hrE := (hr1.set_ 0 (.bool true)).drew
        simp only [List.setIfInBounds_toArray, List.set_cons_zero] at hrE
        have hDr := (hbr.block D hDl).trans hDf
        have hbE := ((hbW.trans (hbr.mono hbW.size)).setCell (p := ⟨w.heap.size + 1, 0, none⟩) (by dsimp only; omega) (.bool true)).drew
        have kE : Keep (fun k => k = w.heap.size + 1) wr (wr.setCell ⟨w.heap.size + 1, 0, none⟩ (.bool true)).drew := ((Keep.refl (fun k => k = w.heap.size + 1) wr).setCell (p := ⟨w.heap.size + 1, 0, none⟩) (fun _ => rfl) _).trans (Keep.ofB (S := fun k => k = w.heap.size + 1) (Below.refl _ _).drew) (fun _ _ e => e)
        have hDE := (kE.block D (Array.getElem?_eq_some_iff.1 hDr).1 (by omega)).trans hDr
        clear hV1 hi1 hr1 hbal hgl
        go_wp2_with fail
        refine wp_calm ?_
        go_region
        rw [then_normalL]
        generalize (wr.setCell ⟨w.heap.size + 1, 0, none⟩ (.bool true)).drew = WE at *
        go_wp2
        have hrD : Blk (WE.putObj D (.deferred none)) (w.heap.size + 1) 4 #[.bool true] := blk_rowL (B := 0) hrE (grownBy_putObj' WE D _) (fun r e => by cases e; exact ⟨Nat.zero_le _, _, hDE, rfl⟩)
        have E0 := hrD.cell 0
        simp at E0
        refine ⟨by simp, .inl ⟨_, _, rfl, run_takeDeferred hDE, ?_⟩⟩
        exact ⟨.bool true, by simp [results, Tryz.results7, go_sem, E0], rfl, bel_putD hbE (by omega) hDE⟩
  case stop =>
    rintro D c pre W hD hpre hno hDf
    exact hno.elim
end Go.Proofs.YtfpcnenohidfpaaGreat
