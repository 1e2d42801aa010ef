/- The document's Unpack of a stock. No condition but that the bytes lie in memory. -/
import Derived.Test.YtfpcnenohidfpaaGreatStlK
import Derived.Test.YtfpcnenohidfpaaGreatHeldZ
import Derived.Test.YtfpcnenohidfpaaGreatRgT
import Derived.Deep.MidRow
namespace Go.Proofs.YtfpcnenohidfpaaGreat
open Go.RowKit Go.Maps Go.Shelf Go.Sort
set_option linter.unusedVariables false
set_option linter.unusedSimpArgs false

/-- Where the taker's bytes lie, if any are left. -/
def Low (K : Nat) (A : Option Addr) (l : List UInt8) : Prop := 0 < l.length → ∀ ad, A = some ad → ad.block < K
theorem Low.next {K : Nat} {A A' : Option Addr} {l l' : List UInt8} (h : Low K A l) (hs : SameBlock A A') (hn : l'.length ≤ l.length) : Low K A' l' := fun hl ad e => by
  obtain ⟨a0, h0, e0⟩ := hs ad e
  rw [e0]
  exact h (by omega) a0 h0
theorem TK.keptF {F : Nat → Prop} {t : TypeId} {K : Nat} {w w' : World} {g : Nat} {A : Option Addr} {c : Nat} {l : List UInt8} {bad : Bool} (h : TK t w g A c l bad) (k : Keep F w w') (hF : ∀ i, F i → K ≤ i) (hg : ¬ F g) (hU : Low K A l) : TK t w' g A c l bad :=
  TK.kept' h k hg (fun hl ad e e2 => by
    have := hF _ e2
    have := hU hl ad e
    omega)
/-- The document's stock: its rows. -/
structure RV (F : Nat → Prop) (w : World) (q : Nat) (v : Value) (rows : List GR) : Prop where
  pc : Blk w q 57 #[v]
  own : GO 0 w v rows
  ne : ¬ v.ownBlock = some q
  fq : F q
  fv : ∀ g, v.ownBlock = some g → F g
def RS (F : Nat → Prop) (w : World) (q : Nat) (rows : List GR) : Prop := ∃ v, RV F w q v rows
theorem RV.kept {F S : Nat → Prop} {w w' : World} {q : Nat} {v : Value} {rows : List GR} (h : RV F w q v rows) (k : Keep S w w') (hs : ∀ i, F i → ¬ S i) : RV F w' q v rows :=
  ⟨h.pc.kept k (hs _ h.fq), h.own.kept k (fun g hg => hs g (h.fv g hg)), h.ne, h.fq, h.fv⟩
theorem RV.below {F : Nat → Prop} {w w' : World} {q : Nat} {v : Value} {rows : List GR} (h : RV F w q v rows) (k : Below w.heap.size w w') : RV F w' q v rows :=
  ⟨h.pc.kept (Keep.of_below k) (Nat.not_le.2 h.pc.lt), h.own.below k, h.ne, h.fq, h.fv⟩
theorem RV.drew {F : Nat → Prop} {w : World} {q : Nat} {v : Value} {rows : List GR} (h : RV F w q v rows) : RV F w.drew q v rows := ⟨h.pc.drew, h.own.drew, h.ne, h.fq, h.fv⟩
theorem RS.kept {F S : Nat → Prop} {w w' : World} {q : Nat} {rows : List GR} (h : RS F w q rows) (k : Keep S w w') (hs : ∀ i, F i → ¬ S i) : RS F w' q rows := h.elim fun v h => ⟨v, h.kept k hs⟩
theorem RS.below {F : Nat → Prop} {w w' : World} {q : Nat} {rows : List GR} (h : RS F w q rows) (k : Below w.heap.size w w') : RS F w' q rows := h.elim fun v h => ⟨v, h.below k⟩
theorem RS.mono {F G : Nat → Prop} {w : World} {q : Nat} {rows : List GR} (h : RS F w q rows) (hs : ∀ i, F i → G i) : RS G w q rows := h.elim fun v h => ⟨v, h.pc, h.own, h.ne, hs _ h.fq, fun g hg => hs g (h.fv g hg)⟩
theorem blk_setCells {B : Nat} {t : TypeId} (vs : List Value) : ∀ (i : Nat) (W : World) (cs : Array Value), Blk W B t cs → i + vs.length ≤ cs.size →
    Blk (W.setCells B i vs) B t (cs.toList.take i ++ vs ++ cs.toList.drop (i + vs.length)).toArray ∧ Keep (fun k => k = B) W (W.setCells B i vs) := by
  induction vs with
  | nil =>
    intro i W cs h hs
    refine ⟨?_, Keep.refl _ _⟩
    have e : (cs.toList.take i ++ [] ++ cs.toList.drop (i + 0)).toArray = cs := by simp
    rw [List.length_nil, e]
    exact h
  | cons v r ih =>
    intro i W cs h hs
    rw [List.length_cons] at hs
    obtain ⟨hb, hk⟩ := ih (i + 1) _ _ (h.set_ i v) (by rw [Array.size_setIfInBounds]; omega)
    refine ⟨?_, (((Keep.refl (fun k => k = B) W).setCell (p := ⟨B, i, none⟩) (fun _ => rfl) v)).trans hk (fun _ _ e => e)⟩
    have e : (cs.setIfInBounds i v).toList.take (i + 1) ++ r ++ (cs.setIfInBounds i v).toList.drop (i + 1 + r.length) = cs.toList.take i ++ v :: r ++ cs.toList.drop (i + (v :: r).length) := by
      have hl : i < cs.toList.length := by simp; omega
      rw [Array.toList_setIfInBounds, List.take_add_one, List.getElem?_set_self hl, List.take_set_of_le (Nat.le_refl _), List.drop_set_of_lt (by omega), List.length_cons, show i + (r.length + 1) = i + 1 + r.length by omega]
      simp
    rw [← e]
    exact hb
theorem Blk.there {W : World} {B : Nat} {t : TypeId} {cs : Array Value} (h : Blk W B t cs) (i n : Nat) (hn : i + n ≤ cs.size) : W.there B i n := fun j hj => by
  rw [h.cell, h.frozen, Array.getElem?_eq_getElem (show i + j < cs.size by omega)]
  exact ⟨rfl, rfl⟩
theorem Blk.rangeG {W : World} {B : Nat} {t : TypeId} {cs : Array Value} (h : Blk W B t cs) : W.rangeAt B 0 cs.toList := fun j v hv => by
  rw [h.cell, ← hv]
  simp
/-- A store of a whole value to the cells from i on. -/
theorem wpStoreM {W : World} {ops : Array Oper} {rest : List Oper} {o : Oper} {a : Act} {Q : Exit → Act → World → Prop} {B : Nat} {t : TypeId} {cs : Array Value} (ty : TypeId) (i : Nat) (cells : Array Value) (hgd : o.guard = none) (x y : Operand) (ho : o.op = .store ty x y)
    (hx : a.eval x = .pointer (some ⟨B, i, none⟩)) (hy : a.eval y = .agg cells) (hb : Blk W B t cs) (hn : i + cells.size ≤ cs.size) (hi : (Tryz.prog.info? ty).map (·.size) = some cells.size) (h1 : cells.toList.all (·.oneCell') = true)
    (h : ∀ W', Blk W' B t (cs.toList.take i ++ cells.toList ++ cs.toList.drop (i + cells.toList.length)).toArray → Keep (fun k => k = B) W W' → wpList Tryz.prog ops Q rest (a.put o.dst undef) W') : wpList Tryz.prog ops Q (o :: rest) a W := by
  obtain ⟨h2, h3⟩ := blk_setCells cells.toList i W cs hb (by simpa using hn)
  exact wpList_store_mid hgd ty x y ho B i cells hx hy (hb.there i _ hn) hi (by rw [← Array.all_toList]; exact h1) (h _ h2 h3)
theorem wpList_val {P : Program} {ops : Array Oper} {Q : Exit → Act → World → Prop} {rest : List Oper} {o : Oper} {a : Act} {W : World} {v : Value} (hg : o.guard = none) (hr : (execOp a.eval o).run P W = .ok (.value v) W) (h : wpList P ops Q rest (a.put o.dst v) W) : wpList P ops Q (o :: rest) a W :=
  wpList_plain hg fun K hK => by
    unfold Oper.wp
    rw [hr]
    exact hK _ _ h
theorem build_flow7 {ρ : Operand → Value} {o : Oper} {x0 x1 x2 x3 x4 x5 x6 : Operand} {y0 y1 y2 y3 y4 y5 y6 : Int} {W : World} (ho : o.op = .build 42 #[(0, x0), (1, x1), (2, x2), (3, x3), (4, x4), (5, x5), (6, x6)])
    (h0 : ρ x0 = .int .i64 y0) (h1 : ρ x1 = .int .i64 y1) (h2 : ρ x2 = .int .i64 y2) (h3 : ρ x3 = .int .i64 y3) (h4 : ρ x4 = .int .i64 y4) (h5 : ρ x5 = .int .i64 y5) (h6 : ρ x6 = .int .i64 y6) :
    (execOp ρ o).run Tryz.prog W = .ok (.value (.agg #[.int .i64 y0, .int .i64 y1, .int .i64 y2, .int .i64 y3, .int .i64 y4, .int .i64 y5, .int .i64 y6])) W := by
  have hb : (Instr.build 42 #[(0, .int .i64 y0), (1, .int .i64 y1), (2, .int .i64 y2), (3, .int .i64 y3), (4, .int .i64 y4), (5, .int .i64 y5), (6, .int .i64 y6)]).run Tryz.prog W = .ok (.agg #[.int .i64 y0, .int .i64 y1, .int .i64 y2, .int .i64 y3, .int .i64 y4, .int .i64 y5, .int .i64 y6]) W := by kernel_rfl
  unfold execOp
  rw [ho]
  simp only [List.map_toArray, List.map_cons, List.map_nil, h0, h1, h2, h3, h4, h5, h6]
  simp [hb, Sem.run_bind, Sem.run_pure]
theorem field_flow {ρ : Operand → Value} {o : Oper} {x : Operand} {B : Nat} {W : World} (ho : o.op = .fieldAddr 59 x 2) (hx : ρ x = .pointer (some ⟨B, 0, none⟩)) :
    (execOp ρ o).run Tryz.prog W = .ok (.value (.pointer (some ⟨B, 5, none⟩))) W := by
  unfold execOp
  rw [ho]
  simp only [hx]
  kernel_rfl
theorem lev_info : (Tryz.prog.info? 40).map (·.size) = some 4 := by kernel_rfl
theorem flo_info : (Tryz.prog.info? 42).map (·.size) = some 7 := by kernel_rfl
theorem flo_infoC (x0 x1 x2 x3 x4 x5 x6 : Int) : (Tryz.prog.info? 42).map (·.size) = some (#[Value.int .i64 x0, .int .i64 x1, .int .i64 x2, .int .i64 x3, .int .i64 x4, .int .i64 x5, .int .i64 x6] : Array Value).size := by
  rw [flo_info]
  simp
theorem wp_appG {w : World} {o : Oper} {a : Act} {K : Act → World → Prop} {Q : Exit → Act → World → Prop} (s x : Operand) (ho : o.op = .call { callee := .builtin .append, args := #[s, x], argTypes := #[55, 55] })
    (base : Nat) (v : Value) (l : List GR) (hs : a.eval s = v) (hown : GO base w v l) (ad : Addr) (r : GR) (hx : a.eval x = .slice (some ad) 1 1) (hc : ∀ j u, r.cs[j]? = some u → w.cell? (ad.add j) = some u)
    (hn : (l.length + 1) * 104 ≤ 140737488355328) (hbase : base ≤ w.heap.size)
    (h : ∀ v' w', GO base w' v' (l ++ [r]) → Keep (fun k => v.ownBlock = some k) w w' → (v'.ownBlock = v.ownBlock ∨ v'.ownBlock = some w.heap.size) → K (a.put o.dst v') w') : o.wp Tryz.prog a w K Q := by
  obtain ⟨v', w', hrun, h2, h3, h4⟩ := run_appG w base o.type v l hown ad r hc hn hbase
  unfold Oper.wp execOp
  simp only [ho, resolve, invoke, builtin, Sem.run_bind, Sem.run_pure, Result.andThen_ok, List.map_toArray, List.map_cons, List.map_nil, hs, hx, hrun]
  exact h v' w' h2 h3 h4
theorem run_buildG (s : List UInt8) (x0 x1 x2 x3 x4 x5 x6 x7 x8 x9 x10 : Int) (w : World) : (Instr.buildSlice 55 1 #[(0, .agg #[.string ⟨s.toArray⟩, .int .i64 x0, .int .i64 x1, .int .i64 x2, .int .i64 x3, .int .i64 x4, .int .i64 x5, .int .i64 x6, .int .i64 x7, .int .i64 x8, .int .i64 x9, .int .i64 x10])]).run Tryz.prog w = .ok (.slice (some ⟨w.heap.size, 0, none⟩) 1 1) (w.alloc (.cells #[.string ⟨s.toArray⟩, .int .i64 x0, .int .i64 x1, .int .i64 x2, .int .i64 x3, .int .i64 x4, .int .i64 x5, .int .i64 x6, .int .i64 x7, .int .i64 x8, .int .i64 x9, .int .i64 x10] 59)) := by
  kernel_rfl
theorem wp_buildG {w : World} {o : Oper} {a : Act} {K : Act → World → Prop} {Q : Exit → Act → World → Prop} (x : Operand) (ho : o.op = .buildSlice 55 1 #[(0, x)]) (s : List UInt8) (x0 x1 x2 x3 x4 x5 x6 x7 x8 x9 x10 : Int)
    (hx : a.eval x = .agg #[.string ⟨s.toArray⟩, .int .i64 x0, .int .i64 x1, .int .i64 x2, .int .i64 x3, .int .i64 x4, .int .i64 x5, .int .i64 x6, .int .i64 x7, .int .i64 x8, .int .i64 x9, .int .i64 x10]) (h : K (a.put o.dst (.slice (some ⟨w.heap.size, 0, none⟩) 1 1)) (w.alloc (.cells #[.string ⟨s.toArray⟩, .int .i64 x0, .int .i64 x1, .int .i64 x2, .int .i64 x3, .int .i64 x4, .int .i64 x5, .int .i64 x6, .int .i64 x7, .int .i64 x8, .int .i64 x9, .int .i64 x10] 59))) : o.wp Tryz.prog a w K Q := by
  unfold Oper.wp execOp
  simp only [ho, Sem.run_bind, Sem.run_pure, List.map_toArray, List.map_cons, List.map_nil, hx, run_buildG, Result.andThen_ok]
  exact h
theorem grow_add {w : World} {b : Nat} {s : List UInt8} {x0 x1 x2 x3 x4 x5 x6 x7 x8 x9 x10 : Int} (h : Blk w b 59 #[.string ⟨s.toArray⟩, .int .i64 x0, .int .i64 x1, .int .i64 x2, .int .i64 x3, .int .i64 x4, .int .i64 x5, .int .i64 x6, .int .i64 x7, .int .i64 x8, .int .i64 x9, .int .i64 x10]) : ∀ j u, (GR.cs ⟨s, ⟨x0, x1, x2, x3, x4, x5, x6, x7, x8, x9, x10⟩⟩)[j]? = some u → w.cell? ((⟨b, 0, none⟩ : Addr).add j) = some u := by
  intro j u hu
  have := h.cell j
  rw [Addr.add_lit, Nat.zero_add, this, List.getElem?_toArray]
  exact hu
/-- The array of eleven numbers. -/
def arrV (vs : List Int) : Array Value := (vs.map (Value.int .i64)).toArray
theorem take_set {vs : List Int} {j : Nat} (h : j < vs.length) (n : Int) : (vs.set j n).take (j + 1) = vs.take j ++ [n] := by
  rw [List.take_add_one, List.take_set_of_le (Nat.le_refl _), List.getElem?_set_self h]
  rfl
theorem arr_set (vs : List Int) (j : Nat) (n : Int) : (arrV vs).setIfInBounds j (.int .i64 n) = arrV (vs.set j n) := by
  unfold arrV
  rw [List.setIfInBounds_toArray, List.map_set]
theorem wide_take (j : Nat) (st : Option (List UInt8)) : takeL (List.replicate (j + 1) wideB) st = ((takeL (List.replicate j wideB) st).1 ++ [(tnum (takeL (List.replicate j wideB) st).2 wideB.1 wideB.2).1], (tnum (takeL (List.replicate j wideB) st).2 wideB.1 wideB.2).2) := by
  rw [List.replicate_succ', takeL_snoc]
/-- What the document's Unpack answers. -/
def RUnpP (w : World) (r : Option ((List UInt8 → Row) × List (List UInt8))) (e : Ending) (w' : World) : Prop :=
  Below w.heap.size w w' ∧ ((r = none ∧ ∃ u, e = .returned (.tuple #[.pointer u, .bool false])) ∨ ∃ f ks q, r = some (f, ks) ∧ e = .returned (.tuple #[.pointer (some ⟨q, 0, none⟩), .bool true]) ∧ RS (fun k => w.heap.size ≤ k) w' q (ks.map fun g => ⟨g, f g⟩))
/-- The inner loop: eleven numbers. -/
def InL (tg BA : Nat) (st7 : Option (List UInt8)) (l7 : List UInt8) (w9 wr : World) (j : Nat) : Prop :=
  ∃ (vs : List Int) (lj : List UInt8) (badj : Bool) (Aj : Option Addr) (cj : Nat), vs.length = 11 ∧ vs.take j = (takeL (List.replicate j wideB) st7).1 ∧ Blk wr BA 60 (arrV vs) ∧ TK 54 wr tg Aj cj lj badj ∧ rst lj badj = (takeL (List.replicate j wideB) st7).2 ∧ Low tg Aj lj ∧ Keep (fun k => k = tg ∨ k = BA) w9 wr
set_option maxRecDepth 100000 in
set_option maxHeartbeats 6400000 in
theorem runpack_any (A : Option Addr) (n c : Nat) (l0 : List UInt8) (w : World) (hr : RB w A n l0) (hnc : n ≤ c) (hc : c ≤ maxLen) (hA : Low w.heap.size A l0) :
    Calls Tryz.prog 5 #[.slice A n c] w (RUnpP w (unpS l0)) := by
  obtain ⟨r, hrd⟩ : ∃ r, unpS l0 = r := ⟨_, rfl⟩
  have hdec : r = unpT (tnum (some l0) 0 64).1.toNat [] (fun _ => row0) [] (tnum (some l0) 0 64).2 := hrd.symm
  rw [hrd]
  have hB0 := Blk.new w 54 #[.slice A n c, .bool false]
  have hb0 := (Below.refl w.heap.size w).alloc (Nat.le_refl _) (.cells #[.slice A n c, .bool false] 54)
  have hT0 : TK 54 (w.alloc (.cells #[.slice A n c, .bool false] 54)) w.heap.size A c l0 false := by
    have hl := hr.1
    subst hl
    exact ⟨hB0, hr.alloc _, ⟨hnc, by unfold maxLen at hc; omega⟩, fun hl ad e e2 => by have := hA hl ad e; omega⟩
  obtain ⟨tg, htg⟩ : ∃ g, w.heap.size = g := ⟨_, rfl⟩
  rw [htg] at hT0 hA hb0
  have hz0 : (w.alloc (.cells #[.slice A n c, .bool false] 54)).heap.size = tg + 1 := by simp [htg]
  clear hB0 hr hrd
  have hB2 := Blk.new (w.alloc (.cells #[.slice A n c, .bool false] 54)) 57 #[.slice none 0 0]
  have hb2 := hb0.alloc (by rw [← htg]; exact hb0.size) (.cells #[.slice none 0 0] 57)
  have hT2 := hT0.below ((Below.refl _ _).alloc (Nat.le_refl _) (.cells #[.slice none 0 0] 57))
  rw [hz0] at hB2
  have hV2 : RS (fun i => tg < i) ((w.alloc (.cells #[.slice A n c, .bool false] 54)).alloc (.cells #[.slice none 0 0] 57)) (tg + 1) [] := ⟨_, hB2, GO.nil _ _, by simp [Value.ownBlock], by omega, fun g hg => by simp [Value.ownBlock] at hg⟩
  obtain ⟨pb, hpb⟩ : ∃ g, tg + 1 = g := ⟨_, rfl⟩
  rw [hpb] at hV2
  clear hT0 hB2 hb0 hz0
  have hrg2 := tnum_range (st := some l0) (a := 0) (b := 64) (by decide) (by decide)
  have htn := rtnum_any _ tg A c l0 false 0 64 hT2
  obtain ⟨st1, hst1⟩ : ∃ x, tnum (some l0) 0 64 = x := ⟨_, rfl⟩
  rw [show rst l0 false = some l0 from rfl, hst1] at htn
  rw [hst1] at hdec hrg2
  obtain ⟨nI, st1⟩ := st1
  dsimp only at hdec hrg2 htn
  clear hst1
  go_enter Tryz.func5, Tryz.ntmps5
  go_wp2_with fail
  refine htn.mono ?_
  rintro e w3 ⟨A3, c3, l3, bad3, rfl, hT3, hr3, hk3, hsb3, hl3⟩
  have hA3 := hA.next hsb3 hl3
  have hK3 := hV2.kept hk3 (fun i hi e => by omega)
  have hb3 := hb2.trans (hk3.below (B := tg) (by have := hb2.size; omega) (fun i hi e => by omega))
  clear htn hT2 hk3 hsb3 hl3 hA hb2 hV2
  rw [← hr3] at hdec
  obtain ⟨NN, hN⟩ : ∃ NN, nI.toNat = NN := ⟨_, rfl⟩
  have hNI : nI = (NN : Int) := by omega
  subst hNI
  rw [hN] at hdec
  have hDEC := Lib.hid hdec
  have htp : tg < pb := by omega
  clear hdec hN hr3 hpb
  replace htg := Lib.hid htg
  go_wp2
  go_loopw [7, 8] (fun v7 i wr => ∃ (k : Nat) (last : List UInt8) (f : List UInt8 → Row) (ks : List (List UInt8)) (l' : List UInt8) (bad : Bool) (A' : Option Addr) (c' : Nat), v7 = .string ⟨last.toArray⟩ ∧ i = .int .i64 (k : Int) ∧ k ≤ NN ∧ ks.length = k ∧ (∀ x ∈ ks, x ≤ last) ∧ RS (fun i => tg < i) wr pb (ks.map fun g => ⟨g, f g⟩) ∧ TK 54 wr tg A' c' l' bad ∧ Low tg A' l' ∧ Below tg w wr ∧ Hid (r = unpT (NN - k) last f ks (rst l' bad))) (fun _ i _ => NN - (intOf i).toNat)
  case atStart => exact ⟨0, [], _, [], l3, bad3, A3, c3, rfl, by go_num, by omega, rfl, by simp, hK3, hT3, hA3, hb3, hDEC⟩
  case round =>
    obtain ⟨k, last, f, ks, l', bad, A6, c6, rfl, rfl, hk, hlk, hlast, hK, hT, hA, hb, hD⟩ := hrel
    clear hK3 hT3 hA3 hb3 hDEC
    have t0 := hT.blk.cell 0
    have t1 := hT.blk.cell 1
    simp at t0 t1
    by_cases hlt : k < NN
    case neg =>
      as_aux_lemma =>
      have hlz : ¬ (k : Int) < (NN : Int) := by omega
      have hD' := hD.out
      rw [show NN - k = 0 by omega] at hD'
      unfold unpT at hD'
      clear hD hlt
      cases bad with
      | true =>
        have HR := Lib.hid (show r = none from hD')
        clear hD'
        go_wp2
        refine wp_region_held_drew (S := (fun W' => W'.cell? ⟨tg, 0, none⟩ = some (.slice A6 l'.length c6) ∧ W'.cell? ⟨tg, 1, none⟩ = some (.bool true))) (by kernel_rfl) ⟨t0, t1⟩ (fun hHeld => ?_)
        (refine tkI 0 (by (simp only [List.getElem?_toArray, List.getElem?_cons_succ, List.getElem?_cons_zero]; rfl)) (by kernel_rfl) (by kernel_rfl) (by kernel_rfl) (by exact fun _ _ _ h => h) (by rfl) (by (intro w hSw; (try dsimp only at hSw); go_simp <;> with_reducible rfl)) (by assumption) ?_; try simp only [Act.put, List.setIfInBounds_toArray, List.set_cons_zero, List.set_cons_succ])
        (refine tkI 1 (by (simp only [List.getElem?_toArray, List.getElem?_cons_succ, List.getElem?_cons_zero]; rfl)) (by kernel_rfl) (by kernel_rfl) (by kernel_rfl) (by exact fun _ _ _ h => h) (by rfl) (by (intro w hSw; (try dsimp only at hSw); go_simp <;> with_reducible rfl)) (by assumption) ?_; try simp only [Act.put, List.setIfInBounds_toArray, List.set_cons_zero, List.set_cons_succ])
        (refine tkI 2 (by (simp only [List.getElem?_toArray, List.getElem?_cons_succ, List.getElem?_cons_zero]; rfl)) (by kernel_rfl) (by kernel_rfl) (by kernel_rfl) (by exact fun _ _ _ h => h) (by rfl) (by (intro w hSw; (try dsimp only at hSw); go_simp <;> with_reducible rfl)) (by assumption) ?_; try simp only [Act.put, List.setIfInBounds_toArray, List.set_cons_zero, List.set_cons_succ])
        (refine tkI 3 (by (simp only [List.getElem?_toArray, List.getElem?_cons_succ, List.getElem?_cons_zero]; rfl)) (by kernel_rfl) (by kernel_rfl) (by kernel_rfl) (by exact fun _ _ _ h => h) (by rfl) (by (intro w hSw; (try dsimp only at hSw); go_simp <;> with_reducible rfl)) (by assumption) ?_; try simp only [Act.put, List.setIfInBounds_toArray, List.set_cons_zero, List.set_cons_succ])
        (refine tkI 4 (by (simp only [List.getElem?_toArray, List.getElem?_cons_succ, List.getElem?_cons_zero]; rfl)) (by kernel_rfl) (by kernel_rfl) (by kernel_rfl) (by exact fun _ _ _ h => h) (by rfl) (by (intro w hSw; (try dsimp only at hSw); go_simp <;> with_reducible rfl)) (by assumption) ?_; try simp only [Act.put, List.setIfInBounds_toArray, List.set_cons_zero, List.set_cons_succ])
        (refine tkI 5 (by (simp only [List.getElem?_toArray, List.getElem?_cons_succ, List.getElem?_cons_zero]; rfl)) (by kernel_rfl) (by kernel_rfl) (by kernel_rfl) (by exact fun _ _ _ h => h) (by rfl) (by (intro w hSw; (try dsimp only at hSw); go_simp <;> with_reducible rfl)) (by assumption) ?_; try simp only [Act.put, List.setIfInBounds_toArray, List.set_cons_zero, List.set_cons_succ])
        (refine tkI 6 (by (simp only [List.getElem?_toArray, List.getElem?_cons_succ, List.getElem?_cons_zero]; rfl)) (by kernel_rfl) (by kernel_rfl) (by kernel_rfl) (by exact fun _ _ _ h => h) (by rfl) (by (intro w hSw; (try dsimp only at hSw); go_simp <;> with_reducible rfl)) (by assumption) ?_; try simp only [Act.put, List.setIfInBounds_toArray, List.set_cons_zero, List.set_cons_succ])
        (refine tkIN 7 (by (simp only [List.getElem?_toArray, List.getElem?_cons_succ, List.getElem?_cons_zero]; rfl)) (by kernel_rfl) (by kernel_rfl) (by kernel_rfl) (by exact fun _ _ _ h => h) (by rfl) (by assumption) ?_; try simp only [Act.put, List.setIfInBounds_toArray, List.set_cons_zero, List.set_cons_succ])
        (refine tkIN 8 (by (simp only [List.getElem?_toArray, List.getElem?_cons_succ, List.getElem?_cons_zero]; rfl)) (by kernel_rfl) (by kernel_rfl) (by kernel_rfl) (by exact fun _ _ _ h => h) (by rfl) (by assumption) ?_; try simp only [Act.put, List.setIfInBounds_toArray, List.set_cons_zero, List.set_cons_succ])
        (refine tkIN 9 (by (simp only [List.getElem?_toArray, List.getElem?_cons_succ, List.getElem?_cons_zero]; rfl)) (by kernel_rfl) (by kernel_rfl) (by kernel_rfl) (by exact fun _ _ _ h => h) (by rfl) (by assumption) ?_; try simp only [Act.put, List.setIfInBounds_toArray, List.set_cons_zero, List.set_cons_succ])
        (refine tkIN 10 (by (simp only [List.getElem?_toArray, List.getElem?_cons_succ, List.getElem?_cons_zero]; rfl)) (by kernel_rfl) (by kernel_rfl) (by kernel_rfl) (by exact fun _ _ _ h => h) (by rfl) (by assumption) ?_; try simp only [Act.put, List.setIfInBounds_toArray, List.set_cons_zero, List.set_cons_succ])
        (refine tkIN 11 (by (simp only [List.getElem?_toArray, List.getElem?_cons_succ, List.getElem?_cons_zero]; rfl)) (by kernel_rfl) (by kernel_rfl) (by kernel_rfl) (by exact fun _ _ _ h => h) (by rfl) (by assumption) ?_; try simp only [Act.put, List.setIfInBounds_toArray, List.set_cons_zero, List.set_cons_succ])
        (refine tkIN 12 (by (simp only [List.getElem?_toArray, List.getElem?_cons_succ, List.getElem?_cons_zero]; rfl)) (by kernel_rfl) (by kernel_rfl) (by kernel_rfl) (by exact fun _ _ _ h => h) (by rfl) (by assumption) ?_; try simp only [Act.put, List.setIfInBounds_toArray, List.set_cons_zero, List.set_cons_succ])
        (refine tkI 13 (by (simp only [List.getElem?_toArray, List.getElem?_cons_succ, List.getElem?_cons_zero]; rfl)) (by kernel_rfl) (by kernel_rfl) (by kernel_rfl) (by exact fun _ _ _ h => h) (by rfl) (by (intro w hSw; (try dsimp only at hSw); go_simp <;> with_reducible rfl)) (by assumption) ?_; try simp only [Act.put, List.setIfInBounds_toArray, List.set_cons_zero, List.set_cons_succ])
        (refine tkI 14 (by (simp only [List.getElem?_toArray, List.getElem?_cons_succ, List.getElem?_cons_zero]; rfl)) (by kernel_rfl) (by kernel_rfl) (by kernel_rfl) (by exact fun _ _ _ h => h) (by rfl) (by (intro w hSw; (try dsimp only at hSw); go_simp <;> with_reducible rfl)) (by assumption) ?_; try simp only [Act.put, List.setIfInBounds_toArray, List.set_cons_zero, List.set_cons_succ])
        (refine tkI 15 (by (simp only [List.getElem?_toArray, List.getElem?_cons_succ, List.getElem?_cons_zero]; rfl)) (by kernel_rfl) (by kernel_rfl) (by kernel_rfl) (by exact fun _ _ _ h => h) (by rfl) (by (intro w hSw; (try dsimp only at hSw); go_simp <;> with_reducible rfl)) (by assumption) ?_; try simp only [Act.put, List.setIfInBounds_toArray, List.set_cons_zero, List.set_cons_succ])
        refine wpAnyH_done (by kernel_rfl) ?_ _
        go_wp2
        refine bodyPost_ret (v := .tuple #[.pointer (some ⟨pb, 0, none⟩), .bool false]) (by simp [results, Tryz.results5, go_sem]) rfl ⟨by rw [htg.out]; exact hb.drew, .inl ⟨HR.out, _, rfl⟩⟩
      | false =>
        by_cases hl0 : l' = []
        · subst hl0
          have HR := Lib.hid (show r = some (f, ks) from hD')
          have hlq : ((0 : Int) == 0) = true := rfl
          have t0 : wr.cell? ⟨tg, 0, none⟩ = some (.slice A6 0 c6) := t0
          clear hD'
          go_wp2
          refine wp_region_held_drew (S := (fun W' => W'.cell? ⟨tg, 0, none⟩ = some (.slice A6 0 c6) ∧ W'.cell? ⟨tg, 1, none⟩ = some (.bool false))) (by kernel_rfl) ⟨t0, t1⟩ (fun hHeld => ?_)
          (refine tkI 0 (by (simp only [List.getElem?_toArray, List.getElem?_cons_succ, List.getElem?_cons_zero]; rfl)) (by kernel_rfl) (by kernel_rfl) (by kernel_rfl) (by exact fun _ _ _ h => h) (by rfl) (by (intro w hSw; (try dsimp only at hSw); go_simp <;> with_reducible rfl)) (by assumption) ?_; try simp only [Act.put, List.setIfInBounds_toArray, List.set_cons_zero, List.set_cons_succ])
          (refine tkI 1 (by (simp only [List.getElem?_toArray, List.getElem?_cons_succ, List.getElem?_cons_zero]; rfl)) (by kernel_rfl) (by kernel_rfl) (by kernel_rfl) (by exact fun _ _ _ h => h) (by rfl) (by (intro w hSw; (try dsimp only at hSw); go_simp <;> with_reducible rfl)) (by assumption) ?_; try simp only [Act.put, List.setIfInBounds_toArray, List.set_cons_zero, List.set_cons_succ])
          (refine tkI 2 (by (simp only [List.getElem?_toArray, List.getElem?_cons_succ, List.getElem?_cons_zero]; rfl)) (by kernel_rfl) (by kernel_rfl) (by kernel_rfl) (by exact fun _ _ _ h => h) (by rfl) (by (intro w hSw; (try dsimp only at hSw); go_simp <;> with_reducible rfl)) (by assumption) ?_; try simp only [Act.put, List.setIfInBounds_toArray, List.set_cons_zero, List.set_cons_succ])
          (refine tkI 3 (by (simp only [List.getElem?_toArray, List.getElem?_cons_succ, List.getElem?_cons_zero]; rfl)) (by kernel_rfl) (by kernel_rfl) (by kernel_rfl) (by exact fun _ _ _ h => h) (by rfl) (by (intro w hSw; (try dsimp only at hSw); go_simp <;> with_reducible rfl)) (by assumption) ?_; try simp only [Act.put, List.setIfInBounds_toArray, List.set_cons_zero, List.set_cons_succ])
          (refine tkI 4 (by (simp only [List.getElem?_toArray, List.getElem?_cons_succ, List.getElem?_cons_zero]; rfl)) (by kernel_rfl) (by kernel_rfl) (by kernel_rfl) (by exact fun _ _ _ h => h) (by rfl) (by (intro w hSw; (try dsimp only at hSw); go_simp <;> with_reducible rfl)) (by assumption) ?_; try simp only [Act.put, List.setIfInBounds_toArray, List.set_cons_zero, List.set_cons_succ])
          (refine tkI 5 (by (simp only [List.getElem?_toArray, List.getElem?_cons_succ, List.getElem?_cons_zero]; rfl)) (by kernel_rfl) (by kernel_rfl) (by kernel_rfl) (by exact fun _ _ _ h => h) (by rfl) (by (intro w hSw; (try dsimp only at hSw); go_simp <;> with_reducible rfl)) (by assumption) ?_; try simp only [Act.put, List.setIfInBounds_toArray, List.set_cons_zero, List.set_cons_succ])
          (refine tkI 6 (by (simp only [List.getElem?_toArray, List.getElem?_cons_succ, List.getElem?_cons_zero]; rfl)) (by kernel_rfl) (by kernel_rfl) (by kernel_rfl) (by exact fun _ _ _ h => h) (by rfl) (by (intro w hSw; (try dsimp only at hSw); go_simp <;> with_reducible rfl)) (by assumption) ?_; try simp only [Act.put, List.setIfInBounds_toArray, List.set_cons_zero, List.set_cons_succ])
          (refine tkI 7 (by (simp only [List.getElem?_toArray, List.getElem?_cons_succ, List.getElem?_cons_zero]; rfl)) (by kernel_rfl) (by kernel_rfl) (by kernel_rfl) (by exact fun _ _ _ h => h) (by rfl) (by (intro w hSw; (try dsimp only at hSw); go_simp <;> with_reducible rfl)) (by assumption) ?_; try simp only [Act.put, List.setIfInBounds_toArray, List.set_cons_zero, List.set_cons_succ])
          (refine tkI 8 (by (simp only [List.getElem?_toArray, List.getElem?_cons_succ, List.getElem?_cons_zero]; rfl)) (by kernel_rfl) (by kernel_rfl) (by kernel_rfl) (by exact fun _ _ _ h => h) (by rfl) (by (intro w hSw; (try dsimp only at hSw); go_simp <;> with_reducible rfl)) (by assumption) ?_; try simp only [Act.put, List.setIfInBounds_toArray, List.set_cons_zero, List.set_cons_succ])
          (refine tkI 9 (by (simp only [List.getElem?_toArray, List.getElem?_cons_succ, List.getElem?_cons_zero]; rfl)) (by kernel_rfl) (by kernel_rfl) (by kernel_rfl) (by exact fun _ _ _ h => h) (by rfl) (by (intro w hSw; (try dsimp only at hSw); go_simp <;> with_reducible rfl)) (by assumption) ?_; try simp only [Act.put, List.setIfInBounds_toArray, List.set_cons_zero, List.set_cons_succ])
          (refine tkI 10 (by (simp only [List.getElem?_toArray, List.getElem?_cons_succ, List.getElem?_cons_zero]; rfl)) (by kernel_rfl) (by kernel_rfl) (by kernel_rfl) (by exact fun _ _ _ h => h) (by rfl) (by (intro w hSw; (try dsimp only at hSw); go_simp <;> with_reducible rfl)) (by assumption) ?_; try simp only [Act.put, List.setIfInBounds_toArray, List.set_cons_zero, List.set_cons_succ])
          (refine tkI 11 (by (simp only [List.getElem?_toArray, List.getElem?_cons_succ, List.getElem?_cons_zero]; rfl)) (by kernel_rfl) (by kernel_rfl) (by kernel_rfl) (by exact fun _ _ _ h => h) (by rfl) (by (intro w hSw; (try dsimp only at hSw); go_simp <;> with_reducible rfl)) (by assumption) ?_; try simp only [Act.put, List.setIfInBounds_toArray, List.set_cons_zero, List.set_cons_succ])
          (refine tkI 12 (by (simp only [List.getElem?_toArray, List.getElem?_cons_succ, List.getElem?_cons_zero]; rfl)) (by kernel_rfl) (by kernel_rfl) (by kernel_rfl) (by exact fun _ _ _ h => h) (by rfl) (by (intro w hSw; (try dsimp only at hSw); go_simp <;> with_reducible rfl)) (by assumption) ?_; try simp only [Act.put, List.setIfInBounds_toArray, List.set_cons_zero, List.set_cons_succ])
          (refine tkI 13 (by (simp only [List.getElem?_toArray, List.getElem?_cons_succ, List.getElem?_cons_zero]; rfl)) (by kernel_rfl) (by kernel_rfl) (by kernel_rfl) (by exact fun _ _ _ h => h) (by rfl) (by (intro w hSw; (try dsimp only at hSw); go_simp <;> with_reducible rfl)) (by assumption) ?_; try simp only [Act.put, List.setIfInBounds_toArray, List.set_cons_zero, List.set_cons_succ])
          (refine tkI 14 (by (simp only [List.getElem?_toArray, List.getElem?_cons_succ, List.getElem?_cons_zero]; rfl)) (by kernel_rfl) (by kernel_rfl) (by kernel_rfl) (by exact fun _ _ _ h => h) (by rfl) (by (intro w hSw; (try dsimp only at hSw); go_simp <;> with_reducible rfl)) (by assumption) ?_; try simp only [Act.put, List.setIfInBounds_toArray, List.set_cons_zero, List.set_cons_succ])
          (refine tkI 15 (by (simp only [List.getElem?_toArray, List.getElem?_cons_succ, List.getElem?_cons_zero]; rfl)) (by kernel_rfl) (by kernel_rfl) (by kernel_rfl) (by exact fun _ _ _ h => h) (by rfl) (by (intro w hSw; (try dsimp only at hSw); go_simp <;> with_reducible rfl)) (by assumption) ?_; try simp only [Act.put, List.setIfInBounds_toArray, List.set_cons_zero, List.set_cons_succ])
          refine wpAnyH_done (by kernel_rfl) ?_ _
          go_wp2
          refine bodyPost_ret (v := .tuple #[.pointer (some ⟨pb, 0, none⟩), .bool true]) (by simp [results, Tryz.results5, go_sem]) rfl ⟨by rw [htg.out]; exact hb.drew, .inr ⟨f, ks, pb, HR.out, rfl, (hK.mono (fun i e => by rw [htg.out]; omega)).below (Below.refl _ _).drew⟩⟩
        · have HR := Lib.hid (show r = none from hD'.trans (if_neg (by unfold rst; simpa using hl0)))
          have hlp : 0 < l'.length := List.length_pos_iff.2 hl0
          have hlq : (((l'.length : Nat) : Int) == 0) = false := beq_eq_false_iff_ne.2 (by omega)
          clear hD' hl0
          go_wp2
          refine wp_region_held_drew (S := (fun W' => W'.cell? ⟨tg, 0, none⟩ = some (.slice A6 l'.length c6) ∧ W'.cell? ⟨tg, 1, none⟩ = some (.bool false))) (by kernel_rfl) ⟨t0, t1⟩ (fun hHeld => ?_)
          (refine tkI 0 (by (simp only [List.getElem?_toArray, List.getElem?_cons_succ, List.getElem?_cons_zero]; rfl)) (by kernel_rfl) (by kernel_rfl) (by kernel_rfl) (by exact fun _ _ _ h => h) (by rfl) (by (intro w hSw; (try dsimp only at hSw); go_simp <;> with_reducible rfl)) (by assumption) ?_; try simp only [Act.put, List.setIfInBounds_toArray, List.set_cons_zero, List.set_cons_succ])
          (refine tkI 1 (by (simp only [List.getElem?_toArray, List.getElem?_cons_succ, List.getElem?_cons_zero]; rfl)) (by kernel_rfl) (by kernel_rfl) (by kernel_rfl) (by exact fun _ _ _ h => h) (by rfl) (by (intro w hSw; (try dsimp only at hSw); go_simp <;> with_reducible rfl)) (by assumption) ?_; try simp only [Act.put, List.setIfInBounds_toArray, List.set_cons_zero, List.set_cons_succ])
          (refine tkI 2 (by (simp only [List.getElem?_toArray, List.getElem?_cons_succ, List.getElem?_cons_zero]; rfl)) (by kernel_rfl) (by kernel_rfl) (by kernel_rfl) (by exact fun _ _ _ h => h) (by rfl) (by (intro w hSw; (try dsimp only at hSw); go_simp <;> with_reducible rfl)) (by assumption) ?_; try simp only [Act.put, List.setIfInBounds_toArray, List.set_cons_zero, List.set_cons_succ])
          (refine tkI 3 (by (simp only [List.getElem?_toArray, List.getElem?_cons_succ, List.getElem?_cons_zero]; rfl)) (by kernel_rfl) (by kernel_rfl) (by kernel_rfl) (by exact fun _ _ _ h => h) (by rfl) (by (intro w hSw; (try dsimp only at hSw); go_simp <;> with_reducible rfl)) (by assumption) ?_; try simp only [Act.put, List.setIfInBounds_toArray, List.set_cons_zero, List.set_cons_succ])
          (refine tkI 4 (by (simp only [List.getElem?_toArray, List.getElem?_cons_succ, List.getElem?_cons_zero]; rfl)) (by kernel_rfl) (by kernel_rfl) (by kernel_rfl) (by exact fun _ _ _ h => h) (by rfl) (by (intro w hSw; (try dsimp only at hSw); go_simp <;> with_reducible rfl)) (by assumption) ?_; try simp only [Act.put, List.setIfInBounds_toArray, List.set_cons_zero, List.set_cons_succ])
          (refine tkI 5 (by (simp only [List.getElem?_toArray, List.getElem?_cons_succ, List.getElem?_cons_zero]; rfl)) (by kernel_rfl) (by kernel_rfl) (by kernel_rfl) (by exact fun _ _ _ h => h) (by rfl) (by (intro w hSw; (try dsimp only at hSw); go_simp <;> with_reducible rfl)) (by assumption) ?_; try simp only [Act.put, List.setIfInBounds_toArray, List.set_cons_zero, List.set_cons_succ])
          (refine tkI 6 (by (simp only [List.getElem?_toArray, List.getElem?_cons_succ, List.getElem?_cons_zero]; rfl)) (by kernel_rfl) (by kernel_rfl) (by kernel_rfl) (by exact fun _ _ _ h => h) (by rfl) (by (intro w hSw; (try dsimp only at hSw); go_simp <;> with_reducible rfl)) (by assumption) ?_; try simp only [Act.put, List.setIfInBounds_toArray, List.set_cons_zero, List.set_cons_succ])
          (refine tkI 7 (by (simp only [List.getElem?_toArray, List.getElem?_cons_succ, List.getElem?_cons_zero]; rfl)) (by kernel_rfl) (by kernel_rfl) (by kernel_rfl) (by exact fun _ _ _ h => h) (by rfl) (by (intro w hSw; (try dsimp only at hSw); go_simp <;> with_reducible rfl)) (by assumption) ?_; try simp only [Act.put, List.setIfInBounds_toArray, List.set_cons_zero, List.set_cons_succ])
          (refine tkI 8 (by (simp only [List.getElem?_toArray, List.getElem?_cons_succ, List.getElem?_cons_zero]; rfl)) (by kernel_rfl) (by kernel_rfl) (by kernel_rfl) (by exact fun _ _ _ h => h) (by rfl) (by (intro w hSw; (try dsimp only at hSw); go_simp <;> with_reducible rfl)) (by assumption) ?_; try simp only [Act.put, List.setIfInBounds_toArray, List.set_cons_zero, List.set_cons_succ])
          (refine tkI 9 (by (simp only [List.getElem?_toArray, List.getElem?_cons_succ, List.getElem?_cons_zero]; rfl)) (by kernel_rfl) (by kernel_rfl) (by kernel_rfl) (by exact fun _ _ _ h => h) (by rfl) (by (intro w hSw; (try dsimp only at hSw); go_simp <;> with_reducible rfl)) (by assumption) ?_; try simp only [Act.put, List.setIfInBounds_toArray, List.set_cons_zero, List.set_cons_succ])
          (refine tkI 10 (by (simp only [List.getElem?_toArray, List.getElem?_cons_succ, List.getElem?_cons_zero]; rfl)) (by kernel_rfl) (by kernel_rfl) (by kernel_rfl) (by exact fun _ _ _ h => h) (by rfl) (by (intro w hSw; (try dsimp only at hSw); go_simp <;> with_reducible rfl)) (by assumption) ?_; try simp only [Act.put, List.setIfInBounds_toArray, List.set_cons_zero, List.set_cons_succ])
          (refine tkI 11 (by (simp only [List.getElem?_toArray, List.getElem?_cons_succ, List.getElem?_cons_zero]; rfl)) (by kernel_rfl) (by kernel_rfl) (by kernel_rfl) (by exact fun _ _ _ h => h) (by rfl) (by (intro w hSw; (try dsimp only at hSw); go_simp <;> with_reducible rfl)) (by assumption) ?_; try simp only [Act.put, List.setIfInBounds_toArray, List.set_cons_zero, List.set_cons_succ])
          (refine tkI 12 (by (simp only [List.getElem?_toArray, List.getElem?_cons_succ, List.getElem?_cons_zero]; rfl)) (by kernel_rfl) (by kernel_rfl) (by kernel_rfl) (by exact fun _ _ _ h => h) (by rfl) (by (intro w hSw; (try dsimp only at hSw); go_simp <;> with_reducible rfl)) (by assumption) ?_; try simp only [Act.put, List.setIfInBounds_toArray, List.set_cons_zero, List.set_cons_succ])
          (refine tkI 13 (by (simp only [List.getElem?_toArray, List.getElem?_cons_succ, List.getElem?_cons_zero]; rfl)) (by kernel_rfl) (by kernel_rfl) (by kernel_rfl) (by exact fun _ _ _ h => h) (by rfl) (by (intro w hSw; (try dsimp only at hSw); go_simp <;> with_reducible rfl)) (by assumption) ?_; try simp only [Act.put, List.setIfInBounds_toArray, List.set_cons_zero, List.set_cons_succ])
          (refine tkI 14 (by (simp only [List.getElem?_toArray, List.getElem?_cons_succ, List.getElem?_cons_zero]; rfl)) (by kernel_rfl) (by kernel_rfl) (by kernel_rfl) (by exact fun _ _ _ h => h) (by rfl) (by (intro w hSw; (try dsimp only at hSw); go_simp <;> with_reducible rfl)) (by assumption) ?_; try simp only [Act.put, List.setIfInBounds_toArray, List.set_cons_zero, List.set_cons_succ])
          (refine tkI 15 (by (simp only [List.getElem?_toArray, List.getElem?_cons_succ, List.getElem?_cons_zero]; rfl)) (by kernel_rfl) (by kernel_rfl) (by kernel_rfl) (by exact fun _ _ _ h => h) (by rfl) (by (intro w hSw; (try dsimp only at hSw); go_simp <;> with_reducible rfl)) (by assumption) ?_; try simp only [Act.put, List.setIfInBounds_toArray, List.set_cons_zero, List.set_cons_succ])
          refine wpAnyH_done (by kernel_rfl) ?_ _
          go_wp2
          refine bodyPost_ret (v := .tuple #[.pointer (some ⟨pb, 0, none⟩), .bool false]) (by simp [results, Tryz.results5, go_sem]) rfl ⟨by rw [htg.out]; exact hb.drew, .inl ⟨HR.out, _, rfl⟩⟩
    cases bad with
    | true =>
      as_aux_lemma =>
      have hlz : (k : Int) < (NN : Int) := by omega
      have HR := Lib.hid (show r = none from hD.out.trans (unpT_none _ _ _ _))
      clear hD hlt
      go_wp2
      refine wp_region_held_drew (S := (fun W' => W'.cell? ⟨tg, 0, none⟩ = some (.slice A6 l'.length c6) ∧ W'.cell? ⟨tg, 1, none⟩ = some (.bool true))) (by kernel_rfl) ⟨t0, t1⟩ (fun hHeld => ?_)
      (refine tkI 0 (by (simp only [List.getElem?_toArray, List.getElem?_cons_succ, List.getElem?_cons_zero]; rfl)) (by kernel_rfl) (by kernel_rfl) (by kernel_rfl) (by exact fun _ _ _ h => h) (by rfl) (by (intro w hSw; (try dsimp only at hSw); go_simp <;> with_reducible rfl)) (by assumption) ?_; try simp only [Act.put, List.setIfInBounds_toArray, List.set_cons_zero, List.set_cons_succ])
      (refine tkI 1 (by (simp only [List.getElem?_toArray, List.getElem?_cons_succ, List.getElem?_cons_zero]; rfl)) (by kernel_rfl) (by kernel_rfl) (by kernel_rfl) (by exact fun _ _ _ h => h) (by rfl) (by (intro w hSw; (try dsimp only at hSw); go_simp <;> with_reducible rfl)) (by assumption) ?_; try simp only [Act.put, List.setIfInBounds_toArray, List.set_cons_zero, List.set_cons_succ])
      (refine tkI 2 (by (simp only [List.getElem?_toArray, List.getElem?_cons_succ, List.getElem?_cons_zero]; rfl)) (by kernel_rfl) (by kernel_rfl) (by kernel_rfl) (by exact fun _ _ _ h => h) (by rfl) (by (intro w hSw; (try dsimp only at hSw); go_simp <;> with_reducible rfl)) (by assumption) ?_; try simp only [Act.put, List.setIfInBounds_toArray, List.set_cons_zero, List.set_cons_succ])
      (refine tkI 3 (by (simp only [List.getElem?_toArray, List.getElem?_cons_succ, List.getElem?_cons_zero]; rfl)) (by kernel_rfl) (by kernel_rfl) (by kernel_rfl) (by exact fun _ _ _ h => h) (by rfl) (by (intro w hSw; (try dsimp only at hSw); go_simp <;> with_reducible rfl)) (by assumption) ?_; try simp only [Act.put, List.setIfInBounds_toArray, List.set_cons_zero, List.set_cons_succ])
      (refine tkI 4 (by (simp only [List.getElem?_toArray, List.getElem?_cons_succ, List.getElem?_cons_zero]; rfl)) (by kernel_rfl) (by kernel_rfl) (by kernel_rfl) (by exact fun _ _ _ h => h) (by rfl) (by (intro w hSw; (try dsimp only at hSw); go_simp <;> with_reducible rfl)) (by assumption) ?_; try simp only [Act.put, List.setIfInBounds_toArray, List.set_cons_zero, List.set_cons_succ])
      (refine tkI 5 (by (simp only [List.getElem?_toArray, List.getElem?_cons_succ, List.getElem?_cons_zero]; rfl)) (by kernel_rfl) (by kernel_rfl) (by kernel_rfl) (by exact fun _ _ _ h => h) (by rfl) (by (intro w hSw; (try dsimp only at hSw); go_simp <;> with_reducible rfl)) (by assumption) ?_; try simp only [Act.put, List.setIfInBounds_toArray, List.set_cons_zero, List.set_cons_succ])
      (refine tkI 6 (by (simp only [List.getElem?_toArray, List.getElem?_cons_succ, List.getElem?_cons_zero]; rfl)) (by kernel_rfl) (by kernel_rfl) (by kernel_rfl) (by exact fun _ _ _ h => h) (by rfl) (by (intro w hSw; (try dsimp only at hSw); go_simp <;> with_reducible rfl)) (by assumption) ?_; try simp only [Act.put, List.setIfInBounds_toArray, List.set_cons_zero, List.set_cons_succ])
      (refine tkIN 7 (by (simp only [List.getElem?_toArray, List.getElem?_cons_succ, List.getElem?_cons_zero]; rfl)) (by kernel_rfl) (by kernel_rfl) (by kernel_rfl) (by exact fun _ _ _ h => h) (by rfl) (by assumption) ?_; try simp only [Act.put, List.setIfInBounds_toArray, List.set_cons_zero, List.set_cons_succ])
      (refine tkIN 8 (by (simp only [List.getElem?_toArray, List.getElem?_cons_succ, List.getElem?_cons_zero]; rfl)) (by kernel_rfl) (by kernel_rfl) (by kernel_rfl) (by exact fun _ _ _ h => h) (by rfl) (by assumption) ?_; try simp only [Act.put, List.setIfInBounds_toArray, List.set_cons_zero, List.set_cons_succ])
      (refine tkIN 9 (by (simp only [List.getElem?_toArray, List.getElem?_cons_succ, List.getElem?_cons_zero]; rfl)) (by kernel_rfl) (by kernel_rfl) (by kernel_rfl) (by exact fun _ _ _ h => h) (by rfl) (by assumption) ?_; try simp only [Act.put, List.setIfInBounds_toArray, List.set_cons_zero, List.set_cons_succ])
      (refine tkIN 10 (by (simp only [List.getElem?_toArray, List.getElem?_cons_succ, List.getElem?_cons_zero]; rfl)) (by kernel_rfl) (by kernel_rfl) (by kernel_rfl) (by exact fun _ _ _ h => h) (by rfl) (by assumption) ?_; try simp only [Act.put, List.setIfInBounds_toArray, List.set_cons_zero, List.set_cons_succ])
      (refine tkIN 11 (by (simp only [List.getElem?_toArray, List.getElem?_cons_succ, List.getElem?_cons_zero]; rfl)) (by kernel_rfl) (by kernel_rfl) (by kernel_rfl) (by exact fun _ _ _ h => h) (by rfl) (by assumption) ?_; try simp only [Act.put, List.setIfInBounds_toArray, List.set_cons_zero, List.set_cons_succ])
      (refine tkIN 12 (by (simp only [List.getElem?_toArray, List.getElem?_cons_succ, List.getElem?_cons_zero]; rfl)) (by kernel_rfl) (by kernel_rfl) (by kernel_rfl) (by exact fun _ _ _ h => h) (by rfl) (by assumption) ?_; try simp only [Act.put, List.setIfInBounds_toArray, List.set_cons_zero, List.set_cons_succ])
      (refine tkI 13 (by (simp only [List.getElem?_toArray, List.getElem?_cons_succ, List.getElem?_cons_zero]; rfl)) (by kernel_rfl) (by kernel_rfl) (by kernel_rfl) (by exact fun _ _ _ h => h) (by rfl) (by (intro w hSw; (try dsimp only at hSw); go_simp <;> with_reducible rfl)) (by assumption) ?_; try simp only [Act.put, List.setIfInBounds_toArray, List.set_cons_zero, List.set_cons_succ])
      (refine tkI 14 (by (simp only [List.getElem?_toArray, List.getElem?_cons_succ, List.getElem?_cons_zero]; rfl)) (by kernel_rfl) (by kernel_rfl) (by kernel_rfl) (by exact fun _ _ _ h => h) (by rfl) (by (intro w hSw; (try dsimp only at hSw); go_simp <;> with_reducible rfl)) (by assumption) ?_; try simp only [Act.put, List.setIfInBounds_toArray, List.set_cons_zero, List.set_cons_succ])
      (refine tkI 15 (by (simp only [List.getElem?_toArray, List.getElem?_cons_succ, List.getElem?_cons_zero]; rfl)) (by kernel_rfl) (by kernel_rfl) (by kernel_rfl) (by exact fun _ _ _ h => h) (by rfl) (by (intro w hSw; (try dsimp only at hSw); go_simp <;> with_reducible rfl)) (by assumption) ?_; try simp only [Act.put, List.setIfInBounds_toArray, List.set_cons_zero, List.set_cons_succ])
      refine wpAnyH_done (by kernel_rfl) ?_ _
      go_wp2
      refine bodyPost_ret (v := .tuple #[.pointer (some ⟨pb, 0, none⟩), .bool false]) (by simp [results, Tryz.results5, go_sem]) rfl ⟨by rw [htg.out]; exact hb.drew, .inl ⟨HR.out, _, rfl⟩⟩
    | false =>
    as_aux_lemma =>
    have hlz : (k : Int) < (NN : Int) := by omega
    have hD' := hD.out
    rw [show rst l' false = some l' from rfl, show NN - k = (NN - (k + 1)) + 1 by omega] at hD'
    have htx := rttext_any wr tg A6 c6 l' false 16 hT
    have hsl := ttext_len (st := some l') (b := 16)
    obtain ⟨a, ha⟩ : ∃ x, ttext (some l') 16 = x := ⟨_, rfl⟩
    rw [show ((16 : Nat) : Int) = 16 from rfl, ha] at hsl
    rw [show rst l' false = some l' from rfl, ha] at htx
    obtain ⟨s, st7⟩ := a
    dsimp only at htx hsl
    unfold strV at htx
    have hwide := fun (x : Row) (st8 : Option (List UInt8)) h1 h2 => hD'.trans (unpT_wide (r := x) (st8 := st8) ha h1 h2)
    replace hwide := Lib.hid hwide
    clear hD hD' ha hlt
    go_wp2_with fail
    refine htx.mono ?_
    rintro e w7 ⟨A7, c7, l7, bad7, rfl, hT7, hr7, hk7, hsb7, hl7⟩
    have hA7 := hA.next hsb7 hl7
    have hK7 := hK.kept hk7 (fun i hi e => by omega)
    have hb7 := hb.trans (hk7.below (B := tg) (by have h1 := hb.size; have h2 := htg.out; omega) (fun i hi e => by omega))
    have htl7 := hT7.blk.lt
    have hpl7 : pb < w7.heap.size := hK7.elim fun v h => h.pc.lt
    clear htx hk7 hT hb hsb7 hl7 hA hK t0 t1
    have hR8 := Blk.new w7 59 #[.string ⟨s.toArray⟩, .int .i64 0, .int .i64 0, .int .i64 0, .int .i64 0, .int .i64 0, .int .i64 0, .int .i64 0, .int .i64 0, .int .i64 0, .int .i64 0, .int .i64 0]
    have hal := (Below.refl w7.heap.size w7).alloc (Nat.le_refl _) (.cells #[.string ⟨s.toArray⟩, .int .i64 0, .int .i64 0, .int .i64 0, .int .i64 0, .int .i64 0, .int .i64 0, .int .i64 0, .int .i64 0, .int .i64 0, .int .i64 0, .int .i64 0] 59)
    have hal2 := hal.alloc hal.size (.cells #[.int .i64 0, .int .i64 0, .int .i64 0, .int .i64 0, .int .i64 0, .int .i64 0, .int .i64 0, .int .i64 0, .int .i64 0, .int .i64 0, .int .i64 0] 60)
    have hX8 := Blk.new (w7.alloc (.cells #[.string ⟨s.toArray⟩, .int .i64 0, .int .i64 0, .int .i64 0, .int .i64 0, .int .i64 0, .int .i64 0, .int .i64 0, .int .i64 0, .int .i64 0, .int .i64 0, .int .i64 0] 59)) 60 #[.int .i64 0, .int .i64 0, .int .i64 0, .int .i64 0, .int .i64 0, .int .i64 0, .int .i64 0, .int .i64 0, .int .i64 0, .int .i64 0, .int .i64 0]
    have hR9 := hR8.alloc (.cells #[.int .i64 0, .int .i64 0, .int .i64 0, .int .i64 0, .int .i64 0, .int .i64 0, .int .i64 0, .int .i64 0, .int .i64 0, .int .i64 0, .int .i64 0] 60)
    have hT9 := hT7.below hal2
    have hK9 := (RS.below (F := fun i => tg < i ∧ i < w7.heap.size) (hK7.elim fun v h => ⟨v, h.pc, h.own, h.ne, ⟨h.fq, h.pc.lt⟩, fun g hg => ⟨h.fv g hg, (h.own.lt g hg).2⟩⟩) hal2)
    have hb9 := hb7.trans (hal2.mono (by have h1 := hb7.size; have h2 := htg.out; omega))
    rw [World.size_alloc] at hX8
    clear hT7 hb7 hal hal2 hR8 hK7
    go_wp2
    obtain ⟨rb, hrb⟩ : ∃ g, w7.heap.size = g := ⟨_, rfl⟩
    obtain ⟨W9, hW9⟩ : ∃ W, (w7.alloc (.cells #[.string ⟨s.toArray⟩, .int .i64 0, .int .i64 0, .int .i64 0, .int .i64 0, .int .i64 0, .int .i64 0, .int .i64 0, .int .i64 0, .int .i64 0, .int .i64 0, .int .i64 0] 59)).alloc (.cells #[.int .i64 0, .int .i64 0, .int .i64 0, .int .i64 0, .int .i64 0, .int .i64 0, .int .i64 0, .int .i64 0, .int .i64 0, .int .i64 0, .int .i64 0] 60) = W := ⟨_, rfl⟩
    simp only [hrb] at hX8 hR9 hK9 hpl7 htl7 ⊢
    rw [hW9] at hX8 hR9 hT9 hK9 hb9 ⊢
    clear hW9 hrb
    have hzW := hb9.size
    have hrl := hR9.lt
    have hxl := hX8.lt
    go_loopw [11] (fun i wr => ∃ j : Nat, i = .int .i64 (j : Int) ∧ j ≤ 11 ∧ InL tg (rb + 1) st7 l7 W9 wr j) (fun i _ => 11 - (intOf i).toNat)
    case atStart => exact ⟨0, by go_num, by omega, List.replicate 11 0, l7, bad7, A7, c7, rfl, rfl, hX8, hT9, hr7, hA7, Keep.refl _ _⟩
    case round =>
      obtain ⟨j, rfl, hj, vs, lj, badj, Aj, cj, hvl, hvt, hX, hT, hrj, hA, hk⟩ := hrel
      clear hX8 hT9 hr7 hA7
      by_cases hlt : j < 11
      · as_aux_lemma =>
        have hlz2 : (j : Int) < 11 := by omega
        have hj0 : (0 : Int) ≤ (j : Int) := by omega
        have htn := rtnum_any wr tg Aj cj lj badj (-9223372036854775808) 9223372036854775807 hT
        rw [hrj] at htn
        have hwt := wide_take j st7
        unfold wideB at hwt htn hvt
        dsimp only at hwt
        obtain ⟨stj, hstj⟩ : ∃ x, (takeL (List.replicate j ((-9223372036854775808 : Int), (9223372036854775807 : Int))) st7).2 = x := ⟨_, rfl⟩
        rw [hstj] at hwt htn
        obtain ⟨nj, hnj⟩ : ∃ x, (tnum stj (-9223372036854775808) 9223372036854775807).1 = x := ⟨_, rfl⟩
        obtain ⟨stn, hstn⟩ : ∃ x, (tnum stj (-9223372036854775808) 9223372036854775807).2 = x := ⟨_, rfl⟩
        rw [hnj, hstn] at hwt htn
        rw [← hvt] at hwt
        replace hwt := Lib.hid hwt
        clear hstj hnj hstn hrj
        go_wp2_with fail
        refine htn.mono ?_
        rintro e w8 ⟨A8, c8, l8, bad8, rfl, hT8, hr8, hk8, hsb8, hl8⟩
        have hA8 := hA.next hsb8 hl8
        have hX8 := hX.kept hk8 (by omega)
        have hk9 := hk.trans hk8 (fun i _ e => .inl e)
        have hxc := hX8.cell j
        have hxf := hX8.frozen j
        have hxl8 := hX8.lt
        have hxe : (arrV vs)[j]? = some (.int .i64 (vs[j]'(by omega))) := by
          unfold arrV
          rw [List.getElem?_toArray, List.getElem?_map, List.getElem?_eq_getElem (by omega)]
          rfl
        rw [hxe] at hxc
        clear htn hk8 hX hT hA hsb8 hl8 hk
        go_wp2
        go_roundw
        case measure => simp [intOf]; omega
        case rel =>
          have hXs := hX8.set_ j (.int .i64 nj)
          rw [arr_set] at hXs
          have kk : Keep (fun k => k = rb + 1) w8 (w8.setCell ⟨rb + 1, j, none⟩ (.int .i64 nj)) := (Keep.refl (fun k => k = rb + 1) w8).setCell (p := ⟨rb + 1, j, none⟩) (fun _ => rfl) _
          refine ⟨j + 1, by go_num, by omega, vs.set j nj, l8, bad8, A8, c8, by simp [hvl], ?_, hXs, hT8.keptF (K := tg) kk (fun i e => by omega) (by omega) hA8, ?_, hA8, hk9.trans kk (fun i _ e => .inr e)⟩
          · rw [take_set (by omega)]
            unfold wideB
            rw [hwt.out]
          · unfold wideB
            rw [hwt.out]
            exact hr8
      · as_aux_lemma =>
        have hlz2 : ¬ (j : Int) < 11 := by omega
        have hj11 : j = 11 := by omega
        subst hj11
        rw [List.take_of_length_le (by omega)] at hvt
        have hR11 := hR9.kept hk (by omega)
        have hK11 := hK9.kept hk (fun i hi e => by omega)
        have hb11 := hb9.trans (hk.below (B := tg) (by have h1 := hb9.size; have h2 := htg.out; omega) (fun i hi e => by omega))
        match vs, hvl with
        | [x0, x1, x2, x3, x4, x5, x6, x7, x8, x9, x10], _ =>
        have hw2 := hwide.out ⟨x0, x1, x2, x3, x4, x5, x6, x7, x8, x9, x10⟩ (rst lj badj) hvt hrj.symm
        have y := fun i => hX.cell i
        unfold arrV at y
        have y0 := y 0
        have y1 := y 1
        have y2 := y 2
        have y3 := y 3
        have y4 := y 4
        have y5 := y 5
        have y6 := y 6
        have y7 := y 7
        have y8 := y 8
        have y9 := y 9
        have y10 := y 10
        simp at y0 y1 y2 y3 y4 y5 y6 y7 y8 y9 y10
        obtain ⟨z0, z1, z2, z3, z4, z5, z6, z7, z8, z9, z10, z11⟩ := growS hR11
        have zf := fun i => hR11.frozen i
        have zl := hR11.lt
        clear y hk hvt hrj hwide hlz2 hlt hj
        clear z0 z1 z2 z3 z4 z5 z6 z7 z8 z9 z10 z11 zf
        replace hw2 := Lib.hid hw2
        go_upto_region 15 with (refine wpStoreM 40 1 #[.int .i64 x0, .int .i64 x1, .int .i64 x2, .int .i64 x3] rfl (.tmp 51) (.tmp 50) rfl rfl rfl hR11 (by simp) lev_info rfl (fun W4 hR4' k4 => ?_); have hR4 : Blk W4 rb 59 #[.string ⟨s.toArray⟩, .int .i64 x0, .int .i64 x1, .int .i64 x2, .int .i64 x3, .int .i64 0, .int .i64 0, .int .i64 0, .int .i64 0, .int .i64 0, .int .i64 0, .int .i64 0] := hR4'; have hX4 := hX.kept k4 (by omega); have y := fun i => hX4.cell i; unfold arrV at y; have y4 := y 4; have y5 := y 5; have y6 := y 6; have y7 := y 7; have y8 := y 8; have y9 := y 9; have y10 := y 10; simp at y4 y5 y6 y7 y8 y9 y10; clear y)
        obtain ⟨z0, z1, z2, z3, z4, z5, z6, z7, z8, z9, z10, z11⟩ := growS hR4
        have zf := fun i => hR4.frozen i
        have zl4 := hR4.lt
        go_upto_region 16 with (with_reducible show wpList _ _ _ (Oper.mk (some 66) _ _ _ _ _ :: _) _ _; refine wpList_val rfl (build_flow7 rfl rfl rfl rfl rfl rfl rfl rfl) ?_; refine wpList_val rfl (field_flow (B := rb) rfl rfl) ?_; refine wpStoreM 42 5 #[.int .i64 x4, .int .i64 x5, .int .i64 x6, .int .i64 x7, .int .i64 x8, .int .i64 x9, .int .i64 x10] rfl (.tmp 67) (.tmp 66) rfl rfl rfl hR4 (by simp) (flo_infoC _ _ _ _ _ _ _) rfl (fun W5 hR5' k5 => ?_); have hR5 : Blk W5 rb 59 #[.string ⟨s.toArray⟩, .int .i64 x0, .int .i64 x1, .int .i64 x2, .int .i64 x3, .int .i64 x4, .int .i64 x5, .int .i64 x6, .int .i64 x7, .int .i64 x8, .int .i64 x9, .int .i64 x10] := (by simpa using hR5'); clear hR5' y4 y5 y6 y7 y8 y9 y10 z0 z1 z2 z3 z4 z5 z6 z7 z8 z9 z10 z11 zf)
        have k45 := k4.trans k5 (fun _ _ e => e)
        have hT5 := hT.keptF (K := tg) k45 (fun i e => by omega) (by omega) hA
        have hK5 := hK11.kept k45 (fun i hi e => by omega)
        have hb5 := hb11.trans (k45.below (B := tg) (by have h1 := hb11.size; have h2 := htg.out; omega) (fun i hi e => by omega))
        have t0 := hT5.blk.cell 0
        have t1 := hT5.blk.cell 1
        simp at t0 t1
        clear hT hK11 hb11 hR11 hR9 hK9 k4 k5 k45 hR4 hR4' hX hX4
        replace hw2 := hw2.out
        cases badj with
        | true =>
          have HR := Lib.hid (show r = none from hw2)
          clear hw2
          go_wp2
          refine bodyPost_ret (v := .tuple #[.pointer none, .bool false]) (by simp [results, Tryz.results5, go_sem]) rfl ⟨by rw [htg]; exact hb5, .inl ⟨HR.out, _, rfl⟩⟩

        | false =>
        rw [show rst lj false = some lj from rfl] at hw2
        have hno := fun h => hw2.trans (show unpW (NN - (k + 1)) s last f ks ⟨x0, x1, x2, x3, x4, x5, x6, x7, x8, x9, x10⟩ (some lj) = none by unfold unpW; rw [show rowOK s last ⟨x0, x1, x2, x3, x4, x5, x6, x7, x8, x9, x10⟩ = false from h])
        have hyes := fun h => hw2.trans (show unpW (NN - (k + 1)) s last f ks ⟨x0, x1, x2, x3, x4, x5, x6, x7, x8, x9, x10⟩ (some lj) = unpT (NN - (k + 1)) s (fun k => if k = s then ⟨x0, x1, x2, x3, x4, x5, x6, x7, x8, x9, x10⟩ else f k) (addS ks s) (some lj) by unfold unpW; rw [show rowOK s last ⟨x0, x1, x2, x3, x4, x5, x6, x7, x8, x9, x10⟩ = true from h])
        unfold rowOK at hno hyes
        clear hw2
        obtain ⟨z0, z1, z2, z3, z4, z5, z6, z7, z8, z9, z10, z11⟩ := growS hR5
        have hgd := refgood_any s W5 (by omega)
        obtain ⟨GD, hGD⟩ : ∃ GD, gOK s = GD := ⟨_, rfl⟩
        rw [hGD] at hgd hno hyes
        cases GD with
        | false =>
          have HR := Lib.hid (show r = none from hno (by rfl))
          clear hno hyes
          go_wp2_with fail
          refine hgd.mono ?_
          rintro e w' ⟨rfl, rfl⟩
          clear hgd
          go_wp2
          refine bodyPost_ret (v := .tuple #[.pointer none, .bool false]) (by simp [results, Tryz.results5, go_sem]) rfl ⟨by rw [htg]; exact hb5, .inl ⟨HR.out, _, rfl⟩⟩

        | true =>
        go_wp2_with fail
        refine hgd.mono ?_
        rintro e w' ⟨rfl, rfl⟩
        clear hgd
        cases hle : decide (s ≤ last) with
        | true =>
          have HR := Lib.hid (show r = none from hno (by rw [hle]; rfl))
          have hrun := run_str_leq 9 s last true hle
          clear hno hyes hle
          go_wp2
          refine bodyPost_ret (v := .tuple #[.pointer none, .bool false]) (by simp [results, Tryz.results5, go_sem]) rfl ⟨by rw [htg]; exact hb5, .inl ⟨HR.out, _, rfl⟩⟩

        | false =>
        have hrun := run_str_leq 9 s last false hle
        rw [hle] at hno hyes
        have hba := rbalanced_any x0 x1 x2 x3 x4 x5 x6 x7 x8 x9 x10 w'
        obtain ⟨BA, hBA⟩ : ∃ BA, Row.bal ⟨x0, x1, x2, x3, x4, x5, x6, x7, x8, x9, x10⟩ = BA := ⟨_, rfl⟩
        rw [show balB x0 x1 x2 x3 x4 x5 x6 x7 x8 x9 x10 = BA from hBA] at hba
        rw [hBA] at hno hyes
        clear hBA
        go_wp2_with fail
        refine hba.mono ?_
        rintro e V1 ⟨rfl, hx1⟩
        have hR6 := hR5.kept (Keep.of_below hx1) (Nat.not_le.2 hR5.lt)
        have hT6 := hT5.below hx1
        have hK6 := hK5.below hx1
        have hb6 := hb5.trans (hx1.mono (by have h1 := hb5.size; have h2 := htg.out; omega))
        clear z0 z1 z2 z3 z4 z5 z6 z7 z8 z9 z10 z11 t0 t1 hba hR5 hT5 hK5 hb5 hx1
        obtain ⟨z0, z1, z2, z3, z4, z5, z6, z7, z8, z9, z10, z11⟩ := growS hR6
        have t0 := hT6.blk.cell 0
        have t1 := hT6.blk.cell 1
        simp at t0 t1
        cases BA with
        | false =>
          have HR := Lib.hid (show r = none from hno (by cases overR ⟨x0, x1, x2, x3, x4, x5, x6, x7, x8, x9, x10⟩ <;> rfl))
          clear hno hyes
          go_wp2
          refine bodyPost_ret (v := .tuple #[.pointer none, .bool false]) (by simp [results, Tryz.results5, go_sem]) rfl ⟨by rw [htg]; exact hb6, .inl ⟨HR.out, _, rfl⟩⟩

        | true =>
        have hri := right_any s x0 x1 x2 x3 x4 x5 x6 x7 x8 x9 x10 V1
        obtain ⟨OV, hOV⟩ : ∃ OV, overR ⟨x0, x1, x2, x3, x4, x5, x6, x7, x8, x9, x10⟩ = OV := ⟨_, rfl⟩
        rw [hOV] at hri hno hyes
        clear hOV
        go_wp2_with fail
        refine hri.mono ?_
        rintro e V2 ⟨rfl, hx2⟩
        have hR7 := hR6.kept (Keep.of_below hx2) (Nat.not_le.2 hR6.lt)
        have hT7 := hT6.below hx2
        have hK7 := hK6.below hx2
        have hb7 := hb6.trans (hx2.mono (by have h1 := hb6.size; have h2 := htg.out; omega))
        clear z0 z1 z2 z3 z4 z5 z6 z7 z8 z9 z10 z11 t0 t1 hri hR6 hT6 hK6 hb6 hx2
        obtain ⟨z0, z1, z2, z3, z4, z5, z6, z7, z8, z9, z10, z11⟩ := growS hR7
        cases OV with
        | true =>
          have HR := Lib.hid (show r = none from hno rfl)
          clear hno hyes
          go_wp2
          refine bodyPost_ret (v := .tuple #[.pointer none, .bool false]) (by simp [results, Tryz.results5, go_sem]) rfl ⟨by rw [htg]; exact hb7, .inl ⟨HR.out, _, rfl⟩⟩

        | false =>
        have HD := Lib.hid (hyes rfl)
        clear hno hyes
        obtain ⟨W10, hW10⟩ : ∃ W, V2 = W := ⟨_, rfl⟩
        rw [hW10] at hR7 hT7 hK7 hb7 z0 z1 z2 z3 z4 z5 z6 z7 z8 z9 z10 z11 ⊢
        clear hW10
        obtain ⟨rows, hrows⟩ : ∃ rows, ks.map (fun g => (⟨g, f g⟩ : GR)) = rows := ⟨_, rfl⟩
        have hrl : rows.length = k := by rw [← hrows, List.length_map]; exact hlk
        rw [hrows] at hK7
        replace hrows := Lib.hid hrows
        obtain ⟨v10, hV10⟩ := hK7
        obtain ⟨Aq, cq, rfl, hfm⟩ := hV10.own.form
        clear hfm
        rw [hrl] at hV10
        have hVd := hV10.drew
        have hbd := (Below.refl W10.heap.size W10).drew
        have hS11 : ∀ W, Below W10.heap.size W10 W → (fun W' => W'.cell? ⟨pb, 0, none⟩ = some (.slice Aq k cq) ∧ W'.cell? ⟨rb, 0, none⟩ = some (.string ⟨s.toArray⟩) ∧ W'.cell? ⟨rb, 1, none⟩ = some (.int .i64 x0) ∧ W'.cell? ⟨rb, 2, none⟩ = some (.int .i64 x1) ∧ W'.cell? ⟨rb, 3, none⟩ = some (.int .i64 x2) ∧ W'.cell? ⟨rb, 4, none⟩ = some (.int .i64 x3) ∧ W'.cell? ⟨rb, 5, none⟩ = some (.int .i64 x4) ∧ W'.cell? ⟨rb, 6, none⟩ = some (.int .i64 x5) ∧ W'.cell? ⟨rb, 7, none⟩ = some (.int .i64 x6) ∧ W'.cell? ⟨rb, 8, none⟩ = some (.int .i64 x7) ∧ W'.cell? ⟨rb, 9, none⟩ = some (.int .i64 x8) ∧ W'.cell? ⟨rb, 10, none⟩ = some (.int .i64 x9) ∧ W'.cell? ⟨rb, 11, none⟩ = some (.int .i64 x10)) W := fun W hb => ⟨(hV10.below hb).pc.cell 0, (hb.cell (World.block_lt_of_cell? _ _ z0)).trans z0, (hb.cell (World.block_lt_of_cell? _ _ z1)).trans z1, (hb.cell (World.block_lt_of_cell? _ _ z2)).trans z2, (hb.cell (World.block_lt_of_cell? _ _ z3)).trans z3, (hb.cell (World.block_lt_of_cell? _ _ z4)).trans z4, (hb.cell (World.block_lt_of_cell? _ _ z5)).trans z5, (hb.cell (World.block_lt_of_cell? _ _ z6)).trans z6, (hb.cell (World.block_lt_of_cell? _ _ z7)).trans z7, (hb.cell (World.block_lt_of_cell? _ _ z8)).trans z8, (hb.cell (World.block_lt_of_cell? _ _ z9)).trans z9, (hb.cell (World.block_lt_of_cell? _ _ z10)).trans z10, (hb.cell (World.block_lt_of_cell? _ _ z11)).trans z11⟩
        have hS10 := hS11 _ hbd
        have hneP : ¬ (Value.slice Aq k cq).ownBlock = some pb := hV10.ne
        have hneQ : ¬ (Value.slice Aq k cq).ownBlock = some rb := fun e => by have := (hV10.fv rb e).2; omega
        have hplW := hV10.pc.lt
        have hzW10 := hb7.size
        go_wp2
        refine wp_region_z (S := (fun W' => W'.cell? ⟨pb, 0, none⟩ = some (.slice Aq k cq) ∧ W'.cell? ⟨rb, 0, none⟩ = some (.string ⟨s.toArray⟩) ∧ W'.cell? ⟨rb, 1, none⟩ = some (.int .i64 x0) ∧ W'.cell? ⟨rb, 2, none⟩ = some (.int .i64 x1) ∧ W'.cell? ⟨rb, 3, none⟩ = some (.int .i64 x2) ∧ W'.cell? ⟨rb, 4, none⟩ = some (.int .i64 x3) ∧ W'.cell? ⟨rb, 5, none⟩ = some (.int .i64 x4) ∧ W'.cell? ⟨rb, 6, none⟩ = some (.int .i64 x5) ∧ W'.cell? ⟨rb, 7, none⟩ = some (.int .i64 x6) ∧ W'.cell? ⟨rb, 8, none⟩ = some (.int .i64 x7) ∧ W'.cell? ⟨rb, 9, none⟩ = some (.int .i64 x8) ∧ W'.cell? ⟨rb, 10, none⟩ = some (.int .i64 x9) ∧ W'.cell? ⟨rb, 11, none⟩ = some (.int .i64 x10))) 10 (by kernel_rfl) hS10 (fun hHeld => ?_)
        refine wpAnyZ_take (i := 0) (oi := ?oi0b) (u := ?v0b) ?hi0b (by kernel_rfl) (by decide) (by kernel_rfl) (by kernel_rfl) (by kernel_rfl) ?hq0b (Or.inl ⟨?hw0b, ?hy0b⟩) (by assumption) ?rest0b
        case hi0b => (simp only [List.getElem?_toArray, List.getElem?_cons_succ, List.getElem?_cons_zero]; rfl)
        case hq0b => exact fun _ _ _ h => h
        case hw0b => rfl
        case hy0b => (intro w hSw; (try dsimp only at hSw); go_simp <;> with_reducible rfl)
        try simp only [Act.put, List.setIfInBounds_toArray, List.set_cons_zero, List.set_cons_succ]
        refine wpAnyZ_take (i := 1) (oi := ?oi1b) (u := ?v1b) ?hi1b (by kernel_rfl) (by decide) (by kernel_rfl) (by kernel_rfl) (by kernel_rfl) ?hq1b (Or.inl ⟨?hw1b, ?hy1b⟩) (by assumption) ?rest1b
        case hi1b => (simp only [List.getElem?_toArray, List.getElem?_cons_succ, List.getElem?_cons_zero]; rfl)
        case hq1b => exact fun _ _ _ h => h
        case hw1b => rfl
        case hy1b => (intro w hSw; (try dsimp only at hSw); go_simp <;> with_reducible rfl)
        try simp only [Act.put, List.setIfInBounds_toArray, List.set_cons_zero, List.set_cons_succ]
        refine wpAnyZ_take (i := 2) (oi := ?oi2b) (u := ?v2b) ?hi2b (by kernel_rfl) (by decide) (by kernel_rfl) (by kernel_rfl) (by kernel_rfl) ?hq2b (Or.inl ⟨?hw2b, ?hy2b⟩) (by assumption) ?rest2b
        case hi2b => (simp only [List.getElem?_toArray, List.getElem?_cons_succ, List.getElem?_cons_zero]; rfl)
        case hq2b => exact fun _ _ _ h => h
        case hw2b => rfl
        case hy2b => (intro w hSw; (try dsimp only at hSw); go_simp <;> with_reducible rfl)
        try simp only [Act.put, List.setIfInBounds_toArray, List.set_cons_zero, List.set_cons_succ]
        refine wpAnyZ_take (i := 3) (oi := ?oi3b) (u := ?v3b) ?hi3b (by kernel_rfl) (by decide) (by kernel_rfl) (by kernel_rfl) (by kernel_rfl) ?hq3b (Or.inl ⟨?hw3b, ?hy3b⟩) (by assumption) ?rest3b
        case hi3b => (simp only [List.getElem?_toArray, List.getElem?_cons_succ, List.getElem?_cons_zero]; rfl)
        case hq3b => exact fun _ _ _ h => h
        case hw3b => rfl
        case hy3b => (intro w hSw; (try dsimp only at hSw); go_simp <;> with_reducible rfl)
        try simp only [Act.put, List.setIfInBounds_toArray, List.set_cons_zero, List.set_cons_succ]
        refine wpAnyZ_take (i := 4) (oi := ?oi4b) (u := ?v4b) ?hi4b (by kernel_rfl) (by decide) (by kernel_rfl) (by kernel_rfl) (by kernel_rfl) ?hq4b (Or.inl ⟨?hw4b, ?hy4b⟩) (by assumption) ?rest4b
        case hi4b => (simp only [List.getElem?_toArray, List.getElem?_cons_succ, List.getElem?_cons_zero]; rfl)
        case hq4b => exact fun _ _ _ h => h
        case hw4b => rfl
        case hy4b => (intro w hSw; (try dsimp only at hSw); go_simp <;> with_reducible rfl)
        try simp only [Act.put, List.setIfInBounds_toArray, List.set_cons_zero, List.set_cons_succ]
        refine wpAnyZ_take (i := 5) (oi := ?oi5b) (u := ?v5b) ?hi5b (by kernel_rfl) (by decide) (by kernel_rfl) (by kernel_rfl) (by kernel_rfl) ?hq5b (Or.inl ⟨?hw5b, ?hy5b⟩) (by assumption) ?rest5b
        case hi5b => (simp only [List.getElem?_toArray, List.getElem?_cons_succ, List.getElem?_cons_zero]; rfl)
        case hq5b => exact fun _ _ _ h => h
        case hw5b => rfl
        case hy5b => (intro w hSw; (try dsimp only at hSw); go_simp <;> with_reducible rfl)
        try simp only [Act.put, List.setIfInBounds_toArray, List.set_cons_zero, List.set_cons_succ]
        refine wpAnyZ_one (i := 6) (o := ?o6b) (by kernel_rfl) ?hi6b (fun K hK => ?st6b)
        case hi6b => (simp only [List.getElem?_toArray, List.getElem?_cons_succ, List.getElem?_cons_zero]; rfl)
        rw [if_pos (by rfl)]
        refine wp_buildG (.tmp 104) rfl s x0 x1 x2 x3 x4 x5 x6 x7 x8 x9 x10 rfl ?_
        have hb11 := hbd.alloc hbd.size (.cells #[.string ⟨s.toArray⟩, .int .i64 x0, .int .i64 x1, .int .i64 x2, .int .i64 x3, .int .i64 x4, .int .i64 x5, .int .i64 x6, .int .i64 x7, .int .i64 x8, .int .i64 x9, .int .i64 x10] 59)
        have hb11' := (Below.refl W10.drew.heap.size W10.drew).alloc (Nat.le_refl _) (.cells #[.string ⟨s.toArray⟩, .int .i64 x0, .int .i64 x1, .int .i64 x2, .int .i64 x3, .int .i64 x4, .int .i64 x5, .int .i64 x6, .int .i64 x7, .int .i64 x8, .int .i64 x9, .int .i64 x10] 59)
        have hn11 := Blk.new W10.drew 59 #[.string ⟨s.toArray⟩, .int .i64 x0, .int .i64 x1, .int .i64 x2, .int .i64 x3, .int .i64 x4, .int .i64 x5, .int .i64 x6, .int .i64 x7, .int .i64 x8, .int .i64 x9, .int .i64 x10]
        have s11 := hS11 _ hb11
        have hO11 := hVd.own.alloc (.cells #[.string ⟨s.toArray⟩, .int .i64 x0, .int .i64 x1, .int .i64 x2, .int .i64 x3, .int .i64 x4, .int .i64 x5, .int .i64 x6, .int .i64 x7, .int .i64 x8, .int .i64 x9, .int .i64 x10] 59)
        refine hK.out _ _ (fun _ => s11) (fun hHeld2 => ?_)
        clear hK K hHeld
        have hHeld := hHeld2 (by decide)
        clear hHeld2
        try simp only [Act.put, List.setIfInBounds_toArray, List.set_cons_zero, List.set_cons_succ]
        refine wpAnyZ_one (i := 7) (o := ?o7b) (by kernel_rfl) ?hi7b (fun K hK => ?st7b)
        case hi7b => (simp only [List.getElem?_toArray, List.getElem?_cons_succ, List.getElem?_cons_zero]; rfl)
        rw [if_pos (by rfl)]
        refine wp_appG (.tmp 103) (.tmp 105) rfl 0 (.slice Aq k cq) rows rfl hO11 ⟨W10.drew.heap.size, 0, none⟩ ⟨s, ⟨x0, x1, x2, x3, x4, x5, x6, x7, x8, x9, x10⟩⟩ rfl (grow_add hn11) (by omega) (Nat.zero_le _) ?_
        intro v12 w12 hO12 hK12 e12
        change _ ∨ _ = some (W10.drew.alloc (.cells #[.string ⟨s.toArray⟩, .int .i64 x0, .int .i64 x1, .int .i64 x2, .int .i64 x3, .int .i64 x4, .int .i64 x5, .int .i64 x6, .int .i64 x7, .int .i64 x8, .int .i64 x9, .int .i64 x10] 59)).heap.size at e12
        change Keep _ (W10.drew.alloc (.cells #[.string ⟨s.toArray⟩, .int .i64 x0, .int .i64 x1, .int .i64 x2, .int .i64 x3, .int .i64 x4, .int .i64 x5, .int .i64 x6, .int .i64 x7, .int .i64 x8, .int .i64 x9, .int .i64 x10] 59)) w12 at hK12
        have s12 : (fun W' => W'.cell? ⟨pb, 0, none⟩ = some (.slice Aq k cq) ∧ W'.cell? ⟨rb, 0, none⟩ = some (.string ⟨s.toArray⟩) ∧ W'.cell? ⟨rb, 1, none⟩ = some (.int .i64 x0) ∧ W'.cell? ⟨rb, 2, none⟩ = some (.int .i64 x1) ∧ W'.cell? ⟨rb, 3, none⟩ = some (.int .i64 x2) ∧ W'.cell? ⟨rb, 4, none⟩ = some (.int .i64 x3) ∧ W'.cell? ⟨rb, 5, none⟩ = some (.int .i64 x4) ∧ W'.cell? ⟨rb, 6, none⟩ = some (.int .i64 x5) ∧ W'.cell? ⟨rb, 7, none⟩ = some (.int .i64 x6) ∧ W'.cell? ⟨rb, 8, none⟩ = some (.int .i64 x7) ∧ W'.cell? ⟨rb, 9, none⟩ = some (.int .i64 x8) ∧ W'.cell? ⟨rb, 10, none⟩ = some (.int .i64 x9) ∧ W'.cell? ⟨rb, 11, none⟩ = some (.int .i64 x10)) w12 := by
          obtain ⟨z0, z1, z2, z3, z4, z5, z6, z7, z8, z9, z10, z11, z12⟩ := s11
          exact ⟨hK12.cell z0 hneP, hK12.cell z1 hneQ, hK12.cell z2 hneQ, hK12.cell z3 hneQ, hK12.cell z4 hneQ, hK12.cell z5 hneQ, hK12.cell z6 hneQ, hK12.cell z7 hneQ, hK12.cell z8 hneQ, hK12.cell z9 hneQ, hK12.cell z10 hneQ, hK12.cell z11 hneQ, hK12.cell z12 hneQ⟩
        obtain ⟨A12, c12, rfl, hx12⟩ := hO12.form
        clear hx12
        refine hK.out _ _ (fun _ => s12) (fun hHeld2 => ?_)
        clear hK K hHeld
        have hHeld := hHeld2 (by decide)
        clear hHeld2
        try simp only [Act.put, List.setIfInBounds_toArray, List.set_cons_zero, List.set_cons_succ]
        refine wpAnyZ_one (i := 8) (o := ?o8b) (by kernel_rfl) ?hi8b (fun K hK => ?st8b)
        case hi8b => (simp only [List.getElem?_toArray, List.getElem?_cons_succ, List.getElem?_cons_zero]; rfl)
        go_simp
        refine hK.out _ _ (fun _ => s12) (fun hHeld2 => ?_)
        clear hK K hHeld
        have hHeld := hHeld2 (by decide)
        clear hHeld2
        try simp only [Act.put, List.setIfInBounds_toArray, List.set_cons_zero, List.set_cons_succ]
        refine wpAnyZ_take (i := 9) (oi := ?oi9b) (u := ?v9b) ?hi9b (by kernel_rfl) (by decide) (by kernel_rfl) (by kernel_rfl) (by kernel_rfl) ?hq9b (Or.inl ⟨?hw9b, ?hy9b⟩) (by assumption) ?rest9b
        case hi9b => (simp only [List.getElem?_toArray, List.getElem?_cons_succ, List.getElem?_cons_zero]; rfl)
        case hq9b => exact fun _ _ _ h => h
        case hw9b => rfl
        case hy9b => (intro w hSw; (try dsimp only at hSw); go_simp <;> with_reducible rfl)
        try simp only [Act.put, List.setIfInBounds_toArray, List.set_cons_zero, List.set_cons_succ]
        refine wpAnyZ_one (i := 10) (o := ?o10b) (by kernel_rfl) ?hi10b (fun K hK => ?st10b)
        case hi10b => (simp only [List.getElem?_toArray, List.getElem?_cons_succ, List.getElem?_cons_zero]; rfl)
        have hpc12 := (hVd.pc.alloc (.cells #[.string ⟨s.toArray⟩, .int .i64 x0, .int .i64 x1, .int .i64 x2, .int .i64 x3, .int .i64 x4, .int .i64 x5, .int .i64 x6, .int .i64 x7, .int .i64 x8, .int .i64 x9, .int .i64 x10] 59)).kept hK12 hneP
        have f12 := hpc12.frozen 0
        have hpl12 := hpc12.lt
        have q12 := hpc12.cell 0
        simp at q12
        go_simp
        refine hK.out _ _ (fun h => absurd rfl h) (fun hHeld2 => ?_)
        clear hK K hHeld
        clear hHeld2
        try simp only [Act.put, List.setIfInBounds_toArray, List.set_cons_zero, List.set_cons_succ]
        refine wpAnyZ_done (by kernel_rfl) ?_ _
        have hpcE := hpc12.set_ 0 (.slice A12 (rows ++ [(⟨s, ⟨x0, x1, x2, x3, x4, x5, x6, x7, x8, x9, x10⟩⟩ : GR)]).length c12)
        simp only [List.setIfInBounds_toArray, List.set_cons_zero] at hpcE
        have kp : Keep (fun k => k = pb) w12 (w12.setCell ⟨pb, 0, none⟩ (.slice A12 (rows ++ [(⟨s, ⟨x0, x1, x2, x3, x4, x5, x6, x7, x8, x9, x10⟩⟩ : GR)]).length c12)) := (Keep.refl (fun k => k = pb) w12).setCell (p := ⟨pb, 0, none⟩) (fun _ => rfl) _
        have hneE : ¬ (Value.slice A12 (rows ++ [(⟨s, ⟨x0, x1, x2, x3, x4, x5, x6, x7, x8, x9, x10⟩⟩ : GR)]).length c12).ownBlock = some pb := by
          rcases e12 with e | e
          · rw [e]; exact hneP
          · have hdz : W10.drew.heap.size = W10.heap.size := rfl
            rw [e, World.size_alloc]; exact fun h => by injection h with h; omega
        have hKz : Keep (fun i => tg < i) W10 (w12.setCell ⟨pb, 0, none⟩ (.slice A12 (rows ++ [(⟨s, ⟨x0, x1, x2, x3, x4, x5, x6, x7, x8, x9, x10⟩⟩ : GR)]).length c12)) := ((((Keep.ofB (S := fun i => tg < i) hbd).alloc (.cells #[.string ⟨s.toArray⟩, .int .i64 x0, .int .i64 x1, .int .i64 x2, .int .i64 x3, .int .i64 x4, .int .i64 x5, .int .i64 x6, .int .i64 x7, .int .i64 x8, .int .i64 x9, .int .i64 x10] 59)).trans hK12 (fun i hi e => (hV10.fv i e).1)).trans kp (fun i _ e => by rw [e]; omega))
        have hKE : RS (fun i => tg < i) (w12.setCell ⟨pb, 0, none⟩ (.slice A12 (rows ++ [(⟨s, ⟨x0, x1, x2, x3, x4, x5, x6, x7, x8, x9, x10⟩⟩ : GR)]).length c12)) pb (rows ++ [(⟨s, ⟨x0, x1, x2, x3, x4, x5, x6, x7, x8, x9, x10⟩⟩ : GR)]) := ⟨_, hpcE, hO12.kept kp (fun g hg e => hneE (by rw [hg, e])), hneE, by omega, fun g hg => by
          rcases e12 with e | e
          · rw [e] at hg; exact (hV10.fv g hg).1
          · rw [e, World.size_alloc] at hg
            injection hg with hg
            have : W10.drew.heap.size = W10.heap.size := rfl
            omega⟩
        have hTE := hT7.keptF (K := tg) hKz (fun i e => Nat.le_of_lt e) (by omega) hA
        have hbE := hb7.trans (hKz.below (B := tg) (by have h1 := hb7.size; have h2 := htg.out; omega) (fun i hi e => by omega))
        have hlE : (rows ++ [(⟨s, ⟨x0, x1, x2, x3, x4, x5, x6, x7, x8, x9, x10⟩⟩ : GR)]).length = k + 1 := by rw [List.length_append, hrl]; rfl
        have hsn : s ∉ ks := fun e => absurd (hlast s e) (by simpa using hle)
        have has : addS ks s = ks ++ [s] := by unfold addS; rw [if_neg hsn]
        have hrowsE : (addS ks s).map (fun g => (⟨g, if g = s then ⟨x0, x1, x2, x3, x4, x5, x6, x7, x8, x9, x10⟩ else f g⟩ : GR)) = (rows ++ [(⟨s, ⟨x0, x1, x2, x3, x4, x5, x6, x7, x8, x9, x10⟩⟩ : GR)]) := by
          rw [has, List.map_append, ← hrows.out]
          congr 1
          · exact List.map_congr_left fun g hg => by rw [if_neg (fun e => hsn (by rw [← e]; exact hg))]
          · simp
        have hlkE : (addS ks s).length = k + 1 := by rw [has, List.length_append, hlk]; rfl
        have hlastE : ∀ x ∈ addS ks s, x ≤ s := fun x hx => by
          rw [has] at hx
          rcases List.mem_append.1 hx with hx | hx
          · exact List.le_trans (hlast x hx) (List.le_of_lt (List.not_le.1 (by simpa using hle)))
          · rw [List.mem_singleton] at hx
            subst hx
            exact List.le_refl _
        rw [hlE] at hKE hTE hbE
        have hKE2 : RS (fun i => tg < i) (w12.setCell ⟨pb, 0, none⟩ (.slice A12 (k + 1) c12)) pb ((addS ks s).map (fun g => (⟨g, if g = s then ⟨x0, x1, x2, x3, x4, x5, x6, x7, x8, x9, x10⟩ else f g⟩ : GR))) := by rw [hrowsE]; exact hKE
        clear hpcE kp hneE hKz hKE hrowsE has hsn hR7 hT7 hb7 hV10 hVd hS11 hS10 hneP hneQ hb11 hb11' hn11 s11 hO11 hK12 hO12 s12 e12 hpc12 f12 hpl12 q12 z0 z1 z2 z3 z4 z5 z6 z7 z8 z9 z10 z11 hlE hrun
        go_wp2
        go_roundw
        case measure => simp [intOf]; omega
        case rel => exact ⟨k + 1, s, _, addS ks s, lj, false, Aj, cj, rfl, by go_num, by omega, hlkE, hlastE, hKE2, hTE, hA, hbE, HD⟩
end Go.Proofs.YtfpcnenohidfpaaGreat
