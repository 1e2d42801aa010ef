/- Total of goods: its closures, its sums. No condition but that the stocks lie in memory. -/
import Derived.Test.YtipmamgmcipbfaaGdA
import Derived.Deep.MidRow
namespace Go.Proofs.Ytipmamgmcipbfaa
open Go.RowKit Go.Maps Go.Shelf Go.Sort
set_option linter.unusedVariables false
set_option linter.unusedSimpArgs false

theorem blk_setCells {B : Nat} {t : TypeId} (vs : List Value) : ∀ (i : Nat) (W : World) (cs : Array Value), Blk W B t cs → i + vs.length ≤ cs.size →
    Blk (W.setCells B i vs) B t (cs.toList.take i ++ vs ++ cs.toList.drop (i + vs.length)).toArray ∧ Keep (fun k => k = B) W (W.setCells B i vs) := by
  induction vs with
  | nil =>
    intro i W cs h hs
    refine ⟨?_, Keep.refl _ _⟩
    have e : (cs.toList.take i ++ [] ++ cs.toList.drop (i + 0)).toArray = cs := by simp
    rw [List.length_nil, e]
    exact h
  | cons v r ih =>
    intro i W cs h hs
    rw [List.length_cons] at hs
    obtain ⟨hb, hk⟩ := ih (i + 1) _ _ (h.set_ i v) (by rw [Array.size_setIfInBounds]; omega)
    refine ⟨?_, (((Keep.refl (fun k => k = B) W).setCell (p := ⟨B, i, none⟩) (fun _ => rfl) v)).trans hk (fun _ _ e => e)⟩
    have e : (cs.setIfInBounds i v).toList.take (i + 1) ++ r ++ (cs.setIfInBounds i v).toList.drop (i + 1 + r.length) = cs.toList.take i ++ v :: r ++ cs.toList.drop (i + (v :: r).length) := by
      have hl : i < cs.toList.length := by simp; omega
      rw [Array.toList_setIfInBounds, List.take_add_one, List.getElem?_set_self hl, List.take_set_of_le (Nat.le_refl _), List.drop_set_of_lt (by omega), List.length_cons, show i + (r.length + 1) = i + 1 + r.length by omega]
      simp
    rw [← e]
    exact hb
theorem Blk.there {W : World} {B : Nat} {t : TypeId} {cs : Array Value} (h : Blk W B t cs) (i n : Nat) (hn : i + n ≤ cs.size) : W.there B i n := fun j hj => by
  rw [h.cell, h.frozen, Array.getElem?_eq_getElem (show i + j < cs.size by omega)]
  exact ⟨rfl, rfl⟩
theorem Blk.range {W : World} {B : Nat} {t : TypeId} {cs : Array Value} (h : Blk W B t cs) : W.rangeAt B 0 cs.toList := fun j v hv => by
  rw [h.cell, ← hv]
  simp
/-- A store of a whole value to the cells from i on. -/
theorem wpStoreM {W : World} {ops : Array Oper} {rest : List Oper} {o : Oper} {a : Act} {Q : Exit → Act → World → Prop} {B : Nat} {t : TypeId} {cs : Array Value} (ty : TypeId) (i : Nat) (cells : Array Value) (hgd : o.guard = none) (x y : Operand) (ho : o.op = .store ty x y)
    (hx : a.eval x = .pointer (some ⟨B, i, none⟩)) (hy : a.eval y = .agg cells) (hb : Blk W B t cs) (hn : i + cells.size ≤ cs.size) (hi : (Try.prog.info? ty).map (·.size) = some cells.size) (h1 : cells.toList.all (·.oneCell') = true)
    (h : ∀ W', Blk W' B t (cs.toList.take i ++ cells.toList ++ cs.toList.drop (i + cells.toList.length)).toArray → Keep (fun k => k = B) W W' → wpList Try.prog ops Q rest (a.put o.dst undef) W') : wpList Try.prog ops Q (o :: rest) a W := by
  obtain ⟨h2, h3⟩ := blk_setCells cells.toList i W cs hb (by simpa using hn)
  exact wpList_store_mid hgd ty x y ho B i cells hx hy (hb.there i _ hn) hi (by rw [← Array.all_toList]; exact h1) (h _ h2 h3)
/-- A load of a whole block. -/
theorem wpLoadM {W : World} {ops : Array Oper} {rest : List Oper} {o : Oper} {a : Act} {Q : Exit → Act → World → Prop} {B : Nat} {t : TypeId} {cs : Array Value} (ty : TypeId) (hgd : Region.wanted o (yielded ops a.tmps) = true) (x : Operand) (ho : o.op = .load ty x)
    (hx : a.eval x = .pointer (some ⟨B, 0, none⟩)) (hb : Blk W B t cs) (d : TypeDesc) (hu : Try.prog.underlying ty = some d) (hd : d.isRow = true) (hi : (Try.prog.info? ty).map (·.size) = some cs.size)
    (h : wpList Try.prog ops Q rest (a.put o.dst (.agg cs)) W) : wpList Try.prog ops Q (o :: rest) a W := by
  have h2 := wp_load_mid (P := Try.prog) (op := o) (a := a) (w := W) (K := fun a' w' => wpList Try.prog ops Q rest a' w') (Q := Q) ty x ho B 0 hx cs.toList d hb.range hu hd (by rw [hi]; simp) (by simpa using h)
  unfold wpList
  rw [if_pos hgd]
  exact .inl h2
/-- A store of a whole value into a block of its size. -/
theorem wp_put {W : World} {o : Oper} {a : Act} {K : Act → World → Prop} {Q : Exit → Act → World → Prop} {B : Nat} {t : TypeId} {cs : Array Value} (ty : TypeId) (cells : Array Value) (x y : Operand) (ho : o.op = .store ty x y)
    (hx : a.eval x = .pointer (some ⟨B, 0, none⟩)) (hy : a.eval y = .agg cells) (hb : Blk W B t cs) (hn : cells.size = cs.size) (hi : (Try.prog.info? ty).map (·.size) = some cells.size) (h1 : cells.toList.all (·.oneCell') = true)
    (h : ∀ W', Blk W' B t cells → Keep (fun k => k = B) W W' → K (a.put o.dst undef) W') : o.wp Try.prog a W K Q := by
  obtain ⟨h2, h3⟩ := blk_setCells cells.toList 0 W cs hb (by simp [hn])
  refine wp_store_mid ty x y ho B 0 cells hx hy (hb.there 0 _ (by omega)) hi (by rw [← Array.all_toList]; exact h1) (h _ ?_ h3)
  have e : (cs.toList.take 0 ++ cells.toList ++ cs.toList.drop (0 + cells.toList.length)).toArray = cells := by
    rw [List.drop_of_length_le (by simp [hn])]
    simp
  rw [e] at h2
  exact h2
theorem wpList_put {W : World} {ops : Array Oper} {rest : List Oper} {o : Oper} {a : Act} {Q : Exit → Act → World → Prop} {B : Nat} {t : TypeId} {cs : Array Value} (ty : TypeId) (cells : Array Value) (hgd : o.guard = none) (x y : Operand) (ho : o.op = .store ty x y)
    (hx : a.eval x = .pointer (some ⟨B, 0, none⟩)) (hy : a.eval y = .agg cells) (hb : Blk W B t cs) (hn : cells.size = cs.size) (hi : (Try.prog.info? ty).map (·.size) = some cells.size) (h1 : cells.toList.all (·.oneCell') = true)
    (h : ∀ W', Blk W' B t cells → Keep (fun k => k = B) W W' → wpList Try.prog ops Q rest (a.put o.dst undef) W') : wpList Try.prog ops Q (o :: rest) a W :=
  wpList_plain hgd fun _ hK => wp_put ty cells x y ho hx hy hb hn hi h1 fun W' h2 h3 => hK _ _ (h W' h2 h3)
theorem lev_info : (Try.prog.info? 29).map (·.size) = some 4 := by kernel_rfl
theorem flo_info : (Try.prog.info? 31).map (·.size) = some 7 := by kernel_rfl
set_option maxRecDepth 100000 in
set_option maxHeartbeats 3200000 in
theorem gof_lev (w : World) {x : Sk} (h : SP w x) (g : List UInt8) (hg : g.length ≤ maxLen) (B : Nat) (hB : w.cell? ⟨B, 0, none⟩ = some (.string ⟨g.toArray⟩)) : Calls Try.prog 28 #[x.v, .pointer (some ⟨B, 0, none⟩)] w fun e w' => e = .returned (lvV (x.f g)) ∧ Below w.heap.size w w' := by
  have hb0 := (Below.refl w.heap.size w).alloc (Nat.le_refl _) (.cells #[.int .i64 0, .int .i64 0, .int .i64 0, .int .i64 0] 29)
  have hB0 := (hb0.cell (World.block_lt_of_cell? _ _ hB)).trans hB
  have hz0 := Blk.new w 29 #[.int .i64 0, .int .i64 0, .int .i64 0, .int .i64 0]
  have hc := glev_any _ (h.below hb0) g hg
  obtain ⟨r, hr⟩ : ∃ r, x.f g = r := ⟨_, rfl⟩
  rw [hr] at hc ⊢
  obtain ⟨v, hv⟩ : ∃ v, x.v = v := ⟨_, rfl⟩
  rw [hv] at hc ⊢
  clear hr hv h
  unfold lvV at hc ⊢
  go_enter Try.func28, Try.ntmps28
  go_wp2_with fail
  refine hc.mono ?_
  rintro e w1 ⟨rfl, hb1⟩
  have hzb := hz0.kept (Keep.of_below hb1) (by simp)
  have hbw := hb0.trans (hb1.mono hb0.size)
  clear hc hz0 hB0
  have k0 := hzb.cell 0
  have l0 := hzb.frozen 0
  have k1 := hzb.cell 1
  have l1 := hzb.frozen 1
  have k2 := hzb.cell 2
  have l2 := hzb.frozen 2
  have k3 := hzb.cell 3
  have l3 := hzb.frozen 3
  have hs1 := hb1.size
  rw [World.size_alloc] at hs1
  go_wp2
  obtain ⟨hB2, hk2⟩ := blk_setCells [.int .i64 r.fr, .int .i64 r.he, .int .i64 r.pi, .int .i64 r.sa] 0 w1 _ hzb (by simp)
  have hbe := hbw.trans (hk2.below (B := w.heap.size) (by omega) (fun i hi e => by omega))
  have j0 := hB2.cell 0
  have j1 := hB2.cell 1
  have j2 := hB2.cell 2
  have j3 := hB2.cell 3
  refine bodyPost_ret (v := .agg #[.int .i64 r.fr, .int .i64 r.he, .int .i64 r.pi, .int .i64 r.sa]) (by simp only [World.setCells, Nat.zero_add, Nat.reduceAdd] at j0 j1 j2 j3; simp [results, Try.results28, go_sem, j0, j1, j2, j3]) rfl ⟨rfl, hbe⟩
set_option maxRecDepth 100000 in
set_option maxHeartbeats 3200000 in
theorem gof_flo (w : World) {x : Sk} (h : SP w x) (g : List UInt8) (hg : g.length ≤ maxLen) (B : Nat) (hB : w.cell? ⟨B, 0, none⟩ = some (.string ⟨g.toArray⟩)) : Calls Try.prog 31 #[x.v, .pointer (some ⟨B, 0, none⟩)] w fun e w' => e = .returned (flV (x.f g)) ∧ Below w.heap.size w w' := by
  have hb0 := (Below.refl w.heap.size w).alloc (Nat.le_refl _) (.cells #[.int .i64 0, .int .i64 0, .int .i64 0, .int .i64 0, .int .i64 0, .int .i64 0, .int .i64 0] 31)
  have hB0 := (hb0.cell (World.block_lt_of_cell? _ _ hB)).trans hB
  have hz0 := Blk.new w 31 #[.int .i64 0, .int .i64 0, .int .i64 0, .int .i64 0, .int .i64 0, .int .i64 0, .int .i64 0]
  have hc := gflo_any _ (h.below hb0) g hg
  obtain ⟨r, hr⟩ : ∃ r, x.f g = r := ⟨_, rfl⟩
  rw [hr] at hc ⊢
  obtain ⟨v, hv⟩ : ∃ v, x.v = v := ⟨_, rfl⟩
  rw [hv] at hc ⊢
  clear hr hv h
  unfold flV at hc ⊢
  go_enter Try.func31, Try.ntmps31
  go_wp2_with fail
  refine hc.mono ?_
  rintro e w1 ⟨rfl, hb1⟩
  have hzb := hz0.kept (Keep.of_below hb1) (by simp)
  have hbw := hb0.trans (hb1.mono hb0.size)
  clear hc hz0 hB0
  have k0 := hzb.cell 0
  have l0 := hzb.frozen 0
  have k1 := hzb.cell 1
  have l1 := hzb.frozen 1
  have k2 := hzb.cell 2
  have l2 := hzb.frozen 2
  have k3 := hzb.cell 3
  have l3 := hzb.frozen 3
  have k4 := hzb.cell 4
  have l4 := hzb.frozen 4
  have k5 := hzb.cell 5
  have l5 := hzb.frozen 5
  have k6 := hzb.cell 6
  have l6 := hzb.frozen 6
  have hs1 := hb1.size
  rw [World.size_alloc] at hs1
  go_wp2
  obtain ⟨hB2, hk2⟩ := blk_setCells [.int .i64 r.re, .int .i64 r.rt, .int .i64 r.cn, .int .i64 r.cm, .int .i64 r.sh, .int .i64 r.sc, .int .i64 r.se] 0 w1 _ hzb (by simp)
  have hbe := hbw.trans (hk2.below (B := w.heap.size) (by omega) (fun i hi e => by omega))
  have j0 := hB2.cell 0
  have j1 := hB2.cell 1
  have j2 := hB2.cell 2
  have j3 := hB2.cell 3
  have j4 := hB2.cell 4
  have j5 := hB2.cell 5
  have j6 := hB2.cell 6
  refine bodyPost_ret (v := .agg #[.int .i64 r.re, .int .i64 r.rt, .int .i64 r.cn, .int .i64 r.cm, .int .i64 r.sh, .int .i64 r.sc, .int .i64 r.se]) (by simp only [World.setCells, Nat.zero_add, Nat.reduceAdd] at j0 j1 j2 j3 j4 j5 j6; simp [results, Try.results31, go_sem, j0, j1, j2, j3, j4, j5, j6]) rfl ⟨rfl, hbe⟩
set_option maxRecDepth 100000 in
set_option maxHeartbeats 3200000 in
theorem gsumL_any (A : Option Addr) (n c : Nat) (l : List Sk) (g : List UInt8) (hg : g.length ≤ maxLen) (B : Nat) (w : World) (hv : VL w A n (l.map Sk.v)) (hs : ∀ x ∈ l, SP w x) (hB : w.cell? ⟨B, 0, none⟩ = some (.string ⟨g.toArray⟩)) (hn : n ≤ 1048576) :
    Calls Try.prog 27 #[.slice A n c, .func (.func 21) #[] #[], .func (.func 28) #[] #[.pointer (some ⟨B, 0, none⟩)]] w fun e w' => e = .returned (lvV (sumR (l.map fun x => x.f g))) ∧ Below w.heap.size w w' := by
  have hln := hv.len
  rw [List.length_map] at hln
  have hb0 := (Below.refl w.heap.size w).alloc (Nat.le_refl _) (.cells #[.int .i64 0, .int .i64 0, .int .i64 0, .int .i64 0] 29)
  have hb1 := hb0.alloc hb0.size (.cells #[.int .i64 0, .int .i64 0, .int .i64 0, .int .i64 0] 29)
  have h6 := (Blk.new w 29 #[.int .i64 0, .int .i64 0, .int .i64 0, .int .i64 0]).alloc (.cells #[.int .i64 0, .int .i64 0, .int .i64 0, .int .i64 0] 29)
  have h7 := Blk.new (w.alloc (.cells #[.int .i64 0, .int .i64 0, .int .i64 0, .int .i64 0] 29)) 29 #[.int .i64 0, .int .i64 0, .int .i64 0, .int .i64 0]
  rw [World.size_alloc] at h7
  obtain ⟨T, hT⟩ : ∃ T, sumR (l.map fun x => x.f g) = T := ⟨_, rfl⟩
  rw [hT]
  replace hT := Lib.hid hT
  go_enter Try.func27, Try.ntmps27
  go_wp2
  go_loopw [12] (fun i wr => ∃ (k : Nat), i = .int .i64 (k : Int) ∧ k ≤ n ∧ Blk wr w.heap.size 29 #[.int .i64 0, .int .i64 0, .int .i64 0, .int .i64 0] ∧ Blk wr (w.heap.size + 1) 29 #[.int .i64 (sumR ((l.take k).map fun x => x.f g)).fr, .int .i64 (sumR ((l.take k).map fun x => x.f g)).he, .int .i64 (sumR ((l.take k).map fun x => x.f g)).pi, .int .i64 (sumR ((l.take k).map fun x => x.f g)).sa] ∧ RowKit.Below w.heap.size w wr) (fun i _ => n - (intOf i).toNat)
  case atStart => exact ⟨0, by go_num, by omega, h6, h7, hb1⟩
  case round =>
    obtain ⟨k, rfl, hk, h6r, h7r, hb⟩ := hrel
    clear h6 h7 hb0 hb1
    obtain ⟨r, hr⟩ : ∃ r, sumR ((l.take k).map fun x => x.f g) = r := ⟨_, rfl⟩
    rw [hr] at h7r
    by_cases hlt : k < n
    · as_aux_lemma =>
      have hlz : (k : Int) < (n : Int) := by omega
      obtain ⟨b, off, v, rfl, hx, hcell⟩ := (hv.below hb).place hlt
      rw [List.getElem?_map] at hx
      obtain ⟨x, hx', hxv⟩ := Option.map_eq_some_iff.1 hx
      subst hxv
      have hmem : x ∈ l := List.mem_of_getElem? hx'
      have hSPz : SP wr.drew x := (hs x hmem).below hb.drew
      have hBz := (hb.drew.cell (World.block_lt_of_cell? _ _ hB)).trans hB
      have hbz := hb.drew
      have h7z := h7r.drew
      have h6z := h6r.drew
      have sd : (fun W' => W'.cell? ⟨w.heap.size + 1, 0, none⟩ = some (.int .i64 r.fr) ∧ W'.cell? ⟨w.heap.size + 1, 1, none⟩ = some (.int .i64 r.he) ∧ W'.cell? ⟨w.heap.size + 1, 2, none⟩ = some (.int .i64 r.pi) ∧ W'.cell? ⟨w.heap.size + 1, 3, none⟩ = some (.int .i64 r.sa)) wr.drew := ⟨h7z.cell 0, h7z.cell 1, h7z.cell 2, h7z.cell 3⟩
      have hsn : sumR ((l.take (k + 1)).map fun x => x.f g) = addR r (x.f g) := by
        rw [List.take_add_one, hx', ← hr]
        simp [sumR]
      clear hr h6r h7r hb hv hs hmem hB hx hx'
      go_wp2
      refine wp_region_z (S := (fun W' => W'.cell? ⟨w.heap.size + 1, 0, none⟩ = some (.int .i64 r.fr) ∧ W'.cell? ⟨w.heap.size + 1, 1, none⟩ = some (.int .i64 r.he) ∧ W'.cell? ⟨w.heap.size + 1, 2, none⟩ = some (.int .i64 r.pi) ∧ W'.cell? ⟨w.heap.size + 1, 3, none⟩ = some (.int .i64 r.sa))) 6 (by kernel_rfl) sd (fun hHeld => ?_)
      generalize wr.drew = wz at *
      refine wpAnyZ_take (i := 0) (oi := ?oi0) (u := ?v0) ?hi0 (by kernel_rfl) (by decide) (by kernel_rfl) (by kernel_rfl) (by kernel_rfl) ?hq0 (Or.inl ⟨?hw0, ?hy0⟩) (by assumption) ?rest0
      case hi0 => (simp only [List.getElem?_toArray, List.getElem?_cons_succ, List.getElem?_cons_zero]; rfl)
      case hq0 => exact fun _ _ _ h => h
      case hw0 => rfl
      case hy0 => (intro w hSw; (try dsimp only at hSw); go_simp <;> with_reducible rfl)
      try simp only [Act.put, List.setIfInBounds_toArray, List.set_cons_zero, List.set_cons_succ]
      refine wpAnyZ_take (i := 1) (oi := ?oi1) (u := ?v1) ?hi1 (by kernel_rfl) (by decide) (by kernel_rfl) (by kernel_rfl) (by kernel_rfl) ?hq1 (Or.inl ⟨?hw1, ?hy1⟩) (by assumption) ?rest1
      case hi1 => (simp only [List.getElem?_toArray, List.getElem?_cons_succ, List.getElem?_cons_zero]; rfl)
      case hq1 => exact fun _ _ _ h => h
      case hw1 => rfl
      case hy1 => (intro w hSw; (try dsimp only at hSw); go_simp <;> with_reducible rfl)
      try simp only [Act.put, List.setIfInBounds_toArray, List.set_cons_zero, List.set_cons_succ]
      refine wpAnyZ_take (i := 2) (oi := ?oi2) (u := ?v2) ?hi2 (by kernel_rfl) (by decide) (by kernel_rfl) (by kernel_rfl) (by kernel_rfl) ?hq2 (Or.inl ⟨?hw2, ?hy2⟩) (by assumption) ?rest2
      case hi2 => (simp only [List.getElem?_toArray, List.getElem?_cons_succ, List.getElem?_cons_zero]; rfl)
      case hq2 => exact fun _ _ _ h => h
      case hw2 => rfl
      case hy2 => (intro w hSw; (try dsimp only at hSw); go_simp <;> with_reducible rfl)
      try simp only [Act.put, List.setIfInBounds_toArray, List.set_cons_zero, List.set_cons_succ]
      refine wpAnyZ_take (i := 3) (oi := ?oi3) (u := ?v3) ?hi3 (by kernel_rfl) (by decide) (by kernel_rfl) (by kernel_rfl) (by kernel_rfl) ?hq3 (Or.inl ⟨?hw3, ?hy3⟩) (by assumption) ?rest3
      case hi3 => (simp only [List.getElem?_toArray, List.getElem?_cons_succ, List.getElem?_cons_zero]; rfl)
      case hq3 => exact fun _ _ _ h => h
      case hw3 => rfl
      case hy3 => (intro w hSw; (try dsimp only at hSw); go_simp <;> with_reducible rfl)
      try simp only [Act.put, List.setIfInBounds_toArray, List.set_cons_zero, List.set_cons_succ]
      refine wpAnyZ_one (i := 4) (o := ?o4) (by kernel_rfl) ?hi4 (fun K hK => ?st4)
      case hi4 => (simp only [List.getElem?_toArray, List.getElem?_cons_succ, List.getElem?_cons_zero]; rfl)
      go_simp
      refine (gof_lev wz hSPz g hg B hBz).mono ?_
      rintro e w5 ⟨rfl, hb5⟩
      have h75 := h7z.kept (Keep.of_below hb5) (by have := h7z.lt; omega)
      have s5 : (fun W' => W'.cell? ⟨w.heap.size + 1, 0, none⟩ = some (.int .i64 r.fr) ∧ W'.cell? ⟨w.heap.size + 1, 1, none⟩ = some (.int .i64 r.he) ∧ W'.cell? ⟨w.heap.size + 1, 2, none⟩ = some (.int .i64 r.pi) ∧ W'.cell? ⟨w.heap.size + 1, 3, none⟩ = some (.int .i64 r.sa)) w5 := ⟨h75.cell 0, h75.cell 1, h75.cell 2, h75.cell 3⟩
      refine hK.out _ _ (fun _ => s5) (fun hHeld2 => ?_)
      clear hK K hHeld
      have hHeld := hHeld2 (by decide)
      clear hHeld2
      try simp only [Act.put, List.setIfInBounds_toArray, List.set_cons_zero, List.set_cons_succ]
      refine wpAnyZ_one (i := 5) (o := ?o5) (by kernel_rfl) ?hi5 (fun K hK => ?st5)
      case hi5 => (simp only [List.getElem?_toArray, List.getElem?_cons_succ, List.getElem?_cons_zero]; rfl)
      go_simp
      refine (glevel_any _ _ _ _ _ _ _ _  w5).mono ?_
      rintro e w6 ⟨rfl, hb6⟩
      have h76 := h75.kept (Keep.of_below hb6) (by have := h75.lt; omega)
      have s6 : (fun W' => W'.cell? ⟨w.heap.size + 1, 0, none⟩ = some (.int .i64 r.fr) ∧ W'.cell? ⟨w.heap.size + 1, 1, none⟩ = some (.int .i64 r.he) ∧ W'.cell? ⟨w.heap.size + 1, 2, none⟩ = some (.int .i64 r.pi) ∧ W'.cell? ⟨w.heap.size + 1, 3, none⟩ = some (.int .i64 r.sa)) w6 := ⟨h76.cell 0, h76.cell 1, h76.cell 2, h76.cell 3⟩
      refine hK.out _ _ (fun _ => s6) (fun hHeld2 => ?_)
      clear hK K hHeld
      have hHeld := hHeld2 (by decide)
      clear hHeld2
      try simp only [Act.put, List.setIfInBounds_toArray, List.set_cons_zero, List.set_cons_succ]
      refine wpAnyZ_one (i := 6) (o := ?o6) (by kernel_rfl) ?hi6 (fun K hK => ?st6)
      case hi6 => (simp only [List.getElem?_toArray, List.getElem?_cons_succ, List.getElem?_cons_zero]; rfl)
      rw [if_pos (by rfl)]
      refine wp_put 29 #[.int .i64 (addR r (x.f g)).fr, .int .i64 (addR r (x.f g)).he, .int .i64 (addR r (x.f g)).pi, .int .i64 (addR r (x.f g)).sa] (.tmp 7) (.tmp 21) rfl rfl rfl h76 rfl (by rw [lev_info]; rfl) rfl ?_
      rintro w7 hB2 hk2
      refine hK.out _ _ (fun h => absurd rfl h) (fun hHeld2 => ?_)
      clear hK K hHeld
      clear hHeld2
      try simp only [Act.put, List.setIfInBounds_toArray, List.set_cons_zero, List.set_cons_succ]
      refine wpAnyZ_done (by kernel_rfl) ?_ _
      have hbw6 := hbz.trans ((hb5.trans (hb6.mono hb5.size)).mono hbz.size)
      have hz6 := h6z.lt
      have hz7 := h7z.lt
      have hzz := (hb5.trans (hb6.mono hb5.size)).size
      have hbe := hbw6.trans (hk2.below (B := w.heap.size) hbw6.size (fun i hi e => by omega))
      have h66 := (h6z.kept (Keep.of_below (hb5.trans (hb6.mono hb5.size))) (by omega)).kept hk2 (by omega)
      go_wp2
      go_roundw
      case measure => simp [intOf]; omega
      case rel => exact ⟨k + 1, by go_num, by omega, h66, by rw [hsn]; exact hB2, hbe⟩
    · as_aux_lemma =>
      have hlz : ¬ (k : Int) < (n : Int) := by omega
      have e : l.take k = l := List.take_of_length_le (by omega)
      rw [e, hT.out] at hr
      subst hr
      clear hv hs hB e hT
      go_wp2_with (first | (refine wpLoadM 29 (by rfl) (.tmp 7) rfl rfl h7r _ Try.underlying29 rfl (by rw [lev_info]; rfl) ?_) | (refine wpList_put 29 #[.int .i64 T.fr, .int .i64 T.he, .int .i64 T.pi, .int .i64 T.sa] rfl (.tmp 6) (.tmp 23) rfl rfl rfl h6r rfl (by rw [lev_info]; rfl) rfl ?_; rintro w7 hB2 hk2))
      have hbe := hb.trans (hk2.below (B := w.heap.size) hb.size (fun i hi e => by omega))
      have j0 := hB2.cell 0
      have j1 := hB2.cell 1
      have j2 := hB2.cell 2
      have j3 := hB2.cell 3
      refine bodyPost_ret (v := .agg #[.int .i64 T.fr, .int .i64 T.he, .int .i64 T.pi, .int .i64 T.sa]) (by simp [results, Try.results27, go_sem, j0, j1, j2, j3]) rfl ⟨rfl, hbe⟩
set_option maxRecDepth 100000 in
set_option maxHeartbeats 3200000 in
theorem gsumF_any (A : Option Addr) (n c : Nat) (l : List Sk) (g : List UInt8) (hg : g.length ≤ maxLen) (B : Nat) (w : World) (hv : VL w A n (l.map Sk.v)) (hs : ∀ x ∈ l, SP w x) (hB : w.cell? ⟨B, 0, none⟩ = some (.string ⟨g.toArray⟩)) (hn : n ≤ 1048576) :
    Calls Try.prog 30 #[.slice A n c, .func (.func 23) #[] #[], .func (.func 31) #[] #[.pointer (some ⟨B, 0, none⟩)]] w fun e w' => e = .returned (flV (sumR (l.map fun x => x.f g))) ∧ Below w.heap.size w w' := by
  have hln := hv.len
  rw [List.length_map] at hln
  have hb0 := (Below.refl w.heap.size w).alloc (Nat.le_refl _) (.cells #[.int .i64 0, .int .i64 0, .int .i64 0, .int .i64 0, .int .i64 0, .int .i64 0, .int .i64 0] 31)
  have hb1 := hb0.alloc hb0.size (.cells #[.int .i64 0, .int .i64 0, .int .i64 0, .int .i64 0, .int .i64 0, .int .i64 0, .int .i64 0] 31)
  have h6 := (Blk.new w 31 #[.int .i64 0, .int .i64 0, .int .i64 0, .int .i64 0, .int .i64 0, .int .i64 0, .int .i64 0]).alloc (.cells #[.int .i64 0, .int .i64 0, .int .i64 0, .int .i64 0, .int .i64 0, .int .i64 0, .int .i64 0] 31)
  have h7 := Blk.new (w.alloc (.cells #[.int .i64 0, .int .i64 0, .int .i64 0, .int .i64 0, .int .i64 0, .int .i64 0, .int .i64 0] 31)) 31 #[.int .i64 0, .int .i64 0, .int .i64 0, .int .i64 0, .int .i64 0, .int .i64 0, .int .i64 0]
  rw [World.size_alloc] at h7
  obtain ⟨T, hT⟩ : ∃ T, sumR (l.map fun x => x.f g) = T := ⟨_, rfl⟩
  rw [hT]
  replace hT := Lib.hid hT
  go_enter Try.func30, Try.ntmps30
  go_wp2
  go_loopw [12] (fun i wr => ∃ (k : Nat), i = .int .i64 (k : Int) ∧ k ≤ n ∧ Blk wr w.heap.size 31 #[.int .i64 0, .int .i64 0, .int .i64 0, .int .i64 0, .int .i64 0, .int .i64 0, .int .i64 0] ∧ Blk wr (w.heap.size + 1) 31 #[.int .i64 (sumR ((l.take k).map fun x => x.f g)).re, .int .i64 (sumR ((l.take k).map fun x => x.f g)).rt, .int .i64 (sumR ((l.take k).map fun x => x.f g)).cn, .int .i64 (sumR ((l.take k).map fun x => x.f g)).cm, .int .i64 (sumR ((l.take k).map fun x => x.f g)).sh, .int .i64 (sumR ((l.take k).map fun x => x.f g)).sc, .int .i64 (sumR ((l.take k).map fun x => x.f g)).se] ∧ RowKit.Below w.heap.size w wr) (fun i _ => n - (intOf i).toNat)
  case atStart => exact ⟨0, by go_num, by omega, h6, h7, hb1⟩
  case round =>
    obtain ⟨k, rfl, hk, h6r, h7r, hb⟩ := hrel
    clear h6 h7 hb0 hb1
    obtain ⟨r, hr⟩ : ∃ r, sumR ((l.take k).map fun x => x.f g) = r := ⟨_, rfl⟩
    rw [hr] at h7r
    by_cases hlt : k < n
    · as_aux_lemma =>
      have hlz : (k : Int) < (n : Int) := by omega
      obtain ⟨b, off, v, rfl, hx, hcell⟩ := (hv.below hb).place hlt
      rw [List.getElem?_map] at hx
      obtain ⟨x, hx', hxv⟩ := Option.map_eq_some_iff.1 hx
      subst hxv
      have hmem : x ∈ l := List.mem_of_getElem? hx'
      have hSPz : SP wr.drew x := (hs x hmem).below hb.drew
      have hBz := (hb.drew.cell (World.block_lt_of_cell? _ _ hB)).trans hB
      have hbz := hb.drew
      have h7z := h7r.drew
      have h6z := h6r.drew
      have sd : (fun W' => W'.cell? ⟨w.heap.size + 1, 0, none⟩ = some (.int .i64 r.re) ∧ W'.cell? ⟨w.heap.size + 1, 1, none⟩ = some (.int .i64 r.rt) ∧ W'.cell? ⟨w.heap.size + 1, 2, none⟩ = some (.int .i64 r.cn) ∧ W'.cell? ⟨w.heap.size + 1, 3, none⟩ = some (.int .i64 r.cm) ∧ W'.cell? ⟨w.heap.size + 1, 4, none⟩ = some (.int .i64 r.sh) ∧ W'.cell? ⟨w.heap.size + 1, 5, none⟩ = some (.int .i64 r.sc) ∧ W'.cell? ⟨w.heap.size + 1, 6, none⟩ = some (.int .i64 r.se)) wr.drew := ⟨h7z.cell 0, h7z.cell 1, h7z.cell 2, h7z.cell 3, h7z.cell 4, h7z.cell 5, h7z.cell 6⟩
      have hsn : sumR ((l.take (k + 1)).map fun x => x.f g) = addR r (x.f g) := by
        rw [List.take_add_one, hx', ← hr]
        simp [sumR]
      clear hr h6r h7r hb hv hs hmem hB hx hx'
      go_wp2
      refine wp_region_z (S := (fun W' => W'.cell? ⟨w.heap.size + 1, 0, none⟩ = some (.int .i64 r.re) ∧ W'.cell? ⟨w.heap.size + 1, 1, none⟩ = some (.int .i64 r.rt) ∧ W'.cell? ⟨w.heap.size + 1, 2, none⟩ = some (.int .i64 r.cn) ∧ W'.cell? ⟨w.heap.size + 1, 3, none⟩ = some (.int .i64 r.cm) ∧ W'.cell? ⟨w.heap.size + 1, 4, none⟩ = some (.int .i64 r.sh) ∧ W'.cell? ⟨w.heap.size + 1, 5, none⟩ = some (.int .i64 r.sc) ∧ W'.cell? ⟨w.heap.size + 1, 6, none⟩ = some (.int .i64 r.se))) 6 (by kernel_rfl) sd (fun hHeld => ?_)
      generalize wr.drew = wz at *
      refine wpAnyZ_take (i := 0) (oi := ?oi0) (u := ?v0) ?hi0 (by kernel_rfl) (by decide) (by kernel_rfl) (by kernel_rfl) (by kernel_rfl) ?hq0 (Or.inl ⟨?hw0, ?hy0⟩) (by assumption) ?rest0
      case hi0 => (simp only [List.getElem?_toArray, List.getElem?_cons_succ, List.getElem?_cons_zero]; rfl)
      case hq0 => exact fun _ _ _ h => h
      case hw0 => rfl
      case hy0 => (intro w hSw; (try dsimp only at hSw); go_simp <;> with_reducible rfl)
      try simp only [Act.put, List.setIfInBounds_toArray, List.set_cons_zero, List.set_cons_succ]
      refine wpAnyZ_take (i := 1) (oi := ?oi1) (u := ?v1) ?hi1 (by kernel_rfl) (by decide) (by kernel_rfl) (by kernel_rfl) (by kernel_rfl) ?hq1 (Or.inl ⟨?hw1, ?hy1⟩) (by assumption) ?rest1
      case hi1 => (simp only [List.getElem?_toArray, List.getElem?_cons_succ, List.getElem?_cons_zero]; rfl)
      case hq1 => exact fun _ _ _ h => h
      case hw1 => rfl
      case hy1 => (intro w hSw; (try dsimp only at hSw); go_simp <;> with_reducible rfl)
      try simp only [Act.put, List.setIfInBounds_toArray, List.set_cons_zero, List.set_cons_succ]
      refine wpAnyZ_take (i := 2) (oi := ?oi2) (u := ?v2) ?hi2 (by kernel_rfl) (by decide) (by kernel_rfl) (by kernel_rfl) (by kernel_rfl) ?hq2 (Or.inl ⟨?hw2, ?hy2⟩) (by assumption) ?rest2
      case hi2 => (simp only [List.getElem?_toArray, List.getElem?_cons_succ, List.getElem?_cons_zero]; rfl)
      case hq2 => exact fun _ _ _ h => h
      case hw2 => rfl
      case hy2 => (intro w hSw; (try dsimp only at hSw); go_simp <;> with_reducible rfl)
      try simp only [Act.put, List.setIfInBounds_toArray, List.set_cons_zero, List.set_cons_succ]
      refine wpAnyZ_take (i := 3) (oi := ?oi3) (u := ?v3) ?hi3 (by kernel_rfl) (by decide) (by kernel_rfl) (by kernel_rfl) (by kernel_rfl) ?hq3 (Or.inl ⟨?hw3, ?hy3⟩) (by assumption) ?rest3
      case hi3 => (simp only [List.getElem?_toArray, List.getElem?_cons_succ, List.getElem?_cons_zero]; rfl)
      case hq3 => exact fun _ _ _ h => h
      case hw3 => rfl
      case hy3 => (intro w hSw; (try dsimp only at hSw); go_simp <;> with_reducible rfl)
      try simp only [Act.put, List.setIfInBounds_toArray, List.set_cons_zero, List.set_cons_succ]
      refine wpAnyZ_one (i := 4) (o := ?o4) (by kernel_rfl) ?hi4 (fun K hK => ?st4)
      case hi4 => (simp only [List.getElem?_toArray, List.getElem?_cons_succ, List.getElem?_cons_zero]; rfl)
      go_simp
      refine (gof_flo wz hSPz g hg B hBz).mono ?_
      rintro e w5 ⟨rfl, hb5⟩
      have h75 := h7z.kept (Keep.of_below hb5) (by have := h7z.lt; omega)
      have s5 : (fun W' => W'.cell? ⟨w.heap.size + 1, 0, none⟩ = some (.int .i64 r.re) ∧ W'.cell? ⟨w.heap.size + 1, 1, none⟩ = some (.int .i64 r.rt) ∧ W'.cell? ⟨w.heap.size + 1, 2, none⟩ = some (.int .i64 r.cn) ∧ W'.cell? ⟨w.heap.size + 1, 3, none⟩ = some (.int .i64 r.cm) ∧ W'.cell? ⟨w.heap.size + 1, 4, none⟩ = some (.int .i64 r.sh) ∧ W'.cell? ⟨w.heap.size + 1, 5, none⟩ = some (.int .i64 r.sc) ∧ W'.cell? ⟨w.heap.size + 1, 6, none⟩ = some (.int .i64 r.se)) w5 := ⟨h75.cell 0, h75.cell 1, h75.cell 2, h75.cell 3, h75.cell 4, h75.cell 5, h75.cell 6⟩
      refine hK.out _ _ (fun _ => s5) (fun hHeld2 => ?_)
      clear hK K hHeld
      have hHeld := hHeld2 (by decide)
      clear hHeld2
      try simp only [Act.put, List.setIfInBounds_toArray, List.set_cons_zero, List.set_cons_succ]
      refine wpAnyZ_one (i := 5) (o := ?o5) (by kernel_rfl) ?hi5 (fun K hK => ?st5)
      case hi5 => (simp only [List.getElem?_toArray, List.getElem?_cons_succ, List.getElem?_cons_zero]; rfl)
      go_simp
      refine (gflow_any _ _ _ _ _ _ _ _ _ _ _ _ _ _  w5).mono ?_
      rintro e w6 ⟨rfl, hb6⟩
      have h76 := h75.kept (Keep.of_below hb6) (by have := h75.lt; omega)
      have s6 : (fun W' => W'.cell? ⟨w.heap.size + 1, 0, none⟩ = some (.int .i64 r.re) ∧ W'.cell? ⟨w.heap.size + 1, 1, none⟩ = some (.int .i64 r.rt) ∧ W'.cell? ⟨w.heap.size + 1, 2, none⟩ = some (.int .i64 r.cn) ∧ W'.cell? ⟨w.heap.size + 1, 3, none⟩ = some (.int .i64 r.cm) ∧ W'.cell? ⟨w.heap.size + 1, 4, none⟩ = some (.int .i64 r.sh) ∧ W'.cell? ⟨w.heap.size + 1, 5, none⟩ = some (.int .i64 r.sc) ∧ W'.cell? ⟨w.heap.size + 1, 6, none⟩ = some (.int .i64 r.se)) w6 := ⟨h76.cell 0, h76.cell 1, h76.cell 2, h76.cell 3, h76.cell 4, h76.cell 5, h76.cell 6⟩
      refine hK.out _ _ (fun _ => s6) (fun hHeld2 => ?_)
      clear hK K hHeld
      have hHeld := hHeld2 (by decide)
      clear hHeld2
      try simp only [Act.put, List.setIfInBounds_toArray, List.set_cons_zero, List.set_cons_succ]
      refine wpAnyZ_one (i := 6) (o := ?o6) (by kernel_rfl) ?hi6 (fun K hK => ?st6)
      case hi6 => (simp only [List.getElem?_toArray, List.getElem?_cons_succ, List.getElem?_cons_zero]; rfl)
      rw [if_pos (by rfl)]
      refine wp_put 31 #[.int .i64 (addR r (x.f g)).re, .int .i64 (addR r (x.f g)).rt, .int .i64 (addR r (x.f g)).cn, .int .i64 (addR r (x.f g)).cm, .int .i64 (addR r (x.f g)).sh, .int .i64 (addR r (x.f g)).sc, .int .i64 (addR r (x.f g)).se] (.tmp 7) (.tmp 21) rfl rfl rfl h76 rfl (by rw [flo_info]; rfl) rfl ?_
      rintro w7 hB2 hk2
      refine hK.out _ _ (fun h => absurd rfl h) (fun hHeld2 => ?_)
      clear hK K hHeld
      clear hHeld2
      try simp only [Act.put, List.setIfInBounds_toArray, List.set_cons_zero, List.set_cons_succ]
      refine wpAnyZ_done (by kernel_rfl) ?_ _
      have hbw6 := hbz.trans ((hb5.trans (hb6.mono hb5.size)).mono hbz.size)
      have hz6 := h6z.lt
      have hz7 := h7z.lt
      have hzz := (hb5.trans (hb6.mono hb5.size)).size
      have hbe := hbw6.trans (hk2.below (B := w.heap.size) hbw6.size (fun i hi e => by omega))
      have h66 := (h6z.kept (Keep.of_below (hb5.trans (hb6.mono hb5.size))) (by omega)).kept hk2 (by omega)
      go_wp2
      go_roundw
      case measure => simp [intOf]; omega
      case rel => exact ⟨k + 1, by go_num, by omega, h66, by rw [hsn]; exact hB2, hbe⟩
    · as_aux_lemma =>
      have hlz : ¬ (k : Int) < (n : Int) := by omega
      have e : l.take k = l := List.take_of_length_le (by omega)
      rw [e, hT.out] at hr
      subst hr
      clear hv hs hB e hT
      go_wp2_with (first | (refine wpLoadM 31 (by rfl) (.tmp 7) rfl rfl h7r _ Try.underlying31 rfl (by rw [flo_info]; rfl) ?_) | (refine wpList_put 31 #[.int .i64 T.re, .int .i64 T.rt, .int .i64 T.cn, .int .i64 T.cm, .int .i64 T.sh, .int .i64 T.sc, .int .i64 T.se] rfl (.tmp 6) (.tmp 23) rfl rfl rfl h6r rfl (by rw [flo_info]; rfl) rfl ?_; rintro w7 hB2 hk2))
      have hbe := hb.trans (hk2.below (B := w.heap.size) hb.size (fun i hi e => by omega))
      have j0 := hB2.cell 0
      have j1 := hB2.cell 1
      have j2 := hB2.cell 2
      have j3 := hB2.cell 3
      have j4 := hB2.cell 4
      have j5 := hB2.cell 5
      have j6 := hB2.cell 6
      refine bodyPost_ret (v := .agg #[.int .i64 T.re, .int .i64 T.rt, .int .i64 T.cn, .int .i64 T.cm, .int .i64 T.sh, .int .i64 T.sc, .int .i64 T.se]) (by simp [results, Try.results30, go_sem, j0, j1, j2, j3, j4, j5, j6]) rfl ⟨rfl, hbe⟩
end Go.Proofs.Ytipmamgmcipbfaa
