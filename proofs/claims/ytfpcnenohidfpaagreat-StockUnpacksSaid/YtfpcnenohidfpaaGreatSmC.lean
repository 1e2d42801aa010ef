/- The stock's calls: several texts as one (StkM, StkV, StkG, StkF, StkO, StkT, StkU, StkI). No condition but those told at each. -/
import Derived.Test.YtfpcnenohidfpaaGreatStkA
import Derived.Test.YtfpcnenohidfpaaGreatTwo
import Derived.Test.YtfpcnenohidfpaaGreatMayI
import Derived.OwnWalkIn
import Derived.Maps.OwnIn
import Derived.Test.YtfpcnenohidfpaaGreatBkF
import Derived.Test.YtfpcnenohidfpaaGreatHeldZ
namespace Go.Proofs.YtfpcnenohidfpaaGreat
section
open Go.RowKit Go.Maps Go.Shelf Go.Sort
set_option linter.unusedVariables false
set_option linter.unusedSimpArgs false

/-- A row. -/
structure Row where
  fr : Int
  he : Int
  pi : Int
  sa : Int
  re : Int
  rt : Int
  cn : Int
  cm : Int
  sh : Int
  sc : Int
  se : Int

def Row.v (r : Row) : Value := .agg #[.int .i64 r.fr, .int .i64 r.he, .int .i64 r.pi, .int .i64 r.sa, .int .i64 r.re, .int .i64 r.rt, .int .i64 r.cn, .int .i64 r.cm, .int .i64 r.sh, .int .i64 r.sc, .int .i64 r.se]
def row0 : Row := ⟨0, 0, 0, 0, 0, 0, 0, 0, 0, 0, 0⟩
/-- Elements are held as they are. -/
def rR (v : Value) : Option (DataW Value × List MemPlace) := some (.held v, [])
/-- The map reads as: f, and just ks are known. -/
def addS (ks : List (List UInt8)) (g : List UInt8) : List (List UInt8) := if g ∈ ks then ks else ks ++ [g]
theorem mem_addS {ks : List (List UInt8)} {g i : List UInt8} : i ∈ addS ks g ↔ i ∈ ks ∨ i = g := by
  unfold addS
  by_cases m : g ∈ ks
  · rw [if_pos m]
    exact ⟨.inl, fun h => h.elim id (fun e => e ▸ m)⟩
  · rw [if_neg m]
    simp
theorem addS_nodup {ks : List (List UInt8)} (h : ks.Nodup) (g : List UInt8) : (addS ks g).Nodup := by
  unfold addS
  by_cases m : g ∈ ks
  · rw [if_pos m]; exact h
  · rw [if_neg m]
    rw [List.nodup_append]
    exact ⟨h, by simp, fun a ha b hb => by simp at hb; subst hb; rintro rfl; exact m ha⟩
structure SR (D : DataW Value) (f : List UInt8 → Row) (ks : List (List UInt8)) : Prop where
  tidy : Tidy D
  val : ∀ g, D.atKey (.string g) (.held row0.v) = .held (f g).v
  has_ : ∀ g, has D (.string g) = decide (g ∈ ks)
  sz : Go.Maps.size D = ks.length
  nd : ks.Nodup
theorem SR.start : SR (.map []) (fun _ => row0) [] := ⟨tidy_empty, fun g => rfl, fun g => rfl, rfl, List.nodup_nil⟩
theorem SR.put {D : DataW Value} {f : List UInt8 → Row} {ks : List (List UInt8)} (h : SR D f ks) (g : List UInt8) (r : Row) :
    SR (D.put (.string g) (.held r.v)) (fun k => if k = g then r else f k) (addS ks g) := by
  have hne : ∀ k, k ≠ g → Lit.string k ≠ Lit.string g := fun k hk e => hk (by injection e)
  refine ⟨h.tidy.put (str_lit _) _, fun k => ?_, fun k => ?_, ?_, addS_nodup h.nd g⟩
  · by_cases e : k = g
    · subst e
      rw [if_pos rfl]
      exact atKey_put_same h.tidy.isMap (str_lit _) _ _
    · rw [if_neg e, atKey_put_other (hne k e)]
      exact h.val k
  · by_cases e : k = g
    · subst e
      rw [has_put_same h.tidy.isMap (str_lit _)]
      exact (decide_eq_true (mem_addS.2 (.inr rfl))).symm
    · rw [has_put_other (hne k e), h.has_ k]
      exact decide_eq_decide.2 ⟨fun m => mem_addS.2 (.inl m), fun m => (mem_addS.1 m).resolve_right e⟩
  · rw [size_put h.tidy, h.has_ g, h.sz]
    unfold addS
    by_cases m : g ∈ ks
    · simp [m]
    · simp [m]
theorem ownsMap_kept {S : Nat → Prop} {w w' : World} {R : Value → Option (DataW Value × List MemPlace)} {k : TypeId} {b n : Nat} {D : DataW Value} (h : w.ownsMap Tryz.prog k R b n D) (hk : Keep S w w') (hs : ¬ S b) : w'.ownsMap Tryz.prog k R b n D := by
  obtain ⟨es, clock, hb, F, h2⟩ := h
  exact ⟨es, clock, (hk.block b (Array.getElem?_eq_some_iff.1 hb).1 hs).trans hb, F, h2⟩

/-- A stock: its block, its map's block, how many entries its map may have had, what it reads as. -/
structure ST (w : World) (p b N : Nat) (f : List UInt8 → Row) (ks : List (List UInt8)) : Prop where
  pc : Blk w p 50 #[.map (some b)]
  mp : ∃ D, w.ownsMap Tryz.prog 9 rR b N D ∧ SR D f ks
  ne : p ≠ b
theorem ST.kept {S : Nat → Prop} {w w' : World} {p b N : Nat} {f : List UInt8 → Row} {ks : List (List UInt8)} (h : ST w p b N f ks) (k : Keep S w w') (h1 : ¬ S p) (h2 : ¬ S b) : ST w' p b N f ks := by
  obtain ⟨D, hm, hs⟩ := h.mp
  exact ⟨h.pc.kept k h1, ⟨D, ownsMap_kept hm k h2, hs⟩, h.ne⟩
theorem ST.lt {w : World} {p b N : Nat} {f : List UInt8 → Row} {ks : List (List UInt8)} (h : ST w p b N f ks) : p < w.heap.size ∧ b < w.heap.size := by
  obtain ⟨D, hm, hs⟩ := h.mp
  exact ⟨h.pc.lt, hm.lt⟩
theorem ST.below {w w' : World} {p b N : Nat} {f : List UInt8 → Row} {ks : List (List UInt8)} (h : ST w p b N f ks) (k : Below w.heap.size w w') : ST w' p b N f ks :=
  h.kept (Keep.of_below k) (fun e => absurd h.lt.1 (Nat.not_lt.2 e)) (fun e => absurd h.lt.2 (Nat.not_lt.2 e))
theorem ST.alloc {w : World} {p b N : Nat} {f : List UInt8 → Row} {ks : List (List UInt8)} (h : ST w p b N f ks) (o : Obj) : ST (w.alloc o) p b N f ks := h.below ((Below.refl _ w).alloc (Nat.le_refl _) o)

theorem ST.len {w : World} {p b N : Nat} {f : List UInt8 → Row} {ks : List (List UInt8)} (h : ST w p b N f ks) (ty : TypeId) : (Builtin.len_ #[48] ty #[.map (some b)]).run Tryz.prog w = .ok (.int .i64 (ks.length : Nat)) w := by
  obtain ⟨D, hm, hD⟩ := h.mp
  rw [← hD.sz]
  exact hm.len Tryz.underlying48 ty
theorem ST.upd {w : World} {p b N : Nat} {f : List UInt8 → Row} {ks : List (List UInt8)} (h : ST w p b N f ks) (hN : N < maxLen) (g : List UInt8) (hg : g.length ≤ maxLen) (r : Row) :
    ∃ w', (Instr.mapUpdate 48 (.map (some b)) (.string ⟨g.toArray⟩) r.v).run Tryz.prog w = .ok () w' ∧ ST w' p b (N + 1) (fun k => if k = g then r else f k) (addS ks g) ∧ Keep (fun i => i = b) w w' := by
  obtain ⟨D, hm, hD⟩ := h.mp
  obtain ⟨w', hrun, hm', hgr⟩ := hm.update (string_keyed Tryz.underlying9) Tryz.underlying48 hN (keyS g hg) (show rR r.v = some (.held r.v, []) from rfl)
  have hk : Keep (fun i => i = b) w w' := (Keep.of_grown hgr).mono fun i _ e => (Option.some.inj e).symm
  exact ⟨w', hrun, ⟨h.pc.kept hk h.ne, ⟨_, hm', hD.put g r⟩, h.ne⟩, hk⟩

theorem snew_any (w : World) : Calls Tryz.prog 9 #[] w fun e w' => ∃ p b, e = .returned (.pointer (some ⟨p, 0, none⟩)) ∧ ST w' p b 0 (fun _ => row0) [] ∧ w.heap.size ≤ p ∧ w.heap.size ≤ b ∧ Below w.heap.size w w' := by
  have hmm := @run_makeMap Tryz.prog
  go_enter Tryz.func9, Tryz.ntmps9
  go_wp2
  have hsz : (w.alloc (Obj.map #[] 0)).heap.size = w.heap.size + 1 := by simp
  have hblk := Blk.new (w.alloc (Obj.map #[] 0)) 50 #[.map (some w.heap.size)]
  have hown := (World.ownsMap_made w Tryz.prog 9 rR).alloc (.cells #[.map (some w.heap.size)] 50)
  have hbel := ((Below.refl w.heap.size w).alloc (Nat.le_refl _) (Obj.map #[] 0)).alloc (by rw [hsz]; exact Nat.le_succ _) (.cells #[.map (some w.heap.size)] 50)
  rw [hsz] at hblk
  go_ret
  exact ⟨w.heap.size + 1, w.heap.size, rfl, ⟨hblk, ⟨_, hown, SR.start⟩, by omega⟩, Nat.le_succ _, Nat.le_refl _, hbel⟩
end
section
open Go.RowKit Go.Maps Go.Shelf Go.Sort
set_option linter.unusedVariables false
set_option linter.unusedSimpArgs false

theorem row_info : (Tryz.prog.info? 44).map (fun i => (i.zero, i.size, i.bytes)) = some (some row0.v, 11, 88) := by kernel_rfl
theorem zero_row (w : World) : (zeroValue 44).run Tryz.prog w = .ok row0.v w := by
  obtain ⟨i, hi, hz, hs, hb1⟩ := info_parts row_info
  simp only [zeroValue, typeInfo, Sem.run_bind]
  simp [hi, hz]
theorem field_lev (a0 a1 a2 a3 a4 a5 a6 a7 a8 a9 a10 : Value) (w : World) : (Instr.field 44 (.agg #[a0, a1, a2, a3, a4, a5, a6, a7, a8, a9, a10]) 0).run Tryz.prog w = .ok (.agg #[a0, a1, a2, a3]) w := by kernel_rfl
theorem field_flo (a0 a1 a2 a3 a4 a5 a6 a7 a8 a9 a10 : Value) (w : World) : (Instr.field 44 (.agg #[a0, a1, a2, a3, a4, a5, a6, a7, a8, a9, a10]) 1).run Tryz.prog w = .ok (.agg #[a4, a5, a6, a7, a8, a9, a10]) w := by kernel_rfl

set_option maxRecDepth 100000 in
set_option maxHeartbeats 3200000 in
theorem level_any (w : World) {p b N : Nat} {f : List UInt8 → Row} {ks : List (List UInt8)} (h : ST w p b N f ks) (g : List UInt8) (hg : g.length ≤ maxLen) : Calls Tryz.prog 26 #[.pointer (some ⟨p, 0, none⟩), .string ⟨g.toArray⟩] w fun e w' => e = .returned (.agg #[.int .i64 (f g).fr, .int .i64 (f g).he, .int .i64 (f g).pi, .int .i64 (f g).sa]) ∧ Below w.heap.size w w' := by
  obtain ⟨D, hm, hs⟩ := h.mp
  have hc0 := h.pc.cell 0
  have hm1 := hm.alloc (.cells #[.int .i64 0, .int .i64 0, .int .i64 0, .int .i64 0] 40)
  have hc1 := (h.pc.alloc (.cells #[.int .i64 0, .int .i64 0, .int .i64 0, .int .i64 0] 40)).cell 0
  obtain ⟨v, ps, hrun, hv⟩ := hm1.lookup (string_keyed Tryz.underlying9) Tryz.underlying48 (zero_row _) (show rR row0.v = some (.held row0.v, []) from rfl) (key := .string ⟨g.toArray⟩) (kl := .string g) (keyS g hg)
  rw [hs.val g] at hv
  obtain rfl : v = (f g).v := by injection hv with e; injection e with e; injection e with e
  unfold Row.v at hrun
  have hfld := field_lev (.int .i64 (f g).fr) (.int .i64 (f g).he) (.int .i64 (f g).pi) (.int .i64 (f g).sa) (.int .i64 (f g).re) (.int .i64 (f g).rt) (.int .i64 (f g).cn) (.int .i64 (f g).cm) (.int .i64 (f g).sh) (.int .i64 (f g).sc) (.int .i64 (f g).se) (w.alloc (.cells #[.int .i64 0, .int .i64 0, .int .i64 0, .int .i64 0] 40))
  have hb0 := Below.refl w.heap.size w
  go_enter Tryz.func26, Tryz.ntmps26
  go_wp2
  have hbl := Blk.new w 40 #[.int .i64 (f g).fr, .int .i64 (f g).he, .int .i64 (f g).pi, .int .i64 (f g).sa]
  have j0 := hbl.cell 0
  have j1 := hbl.cell 1
  have j2 := hbl.cell 2
  have j3 := hbl.cell 3
  refine bodyPost_ret (v := .agg #[.int .i64 (f g).fr, .int .i64 (f g).he, .int .i64 (f g).pi, .int .i64 (f g).sa]) (by simp [results, Tryz.results26, go_sem, j0, j1, j2, j3]) rfl ⟨rfl, hb0.alloc (Nat.le_refl _) _⟩

set_option maxRecDepth 100000 in
theorem level_nil (w : World) (g : List UInt8) : Calls Tryz.prog 26 #[.pointer none, .string ⟨g.toArray⟩] w fun e w' => e = .returned (.agg #[.int .i64 0, .int .i64 0, .int .i64 0, .int .i64 0]) ∧ Below w.heap.size w w' := by
  have hb0 := (Below.refl w.heap.size w).alloc (Nat.le_refl _) (.cells #[.int .i64 0, .int .i64 0, .int .i64 0, .int .i64 0] 40)
  go_enter Tryz.func26, Tryz.ntmps26
  go_wp2
  have hbl := Blk.new w 40 #[.int .i64 0, .int .i64 0, .int .i64 0, .int .i64 0]
  have j0 := hbl.cell 0
  have j1 := hbl.cell 1
  have j2 := hbl.cell 2
  have j3 := hbl.cell 3
  refine bodyPost_ret (v := .agg #[.int .i64 0, .int .i64 0, .int .i64 0, .int .i64 0]) (by simp [results, Tryz.results26, go_sem, j0, j1, j2, j3]) rfl ⟨rfl, hb0⟩

set_option maxRecDepth 100000 in
set_option maxHeartbeats 3200000 in
theorem flow_any (w : World) {p b N : Nat} {f : List UInt8 → Row} {ks : List (List UInt8)} (h : ST w p b N f ks) (g : List UInt8) (hg : g.length ≤ maxLen) : Calls Tryz.prog 27 #[.pointer (some ⟨p, 0, none⟩), .string ⟨g.toArray⟩] w fun e w' => e = .returned (.agg #[.int .i64 (f g).re, .int .i64 (f g).rt, .int .i64 (f g).cn, .int .i64 (f g).cm, .int .i64 (f g).sh, .int .i64 (f g).sc, .int .i64 (f g).se]) ∧ Below w.heap.size w w' := by
  obtain ⟨D, hm, hs⟩ := h.mp
  have hc0 := h.pc.cell 0
  have hm1 := hm.alloc (.cells #[.int .i64 0, .int .i64 0, .int .i64 0, .int .i64 0, .int .i64 0, .int .i64 0, .int .i64 0] 42)
  have hc1 := (h.pc.alloc (.cells #[.int .i64 0, .int .i64 0, .int .i64 0, .int .i64 0, .int .i64 0, .int .i64 0, .int .i64 0] 42)).cell 0
  obtain ⟨v, ps, hrun, hv⟩ := hm1.lookup (string_keyed Tryz.underlying9) Tryz.underlying48 (zero_row _) (show rR row0.v = some (.held row0.v, []) from rfl) (key := .string ⟨g.toArray⟩) (kl := .string g) (keyS g hg)
  rw [hs.val g] at hv
  obtain rfl : v = (f g).v := by injection hv with e; injection e with e; injection e with e
  unfold Row.v at hrun
  have hfld := field_flo (.int .i64 (f g).fr) (.int .i64 (f g).he) (.int .i64 (f g).pi) (.int .i64 (f g).sa) (.int .i64 (f g).re) (.int .i64 (f g).rt) (.int .i64 (f g).cn) (.int .i64 (f g).cm) (.int .i64 (f g).sh) (.int .i64 (f g).sc) (.int .i64 (f g).se) (w.alloc (.cells #[.int .i64 0, .int .i64 0, .int .i64 0, .int .i64 0, .int .i64 0, .int .i64 0, .int .i64 0] 42))
  have hb0 := Below.refl w.heap.size w
  go_enter Tryz.func27, Tryz.ntmps27
  go_wp2
  have hbl := Blk.new w 42 #[.int .i64 (f g).re, .int .i64 (f g).rt, .int .i64 (f g).cn, .int .i64 (f g).cm, .int .i64 (f g).sh, .int .i64 (f g).sc, .int .i64 (f g).se]
  have j0 := hbl.cell 0
  have j1 := hbl.cell 1
  have j2 := hbl.cell 2
  have j3 := hbl.cell 3
  have j4 := hbl.cell 4
  have j5 := hbl.cell 5
  have j6 := hbl.cell 6
  refine bodyPost_ret (v := .agg #[.int .i64 (f g).re, .int .i64 (f g).rt, .int .i64 (f g).cn, .int .i64 (f g).cm, .int .i64 (f g).sh, .int .i64 (f g).sc, .int .i64 (f g).se]) (by simp [results, Tryz.results27, go_sem, j0, j1, j2, j3, j4, j5, j6]) rfl ⟨rfl, hb0.alloc (Nat.le_refl _) _⟩

set_option maxRecDepth 100000 in
theorem flow_nil (w : World) (g : List UInt8) : Calls Tryz.prog 27 #[.pointer none, .string ⟨g.toArray⟩] w fun e w' => e = .returned (.agg #[.int .i64 0, .int .i64 0, .int .i64 0, .int .i64 0, .int .i64 0, .int .i64 0, .int .i64 0]) ∧ Below w.heap.size w w' := by
  have hb0 := (Below.refl w.heap.size w).alloc (Nat.le_refl _) (.cells #[.int .i64 0, .int .i64 0, .int .i64 0, .int .i64 0, .int .i64 0, .int .i64 0, .int .i64 0] 42)
  go_enter Tryz.func27, Tryz.ntmps27
  go_wp2
  have hbl := Blk.new w 42 #[.int .i64 0, .int .i64 0, .int .i64 0, .int .i64 0, .int .i64 0, .int .i64 0, .int .i64 0]
  have j0 := hbl.cell 0
  have j1 := hbl.cell 1
  have j2 := hbl.cell 2
  have j3 := hbl.cell 3
  have j4 := hbl.cell 4
  have j5 := hbl.cell 5
  have j6 := hbl.cell 6
  refine bodyPost_ret (v := .agg #[.int .i64 0, .int .i64 0, .int .i64 0, .int .i64 0, .int .i64 0, .int .i64 0, .int .i64 0]) (by simp [results, Tryz.results27, go_sem, j0, j1, j2, j3, j4, j5, j6]) rfl ⟨rfl, hb0⟩

end
section
open Go.RowKit Go.Maps Go.Shelf Go.Sort
set_option linter.unusedVariables false
set_option linter.unusedSimpArgs false

theorem rising_make (b : Option Nat) (w : World) : Calls Tryz.prog 48 #[.map b] w fun e w' => e = .returned (.func (.func 62) #[] #[.pointer (some ⟨w.heap.size, 0, none⟩)]) ∧ w' = w.alloc (.cells #[.map b] 48) := by
  go_enter Tryz.func48, Tryz.ntmps48
  go_wp2
  go_ret
  exact ⟨rfl, rfl⟩
theorem goods_any (w : World) {p b N : Nat} {f : List UInt8 → Row} {ks : List (List UInt8)} (h : ST w p b N f ks) : Calls Tryz.prog 23 #[.pointer (some ⟨p, 0, none⟩)] w fun e w' => e = .returned (.func (.func 62) #[] #[.pointer (some ⟨w.heap.size, 0, none⟩)]) ∧ w' = w.alloc (.cells #[.map (some b)] 48) := by
  have hc0 := h.pc.cell 0
  go_enter Tryz.func23, Tryz.ntmps23
  go_wp2_with fail
  refine (rising_make (some b) _).mono ?_
  rintro e w1 ⟨rfl, rfl⟩
  go_wp2_with fail
  go_ret
  exact ⟨rfl, rfl⟩
theorem goods_nil (w : World) : Calls Tryz.prog 23 #[.pointer none] w fun e w' => ∃ g p b, e = .returned (.func (.func 62) #[] #[.pointer (some ⟨g, 0, none⟩)]) ∧ ST w' p b 0 (fun _ => row0) [] ∧ Blk w' g 48 #[.map (some b)] ∧ w.heap.size ≤ g ∧ w.heap.size ≤ p ∧ w.heap.size ≤ b ∧ Below w.heap.size w w' := by
  go_enter Tryz.func23, Tryz.ntmps23
  go_wp2_with fail
  refine (snew_any w).mono ?_
  rintro e w1 ⟨p, b, rfl, hs, hp, hb, hbel⟩
  go_wp2_with fail
  refine (goods_any w1 hs).mono ?_
  rintro e w2 ⟨rfl, rfl⟩
  go_wp2_with fail
  go_ret
  exact ⟨_, p, b, rfl, hs.alloc _, Blk.new _ _ _, hbel.size, hp, hb, hbel.alloc hbel.size _⟩
theorem pack_nil (w : World) : Calls Tryz.prog 8 #[.pointer none] w fun e w' => e = .returned (.slice none 0 0) ∧ Below w.heap.size w w' := by
  go_enter Tryz.func8, Tryz.ntmps8
  go_wp2
  go_ret
  exact ⟨rfl, (Below.refl _ w).alloc (Nat.le_refl _) _⟩
theorem count_nil (g : List UInt8) (n : Int) (w : World) : Calls Tryz.prog 25 #[.pointer none, .string ⟨g.toArray⟩, .int .i64 n] w fun e w' => e = .returned (.tuple #[.int .i64 0, .int .i64 6]) ∧ Below w.heap.size w w' := by
  have hb0 := Below.refl w.heap.size w
  go_enter Tryz.func25, Tryz.ntmps25
  go_wp2
  first
  | (go_ret2; exact ⟨rfl, hb0⟩)
  | (go_ret2; exact ⟨rfl, hb0.alloc (Nat.le_refl _) _⟩)
theorem do_nil (k : Int) (v : Value) (w : World) : Calls Tryz.prog 24 #[.pointer none, .int .i64 k, v] w fun e w' => e = .returned (.int .i64 6) ∧ Below w.heap.size w w' := by
  go_enter Tryz.func24, Tryz.ntmps24
  go_wp2_with fail
  refine (about_any k _).mono ?_
  rintro e w1 ⟨rfl, hb1⟩
  go_wp2_with fail
  go_ret
  exact ⟨rfl, hb1⟩
end
section
open Go.RowKit Go.Maps Go.Shelf Go.Sort
set_option linter.unusedVariables false
set_option linter.unusedSimpArgs false
attribute [local go_sem] Oper.semAt_some

/-- How many goods of the list are not known. -/
def freshN (ks : List (List UInt8)) (l : List It) : Nat := (l.filter (fun x => !decide (x.1 ∈ ks))).length
theorem freshN_snoc (ks : List (List UInt8)) (l : List It) (s : List UInt8) (q : Int) : freshN ks (l ++ [(s, q)]) = freshN ks l + (if s ∈ ks then 0 else 1) := by
  unfold freshN
  rw [List.filter_append, List.length_append]
  by_cases h : s ∈ ks <;> simp [h]
theorem freshN_le (ks : List (List UInt8)) (l : List It) : freshN ks l ≤ l.length := List.length_filter_le _ _

theorem all_new (A : Option Addr) (n c : Nat) (la : List It) (w : World) (hla : IL w A n la) (hn : n * 24 ≤ 140737488355328) :
    Calls Tryz.prog 55 #[.slice A n c] w fun e w' => ∃ B CA cc, e = .returned (.func (.func 78) #[] #[.pointer (some ⟨B, 0, none⟩)]) ∧ w.heap.size ≤ B ∧ CL w' B (.slice CA la.length cc) ∧ IL w' CA la.length la ∧ (∀ ad, CA = some ad → 0 < la.length → w.heap.size ≤ ad.block) ∧ Below w.heap.size w w' := by
  go_enter Tryz.func55, Tryz.ntmps55
  go_wp2_with fail
  refine (clone_any A n c la _ hla hn).mono ?_
  rintro e w1 ⟨v, rfl, ho1, hb1⟩
  have hlt := ho1.lt
  obtain ⟨CA, cc, rfl, hlc, hcm, hil1, _⟩ := ho1.form
  go_wp2_with fail
  refine (over_make CA _ cc w1).mono ?_
  rintro e w2 ⟨rfl, rfl⟩
  go_wp2_with fail
  go_ret
  exact ⟨w1.heap.size, CA, cc, rfl, hb1.size, CL.new _ _ _, hil1.alloc _, fun ad h h' => (hlt ad.block (by subst h; rfl)).1, hb1.alloc hb1.size _⟩

set_option maxRecDepth 100000 in
set_option maxHeartbeats 1600000 in
theorem sfresh_any (A : Option Addr) (n c : Nat) (l : List It) (w : World) {p b N : Nat} {f : List UInt8 → Row} {ks : List (List UInt8)} (h : ST w p b N f ks) (hl : IL w A n l) (hn : n * 24 ≤ 140737488355328) (hw : ∀ x ∈ l, x.1.length ≤ maxLen) :
    Calls Tryz.prog 52 #[.pointer (some ⟨p, 0, none⟩), .slice A n c] w fun e w' => e = .returned (.int .i64 (freshN ks l : Nat)) ∧ Below w.heap.size w w' := by
  have hlen := hl.len
  refine (callsIn_wide (n := 9)).1 ?_
  refine callsIn_of_wp_marks Tryz.func52 rfl trivial ?_ rfl
  simp only [Tryz.ntmps52, List.size_toArray, List.length_cons, List.length_nil, Nat.reduceAdd, Nat.reduceSub, Array.replicate_succ, Array.replicate_zero, List.push_toArray, List.append_toArray, List.nil_append, List.cons_append]
  have hP0 := CL.new w (.pointer (some ⟨p, 0, none⟩)) 23
  have hl0 := hl.alloc (.cells #[.pointer (some ⟨p, 0, none⟩)] 23)
  have hl1 := hl0.alloc (.cells #[.int .i64 0] 3)
  have hb0 := (Below.refl w.heap.size w).alloc (Nat.le_refl _) (.cells #[.pointer (some ⟨p, 0, none⟩)] 23)
  have hb1 := hb0.alloc hb0.size (.cells #[.int .i64 0] 3)
  gi_wp2_with (refine ⟨trivial, ?_⟩; gi_at_call 55; refine (callsIn_wide.2 (all_new A n c l _ (by assumption) hn)).mono ?_; rintro e w2 ⟨B, CA, cc, rfl, hBl, hC, hil, hCN, hb2⟩)
  --A
  generalize hW1 : (w.alloc (.cells #[.pointer (some ⟨p, 0, none⟩)] 23)).alloc (.cells #[.int .i64 0] 3) = W1 at *
  have hz1 : W1.heap.size = w.heap.size + 2 := by rw [← hW1]; simp
  have hP1 : CL W1 w.heap.size (.pointer (some ⟨p, 0, none⟩)) := by rw [← hW1]; exact hP0.alloc _
  have hM1 : CL W1 (w.heap.size + 1) (.int .i64 0) := by
    have := CL.new (w.alloc (.cells #[.pointer (some ⟨p, 0, none⟩)] 23)) (.int .i64 0) 3
    rw [World.size_alloc] at this
    rw [← hW1]
    exact this
  have hbw2 := hb1.trans (hb2.mono hb1.size)
  have hP2 := hP1.below hb2
  have hM2 := hM1.below hb2
  have hz2 := hb2.size
  have hCA := hil.lt
  clear hW1 hP0 hl0 hl1 hb0 hb1 hP1 hM1
  refine range_over' CA l.length cc l B (fun k => k = w.heap.size + 1) rfl rfl hC.at_ hil (fun ad h h' => ?ca) (by omega)
    (fun pre W => CL W w.heap.size (.pointer (some ⟨p, 0, none⟩)) ∧ CL W (w.heap.size + 1) (.int .i64 (freshN ks pre : Nat)) ∧ Below w.heap.size w W)
    (fun c pre W => False)
    (fun s X Y row h hg hr => ⟨h.1.row hg hr, h.2.1.row hg hr, below_row h.2.2 hg (by have := h.2.1.lt; omega) (by omega) hr⟩)
    (fun c s X Y row h hg hr => h)
    ⟨hP2, hM2, hbw2⟩ ?round ?done ?stop
  case ca =>
    have h1 := hCN ad h h'
    show ad.block ≠ w.heap.size + 1
    omega
  case round =>
    apply Exists.intro
    constructor
    · intro l' x W K hx hK
      gi_wp2
      exact hK
    · rintro l' pre ⟨s, q⟩ W hx hzW ⟨hP, hM, hb⟩ hlen
      dsimp only at hx ⊢
      have hbz := hb.size
      have hST := h.below hb
      obtain ⟨D, hm, hs⟩ := hST.mp
      have hcS := hST.pc.cell 0
      have c0 := hP.at_
      have c1 := hM.at_
      have hsl := hw _ hx
      have hal : Below W.heap.size W (W.alloc (.cells #[.int .i64 (f s).fr, .int .i64 (f s).he, .int .i64 (f s).pi, .int .i64 (f s).sa, .int .i64 (f s).re, .int .i64 (f s).rt, .int .i64 (f s).cn, .int .i64 (f s).cm, .int .i64 (f s).sh, .int .i64 (f s).sc, .int .i64 (f s).se] 44)) := (Below.refl W.heap.size W).alloc (Nat.le_refl _) _
      have hMa := hM.alloc (.cells #[.int .i64 (f s).fr, .int .i64 (f s).he, .int .i64 (f s).pi, .int .i64 (f s).sa, .int .i64 (f s).re, .int .i64 (f s).rt, .int .i64 (f s).cn, .int .i64 (f s).cm, .int .i64 (f s).sh, .int .i64 (f s).sc, .int .i64 (f s).se] 44)
      have c2 := hMa.at_
      have f2 := hMa.fz
      have hfl := freshN_le ks pre
      obtain ⟨v, ps, hrun, hv⟩ := hm.look_ok (string_keyed Tryz.underlying9) Tryz.underlying48 (zero_row _) (show rR row0.v = some (.held row0.v, []) from rfl) (key := .string ⟨s.toArray⟩) (kl := .string s) (keyS s hsl)
      rw [hs.val s] at hv
      obtain rfl : v = (f s).v := by injection hv with e; injection e with e; injection e with e
      rw [hs.has_ s] at hrun
      unfold Row.v at hrun
      have hfs := freshN_snoc ks pre s q
      by_cases hk : s ∈ ks
      · rw [decide_eq_true hk] at hrun
        rw [if_pos hk] at hfs
        gi_wp2
        exact ⟨Keep.from_below hal, ⟨by simp, fun k hk hS => hal.block k (by omega)⟩, hP.alloc _, by rw [hfs]; exact hMa, hb.alloc hb.size _⟩
      · rw [decide_eq_false hk] at hrun
        rw [if_neg hk] at hfs
        have hq : (freshN ks pre : Int) + 1 ≤ 9223372036854775807 := by omega
        have hq0 : (0 : Int) ≤ (freshN ks pre : Int) := by omega
        gi_wp2
        --C
        refine ⟨(Keep.from_below hal).trans ((KeepsOthers.setCell _ _ _).from _), ⟨by simp [World.setCell], fun k hk hS => by rw [Below.heap_setCell _ _ _ _ (by exact hS)]; exact hal.block k (by omega)⟩, (hP.alloc _).other (by omega) _ _, ?_, (hb.alloc hb.size _).setCell (p := ⟨w.heap.size + 1, 0, none⟩) (by dsimp only; omega) _⟩
        rw [hfs]
        exact hMa.set_ _
  case done =>
    rintro D W hD ⟨hP, hM, hb⟩ hDf
    have c1 := hM.at_
    gi_wp2
    refine ⟨by simp, .inl ⟨_, _, rfl, run_takeDeferred hDf, ?_⟩⟩
    exact ⟨.int .i64 (freshN ks l : Nat), by simp [results, Tryz.results52, go_sem], rfl, below_putD hb (by omega) hDf⟩
  case stop =>
    rintro D c pre W hD hpre hF hDf
    exact hF.elim
end
section
open Go.RowKit Go.Maps Go.Shelf Go.Sort
set_option linter.unusedVariables false
set_option linter.unusedSimpArgs false

/-- A row's cells. -/
def Row.cs (r : Row) : List Value := [.int .i64 r.fr, .int .i64 r.he, .int .i64 r.pi, .int .i64 r.sa, .int .i64 r.re, .int .i64 r.rt, .int .i64 r.cn, .int .i64 r.cm, .int .i64 r.sh, .int .i64 r.sc, .int .i64 r.se]
theorem Row.cs_len (r : Row) : r.cs.length = 11 := rfl
theorem Row.cs_one (r : Row) : ∀ u ∈ r.cs, u.oneCell' = true := by
  intro u hu
  simp [Row.cs] at hu
  rcases hu with rfl | rfl | rfl | rfl | rfl | rfl | rfl | rfl | rfl | rfl | rfl <;> rfl
/-- The value v owns the rows l. -/
def RO (base : Nat) (w : World) (v : Value) (l : List Row) : Prop := w.ownsRow base 44 11 v l.length (l.flatMap Row.cs)
theorem rows_len (l : List Row) : (l.flatMap Row.cs).length = l.length * 11 := by
  induction l with
  | nil => rfl
  | cons x l ih => rw [List.flatMap_cons, List.length_append, ih, List.length_cons, Row.cs_len]; omega
theorem rows_get : ∀ (l : List Row) (j : Nat) (x : Row) (i : Nat) (c : Value), l[j]? = some x → x.cs[i]? = some c → (l.flatMap Row.cs)[j * 11 + i]? = some c
  | [], j, x, i, c, h, _ => by simp at h
  | y :: l, 0, x, i, c, h, h' => by
    simp at h
    subst h
    have hi := (List.getElem?_eq_some_iff.1 h').1
    rw [List.flatMap_cons, List.getElem?_append_left (by omega), show 0 * 11 + i = i by omega]
    exact h'
  | y :: l, j + 1, x, i, c, h, h' => by
    have := rows_get l j x i c (by simpa using h) h'
    rw [List.flatMap_cons, show (j + 1) * 11 + i = y.cs.length + (j * 11 + i) by rw [Row.cs_len]; omega, List.getElem?_append_right (by omega)]
    simpa using this
section
variable {base : Nat} {w w' : World} {v : Value} {l : List Row}
theorem RO.nil (base : Nat) (w : World) : RO base w (.slice none 0 0) [] := World.ownsRow_nil _ _ _ _
theorem RO.form (h : RO base w v l) : ∃ A cap, v = .slice A l.length cap ∧ l.length ≤ cap ∧ cap ≤ maxLen ∧ ∀ (j : Nat) (x : Row), l[j]? = some x → ∃ b, A = some ⟨b, 0, none⟩ ∧ ∀ i c, x.cs[i]? = some c → w.cell? ⟨b, j * 11 + i, none⟩ = some c := by
  rcases h.2 with ⟨rfl, h0⟩ | ⟨g, cap, cur, rfl, hb, hh, hl, hm, hs, ht⟩
  · have : l = [] := List.eq_nil_of_length_eq_zero h0
    subst this
    exact ⟨none, 0, rfl, Nat.le_refl _, by simp [maxLen], fun j x hx => by simp at hx⟩
  · refine ⟨_, cap, rfl, hl, hm, fun j x hx => ⟨g, rfl, fun i c hc => ?_⟩⟩
    have hj := World.ownsRow.cells h (g := g) rfl _ _ (rows_get l j x i c hx hc)
    rw [Addr.add_lit, Nat.zero_add] at hj
    exact hj
theorem RO.kept {S : Nat → Prop} (h : RO base w v l) (k : Keep S w w') (hs : ∀ g, v.ownBlock = some g → ¬ S g) : RO base w' v l := by
  refine ⟨h.1, ?_⟩
  rcases h.2 with hn | ⟨g, cap, cur, rfl, hb, hgg, rest⟩
  · exact .inl hn
  · refine .inr ⟨g, cap, cur, rfl, hb, ?_, rest⟩
    rw [k.block g (Array.getElem?_eq_some_iff.1 hgg).1 (hs g rfl)]
    exact hgg
theorem RO.lt (h : RO base w v l) : ∀ k, v.ownBlock = some k → base ≤ k ∧ k < w.heap.size := World.ownsRow.lt h
theorem RO.alloc (h : RO base w v l) (o : Obj) : RO base (w.alloc o) v l := h.kept ((Keep.refl (fun _ => False) w).alloc o) fun _ _ => id
theorem RO.drew (h : RO base w v l) : RO base w.drew v l := h
theorem RO.below (h : RO base w v l) (k : Below w.heap.size w w') : RO base w' v l := h.kept (Keep.of_below k) fun g hg => by have := (h.lt g hg).2; omega
theorem RO.mono {b' : Nat} (h : RO base w v l) (hb : b' ≤ base) : RO b' w v l := by
  refine ⟨h.1, ?_⟩
  rcases h.2 with hn | ⟨g, cap, cur, hv, hbb, rest⟩
  · exact .inl hn
  · exact .inr ⟨g, cap, cur, hv, by omega, rest⟩
theorem RO.blk (h : RO base w v l) : ∀ g, v.ownBlock = some g → ∃ o : Obj, w.heap[g]? = some o ∧ o.isCells = true := by
  intro g hg
  rcases h.2 with ⟨rfl, _⟩ | ⟨g', cap, cur, rfl, _, hgg, _⟩
  · simp [Value.ownBlock] at hg
  · simp [Value.ownBlock] at hg
    subst hg
    exact ⟨_, hgg, rfl⟩
end
theorem run_appR (w : World) (base : Nat) (ty : TypeId) (v : Value) (l : List Row) (hown : RO base w v l) (ad : Addr) (x : Row) (hc : ∀ j u, x.cs[j]? = some u → w.cell? (ad.add j) = some u)
    (hn : (l.length + 1) * 88 ≤ 140737488355328) (hbase : base ≤ w.heap.size) :
    ∃ v' w', (Builtin.append_ #[101, 101] ty #[v, .slice (some ad) 1 1]).run Tryz.prog w = .ok v' w' ∧ RO base w' v' (l ++ [x]) ∧ Keep (fun k => v.ownBlock = some k) w w' ∧ (v'.ownBlock = v.ownBlock ∨ v'.ownBlock = some w.heap.size) := by
  obtain ⟨i, hi, hz, hs, hb⟩ := info_parts row_info
  obtain ⟨v', w', hrun, h2, h3, _, h5⟩ := run_append_own_at (P := Tryz.prog) w base 101 ty 44 i row0.v 11 88 Tryz.underlying101 hi hz hs hb rfl (by decide) v l.length (l.flatMap Row.cs) hown ad 1 1 x.cs
    (by rw [Row.cs_len]) hc x.cs_one (by simp only [maxLen]; omega) (by omega) hbase
  refine ⟨v', w', hrun, ?_, Keep.of_grown h3, h5⟩
  show w'.ownsRow base 44 11 v' (l ++ [x]).length ((l ++ [x]).flatMap Row.cs)
  rw [List.length_append, List.flatMap_append]
  simpa using h2
end
section
open Go.RowKit Go.Maps Go.Shelf Go.Sort
set_option linter.unusedVariables false
set_option linter.unusedSimpArgs false
attribute [local go_sem] Oper.semAt_some

def ivOf : Value → Int | .int _ x => x | _ => 0
def rowOf (a : Array Value) : Row := ⟨ivOf (a.getD 0 (.int .i64 0)), ivOf (a.getD 1 (.int .i64 0)), ivOf (a.getD 2 (.int .i64 0)), ivOf (a.getD 3 (.int .i64 0)), ivOf (a.getD 4 (.int .i64 0)), ivOf (a.getD 5 (.int .i64 0)), ivOf (a.getD 6 (.int .i64 0)), ivOf (a.getD 7 (.int .i64 0)), ivOf (a.getD 8 (.int .i64 0)), ivOf (a.getD 9 (.int .i64 0)), ivOf (a.getD 10 (.int .i64 0))⟩
def doneR (k n : Int) (r : Row) : Row := rowOf (doneA k n r.fr r.he r.pi r.sa r.re r.rt r.cn r.cm r.sh r.sc r.se)
theorem doneR_eq (k n : Int) (r : Row) : doneA k n r.fr r.he r.pi r.sa r.re r.rt r.cn r.cm r.sh r.sc r.se = (doneR k n r).cs.toArray := by
  have ⟨x0, x1, x2, x3, x4, x5, x6, x7, x8, x9, x10, hx⟩ : ∃ x0 x1 x2 x3 x4 x5 x6 x7 x8 x9 x10 : Int, doneA k n r.fr r.he r.pi r.sa r.re r.rt r.cn r.cm r.sh r.sc r.se = #[.int .i64 x0, .int .i64 x1, .int .i64 x2, .int .i64 x3, .int .i64 x4, .int .i64 x5, .int .i64 x6, .int .i64 x7, .int .i64 x8, .int .i64 x9, .int .i64 x10] := by
    generalize ha : doneA k n r.fr r.he r.pi r.sa r.re r.rt r.cn r.cm r.sh r.sc r.se = a
    unfold doneA at ha
    by_cases h1 : k = 1
    · rw [if_pos h1] at ha
      exact ⟨_, _, _, _, _, _, _, _, _, _, _, ha.symm⟩
    rw [if_neg h1] at ha
    by_cases h2 : k = 2
    · rw [if_pos h2] at ha
      exact ⟨_, _, _, _, _, _, _, _, _, _, _, ha.symm⟩
    rw [if_neg h2] at ha
    by_cases h3 : k = 3
    · rw [if_pos h3] at ha
      exact ⟨_, _, _, _, _, _, _, _, _, _, _, ha.symm⟩
    rw [if_neg h3] at ha
    by_cases h4 : k = 4
    · rw [if_pos h4] at ha
      exact ⟨_, _, _, _, _, _, _, _, _, _, _, ha.symm⟩
    rw [if_neg h4] at ha
    by_cases h5 : k = 5
    · rw [if_pos h5] at ha
      exact ⟨_, _, _, _, _, _, _, _, _, _, _, ha.symm⟩
    rw [if_neg h5] at ha
    by_cases h6 : k = 6
    · rw [if_pos h6] at ha
      exact ⟨_, _, _, _, _, _, _, _, _, _, _, ha.symm⟩
    rw [if_neg h6] at ha
    by_cases h7 : k = 7
    · rw [if_pos h7] at ha
      exact ⟨_, _, _, _, _, _, _, _, _, _, _, ha.symm⟩
    rw [if_neg h7] at ha
    by_cases h8 : k = 8
    · rw [if_pos h8] at ha
      exact ⟨_, _, _, _, _, _, _, _, _, _, _, ha.symm⟩
    rw [if_neg h8] at ha
    by_cases h9 : k = 9
    · rw [if_pos h9] at ha
      exact ⟨_, _, _, _, _, _, _, _, _, _, _, ha.symm⟩
    rw [if_neg h9] at ha
    by_cases h10 : k = 10
    · rw [if_pos h10] at ha
      exact ⟨_, _, _, _, _, _, _, _, _, _, _, ha.symm⟩
    rw [if_neg h10] at ha
    by_cases h11 : k = 11
    · rw [if_pos h11] at ha
      exact ⟨_, _, _, _, _, _, _, _, _, _, _, ha.symm⟩
    rw [if_neg h11] at ha
    exact ⟨_, _, _, _, _, _, _, _, _, _, _, ha.symm⟩
  unfold doneR
  rw [hx]
  rfl
def afterL (k : Int) (f : List UInt8 → Row) (l : List It) : List Row := l.map fun x => doneR k x.2 (f x.1)

end
section
open Go.RowKit Go.Maps Go.Shelf Go.Sort
set_option linter.unusedVariables false
set_option linter.unusedSimpArgs false
attribute [local go_sem] Oper.semAt_some

section
variable {P : Program} {md : Region.Mode} {ops : Array Oper} {Q : Exit → Act → World → Prop} {S : World → Prop} {z : Nat}
theorem tkZ {oi : Oper} {v : Value} {n : Nat} {listed : Array Bool} {a : Act} {w : World} (i : Nat) (hi : ops[i]? = some oi) (hz : waitsFor md ops z i = true) (hne : i ≠ z)
    (hs : Region.noSelect ops = true) (hf : Region.free md ops listed i = true) (hr : (Region.ready md ops listed).contains i = true)
    (hQ : ∀ c a w, Q (.panic c) (a.put oi.dst v) w → Q (.panic c) a w) (hw : Region.wanted oi (yielded ops a.tmps) = true) (hy : ∀ w, S w → (execOp a.eval oi).run P w = .ok (.value v) w) (hS : S w)
    (h : wpAnyZ P md ops Q S z n (listed.setIfInBounds i true) (a.put oi.dst v) w) : wpAnyZ P md ops Q S z (n + 1) listed a w :=
  wpAnyZ_take hi hz hne hs hf hr hQ (.inl ⟨hw, hy⟩) hS h
theorem wpIn_region_roundZ {n l id : Nat} {a : Act} {w : World} (z : Nat) (hm : P.follows .mixedOrders = true) (hd : noDefer ops = true) (hQ : ¬ LetsOut Q) (hS : S w.drew)
    (h : S w.drew → wpAnyZ P .any ops Q S z ops.size (Array.replicate ops.size false) a w.drew) : (Code.region id ops true).wpIn (Fence.wide.inRound l) n P Q a w :=
  wpIn_region_any hm (wpAny_round hd hQ _ _ _ _ (wpAny_of_z _ _ _ _ (h hS)))
end
theorem wp_appR {w : World} {o : Oper} {a : Act} {K : Act → World → Prop} {Q : Exit → Act → World → Prop} (s x : Operand) (ho : o.op = .call { callee := .builtin .append, args := #[s, x], argTypes := #[101, 101] })
    (base : Nat) (v : Value) (l : List Row) (hs : a.eval s = v) (hown : RO base w v l) (ad : Addr) (r : Row) (hx : a.eval x = .slice (some ad) 1 1) (hc : ∀ j u, r.cs[j]? = some u → w.cell? (ad.add j) = some u)
    (hn : (l.length + 1) * 88 ≤ 140737488355328) (hbase : base ≤ w.heap.size)
    (h : ∀ v' w', RO base w' v' (l ++ [r]) → Keep (fun k => v.ownBlock = some k) w w' → (v'.ownBlock = v.ownBlock ∨ v'.ownBlock = some w.heap.size) → K (a.put o.dst v') w') : o.wp Tryz.prog a w K Q := by
  obtain ⟨v', w', hrun, h2, h3, h4⟩ := run_appR w base o.type v l hown ad r hc hn hbase
  unfold Oper.wp execOp
  simp only [ho, resolve, invoke, builtin, Sem.run_bind, Sem.run_pure, Result.andThen_ok, List.map_toArray, List.map_cons, List.map_nil, hs, hx, hrun]
  exact h v' w' h2 h3 h4
theorem row_add {w : World} {g : Nat} {x0 x1 x2 x3 x4 x5 x6 x7 x8 x9 x10 : Int} (h : Blk w g 44 #[.int .i64 x0, .int .i64 x1, .int .i64 x2, .int .i64 x3, .int .i64 x4, .int .i64 x5, .int .i64 x6, .int .i64 x7, .int .i64 x8, .int .i64 x9, .int .i64 x10]) : ∀ j u, (Row.cs ⟨x0, x1, x2, x3, x4, x5, x6, x7, x8, x9, x10⟩)[j]? = some u → w.cell? ((⟨g, 0, none⟩ : Addr).add j) = some u := by
  intro j u hu
  have := h.cell j
  rw [Addr.add_lit, Nat.zero_add, this, List.getElem?_toArray]
  exact hu
set_option maxRecDepth 100000 in
theorem look_row {W : World} {p b N : Nat} {f : List UInt8 → Row} {ks : List (List UInt8)} (h : ST W p b N f ks) (s : List UInt8) (hs : s.length ≤ maxLen) : (Instr.lookup 48 (.map (some b)) (.string ⟨s.toArray⟩) false).run Tryz.prog W = .ok (.agg #[.int .i64 (f s).fr, .int .i64 (f s).he, .int .i64 (f s).pi, .int .i64 (f s).sa, .int .i64 (f s).re, .int .i64 (f s).rt, .int .i64 (f s).cn, .int .i64 (f s).cm, .int .i64 (f s).sh, .int .i64 (f s).sc, .int .i64 (f s).se]) W := by
  obtain ⟨D, hm, hsr⟩ := h.mp
  obtain ⟨v, ps, hrun, hv⟩ := hm.lookup (string_keyed Tryz.underlying9) Tryz.underlying48 (zero_row _) (show rR row0.v = some (.held row0.v, []) from rfl) (key := .string ⟨s.toArray⟩) (kl := .string s) (keyS s hs)
  rw [hsr.val s] at hv
  obtain rfl : v = (f s).v := by injection hv with e; injection e with e; injection e with e
  exact hrun
theorem afterL_len (k : Int) (f : List UInt8 → Row) (l : List It) : (afterL k f l).length = l.length := by simp [afterL]
theorem afterL_snoc (k : Int) (f : List UInt8 → Row) (l : List It) (s : List UInt8) (q : Int) : afterL k f (l ++ [(s, q)]) = afterL k f l ++ [doneR k q (f s)] := by simp [afterL]
theorem RO.row {base : Nat} {W W' : World} {v : Value} {l : List Row} {row : Option Nat} {n : Nat} (h : RO base W v l) (hg : W.grownBy W' row) (hr : ∀ r, row = some r → n ≤ r ∧ ∃ o : Obj, W.heap[r]? = some o ∧ o.isCells = false) : RO base W' v l :=
  h.kept (Keep.of_grown hg) fun g hgb => by
    obtain ⟨o, h1, h2⟩ := h.blk g hgb
    exact row_not hr h1 h2
theorem RO.putD {base D : Nat} {W : World} {v : Value} {l : List Row} (h : RO base W v l) (hD : W.heap[D]? = some (.deferred (some []))) : RO base (W.putObj D (.deferred none)) v l :=
  h.kept (Keep.of_grown (grownBy_putObj' W D _)) fun g hgb e => by
    obtain ⟨o, h1, h2⟩ := h.blk g hgb
    cases e
    rw [hD] at h1
    cases h1
    cases h2
theorem Keep.ofB {S : Nat → Prop} {w w' : World} (h : Below w.heap.size w w') : Keep S w w' := ⟨h.os, h.tape, h.output, h.size, fun k hk _ => h.block k hk⟩
/-- What stands behind a round: all of it out of the region's own three steps. -/
structure Fin (w : World) (n₀ : Nat) (W : World) (p : Nat) (k : Int) (v : Value) (l : List Row) : Prop where
  hP : CL W (w.heap.size) (.pointer (some ⟨p, 0, none⟩))
  hK : CL W (w.heap.size + 1) (.int .i64 k)
  hT : CL W (w.heap.size + 1 + 1) v
  hO : RO n₀ W v l
  hb : Below w.heap.size w W
  hz : w.heap.size + 1 + 1 < n₀
  hn : n₀ ≤ W.heap.size
section
variable {w W wz w6 w7 : World} {n₀ p : Nat} {k : Int} {v v7 : Value} {l l7 : List Row}
theorem Fin.cl (h : Fin w n₀ W p k v l) (hK7 : Keep (fun k => v.ownBlock = some k) w6 w7) (b6 : Below W.heap.size W w6) : CL w7 (w.heap.size + 1 + 1) v :=
  (h.hT.below b6).kept hK7 (fun e => by have := (h.hO.lt _ e).1; have := h.hz; omega)
theorem Fin.keep (h : Fin w n₀ W p k v l) (hK7 : Keep (fun k => v.ownBlock = some k) w6 w7) (b6 : Below W.heap.size W w6) (u : Value) : Keep (fun k => k = w.heap.size + 1 + 1 ∨ v.ownBlock = some k) W (w7.setCell ⟨w.heap.size + 1 + 1, 0, none⟩ u) :=
  ((Keep.ofB (S := fun k => k = w.heap.size + 1 + 1 ∨ v.ownBlock = some k) b6).trans hK7 (fun i hi e => .inr e)).setCell (p := ⟨w.heap.size + 1 + 1, 0, none⟩) (fun _ => .inl rfl) u
theorem Fin.next (h : Fin w n₀ W p k v l) (hK7 : Keep (fun k => v.ownBlock = some k) w6 w7) (b6 : Below W.heap.size W w6) (hO7 : RO n₀ w7 v7 l7) : Fin w n₀ (w7.setCell ⟨w.heap.size + 1 + 1, 0, none⟩ v7) p k v7 l7 := by
  have hk := h.keep hK7 b6 v7
  have hz := h.hz
  have hn := h.hn
  have hsz := hk.size
  refine ⟨h.hP.kept hk ?_, h.hK.kept hk ?_, (h.cl hK7 b6).set_ v7, hO7.kept ((Keep.refl (fun k => k = w.heap.size + 1 + 1) w7).setCell (p := ⟨w.heap.size + 1 + 1, 0, none⟩) (fun _ => rfl) v7) (fun g hg e => by have := (hO7.lt g hg).1; omega), h.hb.trans (hk.below h.hb.size ?_), hz, by omega⟩
  · rintro (e | e)
    · omega
    · have := (h.hO.lt _ e).1
      omega
  · rintro (e | e)
    · omega
    · have := (h.hO.lt _ e).1
      omega
  · rintro i hi (e | e)
    · omega
    · have := (h.hO.lt _ e).1
      omega
theorem Fin.out (h : Fin w n₀ W p k v l) (hK7 : Keep (fun k => v.ownBlock = some k) w6 w7) (b6 : Below W.heap.size W w6) : KeepsFrom n₀ W (w7.setCell ⟨w.heap.size + 1 + 1, 0, none⟩ v7) ∧ KX n₀ (fun k => k = w.heap.size + 1 + 1) W (w7.setCell ⟨w.heap.size + 1 + 1, 0, none⟩ v7) := by
  have hk := h.keep hK7 b6 v7
  refine ⟨hk.from fun i hi hB e => ?_, hk.kx h.hn fun i hi e => ?_⟩
  · rcases e with e | e
    · have := h.hz
      omega
    · exact h.hO.blk i e
  · rcases e with e | e
    · exact e
    · have := (h.hO.lt _ e).1
      omega
end
set_option maxRecDepth 100000 in
set_option maxHeartbeats 3200000 in
theorem after_any (k : Int) (A : Option Addr) (n c : Nat) (l : List It) (w : World) {p b N : Nat} {f : List UInt8 → Row} {ks : List (List UInt8)} (h : ST w p b N f ks) (hl : IL w A n l) (hn : n * 88 ≤ 140737488355328) (hw : ∀ x ∈ l, x.1.length ≤ maxLen) :
    Calls Tryz.prog 51 #[.pointer (some ⟨p, 0, none⟩), .int .i64 k, .slice A n c] w fun e w' => ∃ v, e = .returned v ∧ RO w.heap.size w' v (afterL k f l) ∧ Below w.heap.size w w' := by
  have hlen := hl.len
  refine (callsIn_wide (n := 9)).1 ?_
  refine callsIn_of_wp_marks Tryz.func51 rfl trivial ?_ rfl
  simp only [Tryz.ntmps51, List.size_toArray, List.length_cons, List.length_nil, Nat.reduceAdd, Nat.reduceSub, Array.replicate_succ, Array.replicate_zero, List.push_toArray, List.append_toArray, List.nil_append, List.cons_append]
  have hP0 := CL.new w (.pointer (some ⟨p, 0, none⟩)) 23
  have hl0 := hl.alloc (.cells #[.pointer (some ⟨p, 0, none⟩)] 23)
  have hl1 := hl0.alloc (.cells #[.int .i64 k] 3)
  have hl2 := hl1.alloc (.cells #[.slice none 0 0] 101)
  have hb0 := (Below.refl w.heap.size w).alloc (Nat.le_refl _) (.cells #[.pointer (some ⟨p, 0, none⟩)] 23)
  have hb1 := hb0.alloc hb0.size (.cells #[.int .i64 k] 3)
  have hb2' := hb1.alloc hb1.size (.cells #[.slice none 0 0] 101)
  have hK1 := CL.new (w.alloc (.cells #[.pointer (some ⟨p, 0, none⟩)] 23)) (.int .i64 k) 3
  have hT1 := CL.new ((w.alloc (.cells #[.pointer (some ⟨p, 0, none⟩)] 23)).alloc (.cells #[.int .i64 k] 3)) (.slice none 0 0) 101
  rw [World.size_alloc] at hK1
  rw [World.size_alloc, World.size_alloc] at hT1
  have hP1 := (hP0.alloc (.cells #[.int .i64 k] 3)).alloc (.cells #[.slice none 0 0] 101)
  have hK2 := hK1.alloc (.cells #[.slice none 0 0] 101)
  gi_wp2_with (refine ⟨trivial, ?_⟩; gi_at_call 55; refine (callsIn_wide.2 (all_new A n c l _ (by assumption) (by omega))).mono ?_; rintro e w2 ⟨B, CA, cc, rfl, hBl, hC, hil, hCN, hb2⟩)
  --A
  generalize hW1 : ((w.alloc (.cells #[.pointer (some ⟨p, 0, none⟩)] 23)).alloc (.cells #[.int .i64 k] 3)).alloc (.cells #[.slice none 0 0] 101) = W1 at *
  have hz1 : W1.heap.size = w.heap.size + 3 := by rw [← hW1]; simp
  have hbw2 := hb2'.trans (hb2.mono hb2'.size)
  have hP2 := hP1.below hb2
  have hK3 := hK2.below hb2
  have hT2 := hT1.below hb2
  have hz2 := hb2.size
  have hCA := hil.lt
  clear hW1 hP0 hl0 hl1 hl2 hb0 hb1 hP1 hK1 hK2 hT1
  refine range_over' CA l.length cc l B (fun k => k = w.heap.size + 1 + 1) rfl rfl hC.at_ hil (fun ad h h' => ?ca) (by omega)
    (fun pre W => ∃ v, Fin w w2.heap.size W p k v (afterL k f pre))
    (fun c pre W => False)
    (fun s X Y row h hg hr => by
      obtain ⟨v, q⟩ := h
      have hsz := hg.size
      exact ⟨v, q.hP.row hg hr, q.hK.row hg hr, q.hT.row hg hr, q.hO.row hg hr, below_row q.hb hg (by have := q.hz; have := q.hn; omega) (by have := q.hz; omega) hr, q.hz, by have := q.hn; omega⟩)
    (fun c s X Y row h hg hr => h)
    ⟨_, hP2, hK3, hT2, RO.nil _ _, hbw2, by omega, Nat.le_refl _⟩ ?round ?done ?stop
  case ca =>
    have h1 := hCN ad h h'
    show ad.block ≠ w.heap.size + 1 + 1
    omega
  case round =>
    apply Exists.intro
    constructor
    · intro l' x W K hx hK
      gi_wp2
      exact hK
    · rintro l' pre ⟨s, q⟩ W hx hzW ⟨v, fin⟩ hlen
      dsimp only at hx ⊢
      have hST := h.below fin.hb
      have hSTd : ST W.drew p b N f ks := h.below fin.hb.drew
      have hsl := hw _ hx
      have hO := fin.hO
      obtain ⟨r, hr⟩ : ∃ r, doneR k q (f s) = r := ⟨_, rfl⟩
      have hd := done_any k q (f s).fr (f s).he (f s).pi (f s).sa (f s).re (f s).rt (f s).cn (f s).cm (f s).sh (f s).sc (f s).se W.drew
      rw [doneR_eq, hr] at hd
      have hsn := afterL_snoc k f pre s q
      rw [hr] at hsn
      obtain ⟨x0, x1, x2, x3, x4, x5, x6, x7, x8, x9, x10⟩ := r
      change Calls _ _ _ _ (fun e w' => e = .returned (.agg #[.int .i64 x0, .int .i64 x1, .int .i64 x2, .int .i64 x3, .int .i64 x4, .int .i64 x5, .int .i64 x6, .int .i64 x7, .int .i64 x8, .int .i64 x9, .int .i64 x10]) ∧ _) at hd
      have hSB : ∀ W3, Below W.drew.heap.size W.drew W3 → (fun W' => W'.cell? ⟨w.heap.size + 1 + 1, 0, none⟩ = some v ∧ W'.cell? ⟨w.heap.size, 0, none⟩ = some (.pointer (some ⟨p, 0, none⟩)) ∧ W'.cell? ⟨w.heap.size + 1, 0, none⟩ = some (.int .i64 k) ∧ W'.cell? ⟨p, 0, none⟩ = some (.map (some b)) ∧ (Instr.lookup 48 (.map (some b)) (.string ⟨s.toArray⟩) false).run Tryz.prog W' = .ok (.agg #[.int .i64 (f s).fr, .int .i64 (f s).he, .int .i64 (f s).pi, .int .i64 (f s).sa, .int .i64 (f s).re, .int .i64 (f s).rt, .int .i64 (f s).cn, .int .i64 (f s).cm, .int .i64 (f s).sh, .int .i64 (f s).sc, .int .i64 (f s).se]) W') W3 := fun W3 hb3 => by
        have ce : ∀ (ad : Addr) (v : Value), W.drew.cell? ad = some v → W3.cell? ad = some v := fun ad v hv => (hb3.cell (World.block_lt_of_cell? _ _ hv)).trans hv
        exact ⟨ce _ _ fin.hT.at_, ce _ _ fin.hP.at_, ce _ _ fin.hK.at_, ce _ _ (hST.pc.cell 0), look_row (hSTd.below hb3) s hsl⟩
      have hbD := (Below.refl W.heap.size W).drew
      have sev : ∀ w6 w7, Below W.heap.size W w6 → Keep (fun k => v.ownBlock = some k) w6 w7 → (fun W' => W'.cell? ⟨w.heap.size + 1 + 1, 0, none⟩ = some v ∧ W'.cell? ⟨w.heap.size, 0, none⟩ = some (.pointer (some ⟨p, 0, none⟩)) ∧ W'.cell? ⟨w.heap.size + 1, 0, none⟩ = some (.int .i64 k) ∧ W'.cell? ⟨p, 0, none⟩ = some (.map (some b)) ∧ (Instr.lookup 48 (.map (some b)) (.string ⟨s.toArray⟩) false).run Tryz.prog W' = .ok (.agg #[.int .i64 (f s).fr, .int .i64 (f s).he, .int .i64 (f s).pi, .int .i64 (f s).sa, .int .i64 (f s).re, .int .i64 (f s).rt, .int .i64 (f s).cn, .int .i64 (f s).cm, .int .i64 (f s).sh, .int .i64 (f s).sc, .int .i64 (f s).se]) W') w7 := fun w6 w7 b6 hK7 => by
        have hz := fin.hz
        have hn0 := fin.hn
        have hbS := h.lt
        have hbz := fin.hb.size
        have hST7 := (hST.below b6).kept hK7 (fun e => by have := (hO.lt _ e).1; omega) (fun e => by have := (hO.lt _ e).1; omega)
        exact ⟨(fin.cl hK7 b6).at_, ((fin.hP.below b6).kept hK7 (fun e => by have := (hO.lt _ e).1; omega)).at_, ((fin.hK.below b6).kept hK7 (fun e => by have := (hO.lt _ e).1; omega)).at_, hST7.pc.cell 0, look_row hST7 s hsl⟩
      gi_wp2
      --R
      refine wpIn_region_roundZ (S := (fun W' => W'.cell? ⟨w.heap.size + 1 + 1, 0, none⟩ = some v ∧ W'.cell? ⟨w.heap.size, 0, none⟩ = some (.pointer (some ⟨p, 0, none⟩)) ∧ W'.cell? ⟨w.heap.size + 1, 0, none⟩ = some (.int .i64 k) ∧ W'.cell? ⟨p, 0, none⟩ = some (.map (some b)) ∧ (Instr.lookup 48 (.map (some b)) (.string ⟨s.toArray⟩) false).run Tryz.prog W' = .ok (.agg #[.int .i64 (f s).fr, .int .i64 (f s).he, .int .i64 (f s).pi, .int .i64 (f s).sa, .int .i64 (f s).re, .int .i64 (f s).rt, .int .i64 (f s).cn, .int .i64 (f s).cm, .int .i64 (f s).sh, .int .i64 (f s).sc, .int .i64 (f s).se]) W')) 12 (by kernel_rfl) (by kernel_rfl) (by rintro ⟨a, w, h⟩; exact h) (hSB _ (Below.refl _ _)) (fun hHeld => ?_)
      generalize W.drew = wz at *
      (refine tkZ 0 (by (simp only [List.getElem?_toArray, List.getElem?_cons_succ, List.getElem?_cons_zero]; rfl)) (by kernel_rfl) (by decide) (by kernel_rfl) (by kernel_rfl) (by kernel_rfl) (by exact fun _ _ _ h => h) (by rfl) (by (intro w hSw; (try dsimp only at hSw); go_simp <;> with_reducible rfl)) (by assumption) ?_; try simp only [Act.put, List.setIfInBounds_toArray, List.set_cons_zero, List.set_cons_succ])
      (refine tkZ 1 (by (simp only [List.getElem?_toArray, List.getElem?_cons_succ, List.getElem?_cons_zero]; rfl)) (by kernel_rfl) (by decide) (by kernel_rfl) (by kernel_rfl) (by kernel_rfl) (by exact fun _ _ _ h => h) (by rfl) (by (intro w hSw; (try dsimp only at hSw); go_simp <;> with_reducible rfl)) (by assumption) ?_; try simp only [Act.put, List.setIfInBounds_toArray, List.set_cons_zero, List.set_cons_succ])
      (refine tkZ 2 (by (simp only [List.getElem?_toArray, List.getElem?_cons_succ, List.getElem?_cons_zero]; rfl)) (by kernel_rfl) (by decide) (by kernel_rfl) (by kernel_rfl) (by kernel_rfl) (by exact fun _ _ _ h => h) (by rfl) (by (intro w hSw; (try dsimp only at hSw); go_simp <;> with_reducible rfl)) (by assumption) ?_; try simp only [Act.put, List.setIfInBounds_toArray, List.set_cons_zero, List.set_cons_succ])
      (refine tkZ 3 (by (simp only [List.getElem?_toArray, List.getElem?_cons_succ, List.getElem?_cons_zero]; rfl)) (by kernel_rfl) (by decide) (by kernel_rfl) (by kernel_rfl) (by kernel_rfl) (by exact fun _ _ _ h => h) (by rfl) (by (intro w hSw; (try dsimp only at hSw); go_simp <;> with_reducible rfl)) (by assumption) ?_; try simp only [Act.put, List.setIfInBounds_toArray, List.set_cons_zero, List.set_cons_succ])
      (refine tkZ 4 (by (simp only [List.getElem?_toArray, List.getElem?_cons_succ, List.getElem?_cons_zero]; rfl)) (by kernel_rfl) (by decide) (by kernel_rfl) (by kernel_rfl) (by kernel_rfl) (by exact fun _ _ _ h => h) (by rfl) (by (intro w hSw; (try dsimp only at hSw); go_simp <;> with_reducible rfl)) (by assumption) ?_; try simp only [Act.put, List.setIfInBounds_toArray, List.set_cons_zero, List.set_cons_succ])
      (refine tkZ 5 (by (simp only [List.getElem?_toArray, List.getElem?_cons_succ, List.getElem?_cons_zero]; rfl)) (by kernel_rfl) (by decide) (by kernel_rfl) (by kernel_rfl) (by kernel_rfl) (by exact fun _ _ _ h => h) (by rfl) (by (intro w hSw; (try dsimp only at hSw); go_simp <;> with_reducible rfl)) (by assumption) ?_; try simp only [Act.put, List.setIfInBounds_toArray, List.set_cons_zero, List.set_cons_succ])
      (refine tkZ 6 (by (simp only [List.getElem?_toArray, List.getElem?_cons_succ, List.getElem?_cons_zero]; rfl)) (by kernel_rfl) (by decide) (by kernel_rfl) (by kernel_rfl) (by kernel_rfl) (by exact fun _ _ _ h => h) (by rfl) (by (intro w hSw; (try dsimp only at hSw); go_simp <;> with_reducible rfl)) (by assumption) ?_; try simp only [Act.put, List.setIfInBounds_toArray, List.set_cons_zero, List.set_cons_succ])
      (refine tkZ 7 (by (simp only [List.getElem?_toArray, List.getElem?_cons_succ, List.getElem?_cons_zero]; rfl)) (by kernel_rfl) (by decide) (by kernel_rfl) (by kernel_rfl) (by kernel_rfl) (by exact fun _ _ _ h => h) (by rfl) (by (intro w hSw; (try dsimp only at hSw); go_simp <;> with_reducible rfl)) (by assumption) ?_; try simp only [Act.put, List.setIfInBounds_toArray, List.set_cons_zero, List.set_cons_succ])
      (refine tkZ 8 (by (simp only [List.getElem?_toArray, List.getElem?_cons_succ, List.getElem?_cons_zero]; rfl)) (by kernel_rfl) (by decide) (by kernel_rfl) (by kernel_rfl) (by kernel_rfl) (by exact fun _ _ _ h => h) (by rfl) (by (intro w hSw; (try dsimp only at hSw); go_simp <;> with_reducible rfl)) (by assumption) ?_; try simp only [Act.put, List.setIfInBounds_toArray, List.set_cons_zero, List.set_cons_succ])
      refine wpAnyZ_one (i := 9) (by kernel_rfl) (by (simp only [List.getElem?_toArray, List.getElem?_cons_succ, List.getElem?_cons_zero]; rfl)) (fun K hK => ?_)
      go_simp
      refine hd.mono ?_
      rintro e w5 ⟨rfl, hb5⟩
      have s5 := hSB _ hb5
      refine hK.out _ _ (fun _ => s5) (fun hHeld2 => ?_)
      clear hK K hHeld
      have hHeld := hHeld2 (by decide)
      clear hHeld2
      try simp only [Act.put, List.setIfInBounds_toArray, List.set_cons_zero, List.set_cons_succ]
      refine wpAnyZ_one (i := 10) (by kernel_rfl) (by (simp only [List.getElem?_toArray, List.getElem?_cons_succ, List.getElem?_cons_zero]; rfl)) (fun K hK => ?_)
      go_simp
      have b6 := hb5.alloc hb5.size (.cells #[.int .i64 x0, .int .i64 x1, .int .i64 x2, .int .i64 x3, .int .i64 x4, .int .i64 x5, .int .i64 x6, .int .i64 x7, .int .i64 x8, .int .i64 x9, .int .i64 x10] 44)
      have s6 := hSB _ b6
      have rB := Blk.new w5 44 #[.int .i64 x0, .int .i64 x1, .int .i64 x2, .int .i64 x3, .int .i64 x4, .int .i64 x5, .int .i64 x6, .int .i64 x7, .int .i64 x8, .int .i64 x9, .int .i64 x10]
      refine hK.out _ _ (fun _ => s6) (fun hHeld2 => ?_)
      clear hK K hHeld
      have hHeld := hHeld2 (by decide)
      clear hHeld2
      try simp only [Act.put, List.setIfInBounds_toArray, List.set_cons_zero, List.set_cons_succ]
      refine wpAnyZ_one (i := 11) (by kernel_rfl) (by (simp only [List.getElem?_toArray, List.getElem?_cons_succ, List.getElem?_cons_zero]; rfl)) (fun K hK => ?_)
      rw [if_pos (by rfl)]
      refine wp_appR (.tmp 14) (.tmp 24) rfl w2.heap.size v (afterL k f pre) rfl (hO.below (hbD.trans (b6.mono hbD.size))) ⟨w5.heap.size, 0, none⟩ ⟨x0, x1, x2, x3, x4, x5, x6, x7, x8, x9, x10⟩ rfl (row_add rB) (by rw [afterL_len]; omega) (by have := (hbD.trans (b6.mono hbD.size)).size; omega) ?_
      rintro v7 w7 hO7 hK7 e7
      have s7 : (fun W' => W'.cell? ⟨w.heap.size + 1 + 1, 0, none⟩ = some v ∧ W'.cell? ⟨w.heap.size, 0, none⟩ = some (.pointer (some ⟨p, 0, none⟩)) ∧ W'.cell? ⟨w.heap.size + 1, 0, none⟩ = some (.int .i64 k) ∧ W'.cell? ⟨p, 0, none⟩ = some (.map (some b)) ∧ (Instr.lookup 48 (.map (some b)) (.string ⟨s.toArray⟩) false).run Tryz.prog W' = .ok (.agg #[.int .i64 (f s).fr, .int .i64 (f s).he, .int .i64 (f s).pi, .int .i64 (f s).sa, .int .i64 (f s).re, .int .i64 (f s).rt, .int .i64 (f s).cn, .int .i64 (f s).cm, .int .i64 (f s).sh, .int .i64 (f s).sc, .int .i64 (f s).se]) W') w7 := sev _ _ (hbD.trans (b6.mono hbD.size)) hK7
      obtain ⟨A7, cap7, rfl, _⟩ := hO7.form
      simp only [List.length_append, List.length_cons, List.length_nil, Nat.zero_add] at hO7
      refine hK.out _ _ (fun _ => s7) (fun hHeld2 => ?_)
      clear hK K hHeld
      have hHeld := hHeld2 (by decide)
      clear hHeld2
      try simp only [Act.put, List.setIfInBounds_toArray, List.set_cons_zero, List.set_cons_succ]
      refine wpAnyZ_one (i := 12) (by kernel_rfl) (by (simp only [List.getElem?_toArray, List.getElem?_cons_succ, List.getElem?_cons_zero]; rfl)) (fun K hK => ?_)
      have c7 := fin.cl hK7 (hbD.trans (b6.mono hbD.size))
      have f7 := c7.fz
      have c7a := c7.at_
      go_simp
      refine hK.out _ _ (fun h => absurd rfl h) (fun hHeld2 => ?_)
      clear hK K hHeld
      clear hHeld2
      try simp only [Act.put, List.setIfInBounds_toArray, List.set_cons_zero, List.set_cons_succ]
      refine wpAnyZ_done (by kernel_rfl) ?_ _
      gi_wp2
      have o7 := fun u => fin.out (v7 := u) hK7 (hbD.trans (b6.mono hbD.size))
      have fz := fin.next hK7 (hbD.trans (b6.mono hbD.size)) hO7
      rw [← hsn] at fz
      exact ⟨(o7 _).1, (o7 _).2, _, fz⟩
  case done =>
    rintro D W hD ⟨v, fin⟩ hDf
    have c1 := fin.hT.at_
    gi_wp2
    refine ⟨by simp, .inl ⟨_, _, rfl, run_takeDeferred hDf, ?_⟩⟩
    exact ⟨v, by simp [results, Tryz.results51, go_sem], v, rfl, (fin.hO.mono (by have := fin.hz; omega)).putD hDf, below_putD fin.hb (by have := fin.hz; omega) hDf⟩
  case stop =>
    rintro D c pre W hD hpre hF hDf
    exact hF.elim
end
section
open Go.RowKit Go.Maps Go.Shelf Go.Sort
set_option linter.unusedVariables false
set_option linter.unusedSimpArgs false

theorem any_step {l : List Row} {p : Row → Bool} {k : Nat} {x : Row} (h : ∀ y ∈ l.take k, p y = false) (hx : l[k]? = some x) (hp : p x = false) : ∀ y ∈ l.take (k + 1), p y = false := by
  intro y hy
  rw [List.take_add_one, hx] at hy
  rcases List.mem_append.1 hy with m | m
  · exact h y m
  · simp at m
    rw [m]
    exact hp
theorem any_found {l : List Row} {p : Row → Bool} {k : Nat} {x : Row} (hx : l[k]? = some x) (hp : p x = true) : l.any p = true := List.any_eq_true.2 ⟨x, List.mem_of_getElem? hx, hp⟩
theorem any_end {l : List Row} {p : Row → Bool} {k : Nat} (h : ∀ y ∈ l.take k, p y = false) (hk : l.length ≤ k) : l.any p = false := by
  rw [List.take_of_length_le hk] at h
  cases e : l.any p with
  | false => rfl
  | true =>
    obtain ⟨y, hy, hp⟩ := List.any_eq_true.1 e
    rw [h y hy] at hp
    cases hp
def lackR (r : Row) : Bool := lackB r.fr r.he r.pi r.sa
def overR (r : Row) : Bool := overB r.fr r.he r.pi r.sa r.re r.rt r.cm r.sh r.sc r.se
theorem hg_lacks (r : Row) (W : World) : Calls Tryz.prog 54 #[.agg r.cs.toArray] W fun e w' => e = .returned (.bool (lackR r)) ∧ Below W.heap.size W w' := lacks_any r.fr r.he r.pi r.sa r.re r.rt r.cn r.cm r.sh r.sc r.se W
set_option maxRecDepth 100000 in
set_option maxHeartbeats 1600000 in
theorem idx_lacks {base : Nat} {v : Value} {l : List Row} {w : World} (h : RO base w v l) :
    Calls Tryz.prog 68 #[v, .func (.func 54) #[] #[]] w fun e w' => ∃ j : Int, e = .returned (.int .i64 j) ∧ decide (0 ≤ j) = l.any lackR ∧ Below w.heap.size w w' := by
  obtain ⟨A, cap, rfl, h1, h2, _⟩ := h.form
  have hmx : l.length ≤ 9223372036854775807 := by simp only [maxLen] at h2; omega
  obtain ⟨N, hN⟩ : ∃ N, l.length = N := ⟨_, rfl⟩
  have hpl : ∀ (W : World), Below w.heap.size w W → ∀ (j : Nat) (x : Row), l[j]? = some x → ∃ b, A = some ⟨b, 0, none⟩ ∧ ∀ i c, x.cs[i]? = some c → W.cell? ⟨b, j * 11 + i, none⟩ = some c := fun W hb => by
    obtain ⟨A', cap', e, _, _, hp⟩ := (h.below hb).form
    cases e
    exact hp
  rw [hN] at hmx ⊢
  replace hN := Lib.hid hN
  clear h h1 h2
  go_enter Tryz.func68, Tryz.ntmps68
  go_wp2
  go_loopw [8] (fun i wr => ∃ k : Nat, i = .int .i64 (k : Int) ∧ k ≤ N ∧ Below w.heap.size w wr ∧ Hid (∀ y ∈ l.take k, lackR y = false)) (fun i _ => N - (intOf i).toNat)
  case atStart => exact ⟨0, by go_num, by omega, Below.refl _ _, Lib.hid (fun y hy => by simp at hy)⟩
  case round =>
    obtain ⟨k, rfl, hk, hb, hf⟩ := hrel
    by_cases hlt : k < N
    · have hlz : (k : Int) < (N : Int) := by omega
      have hlk : k < l.length := by rw [hN.out]; exact hlt
      obtain ⟨x, hx⟩ : ∃ x, l[k]? = some x := ⟨_, List.getElem?_eq_getElem hlk⟩
      obtain ⟨b, rfl, hc⟩ := hpl wr hb k x hx
      have hon := hg_lacks x wr
      have hbz := hb.size
      cases hpx : lackR x with
      | true =>
        rw [hpx] at hon
        have HX := Lib.hid (any_found hx hpx)
        clear hx hpx hf hpl hlk
        obtain ⟨x0, x1, x2, x3, x4, x5, x6, x7, x8, x9, x10⟩ := x
        have y0 := hc 0 _ rfl
        have y1 := hc 1 _ rfl
        have y2 := hc 2 _ rfl
        have y3 := hc 3 _ rfl
        have y4 := hc 4 _ rfl
        have y5 := hc 5 _ rfl
        have y6 := hc 6 _ rfl
        have y7 := hc 7 _ rfl
        have y8 := hc 8 _ rfl
        have y9 := hc 9 _ rfl
        have y10 := hc 10 _ rfl
        simp only [Nat.add_zero] at y0
        clear hc
        change Calls _ _ #[.agg #[.int .i64 x0, .int .i64 x1, .int .i64 x2, .int .i64 x3, .int .i64 x4, .int .i64 x5, .int .i64 x6, .int .i64 x7, .int .i64 x8, .int .i64 x9, .int .i64 x10]] _ _ at hon
        go_wp2_with fail
        refine hon.mono ?_
        rintro e w' ⟨rfl, hb2⟩
        clear hon
        go_wp2
        go_ret
        exact ⟨_, rfl, by rw [HX.out]; exact decide_eq_true (by omega), hb.trans (hb2.mono hbz)⟩
      | false =>
        rw [hpx] at hon
        have hf2 := Lib.hid (any_step hf.out hx hpx)
        clear hx hpx hf hlk
        obtain ⟨x0, x1, x2, x3, x4, x5, x6, x7, x8, x9, x10⟩ := x
        have y0 := hc 0 _ rfl
        have y1 := hc 1 _ rfl
        have y2 := hc 2 _ rfl
        have y3 := hc 3 _ rfl
        have y4 := hc 4 _ rfl
        have y5 := hc 5 _ rfl
        have y6 := hc 6 _ rfl
        have y7 := hc 7 _ rfl
        have y8 := hc 8 _ rfl
        have y9 := hc 9 _ rfl
        have y10 := hc 10 _ rfl
        simp only [Nat.add_zero] at y0
        clear hc
        change Calls _ _ #[.agg #[.int .i64 x0, .int .i64 x1, .int .i64 x2, .int .i64 x3, .int .i64 x4, .int .i64 x5, .int .i64 x6, .int .i64 x7, .int .i64 x8, .int .i64 x9, .int .i64 x10]] _ _ at hon
        go_wp2_with fail
        refine hon.mono ?_
        rintro e w' ⟨rfl, hb2⟩
        clear hon
        go_wp2
        go_roundw
        case measure => simp [intOf]; omega
        case rel => exact ⟨k + 1, by go_num, by omega, hb.trans (hb2.mono hbz), hf2⟩
    · have hkn : k = N := by omega
      have hlz : ¬ (k : Int) < (N : Int) := by omega
      have hf2 := Lib.hid (any_end hf.out (by rw [hN.out]; omega))
      clear hf hkn hpl
      go_wp2
      go_ret
      exact ⟨_, rfl, by rw [hf2.out]; rfl, hb⟩
theorem has_lacks {base : Nat} {v : Value} {l : List Row} {w : World} (h : RO base w v l) :
    Calls Tryz.prog 53 #[v, .func (.func 54) #[] #[]] w fun e w' => e = .returned (.bool (l.any lackR)) ∧ Below w.heap.size w w' := by
  have key := idx_lacks h
  obtain ⟨A, cap, rfl, h1, h2, _⟩ := h.form
  go_enter Tryz.func53, Tryz.ntmps53
  go_wp2_with fail
  refine key.mono ?_
  rintro e w' ⟨j, rfl, hj, hb⟩
  clear key
  go_wp2
  go_ret
  exact ⟨by rw [← hj]; rfl, hb⟩
theorem hg_over (r : Row) (W : World) : Calls Tryz.prog 15 #[.agg r.cs.toArray] W fun e w' => e = .returned (.bool (overR r)) ∧ Below W.heap.size W w' := over_any r.fr r.he r.pi r.sa r.re r.rt r.cn r.cm r.sh r.sc r.se W
set_option maxRecDepth 100000 in
set_option maxHeartbeats 1600000 in
theorem idx_over {base : Nat} {v : Value} {l : List Row} {w : World} (h : RO base w v l) :
    Calls Tryz.prog 68 #[v, .func (.func 15) #[] #[]] w fun e w' => ∃ j : Int, e = .returned (.int .i64 j) ∧ decide (0 ≤ j) = l.any overR ∧ Below w.heap.size w w' := by
  obtain ⟨A, cap, rfl, h1, h2, _⟩ := h.form
  have hmx : l.length ≤ 9223372036854775807 := by simp only [maxLen] at h2; omega
  obtain ⟨N, hN⟩ : ∃ N, l.length = N := ⟨_, rfl⟩
  have hpl : ∀ (W : World), Below w.heap.size w W → ∀ (j : Nat) (x : Row), l[j]? = some x → ∃ b, A = some ⟨b, 0, none⟩ ∧ ∀ i c, x.cs[i]? = some c → W.cell? ⟨b, j * 11 + i, none⟩ = some c := fun W hb => by
    obtain ⟨A', cap', e, _, _, hp⟩ := (h.below hb).form
    cases e
    exact hp
  rw [hN] at hmx ⊢
  replace hN := Lib.hid hN
  clear h h1 h2
  go_enter Tryz.func68, Tryz.ntmps68
  go_wp2
  go_loopw [8] (fun i wr => ∃ k : Nat, i = .int .i64 (k : Int) ∧ k ≤ N ∧ Below w.heap.size w wr ∧ Hid (∀ y ∈ l.take k, overR y = false)) (fun i _ => N - (intOf i).toNat)
  case atStart => exact ⟨0, by go_num, by omega, Below.refl _ _, Lib.hid (fun y hy => by simp at hy)⟩
  case round =>
    obtain ⟨k, rfl, hk, hb, hf⟩ := hrel
    by_cases hlt : k < N
    · have hlz : (k : Int) < (N : Int) := by omega
      have hlk : k < l.length := by rw [hN.out]; exact hlt
      obtain ⟨x, hx⟩ : ∃ x, l[k]? = some x := ⟨_, List.getElem?_eq_getElem hlk⟩
      obtain ⟨b, rfl, hc⟩ := hpl wr hb k x hx
      have hon := hg_over x wr
      have hbz := hb.size
      cases hpx : overR x with
      | true =>
        rw [hpx] at hon
        have HX := Lib.hid (any_found hx hpx)
        clear hx hpx hf hpl hlk
        obtain ⟨x0, x1, x2, x3, x4, x5, x6, x7, x8, x9, x10⟩ := x
        have y0 := hc 0 _ rfl
        have y1 := hc 1 _ rfl
        have y2 := hc 2 _ rfl
        have y3 := hc 3 _ rfl
        have y4 := hc 4 _ rfl
        have y5 := hc 5 _ rfl
        have y6 := hc 6 _ rfl
        have y7 := hc 7 _ rfl
        have y8 := hc 8 _ rfl
        have y9 := hc 9 _ rfl
        have y10 := hc 10 _ rfl
        simp only [Nat.add_zero] at y0
        clear hc
        change Calls _ _ #[.agg #[.int .i64 x0, .int .i64 x1, .int .i64 x2, .int .i64 x3, .int .i64 x4, .int .i64 x5, .int .i64 x6, .int .i64 x7, .int .i64 x8, .int .i64 x9, .int .i64 x10]] _ _ at hon
        go_wp2_with fail
        refine hon.mono ?_
        rintro e w' ⟨rfl, hb2⟩
        clear hon
        go_wp2
        go_ret
        exact ⟨_, rfl, by rw [HX.out]; exact decide_eq_true (by omega), hb.trans (hb2.mono hbz)⟩
      | false =>
        rw [hpx] at hon
        have hf2 := Lib.hid (any_step hf.out hx hpx)
        clear hx hpx hf hlk
        obtain ⟨x0, x1, x2, x3, x4, x5, x6, x7, x8, x9, x10⟩ := x
        have y0 := hc 0 _ rfl
        have y1 := hc 1 _ rfl
        have y2 := hc 2 _ rfl
        have y3 := hc 3 _ rfl
        have y4 := hc 4 _ rfl
        have y5 := hc 5 _ rfl
        have y6 := hc 6 _ rfl
        have y7 := hc 7 _ rfl
        have y8 := hc 8 _ rfl
        have y9 := hc 9 _ rfl
        have y10 := hc 10 _ rfl
        simp only [Nat.add_zero] at y0
        clear hc
        change Calls _ _ #[.agg #[.int .i64 x0, .int .i64 x1, .int .i64 x2, .int .i64 x3, .int .i64 x4, .int .i64 x5, .int .i64 x6, .int .i64 x7, .int .i64 x8, .int .i64 x9, .int .i64 x10]] _ _ at hon
        go_wp2_with fail
        refine hon.mono ?_
        rintro e w' ⟨rfl, hb2⟩
        clear hon
        go_wp2
        go_roundw
        case measure => simp [intOf]; omega
        case rel => exact ⟨k + 1, by go_num, by omega, hb.trans (hb2.mono hbz), hf2⟩
    · have hkn : k = N := by omega
      have hlz : ¬ (k : Int) < (N : Int) := by omega
      have hf2 := Lib.hid (any_end hf.out (by rw [hN.out]; omega))
      clear hf hkn hpl
      go_wp2
      go_ret
      exact ⟨_, rfl, by rw [hf2.out]; rfl, hb⟩
theorem has_over {base : Nat} {v : Value} {l : List Row} {w : World} (h : RO base w v l) :
    Calls Tryz.prog 53 #[v, .func (.func 15) #[] #[]] w fun e w' => e = .returned (.bool (l.any overR)) ∧ Below w.heap.size w w' := by
  have key := idx_over h
  obtain ⟨A, cap, rfl, h1, h2, _⟩ := h.form
  go_enter Tryz.func53, Tryz.ntmps53
  go_wp2_with fail
  refine key.mono ?_
  rintro e w' ⟨j, rfl, hj, hb⟩
  clear key
  go_wp2
  go_ret
  exact ⟨by rw [← hj]; rfl, hb⟩
end
end Go.Proofs.YtfpcnenohidfpaaGreat
