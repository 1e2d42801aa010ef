/- A map of goods to the stocks that know them, owned; the append of a pointer; the marks that loops over functions leave. No condition but sizes. -/
import Derived.Test.YtipmamgmcipbfaaGdD
namespace Go.Proofs.Ytipmamgmcipbfaa
open Go.RowKit Go.Maps Go.Shelf Go.Sort
set_option linter.unusedVariables false
set_option linter.unusedSimpArgs false

theorem ptr_info : (Try.prog.info? 48).map (fun i => (i.zero, i.size, i.bytes)) = some (some (.pointer none), 1, 8) := by kernel_rfl
/-- Pointers that a slice owns. -/
def PO (base : Nat) (w : World) (v : Value) (l : List Value) : Prop := w.ownsRow base 48 1 v l.length l
section
variable {base : Nat} {w w' : World} {v : Value} {l : List Value}
theorem PO.nil (base : Nat) (w : World) : PO base w (.slice none 0 0) [] := World.ownsRow_nil _ _ _ _
theorem PO.form (h : PO base w v l) : ∃ A cap, v = .slice A l.length cap ∧ l.length ≤ cap ∧ cap ≤ maxLen ∧ VL w A l.length l := by
  rcases h.2 with ⟨rfl, h0⟩ | ⟨g, cap, cur, rfl, hb, hh, hl, hm, hs, ht⟩
  · have : l = [] := List.eq_nil_of_length_eq_zero h0
    subst this
    exact ⟨none, 0, rfl, Nat.le_refl _, by simp [maxLen], VL.nil _ _⟩
  · refine ⟨_, cap, rfl, hl, hm, ⟨rfl, fun j x hx => ⟨g, 0, rfl, ?_⟩⟩⟩
    have hj := World.ownsRow.cells h (g := g) rfl j x hx
    rwa [Addr.add_lit] at hj
theorem PO.kept {S : Nat → Prop} (h : PO base w v l) (k : Keep S w w') (hs : ∀ g, v.ownBlock = some g → ¬ S g) : PO base w' v l := by
  refine ⟨h.1, ?_⟩
  rcases h.2 with hn | ⟨g, cap, cur, rfl, hb, hgg, rest⟩
  · exact .inl hn
  · refine .inr ⟨g, cap, cur, rfl, hb, ?_, rest⟩
    rw [k.block g (Array.getElem?_eq_some_iff.1 hgg).1 (hs g rfl)]
    exact hgg
theorem PO.lt (h : PO base w v l) : ∀ k, v.ownBlock = some k → base ≤ k ∧ k < w.heap.size := World.ownsRow.lt h
theorem PO.blk (h : PO base w v l) : ∀ g, v.ownBlock = some g → ∃ cs fr, w.heap[g]? = some (.cells cs 48 fr) := by
  intro g hg
  rcases h.2 with ⟨rfl, _⟩ | ⟨g', cap, cur, rfl, _, hgg, _⟩
  · simp [Value.ownBlock] at hg
  · simp [Value.ownBlock] at hg
    subst hg
    exact ⟨_, _, hgg⟩
end
theorem run_appP (w : World) (base : Nat) (ty : TypeId) (v : Value) (l : List Value) (hown : PO base w v l) (ad : Addr) (x : Value) (hx1 : x.oneCell' = true) (hc : w.cell? ad = some x)
    (hn : (l.length + 1) * 8 ≤ 140737488355328) (hbase : base ≤ w.heap.size) :
    ∃ v' w', (Builtin.append_ #[23, 23] ty #[v, .slice (some ad) 1 1]).run Try.prog w = .ok v' w' ∧ PO base w' v' (l ++ [x]) ∧ Keep (fun k => v.ownBlock = some k) w w' ∧ (v'.ownBlock = v.ownBlock ∨ v'.ownBlock = some w.heap.size) := by
  obtain ⟨i, hi, hz, hs, hb⟩ := info_parts ptr_info
  obtain ⟨v', w', hrun, h2, h3, _, h5⟩ := run_append_own_at (P := Try.prog) w base 23 ty 48 i (.pointer none) 1 8 Try.underlying23 hi hz hs hb rfl (by decide) v l.length l hown ad 1 1 [x]
    (by simp) (fun j u hu => by
      cases j with
      | zero =>
        simp at hu
        subst hu
        rw [show ad.add 0 = ad from by unfold Addr.add; split <;> simp_all]
        exact hc
      | succ j => simp at hu) (fun u hu => by simp at hu; subst hu; exact hx1) (by simp only [maxLen]; omega) (by omega) hbase
  refine ⟨v', w', hrun, ?_, Keep.of_grown h3, h5⟩
  show w'.ownsRow base 48 1 v' (l ++ [x]).length (l ++ [x])
  rw [List.length_append]
  simpa using h2
theorem wp_appP {w : World} {o : Oper} {a : Act} {K : Act → World → Prop} {Q : Exit → Act → World → Prop} (s x : Operand) (ho : o.op = .call { callee := .builtin .append, args := #[s, x], argTypes := #[23, 23] })
    (base : Nat) (v : Value) (l : List Value) (hs : a.eval s = v) (hown : PO base w v l) (ad : Addr) (u : Value) (hu : u.oneCell' = true) (hx : a.eval x = .slice (some ad) 1 1) (hc : w.cell? ad = some u)
    (hn : (l.length + 1) * 8 ≤ 140737488355328) (hbase : base ≤ w.heap.size)
    (h : ∀ v' w', PO base w' v' (l ++ [u]) → Keep (fun k => v.ownBlock = some k) w w' → (v'.ownBlock = v.ownBlock ∨ v'.ownBlock = some w.heap.size) → K (a.put o.dst v') w') : o.wp Try.prog a w K Q := by
  obtain ⟨v', w', hrun, h2, h3, h4⟩ := run_appP w base o.type v l hown ad u hu hc hn hbase
  unfold Oper.wp execOp
  simp only [ho, resolve, invoke, builtin, Sem.run_bind, Sem.run_pure, Result.andThen_ok, List.map_toArray, List.map_cons, List.map_nil, hs, hx, hrun]
  exact h v' w' h2 h3 h4
/-- The map's block, how many entries it may have had, from where on the lists lie, each good's list, which stocks are in it, which goods there are. -/
structure ML (w : World) (b N base : Nat) (V : List UInt8 → Value) (F : List UInt8 → List Sk) (ks : List (List UInt8)) : Prop where
  mp : ∃ D, w.ownsMap Try.prog 9 rR b N D ∧ MR D V ks
  row : ∀ g, PO base w (V g) ((F g).map Sk.v)
  apart : ∀ g h k, (V g).ownBlock = some k → (V h).ownBlock = some k → g = h
section
variable {w w' : World} {b N base : Nat} {V : List UInt8 → Value} {F : List UInt8 → List Sk} {ks : List (List UInt8)}
theorem ML.lt (h : ML w b N base V F ks) : b < w.heap.size := by
  obtain ⟨D, hm, _⟩ := h.mp
  exact hm.lt
theorem ML.kept {S : Nat → Prop} (h : ML w b N base V F ks) (k : Keep S w w') (hb : ¬ S b) (hv : ∀ g i, (V g).ownBlock = some i → ¬ S i) : ML w' b N base V F ks := by
  obtain ⟨D, hm, hD⟩ := h.mp
  exact ⟨⟨D, ownsMap_kept hm k hb, hD⟩, fun g => (h.row g).kept k (hv g), h.apart⟩
theorem ML.below (h : ML w b N base V F ks) (k : Below w.heap.size w w') : ML w' b N base V F ks :=
  h.kept (Keep.of_below k) (by have := h.lt; omega) (fun g i hi => by have := ((h.row g).lt i hi).2; omega)
theorem ML.row3 {row : Option Nat} {n : Nat} (h : ML w b N base V F ks) (hg : w.grownBy w' row) (hr : ∀ r, row = some r → n ≤ r ∧ ∃ o : Obj, w.heap[r]? = some o ∧ o.isCells = false) (hb : b < n) : ML w' b N base V F ks :=
  h.kept (Keep.of_grown hg) (row_not_lt hr hb) (fun g i hi => by
    obtain ⟨cs, fr, h1⟩ := (h.row g).blk i hi
    exact row_not hr h1 rfl)
theorem ML.ne (h : ML w b N base V F ks) {g : List UInt8} {i : Nat} (hi : (V g).ownBlock = some i) : i ≠ b := by
  obtain ⟨D, ⟨es, clock, hb, _⟩, hD⟩ := h.mp
  obtain ⟨cs, fr, h1⟩ := (h.row g).blk i hi
  rintro rfl
  rw [h1] at hb
  cases hb
theorem ML.put (h : ML w b N base V F ks) (hN : N < maxLen) (g : List UInt8) (hg : g.length ≤ maxLen) {w7 : World} {v7 : Value} {x : Sk} (hk : Keep (fun k => (V g).ownBlock = some k) w w7) (hv : PO base w7 v7 ((F g ++ [x]).map Sk.v))
    (ho : v7.ownBlock = (V g).ownBlock ∨ ∃ i, v7.ownBlock = some i ∧ w.heap.size ≤ i) :
    ∃ w8, (Instr.mapUpdate 81 (.map (some b)) (.string ⟨g.toArray⟩) v7).run Try.prog w7 = .ok () w8 ∧ ML w8 b (N + 1) base (fun k => if k = g then v7 else V k) (fun k => if k = g then F g ++ [x] else F k) (addS ks g) ∧ Keep (fun k => k = b) w7 w8 := by
  obtain ⟨D, hm, hD⟩ := h.mp
  have hm7 := ownsMap_kept hm hk (fun e => h.ne e rfl)
  obtain ⟨w8, hrun, hm8, hgr⟩ := hm7.update (string_keyed Try.underlying9) Try.underlying81 hN (keyS g hg) (show rR v7 = some (.held v7, []) from rfl)
  have hk8 : Keep (fun i => i = b) w7 w8 := (Keep.of_grown hgr).mono fun i _ e => (Option.some.inj e).symm
  have far : ∀ k, k ≠ g → ∀ i, (V k).ownBlock = some i → v7.ownBlock ≠ some i := fun k hkg i hi e => by
    rcases ho with ho | ⟨j, ho, hj⟩
    · exact hkg (h.apart k g i hi (ho ▸ e))
    · rw [ho] at e
      cases e
      have := ((h.row k).lt i hi).2
      omega
  have h7b : ∀ i, v7.ownBlock = some i → i ≠ b := fun i hi => by
    rcases ho with ho | ⟨j, ho, hj⟩
    · exact h.ne (ho ▸ hi)
    · rw [ho] at hi
      cases hi
      have := h.lt
      omega
  refine ⟨w8, hrun, ⟨⟨_, hm8, hD.put g v7⟩, fun k => ?_, fun k k' i h1 h2 => ?_⟩, hk8⟩
  · by_cases e : k = g
    · rw [if_pos e, if_pos e]
      exact hv.kept hk8 (fun i hi => h7b i hi)
    · rw [if_neg e, if_neg e]
      exact ((h.row k).kept hk (fun i hi h9 => e (h.apart k g i hi h9))).kept hk8 (fun i hi => h.ne hi)
  · by_cases e : k = g
    · by_cases e' : k' = g
      · rw [e, e']
      · rw [if_pos e] at h1
        rw [if_neg e'] at h2
        exact absurd h1 (far k' e' i h2)
    · by_cases e' : k' = g
      · rw [if_neg e] at h1
        rw [if_pos e'] at h2
        exact absurd h2 (far k e i h1)
      · rw [if_neg e] at h1
        rw [if_neg e'] at h2
        exact h.apart k k' i h1 h2
end
/-- The marks of some loops: each one's block lies from B on, and is open. -/
abbrev mark (D : Nat) : Deferred := { target := .collected D, args := #[] }
structure MK (B : Nat) (w : World) (Ds : List Nat) : Prop where
  nd : Ds.Nodup
  at_ : ∀ D ∈ Ds, B ≤ D ∧ w.heap[D]? = some (.deferred (some []))
theorem MK.nil (B : Nat) (w : World) : MK B w [] := ⟨List.nodup_nil, fun D h => by simp at h⟩
theorem MK.lt {B : Nat} {w : World} {Ds : List Nat} (h : MK B w Ds) : ∀ D ∈ Ds, D < w.heap.size := fun D hD => (Array.getElem?_eq_some_iff.1 (h.at_ D hD).2).1
theorem MK.kept {B : Nat} {S : Nat → Prop} {w w' : World} {Ds : List Nat} (h : MK B w Ds) (k : Keep S w w') (hs : ∀ D, w.heap[D]? = some (.deferred (some [])) → ¬ S D) : MK B w' Ds :=
  ⟨h.nd, fun D hD => ⟨(h.at_ D hD).1, (k.block D (h.lt D hD) (hs D (h.at_ D hD).2)).trans (h.at_ D hD).2⟩⟩
theorem MK.below {B : Nat} {w w' : World} {Ds : List Nat} (h : MK B w Ds) (k : Below w.heap.size w w') : MK B w' Ds :=
  ⟨h.nd, fun D hD => ⟨(h.at_ D hD).1, (k.block D (h.lt D hD)).trans (h.at_ D hD).2⟩⟩
theorem MK.row3 {B : Nat} {w w' : World} {Ds : List Nat} {row : Option Nat} {n : Nat} (h : MK B w Ds) (hg : w.grownBy w' row) (hr : ∀ r, row = some r → n ≤ r ∧ ∃ o : Obj, w.heap[r]? = some o ∧ o.isCells = false) (hn : ∀ D ∈ Ds, D < n) : MK B w' Ds :=
  ⟨h.nd, fun D hD => ⟨(h.at_ D hD).1, (hg.block D (h.lt D hD) (fun e => by have := (hr D e.symm).1; have := hn D hD; omega)).trans (h.at_ D hD).2⟩⟩
theorem MK.cons {B n : Nat} {w : World} {Ds : List Nat} {D : Nat} (h : MK B w Ds) (hn : ∀ D' ∈ Ds, D' < n) (hD : n ≤ D) (hB : B ≤ D) (ho : w.heap[D]? = some (.deferred (some []))) : MK B w (D :: Ds) :=
  ⟨List.nodup_cons.2 ⟨fun hm => by have := hn D hm; omega, h.nd⟩, fun D' hD' => by
    rcases List.mem_cons.1 hD' with rfl | hD'
    · exact ⟨hB, ho⟩
    · exact h.at_ D' hD'⟩
theorem ML.noMark {w : World} {b N base : Nat} {V : List UInt8 → Value} {F : List UInt8 → List Sk} {ks : List (List UInt8)} (h : ML w b N base V F ks) {D : Nat} {o : Option (List Deferred)} (hD : w.heap[D]? = some (.deferred o)) : D ≠ b ∧ ∀ g, ¬ (V g).ownBlock = some D := by
  refine ⟨?_, fun g e => ?_⟩
  · rintro rfl
    obtain ⟨D', ⟨es, clock, hb, _⟩, _⟩ := h.mp
    rw [hD] at hb
    cases hb
  · obtain ⟨cs, fr, h1⟩ := (h.row g).blk D e
    rw [hD] at h1
    cases h1
/-- At the function's end all marks are taken. -/
theorem MK.leave {F : Fence} {n : Nat} {fn : Func} {tmps : Array Value} {R : Ending → World → Prop} : ∀ (Ds : List Nat) (w : World), Ds.Nodup → (∀ D ∈ Ds, w.heap[D]? = some (.deferred (some []))) → (∀ w', Keep (fun k => k ∈ Ds) w w' → LeavesInM F n Try.prog fn tmps R [] .returning w') →
    LeavesInM F n Try.prog fn tmps R (Ds.map mark) .returning w
  | [], w, _, _, hR => hR w (Keep.refl _ _)
  | D :: Ds, w, hnd, hD, hR => by
    have ho := hD D (by simp)
    obtain ⟨hn, hnd'⟩ := List.nodup_cons.1 hnd
    refine ⟨by simp, .inl ⟨_, _, rfl, run_takeDeferred ho, MK.leave Ds _ hnd' (fun D' hD' => ?_) (fun w' hk => hR w' (Keep.trans (Keep.putObj (Keep.refl (fun k => k ∈ D :: Ds) w) (by simp) _) hk (fun _ _ e => List.mem_cons_of_mem _ e)))⟩⟩
    exact (World.putObj_heap_other (fun e => hn (by subst e; exact hD'))).trans (hD D' (by simp [hD']))
theorem MK.done {F : Fence} {n B : Nat} {fn : Func} {tmps : Array Value} {R : Ending → World → Prop} {w : World} {Ds : List Nat} (h : MK B w Ds) (hR : ∀ w', Keep (fun k => k ∈ Ds) w w' → LeavesInM F n Try.prog fn tmps R [] .returning w') : LeavesInM F n Try.prog fn tmps R (Ds.map mark) .returning w :=
  MK.leave Ds w h.nd (fun D hD => (h.at_ D hD).2) hR
end Go.Proofs.Ytipmamgmcipbfaa
