/- Texts of this proof in one: MvM, MvO, MvG, MvS, MvK, MvR. No condition. -/
import Derived.Test.YtjjghhhhalendaaGreatMayI
import Derived.Lib.SlKeysI
import Derived.Test.YtjjghhhhalendaaGreatShelf
import Derived.Maps.OwnOps
import Derived.Shelf.SlIterI.Sorted
namespace Go.Proofs.YtjjghhhhalendaaGreat
section
open Go.RowKit Go.Maps Go.Shelf Go.Sort
set_option linter.unusedVariables false
set_option linter.unusedSimpArgs false

theorem Keep.ofB {S : Nat → Prop} {w w' : World} (h : Below w.heap.size w w') : Keep S w w' := ⟨h.os, h.tape, h.output, h.size, fun k hk _ => h.block k hk⟩
/-- A list of goods: its slice, and what it reads as. -/
structure Ls where
  A : Option Addr
  n : Nat
  c : Nat
  l : List It
def Ls.v (x : Ls) : Value := .slice x.A x.n x.c
def ls0 : Ls := ⟨none, 0, 0, []⟩
/-- A move. -/
structure Rec where
  m : Int
  f : Int
  t : Int
  l : Ls
  c : Bool
def rec0 : Rec := ⟨0, 0, 0, ls0, false⟩
def Rec.cs (r : Rec) : List Value := [.int .i64 r.m, .int .i64 r.f, .int .i64 r.t, r.l.v, .bool r.c]
def Rec.v (r : Rec) : Value := .agg r.cs.toArray
/-- Elements are held as they are. -/
def rR (v : Value) : Option (DataW Value × List MemPlace) := some (.held v, [])
theorem int_lit (k : Int) : WideAt.IsKeyLit (Lit.int .i64 k) := by simp [WideAt.IsKeyLit]
/-- A key more, if it is not there. -/
def addK (ks : List Int) (g : Int) : List Int := if g ∈ ks then ks else ks ++ [g]
theorem mem_addK {ks : List Int} {g i : Int} : i ∈ addK ks g ↔ i ∈ ks ∨ i = g := by
  unfold addK
  by_cases h : g ∈ ks
  · rw [if_pos h]
    refine ⟨.inl, fun e => ?_⟩
    rcases e with e | e
    · exact e
    · rw [e]; exact h
  · rw [if_neg h]
    simp
/-- A map whose keys are ints, each once. -/
def FormI (D : DataW Value) : Prop := ∃ es : List (Lit × DataW Value), D = .map es ∧ es.Pairwise (fun p q => p.1 ≠ q.1) ∧ ∀ p ∈ es, ∃ x, p.1 = .int .i64 x
theorem FormI.put {D : DataW Value} (h : FormI D) (g : Int) (d : DataW Value) : FormI (D.put (.int .i64 g) d) := by
  obtain ⟨es, rfl, h1, h2⟩ := h
  obtain ⟨es', he, hp⟩ := Tidy.put ⟨es, rfl, h1⟩ (int_lit g) d
  refine ⟨es', he, hp, fun p hp => ?_⟩
  injection he with he
  rw [← he] at hp
  rcases ChangeMaps.mem_insert_iff.1 hp with rfl | hp
  · exact ⟨g, rfl⟩
  · exact h2 p (List.mem_filter.1 hp).1
theorem FormI.del {D : DataW Value} (h : FormI D) (g : Int) : FormI (D.del (.int .i64 g)) := by
  obtain ⟨es, rfl, h1, h2⟩ := h
  exact ⟨_, rfl, h1.filter _, fun p hp => h2 p (List.mem_filter.1 hp).1⟩
/-- The map reads as: f, and just ks are there. -/
structure PM (D : DataW Value) (f : Int → Rec) (ks : List Int) : Prop where
  tidy : Tidy D
  val : ∀ k, D.atKey (.int .i64 k) (.held rec0.v) = .held (f k).v
  has_ : ∀ k, has D (.int .i64 k) = decide (k ∈ ks)
  sz : Go.Maps.size D = ks.length
  nd : ks.Nodup
  form : FormI D
theorem PM.start : PM (.map []) (fun _ => rec0) [] := ⟨tidy_empty, fun g => rfl, fun g => rfl, rfl, List.nodup_nil, ⟨[], rfl, List.Pairwise.nil, fun p h => by simp at h⟩⟩
theorem addK_nodup {ks : List Int} (h : ks.Nodup) (g : Int) : (addK ks g).Nodup := by
  unfold addK
  by_cases m : g ∈ ks
  · rw [if_pos m]; exact h
  · rw [if_neg m]
    rw [List.nodup_append]
    exact ⟨h, by simp, fun a ha b hb => by simp at hb; subst hb; rintro rfl; exact m ha⟩
theorem PM.put {D : DataW Value} {f : Int → Rec} {ks : List Int} (h : PM D f ks) (g : Int) (r : Rec) :
    PM (D.put (.int .i64 g) (.held r.v)) (fun k => if k = g then r else f k) (addK ks g) := by
  have hne : ∀ k, k ≠ g → Lit.int .i64 k ≠ Lit.int .i64 g := fun k hk e => hk (by injection e)
  refine ⟨h.tidy.put (int_lit _) _, fun k => ?_, fun k => ?_, ?_, addK_nodup h.nd g, h.form.put g _⟩
  · by_cases e : k = g
    · subst e
      rw [if_pos rfl]
      exact atKey_put_same h.tidy.isMap (int_lit _) _ _
    · rw [if_neg e, atKey_put_other (hne k e)]
      exact h.val k
  · by_cases e : k = g
    · subst e
      rw [has_put_same h.tidy.isMap (int_lit _)]
      exact (decide_eq_true (mem_addK.2 (.inr rfl))).symm
    · rw [has_put_other (hne k e), h.has_ k]
      exact decide_eq_decide.2 ⟨fun m => mem_addK.2 (.inl m), fun m => (mem_addK.1 m).resolve_right e⟩
  · rw [size_put h.tidy, h.has_ g, h.sz]
    unfold addK
    by_cases m : g ∈ ks
    · simp [m]
    · simp [m]
theorem PM.del {D : DataW Value} {f : Int → Rec} {ks : List Int} (h : PM D f ks) (g : Int) :
    PM (D.del (.int .i64 g)) (fun k => if k = g then rec0 else f k) (ks.erase g) := by
  have hne : ∀ k, k ≠ g → Lit.int .i64 k ≠ Lit.int .i64 g := fun k hk e => hk (by injection e)
  refine ⟨h.tidy.del _, fun k => ?_, fun k => ?_, ?_, h.nd.erase g, h.form.del g⟩
  · by_cases e : k = g
    · subst e
      rw [if_pos rfl]
      exact atKey_del_same _
    · rw [if_neg e, atKey_del_other (hne k e)]
      exact h.val k
  · by_cases e : k = g
    · subst e
      rw [has_del_same]
      exact (decide_eq_false (fun m => (h.nd.mem_erase_iff.1 m).1 rfl)).symm
    · rw [has_del_other (hne k e), h.has_ k]
      exact decide_eq_decide.2 ⟨fun m => h.nd.mem_erase_iff.2 ⟨e, m⟩, fun m => (h.nd.mem_erase_iff.1 m).2⟩
  · have hs := size_del (k := .int .i64 g) h.tidy
    rw [h.has_ g, h.sz] at hs
    by_cases m : g ∈ ks
    · rw [List.length_erase_of_mem m]
      simp [m] at hs
      omega
    · rw [List.erase_of_not_mem m]
      simp [m] at hs
      omega
/-- The map's keys, in order. -/
theorem PM.sorted {D : DataW Value} {f : Int → Rec} {ks : List Int} (h : PM D f ks) : (intKeys D).mergeSort (fun x y => decide (x ≤ y)) = ks.mergeSort (fun x y => decide (x ≤ y)) := by
  obtain ⟨es, rfl, h1, h2⟩ := h.form
  exact mergeSort_of_perm_i (perm_intKeys h1 h2 h.nd (fun x => by rw [h.has_ x]; simp)).symm
theorem ownsMap_kept {S : Nat → Prop} {w w' : World} {R : Value → Option (DataW Value × List MemPlace)} {k : TypeId} {b n : Nat} {D : DataW Value} (h : w.ownsMap Tryz.prog k R b n D) (hk : Keep S w w') (hs : ¬ S b) : w'.ownsMap Tryz.prog k R b n D := by
  obtain ⟨es, clock, hb, F, h2⟩ := h
  exact ⟨es, clock, (hk.block b (Array.getElem?_eq_some_iff.1 hb).1 hs).trans hb, F, h2⟩
/-- A list that lies in F, in no block of the parcels' own, and is one that may be made. -/
structure LsOK (F : Nat → Prop) (p b : Nat) (w : World) (x : Ls) : Prop where
  il : IL w x.A x.n x.l
  cap : x.n ≤ x.c
  few : x.l.length ≤ 16
  may : mayL x.l = true
  lit : ∀ y ∈ x.l, y.1.length ≤ maxLen ∧ (Lit.int .i64 y.2).wf = true
  lies : ∀ ad, x.A = some ad → 0 < x.n → F ad.block ∧ ad.block ≠ p ∧ ad.block ≠ b
/-- A move whose list does, and whose numbers are ints. -/
structure RcOK (F : Nat → Prop) (p b : Nat) (w : World) (r : Rec) : Prop where
  l_ : LsOK F p b w r.l
/-- Moves: their block, their map's block, how many entries it may have had, what it reads as. -/
structure PS (F : Nat → Prop) (w : World) (p b N : Nat) (f : Int → Rec) (ks : List Int) : Prop where
  pc : Blk w p 49 #[.map (some b)]
  mp : ∃ D, w.ownsMap Tryz.prog 3 rR b N D ∧ PM D f ks
  ne : p ≠ b
  fp : F p ∧ F b
  no : ∀ k, k ∉ ks → f k = rec0
  ok : ∀ k, k ∈ ks → RcOK F p b w (f k)
section
variable {F G : Nat → Prop} {w w' : World} {p b N : Nat} {f : Int → Rec} {ks : List Int} {x : Ls} {r : Rec}
theorem LsOK.zero : LsOK F p b w ls0 := ⟨IL.nil _ _, Nat.le_refl _, by simp [ls0], rfl, fun y hy => by simp [ls0] at hy, fun ad e => by cases e⟩
theorem LsOK.kept {S : Nat → Prop} (h : LsOK F p b w x) (k : Keep S w w') (hs : ∀ g, F g → g ≠ p → g ≠ b → ¬ S g) : LsOK F p b w' x :=
  ⟨h.il.kept k fun ad e hn => hs _ (h.lies ad e hn).1 (h.lies ad e hn).2.1 (h.lies ad e hn).2.2, h.cap, h.few, h.may, h.lit, h.lies⟩
theorem LsOK.below (h : LsOK F p b w x) (k : Below w.heap.size w w') : LsOK F p b w' x := ⟨h.il.below k, h.cap, h.few, h.may, h.lit, h.lies⟩
theorem LsOK.mono (h : LsOK F p b w x) (hF : ∀ k, k < w.heap.size → F k → G k) : LsOK G p b w x :=
  ⟨h.il, h.cap, h.few, h.may, h.lit, fun ad e hn => ⟨hF _ (h.il.lt ad e hn) (h.lies ad e hn).1, (h.lies ad e hn).2⟩⟩
theorem RcOK.kept {S : Nat → Prop} (h : RcOK F p b w r) (k : Keep S w w') (hs : ∀ g, F g → g ≠ p → g ≠ b → ¬ S g) : RcOK F p b w' r := ⟨h.l_.kept k hs⟩
theorem RcOK.below (h : RcOK F p b w r) (k : Below w.heap.size w w') : RcOK F p b w' r := ⟨h.l_.below k⟩
theorem RcOK.mono (h : RcOK F p b w r) (hF : ∀ k, k < w.heap.size → F k → G k) : RcOK G p b w r := ⟨h.l_.mono hF⟩
theorem PS.lt (h : PS F w p b N f ks) : p < w.heap.size ∧ b < w.heap.size := by
  obtain ⟨D, hm, hs⟩ := h.mp
  exact ⟨h.pc.lt, hm.lt⟩
theorem PS.kept {S : Nat → Prop} (h : PS F w p b N f ks) (k : Keep S w w') (hs : ∀ g, F g → ¬ S g) : PS F w' p b N f ks := by
  obtain ⟨D, hm, hD⟩ := h.mp
  exact ⟨h.pc.kept k (hs p h.fp.1), ⟨D, ownsMap_kept hm k (hs b h.fp.2), hD⟩, h.ne, h.fp, h.no, fun i hi => (h.ok i hi).kept k fun g hg _ _ => hs g hg⟩
theorem PS.below (h : PS F w p b N f ks) (k : Below w.heap.size w w') : PS F w' p b N f ks := by
  obtain ⟨D, hm, hD⟩ := h.mp
  have hl := h.lt
  exact ⟨h.pc.kept (Keep.of_below k) (by omega), ⟨D, ownsMap_kept hm (Keep.of_below k) (by omega), hD⟩, h.ne, h.fp, h.no, fun i hi => (h.ok i hi).below k⟩
theorem RcOK.zero : RcOK F p b w rec0 := ⟨LsOK.zero⟩
theorem PS.rc (h : PS F w p b N f ks) (k : Int) : RcOK F p b w (f k) := by
  by_cases e : k ∈ ks
  · exact h.ok k e
  · rw [h.no k e]; exact RcOK.zero
theorem PS.drew (h : PS F w p b N f ks) : PS F w.drew p b N f ks := h.below (Below.refl w.heap.size w).drew
theorem PS.alloc (h : PS F w p b N f ks) (o : Obj) : PS F (w.alloc o) p b N f ks := h.below ((Below.refl _ w).alloc (Nat.le_refl _) o)
theorem PS.mono (h : PS F w p b N f ks) (hF : ∀ k, k < w.heap.size → F k → G k) : PS G w p b N f ks :=
  ⟨h.pc, h.mp, h.ne, ⟨hF p h.lt.1 h.fp.1, hF b h.lt.2 h.fp.2⟩, h.no, fun i hi => (h.ok i hi).mono hF⟩
end
theorem pnew_any (w : World) : Calls Tryz.prog 5 #[] w fun e w' => ∃ p b, e = .returned (.pointer (some ⟨p, 0, none⟩)) ∧ PS (fun k => w.heap.size ≤ k) w' p b 0 (fun _ => rec0) [] ∧ w.heap.size ≤ p ∧ w.heap.size ≤ b ∧ Below w.heap.size w w' := by
  have hmm := @run_makeMap Tryz.prog
  go_enter Tryz.func5, Tryz.ntmps5
  go_wp2
  have hsz : (w.alloc (Obj.map #[] 0)).heap.size = w.heap.size + 1 := by simp
  have hblk := Blk.new (w.alloc (Obj.map #[] 0)) 49 #[.map (some w.heap.size)]
  have hown := (World.ownsMap_made w Tryz.prog 3 rR).alloc (.cells #[.map (some w.heap.size)] 49)
  have hbel := ((Below.refl w.heap.size w).alloc (Nat.le_refl _) (Obj.map #[] 0)).alloc (by rw [hsz]; exact Nat.le_succ _) (.cells #[.map (some w.heap.size)] 49)
  rw [hsz] at hblk
  go_ret
  exact ⟨w.heap.size + 1, w.heap.size, rfl, ⟨hblk, ⟨_, hown, PM.start⟩, by omega, ⟨Nat.le_succ _, Nat.le_refl _⟩, fun _ _ => rfl, fun k hk => by simp at hk⟩, Nat.le_succ _, Nat.le_refl _, hbel⟩
theorem pall_any {F : Nat → Prop} {w : World} {p b N : Nat} {f : Int → Rec} {ks : List Int} (h : PS F w p b N f ks) : Calls Tryz.prog 22 #[.pointer (some ⟨p, 0, none⟩)] w fun e w' => e = .returned (.map (some b)) ∧ w' = w := by
  have h0 := h.pc.cell 0
  simp at h0
  go_enter Tryz.func22, Tryz.ntmps22
  go_wp2
  go_ret
  exact ⟨rfl, rfl⟩
theorem pall_nil (w : World) : Calls Tryz.prog 22 #[.pointer none] w fun e w' => e = .returned (.map none) ∧ w' = w := by
  go_enter Tryz.func22, Tryz.ntmps22
  go_wp2
  go_ret
  exact ⟨rfl, rfl⟩
theorem plen_nil (w : World) : Calls Tryz.prog 21 #[.pointer none] w fun e w' => e = .returned (.int .i64 0) ∧ w' = w := by
  go_enter Tryz.func21, Tryz.ntmps21
  go_wp2_with fail
  refine (pall_nil w).mono ?_
  rintro e w' ⟨rfl, hww⟩
  subst hww
  go_wp2
  go_ret
  exact ⟨rfl, rfl⟩
end
section
open Go.RowKit Go.Maps Go.Shelf Go.Sort
set_option linter.unusedVariables false
set_option linter.unusedSimpArgs false

abbrev recZ : Value := .agg #[.int .i64 0, .int .i64 0, .int .i64 0, .slice none 0 0, .bool false]
theorem rec0_v : rec0.v = recZ := rfl
theorem zero_rec (w : World) : (zeroValue 59).run Tryz.prog w = .ok rec0.v w := by kernel_rfl
theorem keyI {k : Int} (hk : (Lit.int .i64 k).wf = true) : keyOf Tryz.prog 3 (.int .i64 k) = some (.int .i64 k) := keyOf_int_mk Tryz.underlying3 hk
/-- A look, with whether it is there. -/
theorem PS.look {F : Nat → Prop} {w : World} {p b N : Nat} {f : Int → Rec} {ks : List Int} (h : PS F w p b N f ks) {k : Int} (hk : (Lit.int .i64 k).wf = true) :
    (Instr.lookup 47 (.map (some b)) (.int .i64 k) true).run Tryz.prog w = .ok (.tuple #[(f k).v, .bool (decide (k ∈ ks))]) w := by
  obtain ⟨D, hm, hD⟩ := h.mp
  obtain ⟨v, ps, hrun, hv⟩ := hm.look_ok (int_keyed Tryz.underlying3) Tryz.underlying47 (zero_rec w) (show rR rec0.v = some (.held rec0.v, []) from rfl) (keyI hk)
  rw [hD.val k] at hv
  generalize (f k).v = u at hv ⊢
  have e : some ((DataW.held v : DataW Value), ([] : List MemPlace)) = some (DataW.held u, ps) := hv
  simp only [Option.some.injEq, Prod.mk.injEq, DataW.held.injEq] at e
  obtain ⟨rfl, _⟩ := e
  rw [hD.has_ k] at hrun
  exact hrun
theorem PS.look1 {F : Nat → Prop} {w : World} {p b N : Nat} {f : Int → Rec} {ks : List Int} (h : PS F w p b N f ks) {k : Int} (hk : (Lit.int .i64 k).wf = true) :
    (Instr.lookup 47 (.map (some b)) (.int .i64 k) false).run Tryz.prog w = .ok (f k).v w := by
  obtain ⟨D, hm, hD⟩ := h.mp
  obtain ⟨v, ps, hrun, hv⟩ := hm.lookup (int_keyed Tryz.underlying3) Tryz.underlying47 (zero_rec w) (show rR rec0.v = some (.held rec0.v, []) from rfl) (keyI hk)
  rw [hD.val k] at hv
  generalize (f k).v = u at hv ⊢
  have e : some ((DataW.held v : DataW Value), ([] : List MemPlace)) = some (DataW.held u, ps) := hv
  simp only [Option.some.injEq, Prod.mk.injEq, DataW.held.injEq] at e
  obtain ⟨rfl, _⟩ := e
  exact hrun
theorem look_nilR (w : World) {k : Int} (hk : (Lit.int .i64 k).wf = true) :
    (Instr.lookup 47 (.map none) (.int .i64 k) true).run Tryz.prog w = .ok (.tuple #[recZ, .bool false]) w := by
  have := Maps.look_nil (P := Tryz.prog) (w := w) true (int_keyed Tryz.underlying3) Tryz.underlying47 (zero_rec w) (keyI hk)
  simpa [rec0_v] using this
theorem look_nil1 (w : World) {k : Int} (hk : (Lit.int .i64 k).wf = true) :
    (Instr.lookup 47 (.map none) (.int .i64 k) false).run Tryz.prog w = .ok recZ w := by
  have := Maps.look_nil (P := Tryz.prog) (w := w) false (int_keyed Tryz.underlying3) Tryz.underlying47 (zero_rec w) (keyI hk)
  simpa [rec0_v] using this
/-- A record replaced, or a new one. -/
theorem PS.upd {F : Nat → Prop} {w : World} {p b N : Nat} {f : Int → Rec} {ks : List Int} (h : PS F w p b N f ks) (hN : N < maxLen) {k : Int} (hk : (Lit.int .i64 k).wf = true) (r : Rec) (hr : RcOK F p b w r) :
    ∃ w', (Instr.mapUpdate 47 (.map (some b)) (.int .i64 k) r.v).run Tryz.prog w = .ok () w' ∧ PS F w' p b (N + 1) (fun i => if i = k then r else f i) (addK ks k) ∧ Keep (fun i => i = b) w w' := by
  obtain ⟨D, hm, hD⟩ := h.mp
  obtain ⟨w', hrun, hm', hg⟩ := hm.update (int_keyed Tryz.underlying3) Tryz.underlying47 hN (keyI hk) (show rR r.v = some (.held r.v, []) from rfl)
  have kk : Keep (fun i => i = b) w w' := (Keep.of_grown hg).mono fun i _ e => (Option.some.inj e).symm
  refine ⟨w', hrun, ⟨h.pc.kept kk h.ne, ⟨_, hm', hD.put k r⟩, h.ne, h.fp, fun i hi => ?_, fun i hi => ?_⟩, kk⟩
  · have hik : i ≠ k := fun e => hi (mem_addK.2 (.inr e))
    rw [if_neg hik]
    exact h.no i fun hm => hi (mem_addK.2 (.inl hm))
  · by_cases e : i = k
    · rw [if_pos e]
      exact hr.kept kk fun g _ _ h3 e3 => h3 e3
    · rw [if_neg e]
      exact (h.ok i ((mem_addK.1 hi).resolve_right e)).kept kk fun g _ _ h3 e3 => h3 e3
end
section
open Go.RowKit Go.Maps Go.Shelf Go.Sort
set_option linter.unusedVariables false
set_option linter.unusedSimpArgs false

theorem pall_make (q : Option Addr) (w : World) : Calls Tryz.prog 18 #[.pointer q] w fun e w' => e = .returned (.func (.func 48) #[] #[.pointer (some ⟨w.heap.size, 0, none⟩)]) ∧ w' = w.alloc (.cells #[.pointer q] 23) := by
  go_enter Tryz.func18, Tryz.ntmps18
  go_wp2
  go_ret
  exact ⟨rfl, rfl⟩
theorem kmap_make (q : Option Nat) (w : World) : Calls Tryz.prog 59 #[.map q] w fun e w' => e = .returned (.func (.func 77) #[] #[.pointer (some ⟨w.heap.size, 0, none⟩)]) ∧ w' = w.alloc (.cells #[.map q] 107) := by
  go_enter Tryz.func59, Tryz.ntmps59
  go_wp2
  go_ret
  exact ⟨rfl, rfl⟩
theorem krising_make (q : Option Nat) (w : World) : Calls Tryz.prog 78 #[.map q] w fun e w' => e = .returned (.func (.func 87) #[] #[.pointer (some ⟨w.heap.size, 0, none⟩)]) ∧ w' = w.alloc (.cells #[.map q] 47) := by
  go_enter Tryz.func78, Tryz.ntmps78
  go_wp2
  go_ret
  exact ⟨rfl, rfl⟩
end
section
open Go.RowKit Go.Maps Go.Shelf Go.Sort
set_option linter.unusedVariables false
set_option linter.unusedSimpArgs false

set_option maxRecDepth 100000 in
theorem prising_nil (w : World) : Calls Tryz.prog 33 #[.pointer none] w fun e w' => e = .returned (.func (.func 77) #[] #[.pointer (some ⟨w.heap.size, 0, none⟩)]) ∧ w' = w.alloc (.cells #[.map none] 107) := by
  have hcl : ∀ w, Calls Tryz.prog 58 #[.map none] w fun e w' => e = .returned (.map none) ∧ w' = w := AnyW.maps_Clone_nil Tryz.cloneMWay
  go_enter Tryz.func33, Tryz.ntmps33
  go_wp2_with fail
  refine (pall_nil w).mono ?_
  rintro e w' ⟨rfl, hww⟩
  subst hww
  go_wp2_with fail
  refine (hcl _).mono ?_
  rintro e w' ⟨rfl, hww⟩
  subst hww
  go_wp2_with fail
  refine (kmap_make none _).mono ?_
  rintro e w' ⟨rfl, hww⟩
  subst hww
  go_wp2_with fail
  go_ret
  exact ⟨rfl, rfl⟩
set_option maxRecDepth 100000 in
/-- Of parcels that are: over a copy of the map, in a block of its own. -/
theorem prising_any {F : Nat → Prop} {w : World} {p b N : Nat} {f : Int → Rec} {ks : List Int} (h : PS F w p b N f ks) : Calls Tryz.prog 33 #[.pointer (some ⟨p, 0, none⟩)] w fun e w' => ∃ W D, e = .returned (.func (.func 77) #[] #[.pointer (some ⟨W.heap.size, 0, none⟩)]) ∧ w' = W.alloc (.cells #[.map (some w.heap.size)] 107) ∧ W.ownsMap Tryz.prog 3 rR w.heap.size N D ∧ PM D f ks ∧ Below w.heap.size w W := by
  obtain ⟨D, hm, hD⟩ := h.mp
  have hcl : Calls Tryz.prog 58 #[.map (some b)] w fun e w' => e = .returned (.map (some w.heap.size)) ∧ w'.ownsMap Tryz.prog 3 rR w.heap.size N D ∧ w'.ownsMap Tryz.prog 3 rR b N D ∧ Below w.heap.size w w' := AnyW.maps_Clone_owns Tryz.cloneMWay _ _ b N D w hm
  go_enter Tryz.func33, Tryz.ntmps33
  go_wp2_with fail
  refine (pall_any h).mono ?_
  rintro e w' ⟨rfl, hww⟩
  subst hww
  go_wp2_with fail
  refine hcl.mono ?_
  rintro e w1 ⟨rfl, hm1, _, hb1⟩
  go_wp2_with fail
  refine (kmap_make _ _).mono ?_
  rintro e w' ⟨rfl, hww⟩
  subst hww
  go_wp2_with fail
  go_ret
  exact ⟨_, D, rfl, rfl, hm1, hD, hb1⟩
end
section
open Go.RowKit Go.Maps Go.Shelf Go.Sort
set_option linter.unusedVariables false
set_option linter.unusedSimpArgs false

theorem sortsI (m : Nat) : AnyZI.SortsIn Tryz.prog Tryz.sortedIWay_ren Fence.wide m :=
  ⟨fun blk off cap ss W hH hblk hsz => callsIn_wide.2 (AnyM.slices_Sort_int Tryz.sortIWay blk off cap ss W hH hblk hsz),
   fun p cap W => callsIn_wide.2 (AnyM.slices_Sort_int_none Tryz.sortIWay p cap W)⟩
theorem keysI_any (mb : Option Nat) (W : World) : Calls Tryz.prog 89 #[.map mb] W fun e w' => e = .returned (.func (.func 96) #[] #[.pointer (some ⟨W.heap.size, 0, none⟩)]) ∧ w' = W.alloc (.cells #[.map mb] 47) :=
  callsIn_wide.1 (AnyZI.keys_in Tryz.keysIWay Fence.wide 5 trivial rfl mb W)
set_option maxHeartbeats 1000000 in
theorem sortedI_any {H : Type} (b nn : Nat) (D0 : DataW H) (R : Value → Option (DataW H × List MemPlace)) (w : World) (hown : w.ownsMap Tryz.prog 3 R b nn D0) (hmax : Maps.size D0 ≤ maxLen) (hbytes : Maps.size D0 * 8 ≤ 140737488355328) :
    Calls Tryz.prog 88 #[.func (.func 96) #[] #[.pointer (some ⟨w.heap.size, 0, none⟩)]] (w.alloc (.cells #[.map (some b)] 47)) fun e w' => ∃ (v : Value) (ss : List Int), e = .returned v ∧ ss.Perm (intKeys D0) ∧
      w'.ownsRow (w.alloc (.cells #[.map (some b)] 47)).heap.size 3 1 v ss.length ((ss.mergeSort (fun x y => decide (x ≤ y))).map encZ) ∧ (v = .slice none 0 0 ↔ ss = []) ∧ Below (w.alloc (.cells #[.map (some b)] 47)).heap.size (w.alloc (.cells #[.map (some b)] 47)) w' := by
  have hbl := hown.lt
  have hseq : SeqGives Fence.wide 2 Tryz.prog 96 #[.pointer (some ⟨w.heap.size, 0, none⟩)] encZ (fun ss => ss.Perm (intKeys D0)) (Maps.size D0) (w.alloc (.cells #[.map (some b)] 47)) :=
    AnyZI.keys_gives (ρ := Tryz.keysIWay_ren) { Tryz.keysIWay with } Fence.wide _ trivial rfl (by omega) w.heap.size b nn D0 _ (by simp) (by simp) (by
      obtain ⟨es, clock, hb, Ft, hs, hD⟩ := hown
      exact ⟨es, clock, (Below.heap_alloc _ _ b hbl).trans hb, Ft, hs, hD⟩)
  exact callsIn_wide.1 (AnyZI.sorted_in Tryz.sortedIWay Fence.wide 5 trivial trivial trivial trivial rfl (by omega) (sortsI _) (enters_of Tryz.func95 (by kernel_rfl) rfl) 96 #[.pointer (some ⟨w.heap.size, 0, none⟩)] trivial (enters_of Tryz.func96 (by kernel_rfl) rfl) _ _ hmax hbytes _ hseq)
set_option maxHeartbeats 1000000 in
/-- Of a nil map: nothing. -/
theorem sortedI_nil (w : World) :
    Calls Tryz.prog 88 #[.func (.func 96) #[] #[.pointer (some ⟨w.heap.size, 0, none⟩)]] (w.alloc (.cells #[.map none] 47)) fun e w' => e = .returned (.slice none 0 0) ∧ Below (w.alloc (.cells #[.map none] 47)).heap.size (w.alloc (.cells #[.map none] 47)) w' := by
  have hseq : SeqGives Fence.wide 2 Tryz.prog 96 #[.pointer (some ⟨w.heap.size, 0, none⟩)] encZ (fun ss => ss = []) 0 (w.alloc (.cells #[.map none] 47)) :=
    AnyZI.keys_gives_nil (ρ := Tryz.keysIWay_ren) { Tryz.keysIWay with } Fence.wide _ trivial rfl w.heap.size _ (by simp) (by simp)
  exact (callsIn_wide.1 (AnyZI.sorted_in Tryz.sortedIWay Fence.wide 5 trivial trivial trivial trivial rfl (by omega) (sortsI _) (enters_of Tryz.func95 (by kernel_rfl) rfl) 96 #[.pointer (some ⟨w.heap.size, 0, none⟩)] trivial (enters_of Tryz.func96 (by kernel_rfl) rfl) _ _ (by omega) (by omega) _ hseq)).mono fun e w' ⟨v, ss, he, hs, _, hn, hb⟩ => ⟨by rw [he, hn.2 hs], hb⟩
end
section
open Go.RowKit Go.Maps Go.Shelf Go.Sort
set_option linter.unusedVariables false
set_option linter.unusedSimpArgs false

theorem grown_below {w w' : World} (h : RowKit.Below w.heap.size w w') : w.grownBy w' none := ⟨h.os, h.tape, h.output, h.size, fun k hk _ => h.block k hk⟩
theorem bel_putD {n₀ D : Nat} {w W : World} (h : RowKit.Below n₀ w W) (hn : n₀ ≤ D) (hD : W.heap[D]? = some (.deferred (some []))) : RowKit.Below n₀ w (W.putObj D (.deferred none)) :=
  h.trans ((RowKit.Below.refl n₀ W).grown (grownBy_putObj' W D _) (by have := (Array.getElem?_eq_some_iff.1 hD).1; omega) (fun k e => by cases e; omega))
set_option maxRecDepth 100000 in
set_option maxHeartbeats 1600000 in
theorem krise_nil_goes (B : Nat) (w : World) (hB : B < w.heap.size) (hc : w.cell? ⟨B, 0, none⟩ = some (.map none)) :
    SeqStopsK (α := Empty) Fence.wide 8 Tryz.prog 87 #[.pointer (some ⟨B, 0, none⟩)] (fun x => x.elim) (RowKit.Below w.heap.size) (fun _ => True) (fun _ => False) 0 w := fun l J Jx W hW hJ _ hY h0 => by
  have hc' := (hW.cell (p := ⟨B, 0, none⟩) hB).trans hc
  have hso := sortedI_nil W
  refine callsIn_of_wp Tryz.func87 rfl trivial ?_ rfl
  simp only [Tryz.ntmps87, List.size_toArray, List.length_cons, List.length_nil, Nat.reduceAdd, Nat.reduceSub, Array.replicate_succ, Array.replicate_zero, List.push_toArray, List.append_toArray, List.nil_append, List.cons_append]
  gi_wp2_with (first | (refine ⟨trivial, ?_⟩; gi_at_call 89; refine (callsIn_wide.2 (keysI_any none W)).mono ?_; rintro e w1 ⟨rfl, rfl⟩) | (refine ⟨trivial, ?_⟩; gi_at_call 88; refine (callsIn_wide.2 hso).mono ?_; rintro e w2 ⟨rfl, hb⟩))
  have hb0 := ((Below.refl W.heap.size W).alloc (Nat.le_refl _) (.cells #[.map none] 47)).trans (hb.mono (by simp))
  have hJ2 := hJ _ _ _ none h0 (grown_below hb0) (fun r e => by cases e)
  clear hso h0 hc hc' hb hb0
  gi_loopw [9] (fun i wr => i = .int .i64 0 ∧ J [] wr) (fun i _ => 0)
  case atStart => exact ⟨rfl, hJ2⟩
  case round =>
    obtain ⟨rfl, hJs⟩ := hrel
    gi_wp2
    go_end0
    exact ⟨⟨_, rfl⟩, .inl ⟨[], trivial, hJs⟩⟩
set_option maxRecDepth 100000 in
set_option maxHeartbeats 1600000 in
theorem kmap_nil_goes (B : Nat) (w : World) (hB : B < w.heap.size) (hc : w.cell? ⟨B, 0, none⟩ = some (.map none)) :
    SeqStopsK (α := Empty) Fence.wide 8 Tryz.prog 77 #[.pointer (some ⟨B, 0, none⟩)] (fun x => x.elim) (RowKit.Below w.heap.size) (fun _ => True) (fun _ => False) 0 w := fun l J Jx W hW hJ _ hY h0 => by
  have hc' := (hW.cell (p := ⟨B, 0, none⟩) hB).trans hc
  have hBW : B < W.heap.size := by have := hW.size; omega
  refine callsIn_wide.2 ((callsIn_wide (n := 9)).1 ?_)
  refine callsIn_of_wp_marks Tryz.func77 rfl trivial ?_ rfl
  simp only [Tryz.ntmps77, List.size_toArray, List.length_cons, List.length_nil, Nat.reduceAdd, Nat.reduceSub, Array.replicate_succ, Array.replicate_zero, List.push_toArray, List.append_toArray, List.nil_append, List.cons_append]
  have hc2 := cell_old (.cells #[.func (.yield l) #[] #[]] 126) hc'
  have hb2 := (Below.refl W.heap.size W).alloc (Nat.le_refl _) (.cells #[.func (.yield l) #[] #[]] 126)
  generalize hW2 : W.alloc (.cells #[.func (.yield l) #[] #[]] 126) = W2 at hc2 hb2
  gi_wp2_with (refine ⟨trivial, ?_⟩; gi_at_call 78; refine (callsIn_wide.2 (krising_make none W2)).mono ?_; rintro e w2 ⟨rfl, rfl⟩)
  have hI := (cell_new_a W2 (.map none) 47).1
  have hb3 := hb2.alloc hb2.size (.cells #[.map none] 47)
  refine range_none (by first | rfl | simp [go_sem]) (enters_of Tryz.func87 (by kernel_rfl) rfl) (krise_nil_goes W2.heap.size _ (by simp) hI) ?_
  intro D Wd hD hb hDf
  have hb4 := hb3.trans (hb.mono hb3.size)
  have hz2 : W.heap.size ≤ D := by have := hb3.size; omega
  have hb5 := bel_putD hb4 hz2 hDf
  have hJ2 := hJ _ _ _ none h0 (grown_below hb5) (fun r e => by cases e)
  gi_wp2
  refine ⟨by simp, .inl ⟨_, _, rfl, run_takeDeferred hDf, ?_⟩⟩
  exact ⟨_, results_none rfl _ _ _, ⟨_, rfl⟩, .inl ⟨[], trivial, hJ2⟩⟩
set_option maxRecDepth 100000 in
set_option maxHeartbeats 1600000 in
theorem pall_nil_goes (B : Nat) (w : World) (hB : B < w.heap.size) (hc : w.cell? ⟨B, 0, none⟩ = some (.pointer none)) :
    SeqStopsK (α := Empty) Fence.wide 8 Tryz.prog 48 #[.pointer (some ⟨B, 0, none⟩)] (fun x => x.elim) (RowKit.Below w.heap.size) (fun _ => True) (fun _ => False) 0 w := fun l J Jx W hW hJ _ hY h0 => by
  have hc' := (hW.cell (p := ⟨B, 0, none⟩) hB).trans hc
  have hBW : B < W.heap.size := by have := hW.size; omega
  refine callsIn_wide.2 ((callsIn_wide (n := 9)).1 ?_)
  refine callsIn_of_wp_marks Tryz.func48 rfl trivial ?_ rfl
  simp only [Tryz.ntmps48, List.size_toArray, List.length_cons, List.length_nil, Nat.reduceAdd, Nat.reduceSub, Array.replicate_succ, Array.replicate_zero, List.push_toArray, List.append_toArray, List.nil_append, List.cons_append]
  have hc2 := cell_old (.cells #[.func (.yield l) #[] #[]] 96) hc'
  have hb2 := (Below.refl W.heap.size W).alloc (Nat.le_refl _) (.cells #[.func (.yield l) #[] #[]] 96)
  generalize hW2 : W.alloc (.cells #[.func (.yield l) #[] #[]] 96) = W2 at hc2 hb2
  gi_wp2_with (refine ⟨trivial, ?_⟩; gi_at_call 33; refine (callsIn_wide.2 (prising_nil W2)).mono ?_; rintro e w2 ⟨rfl, rfl⟩)
  have hI := (cell_new_a W2 (.map none) 107).1
  have hb3 := hb2.alloc hb2.size (.cells #[.map none] 107)
  refine range_none (by first | rfl | simp [go_sem]) (enters_of Tryz.func77 (by kernel_rfl) rfl) (kmap_nil_goes W2.heap.size _ (by simp) hI) ?_
  intro D Wd hD hb hDf
  have hb4 := hb3.trans (hb.mono hb3.size)
  have hz2 : W.heap.size ≤ D := by have := hb3.size; omega
  have hb5 := bel_putD hb4 hz2 hDf
  have hJ2 := hJ _ _ _ none h0 (grown_below hb5) (fun r e => by cases e)
  gi_wp2
  refine ⟨by simp, .inl ⟨_, _, rfl, run_takeDeferred hDf, ?_⟩⟩
  exact ⟨_, results_none rfl _ _ _, ⟨_, rfl⟩, .inl ⟨[], trivial, hJ2⟩⟩
end
end Go.Proofs.YtjjghhhhalendaaGreat
