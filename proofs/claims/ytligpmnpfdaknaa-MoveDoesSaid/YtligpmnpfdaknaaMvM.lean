/- Moves: records, what their map reads as; New, all, Len, and the calls on nil. No condition but that they lie in memory. -/
import Derived.Test.YtligpmnpfdaknaaMayI
import Derived.Lib.SlKeysI
namespace Go.Proofs.Ytligpmnpfdaknaa
open Go.RowKit Go.Maps Go.Shelf Go.Sort
set_option linter.unusedVariables false
set_option linter.unusedSimpArgs false

theorem Keep.ofB {S : Nat → Prop} {w w' : World} (h : Below w.heap.size w w') : Keep S w w' := ⟨h.os, h.tape, h.output, h.size, fun k hk _ => h.block k hk⟩
/-- A list of goods: its slice, and what it reads as. -/
structure Ls where
  A : Option Addr
  n : Nat
  c : Nat
  l : List It
def Ls.v (x : Ls) : Value := .slice x.A x.n x.c
def ls0 : Ls := ⟨none, 0, 0, []⟩
/-- A move. -/
structure Rec where
  m : Int
  f : Int
  t : Int
  l : Ls
  c : Bool
def rec0 : Rec := ⟨0, 0, 0, ls0, false⟩
def Rec.cs (r : Rec) : List Value := [.int .i64 r.m, .int .i64 r.f, .int .i64 r.t, r.l.v, .bool r.c]
def Rec.v (r : Rec) : Value := .agg r.cs.toArray
/-- Elements are held as they are. -/
def rR (v : Value) : Option (DataW Value × List MemPlace) := some (.held v, [])
theorem int_lit (k : Int) : WideAt.IsKeyLit (Lit.int .i64 k) := by simp [WideAt.IsKeyLit]
/-- A key more, if it is not there. -/
def addK (ks : List Int) (g : Int) : List Int := if g ∈ ks then ks else ks ++ [g]
theorem mem_addK {ks : List Int} {g i : Int} : i ∈ addK ks g ↔ i ∈ ks ∨ i = g := by
  unfold addK
  by_cases h : g ∈ ks
  · rw [if_pos h]
    refine ⟨.inl, fun e => ?_⟩
    rcases e with e | e
    · exact e
    · rw [e]; exact h
  · rw [if_neg h]
    simp
/-- A map whose keys are ints, each once. -/
def FormI (D : DataW Value) : Prop := ∃ es : List (Lit × DataW Value), D = .map es ∧ es.Pairwise (fun p q => p.1 ≠ q.1) ∧ ∀ p ∈ es, ∃ x, p.1 = .int .i64 x
theorem FormI.put {D : DataW Value} (h : FormI D) (g : Int) (d : DataW Value) : FormI (D.put (.int .i64 g) d) := by
  obtain ⟨es, rfl, h1, h2⟩ := h
  obtain ⟨es', he, hp⟩ := Tidy.put ⟨es, rfl, h1⟩ (int_lit g) d
  refine ⟨es', he, hp, fun p hp => ?_⟩
  injection he with he
  rw [← he] at hp
  rcases ChangeMaps.mem_insert_iff.1 hp with rfl | hp
  · exact ⟨g, rfl⟩
  · exact h2 p (List.mem_filter.1 hp).1
theorem FormI.del {D : DataW Value} (h : FormI D) (g : Int) : FormI (D.del (.int .i64 g)) := by
  obtain ⟨es, rfl, h1, h2⟩ := h
  exact ⟨_, rfl, h1.filter _, fun p hp => h2 p (List.mem_filter.1 hp).1⟩
/-- The map reads as: f, and just ks are there. -/
structure PM (D : DataW Value) (f : Int → Rec) (ks : List Int) : Prop where
  tidy : Tidy D
  val : ∀ k, D.atKey (.int .i64 k) (.held rec0.v) = .held (f k).v
  has_ : ∀ k, has D (.int .i64 k) = decide (k ∈ ks)
  sz : Go.Maps.size D = ks.length
  nd : ks.Nodup
  form : FormI D
theorem PM.start : PM (.map []) (fun _ => rec0) [] := ⟨tidy_empty, fun g => rfl, fun g => rfl, rfl, List.nodup_nil, ⟨[], rfl, List.Pairwise.nil, fun p h => by simp at h⟩⟩
theorem addK_nodup {ks : List Int} (h : ks.Nodup) (g : Int) : (addK ks g).Nodup := by
  unfold addK
  by_cases m : g ∈ ks
  · rw [if_pos m]; exact h
  · rw [if_neg m]
    rw [List.nodup_append]
    exact ⟨h, by simp, fun a ha b hb => by simp at hb; subst hb; rintro rfl; exact m ha⟩
theorem PM.put {D : DataW Value} {f : Int → Rec} {ks : List Int} (h : PM D f ks) (g : Int) (r : Rec) :
    PM (D.put (.int .i64 g) (.held r.v)) (fun k => if k = g then r else f k) (addK ks g) := by
  have hne : ∀ k, k ≠ g → Lit.int .i64 k ≠ Lit.int .i64 g := fun k hk e => hk (by injection e)
  refine ⟨h.tidy.put (int_lit _) _, fun k => ?_, fun k => ?_, ?_, addK_nodup h.nd g, h.form.put g _⟩
  · by_cases e : k = g
    · subst e
      rw [if_pos rfl]
      exact atKey_put_same h.tidy.isMap (int_lit _) _ _
    · rw [if_neg e, atKey_put_other (hne k e)]
      exact h.val k
  · by_cases e : k = g
    · subst e
      rw [has_put_same h.tidy.isMap (int_lit _)]
      exact (decide_eq_true (mem_addK.2 (.inr rfl))).symm
    · rw [has_put_other (hne k e), h.has_ k]
      exact decide_eq_decide.2 ⟨fun m => mem_addK.2 (.inl m), fun m => (mem_addK.1 m).resolve_right e⟩
  · rw [size_put h.tidy, h.has_ g, h.sz]
    unfold addK
    by_cases m : g ∈ ks
    · simp [m]
    · simp [m]
theorem PM.del {D : DataW Value} {f : Int → Rec} {ks : List Int} (h : PM D f ks) (g : Int) :
    PM (D.del (.int .i64 g)) (fun k => if k = g then rec0 else f k) (ks.erase g) := by
  have hne : ∀ k, k ≠ g → Lit.int .i64 k ≠ Lit.int .i64 g := fun k hk e => hk (by injection e)
  refine ⟨h.tidy.del _, fun k => ?_, fun k => ?_, ?_, h.nd.erase g, h.form.del g⟩
  · by_cases e : k = g
    · subst e
      rw [if_pos rfl]
      exact atKey_del_same _
    · rw [if_neg e, atKey_del_other (hne k e)]
      exact h.val k
  · by_cases e : k = g
    · subst e
      rw [has_del_same]
      exact (decide_eq_false (fun m => (h.nd.mem_erase_iff.1 m).1 rfl)).symm
    · rw [has_del_other (hne k e), h.has_ k]
      exact decide_eq_decide.2 ⟨fun m => h.nd.mem_erase_iff.2 ⟨e, m⟩, fun m => (h.nd.mem_erase_iff.1 m).2⟩
  · have hs := size_del (k := .int .i64 g) h.tidy
    rw [h.has_ g, h.sz] at hs
    by_cases m : g ∈ ks
    · rw [List.length_erase_of_mem m]
      simp [m] at hs
      omega
    · rw [List.erase_of_not_mem m]
      simp [m] at hs
      omega
/-- The map's keys, in order. -/
theorem PM.sorted {D : DataW Value} {f : Int → Rec} {ks : List Int} (h : PM D f ks) : (intKeys D).mergeSort (fun x y => decide (x ≤ y)) = ks.mergeSort (fun x y => decide (x ≤ y)) := by
  obtain ⟨es, rfl, h1, h2⟩ := h.form
  exact mergeSort_of_perm_i (perm_intKeys h1 h2 h.nd (fun x => by rw [h.has_ x]; simp)).symm
theorem ownsMap_kept {S : Nat → Prop} {w w' : World} {R : Value → Option (DataW Value × List MemPlace)} {k : TypeId} {b n : Nat} {D : DataW Value} (h : w.ownsMap Try.prog k R b n D) (hk : Keep S w w') (hs : ¬ S b) : w'.ownsMap Try.prog k R b n D := by
  obtain ⟨es, clock, hb, F, h2⟩ := h
  exact ⟨es, clock, (hk.block b (Array.getElem?_eq_some_iff.1 hb).1 hs).trans hb, F, h2⟩
/-- A list that lies in F, in no block of the parcels' own, and is one that may be made. -/
structure LsOK (F : Nat → Prop) (p b : Nat) (w : World) (x : Ls) : Prop where
  il : IL w x.A x.n x.l
  cap : x.n ≤ x.c
  few : x.l.length ≤ 16
  may : mayL x.l = true
  lit : ∀ y ∈ x.l, y.1.length ≤ maxLen ∧ (Lit.int .i64 y.2).wf = true
  lies : ∀ ad, x.A = some ad → 0 < x.n → F ad.block ∧ ad.block ≠ p ∧ ad.block ≠ b
/-- A move whose list does, and whose numbers are ints. -/
structure RcOK (F : Nat → Prop) (p b : Nat) (w : World) (r : Rec) : Prop where
  l_ : LsOK F p b w r.l
/-- Moves: their block, their map's block, how many entries it may have had, what it reads as. -/
structure PS (F : Nat → Prop) (w : World) (p b N : Nat) (f : Int → Rec) (ks : List Int) : Prop where
  pc : Blk w p 61 #[.map (some b)]
  mp : ∃ D, w.ownsMap Try.prog 3 rR b N D ∧ PM D f ks
  ne : p ≠ b
  fp : F p ∧ F b
  no : ∀ k, k ∉ ks → f k = rec0
  ok : ∀ k, k ∈ ks → RcOK F p b w (f k)
section
variable {F G : Nat → Prop} {w w' : World} {p b N : Nat} {f : Int → Rec} {ks : List Int} {x : Ls} {r : Rec}
theorem LsOK.zero : LsOK F p b w ls0 := ⟨IL.nil _ _, Nat.le_refl _, by simp [ls0], rfl, fun y hy => by simp [ls0] at hy, fun ad e => by cases e⟩
theorem LsOK.kept {S : Nat → Prop} (h : LsOK F p b w x) (k : Keep S w w') (hs : ∀ g, F g → g ≠ p → g ≠ b → ¬ S g) : LsOK F p b w' x :=
  ⟨h.il.kept k fun ad e hn => hs _ (h.lies ad e hn).1 (h.lies ad e hn).2.1 (h.lies ad e hn).2.2, h.cap, h.few, h.may, h.lit, h.lies⟩
theorem LsOK.below (h : LsOK F p b w x) (k : Below w.heap.size w w') : LsOK F p b w' x := ⟨h.il.below k, h.cap, h.few, h.may, h.lit, h.lies⟩
theorem LsOK.mono (h : LsOK F p b w x) (hF : ∀ k, k < w.heap.size → F k → G k) : LsOK G p b w x :=
  ⟨h.il, h.cap, h.few, h.may, h.lit, fun ad e hn => ⟨hF _ (h.il.lt ad e hn) (h.lies ad e hn).1, (h.lies ad e hn).2⟩⟩
theorem RcOK.kept {S : Nat → Prop} (h : RcOK F p b w r) (k : Keep S w w') (hs : ∀ g, F g → g ≠ p → g ≠ b → ¬ S g) : RcOK F p b w' r := ⟨h.l_.kept k hs⟩
theorem RcOK.below (h : RcOK F p b w r) (k : Below w.heap.size w w') : RcOK F p b w' r := ⟨h.l_.below k⟩
theorem RcOK.mono (h : RcOK F p b w r) (hF : ∀ k, k < w.heap.size → F k → G k) : RcOK G p b w r := ⟨h.l_.mono hF⟩
theorem PS.lt (h : PS F w p b N f ks) : p < w.heap.size ∧ b < w.heap.size := by
  obtain ⟨D, hm, hs⟩ := h.mp
  exact ⟨h.pc.lt, hm.lt⟩
theorem PS.kept {S : Nat → Prop} (h : PS F w p b N f ks) (k : Keep S w w') (hs : ∀ g, F g → ¬ S g) : PS F w' p b N f ks := by
  obtain ⟨D, hm, hD⟩ := h.mp
  exact ⟨h.pc.kept k (hs p h.fp.1), ⟨D, ownsMap_kept hm k (hs b h.fp.2), hD⟩, h.ne, h.fp, h.no, fun i hi => (h.ok i hi).kept k fun g hg _ _ => hs g hg⟩
theorem PS.below (h : PS F w p b N f ks) (k : Below w.heap.size w w') : PS F w' p b N f ks := by
  obtain ⟨D, hm, hD⟩ := h.mp
  have hl := h.lt
  exact ⟨h.pc.kept (Keep.of_below k) (by omega), ⟨D, ownsMap_kept hm (Keep.of_below k) (by omega), hD⟩, h.ne, h.fp, h.no, fun i hi => (h.ok i hi).below k⟩
theorem RcOK.zero : RcOK F p b w rec0 := ⟨LsOK.zero⟩
theorem PS.rc (h : PS F w p b N f ks) (k : Int) : RcOK F p b w (f k) := by
  by_cases e : k ∈ ks
  · exact h.ok k e
  · rw [h.no k e]; exact RcOK.zero
theorem PS.drew (h : PS F w p b N f ks) : PS F w.drew p b N f ks := h.below (Below.refl w.heap.size w).drew
theorem PS.alloc (h : PS F w p b N f ks) (o : Obj) : PS F (w.alloc o) p b N f ks := h.below ((Below.refl _ w).alloc (Nat.le_refl _) o)
theorem PS.mono (h : PS F w p b N f ks) (hF : ∀ k, k < w.heap.size → F k → G k) : PS G w p b N f ks :=
  ⟨h.pc, h.mp, h.ne, ⟨hF p h.lt.1 h.fp.1, hF b h.lt.2 h.fp.2⟩, h.no, fun i hi => (h.ok i hi).mono hF⟩
end
theorem pnew_any (w : World) : Calls Try.prog 7 #[] w fun e w' => ∃ p b, e = .returned (.pointer (some ⟨p, 0, none⟩)) ∧ PS (fun k => w.heap.size ≤ k) w' p b 0 (fun _ => rec0) [] ∧ w.heap.size ≤ p ∧ w.heap.size ≤ b ∧ Below w.heap.size w w' := by
  have hmm := @run_makeMap Try.prog
  go_enter Try.func7, Try.ntmps7
  go_wp2
  have hsz : (w.alloc (Obj.map #[] 0)).heap.size = w.heap.size + 1 := by simp
  have hblk := Blk.new (w.alloc (Obj.map #[] 0)) 61 #[.map (some w.heap.size)]
  have hown := (World.ownsMap_made w Try.prog 3 rR).alloc (.cells #[.map (some w.heap.size)] 61)
  have hbel := ((Below.refl w.heap.size w).alloc (Nat.le_refl _) (Obj.map #[] 0)).alloc (by rw [hsz]; exact Nat.le_succ _) (.cells #[.map (some w.heap.size)] 61)
  rw [hsz] at hblk
  go_ret
  exact ⟨w.heap.size + 1, w.heap.size, rfl, ⟨hblk, ⟨_, hown, PM.start⟩, by omega, ⟨Nat.le_succ _, Nat.le_refl _⟩, fun _ _ => rfl, fun k hk => by simp at hk⟩, Nat.le_succ _, Nat.le_refl _, hbel⟩
theorem pall_any {F : Nat → Prop} {w : World} {p b N : Nat} {f : Int → Rec} {ks : List Int} (h : PS F w p b N f ks) : Calls Try.prog 25 #[.pointer (some ⟨p, 0, none⟩)] w fun e w' => e = .returned (.map (some b)) ∧ w' = w := by
  have h0 := h.pc.cell 0
  simp at h0
  go_enter Try.func25, Try.ntmps25
  go_wp2
  go_ret
  exact ⟨rfl, rfl⟩
theorem pall_nil (w : World) : Calls Try.prog 25 #[.pointer none] w fun e w' => e = .returned (.map none) ∧ w' = w := by
  go_enter Try.func25, Try.ntmps25
  go_wp2
  go_ret
  exact ⟨rfl, rfl⟩
theorem plen_nil (w : World) : Calls Try.prog 24 #[.pointer none] w fun e w' => e = .returned (.int .i64 0) ∧ w' = w := by
  go_enter Try.func24, Try.ntmps24
  go_wp2_with fail
  refine (pall_nil w).mono ?_
  rintro e w' ⟨rfl, hww⟩
  subst hww
  go_wp2
  go_ret
  exact ⟨rfl, rfl⟩
end Go.Proofs.Ytligpmnpfdaknaa
