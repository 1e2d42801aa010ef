/- Identities: maps of ints that are owned; records, requests; New, first, of, Mark, Len. No condition but that they lie in memory. -/
import Derived.Test.YtpendcaefjbomaaApJ
import Derived.Test.YtpendcaefjbomaaShelf
import Derived.Test.YtpendcaefjbomaaMix
import Derived.Lib.SlKeysI
namespace Go.Proofs.Ytpendcaefjbomaa
open Go.RowKit Go.Maps Go.Shelf Go.Sort
set_option linter.unusedVariables false
set_option linter.unusedSimpArgs false

theorem Keep.ofB {S : Nat → Prop} {w w' : World} (h : Below w.heap.size w w') : Keep S w w' := ⟨h.os, h.tape, h.output, h.size, fun k hk _ => h.block k hk⟩
/-- Elements are held as they are. -/
def rR (v : Value) : Option (DataW Value × List MemPlace) := some (.held v, [])
theorem int_lit (k : Int) : WideAt.IsKeyLit (Lit.int .i64 k) := by simp [WideAt.IsKeyLit]
/-- A key more, if it is not there. -/
def addK (ks : List Int) (g : Int) : List Int := if g ∈ ks then ks else ks ++ [g]
theorem mem_addK {ks : List Int} {g i : Int} : i ∈ addK ks g ↔ i ∈ ks ∨ i = g := by
  unfold addK
  by_cases h : g ∈ ks
  · rw [if_pos h]
    refine ⟨.inl, fun e => ?_⟩
    rcases e with e | e
    · exact e
    · rw [e]; exact h
  · rw [if_neg h]
    simp
/-- A map whose keys are ints, each once. -/
def FormI (D : DataW Value) : Prop := ∃ es : List (Lit × DataW Value), D = .map es ∧ es.Pairwise (fun p q => p.1 ≠ q.1) ∧ ∀ p ∈ es, ∃ x, p.1 = .int .i64 x
theorem FormI.put {D : DataW Value} (h : FormI D) (g : Int) (d : DataW Value) : FormI (D.put (.int .i64 g) d) := by
  obtain ⟨es, rfl, h1, h2⟩ := h
  obtain ⟨es', he, hp⟩ := Tidy.put ⟨es, rfl, h1⟩ (int_lit g) d
  refine ⟨es', he, hp, fun p hp => ?_⟩
  injection he with he
  rw [← he] at hp
  rcases ChangeMaps.mem_insert_iff.1 hp with rfl | hp
  · exact ⟨g, rfl⟩
  · exact h2 p (List.mem_filter.1 hp).1
theorem FormI.del {D : DataW Value} (h : FormI D) (g : Int) : FormI (D.del (.int .i64 g)) := by
  obtain ⟨es, rfl, h1, h2⟩ := h
  exact ⟨_, rfl, h1.filter _, fun p hp => h2 p (List.mem_filter.1 hp).1⟩
/-- The map reads as: f, and just ks are there. -/
structure PM (z : Value) (D : DataW Value) (f : Int → Value) (ks : List Int) : Prop where
  tidy : Tidy D
  val : ∀ k, D.atKey (.int .i64 k) (.held z) = .held (f k)
  has_ : ∀ k, has D (.int .i64 k) = decide (k ∈ ks)
  sz : Go.Maps.size D = ks.length
  nd : ks.Nodup
  form : FormI D
theorem PM.start (z : Value) : PM z (.map []) (fun _ => z) [] := ⟨tidy_empty, fun g => rfl, fun g => rfl, rfl, List.nodup_nil, ⟨[], rfl, List.Pairwise.nil, fun p h => by simp at h⟩⟩
theorem addK_nodup {ks : List Int} (h : ks.Nodup) (g : Int) : (addK ks g).Nodup := by
  unfold addK
  by_cases m : g ∈ ks
  · rw [if_pos m]; exact h
  · rw [if_neg m]
    rw [List.nodup_append]
    exact ⟨h, by simp, fun a ha b hb => by simp at hb; subst hb; rintro rfl; exact m ha⟩
theorem PM.put {D : DataW Value} {z : Value} {f : Int → Value} {ks : List Int} (h : PM z D f ks) (g : Int) (r : Value) :
    PM z (D.put (.int .i64 g) (.held r)) (fun k => if k = g then r else f k) (addK ks g) := by
  have hne : ∀ k, k ≠ g → Lit.int .i64 k ≠ Lit.int .i64 g := fun k hk e => hk (by injection e)
  refine ⟨h.tidy.put (int_lit _) _, fun k => ?_, fun k => ?_, ?_, addK_nodup h.nd g, h.form.put g _⟩
  · by_cases e : k = g
    · subst e
      rw [if_pos rfl]
      exact atKey_put_same h.tidy.isMap (int_lit _) _ _
    · rw [if_neg e, atKey_put_other (hne k e)]
      exact h.val k
  · by_cases e : k = g
    · subst e
      rw [has_put_same h.tidy.isMap (int_lit _)]
      exact (decide_eq_true (mem_addK.2 (.inr rfl))).symm
    · rw [has_put_other (hne k e), h.has_ k]
      exact decide_eq_decide.2 ⟨fun m => mem_addK.2 (.inl m), fun m => (mem_addK.1 m).resolve_right e⟩
  · rw [size_put h.tidy, h.has_ g, h.sz]
    unfold addK
    by_cases m : g ∈ ks
    · simp [m]
    · simp [m]
theorem PM.del {D : DataW Value} {z : Value} {f : Int → Value} {ks : List Int} (h : PM z D f ks) (g : Int) :
    PM z (D.del (.int .i64 g)) (fun k => if k = g then z else f k) (ks.erase g) := by
  have hne : ∀ k, k ≠ g → Lit.int .i64 k ≠ Lit.int .i64 g := fun k hk e => hk (by injection e)
  refine ⟨h.tidy.del _, fun k => ?_, fun k => ?_, ?_, h.nd.erase g, h.form.del g⟩
  · by_cases e : k = g
    · subst e
      rw [if_pos rfl]
      exact atKey_del_same _
    · rw [if_neg e, atKey_del_other (hne k e)]
      exact h.val k
  · by_cases e : k = g
    · subst e
      rw [has_del_same]
      exact (decide_eq_false (fun m => (h.nd.mem_erase_iff.1 m).1 rfl)).symm
    · rw [has_del_other (hne k e), h.has_ k]
      exact decide_eq_decide.2 ⟨fun m => h.nd.mem_erase_iff.2 ⟨e, m⟩, fun m => (h.nd.mem_erase_iff.1 m).2⟩
  · have hs := size_del (k := .int .i64 g) h.tidy
    rw [h.has_ g, h.sz] at hs
    by_cases m : g ∈ ks
    · rw [List.length_erase_of_mem m]
      simp [m] at hs
      omega
    · rw [List.erase_of_not_mem m]
      simp [m] at hs
      omega
/-- The map's keys, in order. -/
theorem PM.sorted {D : DataW Value} {z : Value} {f : Int → Value} {ks : List Int} (h : PM z D f ks) : (intKeys D).mergeSort (fun x y => decide (x ≤ y)) = ks.mergeSort (fun x y => decide (x ≤ y)) := by
  obtain ⟨es, rfl, h1, h2⟩ := h.form
  exact mergeSort_of_perm_i (perm_intKeys h1 h2 h.nd (fun x => by rw [h.has_ x]; simp)).symm
theorem ownsMap_kept {S : Nat → Prop} {w w' : World} {R : Value → Option (DataW Value × List MemPlace)} {k : TypeId} {b n : Nat} {D : DataW Value} (h : w.ownsMap Try.prog k R b n D) (hk : Keep S w w') (hs : ¬ S b) : w'.ownsMap Try.prog k R b n D := by
  obtain ⟨es, clock, hb, F, h2⟩ := h
  exact ⟨es, clock, (hk.block b (Array.getElem?_eq_some_iff.1 hb).1 hs).trans hb, F, h2⟩

/-- A map of ints that is there: its block, what it reads as. -/
def MO (z : Value) (w : World) (b N : Nat) (f : Int → Value) (ks : List Int) : Prop := ∃ D, w.ownsMap Try.prog 3 rR b N D ∧ PM z D f ks
section
variable {z : Value} {w w' : World} {b N : Nat} {f : Int → Value} {ks : List Int}
theorem MO.lt (h : MO z w b N f ks) : b < w.heap.size := by
  obtain ⟨D, hm, _⟩ := h
  exact hm.lt
theorem MO.kept {S : Nat → Prop} (h : MO z w b N f ks) (k : Keep S w w') (hs : ¬ S b) : MO z w' b N f ks := by
  obtain ⟨D, hm, hD⟩ := h
  exact ⟨D, ownsMap_kept hm k hs, hD⟩
theorem MO.below (h : MO z w b N f ks) (k : Below w.heap.size w w') : MO z w' b N f ks := h.kept (Keep.of_below k) (by have := h.lt; omega)
theorem MO.alloc (h : MO z w b N f ks) (o : Obj) : MO z (w.alloc o) b N f ks := h.below ((Below.refl _ w).alloc (Nat.le_refl _) o)
theorem MO.drew (h : MO z w b N f ks) : MO z w.drew b N f ks := h.below (Below.refl _ w).drew
theorem MO.nd (h : MO z w b N f ks) : ks.Nodup := by
  obtain ⟨D, _, hD⟩ := h
  exact hD.nd
theorem MO.made (z : Value) (w : World) : MO z (w.alloc (Obj.map #[] 0)) w.heap.size 0 (fun _ => z) [] := ⟨_, World.ownsMap_made w Try.prog 3 rR, PM.start z⟩
theorem keyI {k : Int} (hk : (Lit.int .i64 k).wf = true) : keyOf Try.prog 3 (.int .i64 k) = some (.int .i64 k) := keyOf_int_mk Try.underlying3 hk
theorem MO.look {t ev : TypeId} (h : MO z w b N f ks) (ht : Try.prog.underlying t = some (.map 3 ev)) (hz : (zeroValue ev).run Try.prog w = .ok z w) {k : Int} (hk : (Lit.int .i64 k).wf = true) :
    (Instr.lookup t (.map (some b)) (.int .i64 k) true).run Try.prog w = .ok (.tuple #[f k, .bool (decide (k ∈ ks))]) w := by
  obtain ⟨D, hm, hD⟩ := h
  obtain ⟨v, ps, hrun, hv⟩ := hm.look_ok (int_keyed Try.underlying3) ht hz (show rR z = some (.held z, []) from rfl) (keyI hk)
  rw [hD.val k] at hv
  generalize f k = u at hv ⊢
  have e : some ((DataW.held v : DataW Value), ([] : List MemPlace)) = some (DataW.held u, ps) := hv
  simp only [Option.some.injEq, Prod.mk.injEq, DataW.held.injEq] at e
  obtain ⟨rfl, _⟩ := e
  rw [hD.has_ k] at hrun
  exact hrun
theorem MO.look1 {t ev : TypeId} (h : MO z w b N f ks) (ht : Try.prog.underlying t = some (.map 3 ev)) (hz : (zeroValue ev).run Try.prog w = .ok z w) {k : Int} (hk : (Lit.int .i64 k).wf = true) :
    (Instr.lookup t (.map (some b)) (.int .i64 k) false).run Try.prog w = .ok (f k) w := by
  obtain ⟨D, hm, hD⟩ := h
  obtain ⟨v, ps, hrun, hv⟩ := hm.lookup (int_keyed Try.underlying3) ht hz (show rR z = some (.held z, []) from rfl) (keyI hk)
  rw [hD.val k] at hv
  generalize f k = u at hv ⊢
  have e : some ((DataW.held v : DataW Value), ([] : List MemPlace)) = some (DataW.held u, ps) := hv
  simp only [Option.some.injEq, Prod.mk.injEq, DataW.held.injEq] at e
  obtain ⟨rfl, _⟩ := e
  exact hrun
theorem MO.upd {t ev : TypeId} (h : MO z w b N f ks) (ht : Try.prog.underlying t = some (.map 3 ev)) (hN : N < maxLen) {k : Int} (hk : (Lit.int .i64 k).wf = true) (r : Value) :
    ∃ w', (Instr.mapUpdate t (.map (some b)) (.int .i64 k) r).run Try.prog w = .ok () w' ∧ MO z w' b (N + 1) (fun i => if i = k then r else f i) (addK ks k) ∧ Keep (fun i => i = b) w w' := by
  obtain ⟨D, hm, hD⟩ := h
  obtain ⟨w', hrun, hm', hg⟩ := hm.update (int_keyed Try.underlying3) ht hN (keyI hk) (show rR r = some (.held r, []) from rfl)
  exact ⟨w', hrun, ⟨_, hm', hD.put k r⟩, (Keep.of_grown hg).mono fun i _ e => (Option.some.inj e).symm⟩
end
/-- A request that was seen. -/
structure Rq where
  m : Int
  d : Bool
  c : Int
  n : Int
  e : Int
  x : Int
def rq0 : Rq := ⟨0, false, 0, 0, 0, 0⟩
def Rq.v (r : Rq) : Value := .agg #[.int .u64 r.m, .bool r.d, .int .i64 r.c, .int .i64 r.n, .int .i64 r.e, .int .i64 r.x]
def Rq.a (r : Rq) : Value := .agg #[.int .i64 r.c, .int .i64 r.n, .int .i64 r.e, .int .i64 r.x]
/-- A client: its mark, its map's block, what that reads as, its numbers. -/
structure Cl where
  k : Int
  b : Nat
  g : Int → Rq
  ns : List Int
def Cl.v (c : Cl) : Value := .agg #[.int .i64 c.k, .map (some c.b)]
abbrev clZ : Value := .agg #[.int .i64 0, .map none]
/-- A client's map is there. -/
def CM (w : World) (K : Nat) (c : Cl) : Prop := ∃ N, N ≤ K ∧ MO rq0.v w c.b N (fun j => (c.g j).v) c.ns
/-- A table: its block, its map's block; what it knows of each client. -/
structure TS (F : Nat → Prop) (w : World) (p b K : Nat) (cl : Int → Cl) (cs : List Int) : Prop where
  pc : Blk w p 63 #[.map (some b)]
  mp : ∃ N, N ≤ K ∧ MO clZ w b N (fun i => if i ∈ cs then (cl i).v else clZ) cs
  ne : p ≠ b
  fp : F p ∧ F b
  no : ∀ i, i ∉ cs → (cl i).k = 1 ∧ (cl i).ns = [] ∧ (cl i).g = fun _ => rq0
  ok : ∀ i, i ∈ cs → CM w K (cl i) ∧ F (cl i).b ∧ (cl i).b ≠ p ∧ (cl i).b ≠ b
  ap : ∀ i j, i ∈ cs → j ∈ cs → i ≠ j → (cl i).b ≠ (cl j).b
def cl0 : Cl := ⟨1, 0, fun _ => rq0, []⟩
section
variable {F G : Nat → Prop} {w w' : World} {p b K : Nat} {cl : Int → Cl} {cs : List Int}
theorem CM.kept {S : Nat → Prop} {c : Cl} (h : CM w K c) (k : Keep S w w') (hs : ¬ S c.b) : CM w' K c := by
  obtain ⟨N, hN, hm⟩ := h
  exact ⟨N, hN, hm.kept k hs⟩
theorem CM.lt {c : Cl} (h : CM w K c) : c.b < w.heap.size := by
  obtain ⟨N, hN, hm⟩ := h
  exact hm.lt
theorem CM.up {K' : Nat} {c : Cl} (h : CM w K c) (hK : K ≤ K') : CM w K' c := by
  obtain ⟨N, hN, hm⟩ := h
  exact ⟨N, by omega, hm⟩
theorem TS.lt (h : TS F w p b K cl cs) : p < w.heap.size ∧ b < w.heap.size := by
  obtain ⟨N, hN, hm⟩ := h.mp
  exact ⟨h.pc.lt, hm.lt⟩
theorem TS.kept {S : Nat → Prop} (h : TS F w p b K cl cs) (k : Keep S w w') (hs : ∀ g, F g → ¬ S g) : TS F w' p b K cl cs := by
  obtain ⟨N, hN, hm⟩ := h.mp
  exact ⟨h.pc.kept k (hs p h.fp.1), ⟨N, hN, hm.kept k (hs b h.fp.2)⟩, h.ne, h.fp, h.no, fun i hi => ⟨(h.ok i hi).1.kept k (hs _ (h.ok i hi).2.1), (h.ok i hi).2⟩, h.ap⟩
theorem TS.below (h : TS F w p b K cl cs) (k : Below w.heap.size w w') : TS F w' p b K cl cs := by
  obtain ⟨N, hN, hm⟩ := h.mp
  have hl := h.lt
  exact ⟨h.pc.kept (Keep.of_below k) (by omega), ⟨N, hN, hm.below k⟩, h.ne, h.fp, h.no, fun i hi => ⟨(h.ok i hi).1.kept (Keep.of_below k) (by have := (h.ok i hi).1.lt; omega), (h.ok i hi).2⟩, h.ap⟩
theorem TS.drew (h : TS F w p b K cl cs) : TS F w.drew p b K cl cs := h.below (Below.refl w.heap.size w).drew
theorem TS.alloc (h : TS F w p b K cl cs) (o : Obj) : TS F (w.alloc o) p b K cl cs := h.below ((Below.refl _ w).alloc (Nat.le_refl _) o)
theorem TS.mono (h : TS F w p b K cl cs) (hF : ∀ k, k < w.heap.size → F k → G k) : TS G w p b K cl cs :=
  ⟨h.pc, h.mp, h.ne, ⟨hF p h.lt.1 h.fp.1, hF b h.lt.2 h.fp.2⟩, h.no, fun i hi => ⟨(h.ok i hi).1, hF _ (h.ok i hi).1.lt (h.ok i hi).2.1, (h.ok i hi).2.2⟩, h.ap⟩
theorem TS.up {K' : Nat} (h : TS F w p b K cl cs) (hK : K ≤ K') : TS F w p b K' cl cs := by
  obtain ⟨N, hN, hm⟩ := h.mp
  exact ⟨h.pc, ⟨N, by omega, hm⟩, h.ne, h.fp, h.no, fun i hi => ⟨(h.ok i hi).1.up hK, (h.ok i hi).2⟩, h.ap⟩
theorem zero_rq (w : World) : (zeroValue 72).run Try.prog w = .ok rq0.v w := by kernel_rfl
theorem zero_cl (w : World) : (zeroValue 68).run Try.prog w = .ok clZ w := by kernel_rfl
theorem tnew_any (w : World) : Calls Try.prog 9 #[] w fun e w' => ∃ p b, e = .returned (.pointer (some ⟨p, 0, none⟩)) ∧ TS (fun k => w.heap.size ≤ k) w' p b 0 (fun _ => cl0) [] ∧ w.heap.size ≤ p ∧ w.heap.size ≤ b ∧ Below w.heap.size w w' := by
  have hmm := @run_makeMap Try.prog
  go_enter Try.func9, Try.ntmps9
  go_wp2
  have hsz : (w.alloc (Obj.map #[] 0)).heap.size = w.heap.size + 1 := by simp
  have hblk := Blk.new (w.alloc (Obj.map #[] 0)) 63 #[.map (some w.heap.size)]
  have hown := (MO.made clZ w).alloc (.cells #[.map (some w.heap.size)] 63)
  have hbel := ((Below.refl w.heap.size w).alloc (Nat.le_refl _) (Obj.map #[] 0)).alloc (by rw [hsz]; exact Nat.le_succ _) (.cells #[.map (some w.heap.size)] 63)
  rw [hsz] at hblk
  go_ret
  exact ⟨w.heap.size + 1, w.heap.size, rfl, ⟨hblk, ⟨0, Nat.le_refl _, by simpa using hown⟩, by omega, ⟨Nat.le_succ _, Nat.le_refl _⟩, fun _ _ => ⟨rfl, rfl, rfl⟩, fun k hk => by simp at hk, fun i j hi => by simp at hi⟩, Nat.le_succ _, Nat.le_refl _, hbel⟩
/-- A client with no record. -/
theorem first_any (w : World) : Calls Try.prog 46 #[] w fun e w' => ∃ mb, e = .returned (.agg #[.int .i64 1, .map (some mb)]) ∧ w.heap.size ≤ mb ∧ MO rq0.v w' mb 0 (fun _ => rq0.v) [] ∧ Below w.heap.size w w' := by
  have hmm := @run_makeMap Try.prog
  have hblk0 := Blk.new w 68 #[.int .i64 0, .map none]
  have hb1 := (Below.refl w.heap.size w).alloc (Nat.le_refl _) (.cells #[.int .i64 0, .map none] 68)
  have hown := MO.made rq0.v (w.alloc (.cells #[.int .i64 0, .map none] 68))
  have hb2 := hb1.alloc hb1.size (Obj.map #[] 0)
  have hblk := hblk0.alloc (Obj.map #[] 0)
  have z0 := hblk.cell 0
  have z1 := hblk.cell 1
  have zf := fun i => hblk.frozen i
  have zl := hblk.lt
  simp at z0 z1
  obtain ⟨mb, hmb⟩ : ∃ mb, (w.alloc (.cells #[.int .i64 0, .map none] 68)).heap.size = mb := ⟨_, rfl⟩
  have hmb1 : w.heap.size + 1 = mb := by rw [← hmb]; simp
  rw [hmb] at hown
  go_enter Try.func46, Try.ntmps46
  go_wp2
  have zE := (hblk.set_ 0 (.int .i64 1)).set_ 1 (.map (some mb))
  simp only [List.setIfInBounds_toArray, List.set_cons_zero, List.set_cons_succ] at zE
  have kE : Keep (fun k => k = w.heap.size) ((w.alloc (.cells #[.int .i64 0, .map none] 68)).alloc (Obj.map #[] 0)) ((((w.alloc (.cells #[.int .i64 0, .map none] 68)).alloc (Obj.map #[] 0)).setCell ⟨w.heap.size, 0, none⟩ (.int .i64 1)).setCell ⟨w.heap.size, 1, none⟩ (.map (some mb))) :=
    Keep.setCell (S := fun k => k = w.heap.size) (Keep.setCell (S := fun k => k = w.heap.size) (Keep.refl _ _) (p := ⟨w.heap.size, 0, none⟩) (fun _ => rfl) _) (p := ⟨w.heap.size, 1, none⟩) (fun _ => rfl) _
  generalize ((((w.alloc (.cells #[.int .i64 0, .map none] 68)).alloc (Obj.map #[] 0)).setCell ⟨w.heap.size, 0, none⟩ (.int .i64 1)).setCell ⟨w.heap.size, 1, none⟩ (.map (some mb))) = WE at zE kE ⊢
  have y0 := zE.cell 0
  have y1 := zE.cell 1
  simp at y0 y1
  refine bodyPost_ret (v := .agg #[.int .i64 1, .map (some mb)]) (by simp [results, Try.results46, go_sem, y0, y1]) rfl ?_
  exact ⟨mb, rfl, by omega, hown.kept kE (by omega), hb2.trans (kE.below (B := w.heap.size) hb2.size (fun i hi e => by omega))⟩
/-- Clients, numbers. -/
def mayC (c : Int) : Prop := 0 ≤ c ∧ c < 64
def mayN (n : Int) : Prop := 1 ≤ n ∧ n ≤ 4294967296
theorem client_yes {c : Int} (h : mayC c) (w : World) : Calls Try.prog 24 #[.int .i64 c] w fun e w' => e = .returned (.bool true) ∧ w' = w := by
  have h1 : decide ((0 : Int) ≤ c) = true := decide_eq_true h.1
  have h2 : decide (c < (64 : Int)) = true := decide_eq_true h.2
  go_enter Try.func24, Try.ntmps24
  go_wp2
  go_ret
  exact ⟨rfl, rfl⟩
theorem client_no {c : Int} (h : ¬ mayC c) (w : World) : Calls Try.prog 24 #[.int .i64 c] w fun e w' => e = .returned (.bool false) ∧ w' = w := by
  by_cases h0 : 0 ≤ c
  · have h1 : decide ((0 : Int) ≤ c) = true := decide_eq_true h0
    have h2 : decide (c < (64 : Int)) = false := decide_eq_false (fun e => h ⟨h0, e⟩)
    go_enter Try.func24, Try.ntmps24
    go_wp2
    go_ret
    exact ⟨rfl, rfl⟩
  · have h1 : decide ((0 : Int) ≤ c) = false := decide_eq_false h0
    go_enter Try.func24, Try.ntmps24
    go_wp2
    go_ret
    exact ⟨rfl, rfl⟩
theorem number_yes {c : Int} (h : mayN c) (w : World) : Calls Try.prog 25 #[.int .i64 c] w fun e w' => e = .returned (.bool true) ∧ w' = w := by
  have h1 : decide ((1 : Int) ≤ c) = true := decide_eq_true h.1
  have h2 : decide (c ≤ (4294967296 : Int)) = true := decide_eq_true h.2
  go_enter Try.func25, Try.ntmps25
  go_wp2
  go_ret
  exact ⟨rfl, rfl⟩
theorem number_no {c : Int} (h : ¬ mayN c) (w : World) : Calls Try.prog 25 #[.int .i64 c] w fun e w' => e = .returned (.bool false) ∧ w' = w := by
  by_cases h0 : 1 ≤ c
  · have h1 : decide ((1 : Int) ≤ c) = true := decide_eq_true h0
    have h2 : decide (c ≤ (4294967296 : Int)) = false := decide_eq_false (fun e => h ⟨h0, e⟩)
    go_enter Try.func25, Try.ntmps25
    go_wp2
    go_ret
    exact ⟨rfl, rfl⟩
  · have h1 : decide ((1 : Int) ≤ c) = false := decide_eq_false h0
    go_enter Try.func25, Try.ntmps25
    go_wp2
    go_ret
    exact ⟨rfl, rfl⟩
theorem MO.len {z : Value} {N : Nat} {f : Int → Value} {ks : List Int} {t ev : TypeId} (h : MO z w b N f ks) (ht : Try.prog.underlying t = some (.map 3 ev)) (ty : TypeId) : (Builtin.len_ #[t] ty #[.map (some b)]).run Try.prog w = .ok (.int .i64 (ks.length : Nat)) w := by
  obtain ⟨D, hm, hD⟩ := h
  rw [← hD.sz]
  exact hm.len ht ty
def RE : TypeId := 68
/-- What of answers. -/
def OfR (w w' : World) (b : Nat) (cl : Int → Cl) (cs : List Int) (K : Nat) (c : Int) (mb : Nat) : Prop :=
  (∃ N, N ≤ K ∧ MO rq0.v w' mb N (fun j => ((cl c).g j).v) (cl c).ns) ∧ ((c ∈ cs ∧ mb = (cl c).b) ∨ (c ∉ cs ∧ w.heap.size ≤ mb))
theorem field_k (k : Int) (m : Nat) (w : World) : (Instr.field 68 (.agg #[.int .i64 k, .map (some m)]) 0).run Try.prog w = .ok (.int .i64 k) w := by kernel_rfl
theorem field_m (k : Int) (m : Nat) (w : World) : (Instr.field 68 (.agg #[.int .i64 k, .map (some m)]) 1).run Try.prog w = .ok (.map (some m)) w := by kernel_rfl
set_option maxRecDepth 100000 in
theorem of_any (h : TS F w p b K cl cs) (c : Int) (wc : (Lit.int .i64 c).wf = true) :
    Calls Try.prog 26 #[.pointer (some ⟨p, 0, none⟩), .int .i64 c] w fun e w' => ∃ mb, e = .returned (.agg #[.int .i64 (cl c).k, .map (some mb)]) ∧ OfR w w' b cl cs K c mb ∧ Below w.heap.size w w' := by
  have hb1 := (Below.refl w.heap.size w).alloc (Nat.le_refl _) (.cells #[.int .i64 0, .map none] 68)
  have h1 := h.alloc (.cells #[.int .i64 0, .map none] 68)
  obtain ⟨N, hN, hm⟩ := h1.mp
  have hlk := hm.look Try.underlying61 (zero_cl _) wc
  have p0 := h1.pc.cell 0
  have hA0 := Blk.new w 68 #[.int .i64 0, .map none]
  simp at p0
  by_cases hc : c ∈ cs
  · rw [if_pos hc, show decide (c ∈ cs) = true from decide_eq_true hc] at hlk
    obtain ⟨hcm, hcF, hcp, hcb⟩ := h.ok c hc
    obtain ⟨N2, hN2, hm2⟩ := hcm
    unfold Cl.v at hlk
    obtain ⟨ck, hck⟩ : ∃ x, (cl c).k = x := ⟨_, rfl⟩
    obtain ⟨cb, hcb2⟩ : ∃ x, (cl c).b = x := ⟨_, rfl⟩
    rw [hck, hcb2] at hlk
    rw [hck]
    have hb2 := (((Below.refl w.heap.size w).alloc (Nat.le_refl _) (.cells #[.int .i64 ck, .map (some cb)] 68))).alloc (by simp) (.cells #[.int .i64 ck, .map (some cb)] 68)
    have hA1 := (Blk.new w 68 #[.int .i64 ck, .map (some cb)]).alloc (.cells #[.int .i64 ck, .map (some cb)] 68)
    have y0 := hA1.cell 0
    have y1 := hA1.cell 1
    simp only [List.getElem?_toArray, List.getElem?_cons_succ, List.getElem?_cons_zero] at y0 y1
    clear hck
    go_enter Try.func26, Try.ntmps26
    go_wp2
    refine bodyPost_ret (v := .agg #[.int .i64 ck, .map (some cb)]) (by simp [results, Try.results26, go_sem, y0, y1]) rfl ?_
    exact ⟨cb, rfl, ⟨⟨N2, hN2, by have := hm2.below hb2; rw [hcb2] at this; exact this⟩, .inl ⟨hc, hcb2.symm⟩⟩, hb2⟩
  · rw [if_neg hc, show decide (c ∈ cs) = false from decide_eq_false hc] at hlk
    obtain ⟨hk, hns, hg⟩ := h.no c hc
    rw [hk]
    have hb2 := hb1.alloc hb1.size (.cells #[.int .i64 0, .map none] 68)
    have hA1 := hA0.alloc (.cells #[.int .i64 0, .map none] 68)
    go_enter Try.func26, Try.ntmps26
    go_wp2_with fail
    refine (first_any _).mono ?_
    rintro e w3 ⟨mb, rfl, hmb, hm3, hb3⟩
    have hb4 := hb2.trans (hb3.mono hb2.size)
    have hA3 := hA1.kept (Keep.of_below hb3) (Nat.not_le.2 hA1.lt)
    have hzw := hb2.size
    have zf := fun i => hA3.frozen i
    have zl := hA3.lt
    have z0 := hA3.cell 0
    have z1 := hA3.cell 1
    simp only [List.getElem?_toArray, List.getElem?_cons_succ, List.getElem?_cons_zero] at z0 z1
    go_wp2_with fail
    have zE := (hA3.set_ 0 (.int .i64 1)).set_ 1 (.map (some mb))
    simp only [List.setIfInBounds_toArray, List.set_cons_zero, List.set_cons_succ] at zE
    have kE : Keep (fun k => k = w.heap.size) w3 ((w3.setCell ⟨w.heap.size, 0, none⟩ (.int .i64 1)).setCell ⟨w.heap.size, 1, none⟩ (.map (some mb))) :=
      Keep.setCell (S := fun k => k = w.heap.size) (Keep.setCell (S := fun k => k = w.heap.size) (Keep.refl _ _) (p := ⟨w.heap.size, 0, none⟩) (fun _ => rfl) _) (p := ⟨w.heap.size, 1, none⟩) (fun _ => rfl) _
    generalize ((w3.setCell ⟨w.heap.size, 0, none⟩ (.int .i64 1)).setCell ⟨w.heap.size, 1, none⟩ (.map (some mb))) = WE at zE kE ⊢
    have y0 := zE.cell 0
    have y1 := zE.cell 1
    simp only [List.getElem?_toArray, List.getElem?_cons_succ, List.getElem?_cons_zero] at y0 y1
    have hsz2 : ((w.alloc (.cells #[.int .i64 0, .map none] 68)).alloc (.cells #[.int .i64 0, .map none] 68)).heap.size = w.heap.size + 2 := by simp
    rw [hsz2] at hmb
    refine bodyPost_ret (v := .agg #[.int .i64 1, .map (some mb)]) (by simp [results, Try.results26, go_sem, y0, y1]) rfl ?_
    exact ⟨mb, rfl, ⟨⟨0, Nat.zero_le _, by rw [hns, hg]; exact hm3.kept kE (by omega)⟩, .inr ⟨hc, by omega⟩⟩, hb4.trans (kE.below (B := w.heap.size) hb4.size (fun i hi e => by omega))⟩
set_option maxRecDepth 100000 in
theorem mark_any (h : TS F w p b K cl cs) (c : Int) (wc : (Lit.int .i64 c).wf = true) (hc : mayC c) :
    Calls Try.prog 20 #[.pointer (some ⟨p, 0, none⟩), .int .i64 c] w fun e w' => e = .returned (.int .i64 (cl c).k) ∧ Below w.heap.size w w' := by
  have ho := of_any h c wc
  go_enter Try.func20, Try.ntmps20
  go_wp2_with fail
  refine (client_yes hc _).mono ?_
  rintro e w' ⟨rfl, hww⟩
  subst w'
  go_wp2_with fail
  refine ho.mono ?_
  rintro e w3 ⟨mb, rfl, -, hb⟩
  clear ho
  have hf := field_k (cl c).k mb w3
  go_wp2
  go_ret
  exact ⟨rfl, hb⟩
set_option maxRecDepth 100000 in
theorem len_any (h : TS F w p b K cl cs) (c : Int) (wc : (Lit.int .i64 c).wf = true) :
    Calls Try.prog 21 #[.pointer (some ⟨p, 0, none⟩), .int .i64 c] w fun e w' => e = .returned (.int .i64 ((cl c).ns.length : Nat)) ∧ Below w.heap.size w w' := by
  have ho := of_any h c wc
  go_enter Try.func21, Try.ntmps21
  go_wp2_with fail
  refine ho.mono ?_
  rintro e w3 ⟨mb, rfl, ⟨⟨N, hN, hm⟩, -⟩, hb⟩
  have hl := hm.len Try.underlying66
  clear ho
  have hf := field_m (cl c).k mb w3
  go_wp2
  go_ret
  exact ⟨rfl, hb⟩
set_option maxRecDepth 100000 in
/-- Of nil, and of no client. -/
theorem mark_no (q : Option Addr) (c : Int) (w : World) (hq : q = none ∨ ¬ mayC c) :
    Calls Try.prog 20 #[.pointer q, .int .i64 c] w fun e w' => e = .returned (.int .i64 0) ∧ w' = w := by
  cases q with
  | none =>
    go_enter Try.func20, Try.ntmps20
    go_wp2
    go_ret
    exact ⟨rfl, rfl⟩
  | some q =>
    have hc : ¬ mayC c := hq.resolve_left (by simp)
    go_enter Try.func20, Try.ntmps20
    go_wp2_with fail
    refine (client_no hc _).mono ?_
    rintro e w' ⟨rfl, hww⟩
    subst w'
    go_wp2
    go_ret
    exact ⟨rfl, rfl⟩
set_option maxRecDepth 100000 in
theorem len_nil (c : Int) (w : World) : Calls Try.prog 21 #[.pointer none, .int .i64 c] w fun e w' => e = .returned (.int .i64 0) ∧ w' = w := by
  go_enter Try.func21, Try.ntmps21
  go_wp2
  go_ret
  exact ⟨rfl, rfl⟩
end
end Go.Proofs.Ytpendcaefjbomaa
