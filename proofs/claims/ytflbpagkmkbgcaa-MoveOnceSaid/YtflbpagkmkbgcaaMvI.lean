/- Moves: a map of ints, a map of booleans; what the law MoveOnce knows. No condition. -/
import Derived.Test.YtflbpagkmkbgcaaMvX
namespace Go.Proofs.Ytflbpagkmkbgcaa
open Go.RowKit Go.Maps Go.Shelf Go.Sort
set_option linter.unusedVariables false
set_option linter.unusedSimpArgs false

/-- What a map of ints says. -/
structure IP (D : DataW Value) (g : Int → Int) : Prop where
  tidy : Tidy D
  val : ∀ a, D.atKey (.int .i64 a) (.held (.int .i64 0)) = .held (.int .i64 (g a))
theorem IP.start : IP (.map []) (fun _ => 0) := ⟨tidy_empty, fun a => rfl⟩
theorem IP.put {D : DataW Value} {g : Int → Int} (h : IP D g) (a v : Int) :
    IP (D.put (.int .i64 a) (.held (.int .i64 v))) (fun x => if x = a then v else g x) := by
  have hne : ∀ k, k ≠ a → Lit.int .i64 k ≠ Lit.int .i64 a := fun k hk e => hk (by injection e)
  refine ⟨h.tidy.put (int_lit _) _, fun x => ?_⟩
  by_cases e : x = a
  · subst e
    rw [if_pos rfl]
    exact atKey_put_same h.tidy.isMap (int_lit _) _ _
  · rw [if_neg e, atKey_put_other (hne x e)]
    exact h.val x
theorem zero_int (w : World) : (zeroValue 3).run Try.prog w = .ok (.int .i64 0) w := by kernel_rfl
/-- The map's block. -/
def IM (w : World) (m N : Nat) (g : Int → Int) : Prop := ∃ D, w.ownsMap Try.prog 3 rR m N D ∧ IP D g
theorem IM.kept {S : Nat → Prop} {w w' : World} {m N : Nat} {g : Int → Int} (h : IM w m N g) (k : Keep S w w') (hs : ¬ S m) : IM w' m N g := by
  obtain ⟨D, h1, h2⟩ := h
  exact ⟨D, ownsMap_kept h1 k hs, h2⟩
theorem IM.lt {w : World} {m N : Nat} {g : Int → Int} (h : IM w m N g) : m < w.heap.size := by
  obtain ⟨D, h1, h2⟩ := h
  exact h1.lt
theorem IM.below {w w' : World} {m N : Nat} {g : Int → Int} (h : IM w m N g) (k : Below w.heap.size w w') : IM w' m N g := h.kept (Keep.of_below k) (by have := h.lt; omega)
theorem IM.look {w : World} {m N : Nat} {g : Int → Int} (h : IM w m N g) {a : Int} (ha : (Lit.int .i64 a).wf = true) :
    (Instr.lookup 50 (.map (some m)) (.int .i64 a) false).run Try.prog w = .ok (.int .i64 (g a)) w := by
  obtain ⟨D, hm, hD⟩ := h
  obtain ⟨v, ps, hrun, hv⟩ := hm.lookup (int_keyed Try.underlying3) Try.underlying50 (zero_int w) (show rR (.int .i64 0) = some (.held (.int .i64 0), []) from rfl) (keyI ha)
  rw [hD.val a] at hv
  have e : some ((DataW.held v : DataW Value), ([] : List MemPlace)) = some (DataW.held (.int .i64 (g a)), ps) := hv
  simp only [Option.some.injEq, Prod.mk.injEq, DataW.held.injEq] at e
  obtain ⟨rfl, _⟩ := e
  exact hrun
theorem IM.upd {w : World} {m N : Nat} {g : Int → Int} (h : IM w m N g) (hN : N < maxLen) {a : Int} (ha : (Lit.int .i64 a).wf = true) (v : Int) :
    ∃ w', (Instr.mapUpdate 50 (.map (some m)) (.int .i64 a) (.int .i64 v)).run Try.prog w = .ok () w' ∧ IM w' m (N + 1) (fun x => if x = a then v else g x) ∧ Keep (fun i => i = m) w w' := by
  obtain ⟨D, hm, hD⟩ := h
  obtain ⟨w', hrun, hm', hg⟩ := hm.update (int_keyed Try.underlying3) Try.underlying50 hN (keyI ha) (show rR (.int .i64 v) = some (.held (.int .i64 v), []) from rfl)
  exact ⟨w', hrun, ⟨_, hm', hD.put a v⟩, (Keep.of_grown hg).mono fun i _ e => (Option.some.inj e).symm⟩
/-- What a map of booleans says. -/
structure BP (D : DataW Value) (g : Int → Bool) : Prop where
  tidy : Tidy D
  val : ∀ a, D.atKey (.int .i64 a) (.held (.bool false)) = .held (.bool (g a))
theorem BP.start : BP (.map []) (fun _ => false) := ⟨tidy_empty, fun a => rfl⟩
theorem BP.put {D : DataW Value} {g : Int → Bool} (h : BP D g) (a : Int) (v : Bool) :
    BP (D.put (.int .i64 a) (.held (.bool v))) (fun x => if x = a then v else g x) := by
  have hne : ∀ k, k ≠ a → Lit.int .i64 k ≠ Lit.int .i64 a := fun k hk e => hk (by injection e)
  refine ⟨h.tidy.put (int_lit _) _, fun x => ?_⟩
  by_cases e : x = a
  · subst e
    rw [if_pos rfl]
    exact atKey_put_same h.tidy.isMap (int_lit _) _ _
  · rw [if_neg e, atKey_put_other (hne x e)]
    exact h.val x
theorem zero_bool (w : World) : (zeroValue 4).run Try.prog w = .ok (.bool false) w := by kernel_rfl
/-- The map's block. -/
def BM (w : World) (m N : Nat) (g : Int → Bool) : Prop := ∃ D, w.ownsMap Try.prog 3 rR m N D ∧ BP D g
theorem BM.kept {S : Nat → Prop} {w w' : World} {m N : Nat} {g : Int → Bool} (h : BM w m N g) (k : Keep S w w') (hs : ¬ S m) : BM w' m N g := by
  obtain ⟨D, h1, h2⟩ := h
  exact ⟨D, ownsMap_kept h1 k hs, h2⟩
theorem BM.lt {w : World} {m N : Nat} {g : Int → Bool} (h : BM w m N g) : m < w.heap.size := by
  obtain ⟨D, h1, h2⟩ := h
  exact h1.lt
theorem BM.below {w w' : World} {m N : Nat} {g : Int → Bool} (h : BM w m N g) (k : Below w.heap.size w w') : BM w' m N g := h.kept (Keep.of_below k) (by have := h.lt; omega)
theorem BM.look {w : World} {m N : Nat} {g : Int → Bool} (h : BM w m N g) {a : Int} (ha : (Lit.int .i64 a).wf = true) :
    (Instr.lookup 51 (.map (some m)) (.int .i64 a) false).run Try.prog w = .ok (.bool (g a)) w := by
  obtain ⟨D, hm, hD⟩ := h
  obtain ⟨v, ps, hrun, hv⟩ := hm.lookup (int_keyed Try.underlying3) Try.underlying51 (zero_bool w) (show rR (.bool false) = some (.held (.bool false), []) from rfl) (keyI ha)
  rw [hD.val a] at hv
  have e : some ((DataW.held v : DataW Value), ([] : List MemPlace)) = some (DataW.held (.bool (g a)), ps) := hv
  simp only [Option.some.injEq, Prod.mk.injEq, DataW.held.injEq] at e
  obtain ⟨rfl, _⟩ := e
  exact hrun
theorem BM.upd {w : World} {m N : Nat} {g : Int → Bool} (h : BM w m N g) (hN : N < maxLen) {a : Int} (ha : (Lit.int .i64 a).wf = true) (v : Bool) :
    ∃ w', (Instr.mapUpdate 51 (.map (some m)) (.int .i64 a) (.bool v)).run Try.prog w = .ok () w' ∧ BM w' m (N + 1) (fun x => if x = a then v else g x) ∧ Keep (fun i => i = m) w w' := by
  obtain ⟨D, hm, hD⟩ := h
  obtain ⟨w', hrun, hm', hg⟩ := hm.update (int_keyed Try.underlying3) Try.underlying51 hN (keyI ha) (show rR (.bool v) = some (.held (.bool v), []) from rfl)
  exact ⟨w', hrun, ⟨_, hm', hD.put a v⟩, (Keep.of_grown hg).mono fun i _ e => (Option.some.inj e).symm⟩

/-- What is open, and what went. -/
structure JI (f : Int → Rec) (ks : List Int) (gw : Int → Int) (go : Int → Bool) : Prop where
  iff : ∀ x, go x = true ↔ x ∈ ks ∧ (f x).c = false
  val : ∀ x, go x = true → gw x = ofL (f x).l.l [97]
theorem JI.start : JI (fun _ => rec0) [] (fun _ => 0) (fun _ => false) := ⟨fun x => by simp, fun x h => by cases h⟩
theorem JI.gone {f : Int → Rec} {ks : List Int} {gw : Int → Int} {go : Int → Bool} (h : JI f ks gw go) {k a b : Int} {x : Ls} {l : List It} (hx : x.l = l) {n : Int} (hn : ofL l [97] = n) :
    JI (fun i => if i = k then ⟨k, a, b, x, false⟩ else f i) (addK ks k) (fun y => if y = k then n else gw y) (fun y => if y = k then true else go y) := by
  constructor
  · intro y
    by_cases e : y = k
    · subst e
      simp [mem_addK]
    · simp only [e, if_false, mem_addK, or_false]
      exact h.iff y
  · intro y
    by_cases e : y = k
    · subst e
      simp [hx, hn]
    · simp only [e, if_false]
      exact h.val y
theorem JI.came {f : Int → Rec} {ks : List Int} {gw : Int → Int} {go : Int → Bool} (h : JI f ks gw go) {k : Int} {r : Rec} (hr : r.c = true) :
    JI (fun i => if i = k then r else f i) ks gw (fun y => if y = k then false else go y) := by
  constructor
  · intro y
    by_cases e : y = k
    · subst e
      simp [hr]
    · simp only [e, if_false]
      exact h.iff y
  · intro y
    by_cases e : y = k
    · subst e
      simp
    · simp only [e, if_false]
      exact h.val y
theorem JI.shut {f : Int → Rec} {ks : List Int} {gw : Int → Int} {go : Int → Bool} (h : JI f ks gw go) {k : Int} (hk : ¬ (k ∈ ks ∧ (f k).c = false)) :
    JI f ks gw (fun y => if y = k then false else go y) := by
  constructor
  · intro y
    by_cases e : y = k
    · subst e
      simpa using hk
    · simp only [e, if_false]
      exact h.iff y
  · intro y
    by_cases e : y = k
    · subst e
      simp
    · simp only [e, if_false]
      exact h.val y
theorem JI.forgot {f : Int → Rec} {ks : List Int} {gw : Int → Int} {go : Int → Bool} (h : JI f ks gw go) {k : Int} (hn : ks.Nodup) (hc : (f k).c = true) :
    JI (fun i => if i = k then rec0 else f i) (ks.erase k) gw go := by
  have hk : ¬ go k = true := fun e => by
    have := ((h.iff k).1 e).2
    rw [hc] at this
    cases this
  constructor
  · intro y
    rw [hn.mem_erase_iff]
    by_cases e : y = k
    · subst e
      simp at hk
      simp [hk]
    · simp only [e, if_false, ne_eq, not_false_eq_true, true_and]
      exact h.iff y
  · intro y hy
    by_cases e : y = k
    · subst e
      exact absurd hy hk
    · simp only [e, if_false]
      exact h.val y hy
theorem PS.nd {F : Nat → Prop} {w : World} {p b N : Nat} {f : Int → Rec} {ks : List Int} (h : PS F w p b N f ks) : ks.Nodup := by
  obtain ⟨D, _, hD⟩ := h.mp
  exact hD.nd
end Go.Proofs.Ytflbpagkmkbgcaa
