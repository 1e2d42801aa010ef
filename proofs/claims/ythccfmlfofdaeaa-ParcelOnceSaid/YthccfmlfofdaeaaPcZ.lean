/- A map of pairs of ints to booleans. No condition. -/
import Derived.Test.YthccfmlfofdaeaaPcY
import Derived.WideKeyPair
import Derived.DeepKeys4
namespace Go.Proofs.Ythccfmlfofdaeaa
open Go.RowKit Go.Maps Go.Shelf Go.Sort
set_option linter.unusedVariables false
set_option linter.unusedSimpArgs false

theorem arrP : Go.WideMaps.ArrKey Try.prog 40 3 2 := ⟨Try.underlying40, by kernel_rfl, by kernel_rfl, by kernel_rfl⟩
theorem keyedP : Keyed Try.prog 40 := Keyed.of_law (deep_law_laid (by kernel_rfl) (m := 2) (by decide) (of_decide_eq_true (by kernel_rfl)) (arrP.at 0) (by kernel_rfl))
/-- The key of a pair. -/
def keyP (a b : Int) : Lit := .string (keyBytes [.int .i64 a, .int .i64 b])
theorem keyOfP {a b : Int} (ha : (Lit.int .i64 a).wf = true) (hb : (Lit.int .i64 b).wf = true) : keyOf Try.prog 40 (.agg #[.int .i64 a, .int .i64 b]) = some (keyP a b) :=
  Go.WideMaps.keyOf_pair arrP Try.underlying3 ⟨Try.prog.types.size - 1, by kernel_rfl⟩ ha hb
theorem keyP_ne {a b a' b' : Int} (ha : (Lit.int .i64 a).wf = true) (hb : (Lit.int .i64 b).wf = true) (ha' : (Lit.int .i64 a').wf = true) (hb' : (Lit.int .i64 b').wf = true) (h : ¬ (a = a' ∧ b = b')) : keyP a b ≠ keyP a' b' := fun e => by
  have h1 := keyOfP ha hb
  have h2 := keyOfP ha' hb'
  rw [e] at h1
  have h3 := keyedP.inj h1 h2
  simp at h3
  exact h h3
theorem keyP_lit (a b : Int) : WideAt.IsKeyLit (keyP a b) := by unfold keyP; trivial
/-- What the map says. -/
structure DP (D : DataW Value) (g : Int → Int → Bool) : Prop where
  tidy : Tidy D
  val : ∀ a b, (Lit.int .i64 a).wf = true → (Lit.int .i64 b).wf = true → D.atKey (keyP a b) (.held (.bool false)) = .held (.bool (g a b))
theorem DP.start : DP (.map []) (fun _ _ => false) := ⟨tidy_empty, fun a b _ _ => rfl⟩
theorem DP.put {D : DataW Value} {g : Int → Int → Bool} (h : DP D g) {a b : Int} (ha : (Lit.int .i64 a).wf = true) (hb : (Lit.int .i64 b).wf = true) (v : Bool) :
    DP (D.put (keyP a b) (.held (.bool v))) (fun x y => if x = a ∧ y = b then v else g x y) := by
  refine ⟨h.tidy.put (keyP_lit _ _) _, fun x y hx hy => ?_⟩
  by_cases e : x = a ∧ y = b
  · obtain ⟨rfl, rfl⟩ := e
    rw [if_pos ⟨rfl, rfl⟩]
    exact atKey_put_same h.tidy.isMap (keyP_lit _ _) _ _
  · rw [if_neg e, atKey_put_other (keyP_ne hx hy ha hb e)]
    exact h.val x y hx hy
theorem zero_bool (w : World) : (zeroValue 4).run Try.prog w = .ok (.bool false) w := by kernel_rfl
/-- The map's block. -/
def DM (w : World) (m N : Nat) (g : Int → Int → Bool) : Prop := ∃ D, w.ownsMap Try.prog 40 rR m N D ∧ DP D g
theorem DM.kept {S : Nat → Prop} {w w' : World} {m N : Nat} {g : Int → Int → Bool} (h : DM w m N g) (k : Keep S w w') (hs : ¬ S m) : DM w' m N g := by
  obtain ⟨D, h1, h2⟩ := h
  exact ⟨D, ownsMap_kept h1 k hs, h2⟩
theorem DM.lt {w : World} {m N : Nat} {g : Int → Int → Bool} (h : DM w m N g) : m < w.heap.size := by
  obtain ⟨D, h1, h2⟩ := h
  exact h1.lt
theorem DM.below {w w' : World} {m N : Nat} {g : Int → Int → Bool} (h : DM w m N g) (k : Below w.heap.size w w') : DM w' m N g := h.kept (Keep.of_below k) (by have := h.lt; omega)
theorem DM.look {w : World} {m N : Nat} {g : Int → Int → Bool} (h : DM w m N g) {a b : Int} (ha : (Lit.int .i64 a).wf = true) (hb : (Lit.int .i64 b).wf = true) :
    (Instr.lookup 39 (.map (some m)) (.agg #[.int .i64 a, .int .i64 b]) false).run Try.prog w = .ok (.bool (g a b)) w := by
  obtain ⟨D, hm, hD⟩ := h
  obtain ⟨v, ps, hrun, hv⟩ := hm.lookup keyedP Try.underlying39 (zero_bool w) (show rR (.bool false) = some (.held (.bool false), []) from rfl) (keyOfP ha hb)
  rw [hD.val a b ha hb] at hv
  have e : some ((DataW.held v : DataW Value), ([] : List MemPlace)) = some (DataW.held (.bool (g a b)), ps) := hv
  simp only [Option.some.injEq, Prod.mk.injEq, DataW.held.injEq] at e
  obtain ⟨rfl, _⟩ := e
  exact hrun
theorem DM.upd {w : World} {m N : Nat} {g : Int → Int → Bool} (h : DM w m N g) (hN : N < maxLen) {a b : Int} (ha : (Lit.int .i64 a).wf = true) (hb : (Lit.int .i64 b).wf = true) (v : Bool) :
    ∃ w', (Instr.mapUpdate 39 (.map (some m)) (.agg #[.int .i64 a, .int .i64 b]) (.bool v)).run Try.prog w = .ok () w' ∧ DM w' m (N + 1) (fun x y => if x = a ∧ y = b then v else g x y) ∧ Keep (fun i => i = m) w w' := by
  obtain ⟨D, hm, hD⟩ := h
  obtain ⟨w', hrun, hm', hg⟩ := hm.update keyedP Try.underlying39 hN (keyOfP ha hb) (show rR (.bool v) = some (.held (.bool v), []) from rfl)
  exact ⟨w', hrun, ⟨_, hm', hD.put ha hb v⟩, (Keep.of_grown hg).mono fun i _ e => (Option.some.inj e).symm⟩
end Go.Proofs.Ythccfmlfofdaeaa
