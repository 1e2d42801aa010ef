/- Identities: maps of pairs of ints; what the law IdentOnce knows. No condition. -/
import Derived.Test.YtpendcaefjbomaaIdY
import Derived.WideKeyPair
import Derived.DeepKeys4
namespace Go.Proofs.Ytpendcaefjbomaa
open Go.RowKit Go.Maps Go.Shelf Go.Sort
set_option linter.unusedVariables false
set_option linter.unusedSimpArgs false

theorem arrP : Go.WideMaps.ArrKey Try.prog 50 3 2 := ⟨Try.underlying50, by kernel_rfl, by kernel_rfl, by kernel_rfl⟩
theorem keyedP : Keyed Try.prog 50 := Keyed.of_law (deep_law_laid (by kernel_rfl) (m := 2) (by decide) (of_decide_eq_true (by kernel_rfl)) (arrP.at 0) (by kernel_rfl))
/-- The key of a pair. -/
def keyP (a b : Int) : Lit := .string (keyBytes [.int .i64 a, .int .i64 b])
theorem keyOfP {a b : Int} (ha : (Lit.int .i64 a).wf = true) (hb : (Lit.int .i64 b).wf = true) : keyOf Try.prog 50 (.agg #[.int .i64 a, .int .i64 b]) = some (keyP a b) :=
  Go.WideMaps.keyOf_pair arrP Try.underlying3 ⟨Try.prog.types.size - 1, by kernel_rfl⟩ ha hb
theorem keyP_ne {a b a' b' : Int} (ha : (Lit.int .i64 a).wf = true) (hb : (Lit.int .i64 b).wf = true) (ha' : (Lit.int .i64 a').wf = true) (hb' : (Lit.int .i64 b').wf = true) (h : ¬ (a = a' ∧ b = b')) : keyP a b ≠ keyP a' b' := fun e => by
  have h1 := keyOfP ha hb
  have h2 := keyOfP ha' hb'
  rw [e] at h1
  have h3 := keyedP.inj h1 h2
  simp at h3
  exact h h3
theorem keyP_lit (a b : Int) : WideAt.IsKeyLit (keyP a b) := by unfold keyP; trivial
/-- What the map says, and which keys there are. -/
structure DP (z : Value) (D : DataW Value) (g : Int → Int → Value) (hs : Int → Int → Bool) : Prop where
  tidy : Tidy D
  val : ∀ a b, (Lit.int .i64 a).wf = true → (Lit.int .i64 b).wf = true → D.atKey (keyP a b) (.held z) = .held (g a b)
  has_ : ∀ a b, (Lit.int .i64 a).wf = true → (Lit.int .i64 b).wf = true → has D (keyP a b) = hs a b
theorem DP.start (z : Value) : DP z (.map []) (fun _ _ => z) (fun _ _ => false) := ⟨tidy_empty, fun a b _ _ => rfl, fun a b _ _ => rfl⟩
theorem DP.put {z : Value} {D : DataW Value} {g : Int → Int → Value} {hs : Int → Int → Bool} (h : DP z D g hs) {a b : Int} (ha : (Lit.int .i64 a).wf = true) (hb : (Lit.int .i64 b).wf = true) (v : Value) :
    DP z (D.put (keyP a b) (.held v)) (fun x y => if x = a ∧ y = b then v else g x y) (fun x y => if x = a ∧ y = b then true else hs x y) := by
  refine ⟨h.tidy.put (keyP_lit _ _) _, fun x y hx hy => ?_, fun x y hx hy => ?_⟩
  · by_cases e : x = a ∧ y = b
    · obtain ⟨rfl, rfl⟩ := e
      rw [if_pos ⟨rfl, rfl⟩]
      exact atKey_put_same h.tidy.isMap (keyP_lit _ _) _ _
    · rw [if_neg e, atKey_put_other (keyP_ne hx hy ha hb e)]
      exact h.val x y hx hy
  · by_cases e : x = a ∧ y = b
    · obtain ⟨rfl, rfl⟩ := e
      rw [if_pos ⟨rfl, rfl⟩, has_put_same h.tidy.isMap (keyP_lit _ _)]
    · rw [if_neg e, has_put_other (keyP_ne hx hy ha hb e)]
      exact h.has_ x y hx hy
/-- The map's block. -/
def DM (z : Value) (w : World) (m N : Nat) (g : Int → Int → Value) (hs : Int → Int → Bool) : Prop := ∃ D, w.ownsMap Try.prog 50 rR m N D ∧ DP z D g hs
section
variable {z : Value} {w w' : World} {m N : Nat} {g : Int → Int → Value} {hs : Int → Int → Bool}
theorem DM.kept {S : Nat → Prop} (h : DM z w m N g hs) (k : Keep S w w') (hn : ¬ S m) : DM z w' m N g hs := by
  obtain ⟨D, h1, h2⟩ := h
  exact ⟨D, ownsMap_kept h1 k hn, h2⟩
theorem DM.lt (h : DM z w m N g hs) : m < w.heap.size := by
  obtain ⟨D, h1, h2⟩ := h
  exact h1.lt
theorem DM.below (h : DM z w m N g hs) (k : Below w.heap.size w w') : DM z w' m N g hs := h.kept (Keep.of_below k) (by have := h.lt; omega)
theorem DM.look {t ev : TypeId} (h : DM z w m N g hs) (ht : Try.prog.underlying t = some (.map 50 ev)) (hz : (zeroValue ev).run Try.prog w = .ok z w) {a b : Int} (ha : (Lit.int .i64 a).wf = true) (hb : (Lit.int .i64 b).wf = true) :
    (Instr.lookup t (.map (some m)) (.agg #[.int .i64 a, .int .i64 b]) false).run Try.prog w = .ok (g a b) w := by
  obtain ⟨D, hm, hD⟩ := h
  obtain ⟨v, ps, hrun, hv⟩ := hm.lookup keyedP ht hz (show rR z = some (.held z, []) from rfl) (keyOfP ha hb)
  rw [hD.val a b ha hb] at hv
  generalize g a b = u at hv ⊢
  have e : some ((DataW.held v : DataW Value), ([] : List MemPlace)) = some (DataW.held u, ps) := hv
  simp only [Option.some.injEq, Prod.mk.injEq, DataW.held.injEq] at e
  obtain ⟨rfl, _⟩ := e
  exact hrun
theorem DM.look_ok {t ev : TypeId} (h : DM z w m N g hs) (ht : Try.prog.underlying t = some (.map 50 ev)) (hz : (zeroValue ev).run Try.prog w = .ok z w) {a b : Int} (ha : (Lit.int .i64 a).wf = true) (hb : (Lit.int .i64 b).wf = true) :
    (Instr.lookup t (.map (some m)) (.agg #[.int .i64 a, .int .i64 b]) true).run Try.prog w = .ok (.tuple #[g a b, .bool (hs a b)]) w := by
  obtain ⟨D, hm, hD⟩ := h
  obtain ⟨v, ps, hrun, hv⟩ := hm.look_ok keyedP ht hz (show rR z = some (.held z, []) from rfl) (keyOfP ha hb)
  rw [hD.val a b ha hb] at hv
  generalize g a b = u at hv ⊢
  have e : some ((DataW.held v : DataW Value), ([] : List MemPlace)) = some (DataW.held u, ps) := hv
  simp only [Option.some.injEq, Prod.mk.injEq, DataW.held.injEq] at e
  obtain ⟨rfl, _⟩ := e
  rw [hD.has_ a b ha hb] at hrun
  exact hrun
theorem DM.upd {t ev : TypeId} (h : DM z w m N g hs) (ht : Try.prog.underlying t = some (.map 50 ev)) (hN : N < maxLen) {a b : Int} (ha : (Lit.int .i64 a).wf = true) (hb : (Lit.int .i64 b).wf = true) (v : Value) :
    ∃ w', (Instr.mapUpdate t (.map (some m)) (.agg #[.int .i64 a, .int .i64 b]) v).run Try.prog w = .ok () w' ∧ DM z w' m (N + 1) (fun x y => if x = a ∧ y = b then v else g x y) (fun x y => if x = a ∧ y = b then true else hs x y) ∧ Keep (fun i => i = m) w w' := by
  obtain ⟨D, hm, hD⟩ := h
  obtain ⟨w', hrun, hm', hg⟩ := hm.update keyedP ht hN (keyOfP ha hb) (show rR v = some (.held v, []) from rfl)
  exact ⟨w', hrun, ⟨_, hm', hD.put ha hb v⟩, (Keep.of_grown hg).mono fun i _ e => (Option.some.inj e).symm⟩
theorem DM.made (z : Value) (w : World) : DM z (w.alloc (Obj.map #[] 0)) w.heap.size 0 (fun _ _ => z) (fun _ _ => false) := ⟨_, World.ownsMap_made w Try.prog 50 rR, DP.start z⟩
end
theorem zero_bool (w : World) : (zeroValue 4).run Try.prog w = .ok (.bool false) w := by kernel_rfl
theorem zero_ans (w : World) : (zeroValue 35).run Try.prog w = .ok rq0.a w := by kernel_rfl
theorem ans_neq (p q r s : Int) (W : World) : (binOp .neq 35 (.agg #[.int .i64 p, .int .i64 q, .int .i64 r, .int .i64 s]) (.agg #[.int .i64 p, .int .i64 q, .int .i64 r, .int .i64 s])).run Try.prog W = .ok (.bool false) W := by
  have hS : Try.prog.underlying 35 = some (.struct (Try.prog.fieldsOf 35)) := by kernel_rfl
  have hp : Try.prog.stoodInHeld 35 = false := by kernel_rfl
  have u3 := Try.underlying3
  have u9 := Try.underlying33
  have a3 := Try.isAgg3
  have a9 := Try.isAgg33
  have z3 := Try.sizeOf3
  have z9 := Try.sizeOf33
  rw [run_neq_struct, show (10000 : Nat) = 9999 + 1 from rfl, run_equalIn_agg W 9999 _ _ _ hS hp]
  simp only [Program.fieldsOf, Try.underlying35]
  go_simp
/-- What is new was not; what is done was told. -/
structure OI1 (cl : Int → Cl) (fr th : Int → Int → Bool) (tv : Int → Int → Rq) : Prop where
  fr_ : ∀ c n, fr c n = true → n < (cl c).k ∨ n ∈ (cl c).ns
  td : ∀ c n, n ∈ (cl c).ns → ((cl c).g n).d = true → th c n = true ∧ (tv c n).a = ((cl c).g n).a
theorem OI1.start : OI1 (fun _ => cl0) (fun _ _ => false) (fun _ _ => false) (fun _ _ => rq0) := ⟨fun c n h => (by cases h), fun c n h => (by simp [cl0] at h)⟩
theorem OI1.ask {cl cl' : Int → Cl} {fr th : Int → Int → Bool} {tv : Int → Int → Rq} (h : OI1 cl fr th tv) {c n M : Int} (ht : AskTo cl cl' c n M) (b : Bool) (hb : b = (fr c n || decide (vd cl c n M = 1))) :
    OI1 cl' (fun x y => if x = c ∧ y = n then b else fr x y) th tv := by
  by_cases hv : vd cl c n M = 1
  · obtain ⟨h1, h2, h3, h4⟩ := ht.2 hv
    have hni := (vd_new hv).2.2.2.1
    have key : ∀ x y, (y < (cl x).k ∨ y ∈ (cl x).ns) → (y < (cl' x).k ∨ y ∈ (cl' x).ns) := fun x y hxy => by
      by_cases e : x = c
      · subst e
        rw [h2, h3]
        exact hxy.imp id (List.mem_append_left _)
      · rw [h1 x e]; exact hxy
    constructor
    · intro x y hxy
      by_cases e : x = c ∧ y = n
      · obtain ⟨rfl, rfl⟩ := e
        rw [h3]
        exact .inr (by simp)
      · rw [if_neg e] at hxy
        exact key x y (h.fr_ x y hxy)
    · intro x y hxy hd
      by_cases e : x = c
      · subst e
        rw [h3, List.mem_append, List.mem_singleton] at hxy
        rw [h4] at hd ⊢
        by_cases e2 : y = n
        · simp [e2] at hd
        · simp only [e2, if_false] at hd ⊢
          exact h.td x y (hxy.resolve_right e2) hd
      · rw [h1 x e] at hxy hd ⊢
        exact h.td x y hxy hd
  · rw [ht.1 hv]
    refine ⟨fun x y hxy => ?_, h.td⟩
    by_cases e : x = c ∧ y = n
    · obtain ⟨rfl, rfl⟩ := e
      rw [if_pos ⟨rfl, rfl⟩, hb] at hxy
      simp [hv] at hxy
      exact h.fr_ x y hxy
    · rw [if_neg e] at hxy
      exact h.fr_ x y hxy
theorem OI1.tell {cl cl' : Int → Cl} {fr th : Int → Int → Bool} {tv : Int → Int → Rq} (h : OI1 cl fr th tv) {c n e x : Int} (ht : TellTo cl cl' c n e x) (h0 : tE cl c n e = 0) (m : Int) :
    OI1 cl' fr (fun a b => if a = c ∧ b = n then true else th a b) (fun a b => if a = c ∧ b = n then ⟨m, true, c, n, e, x⟩ else tv a b) := by
  obtain ⟨h1, h2, h3, h4⟩ := ht.2 h0
  constructor
  · intro a b hab
    have := h.fr_ a b hab
    by_cases e : a = c
    · subst e; rw [h2, h3]; exact this
    · rw [h1 a e]; exact this
  · intro a b hab hd
    by_cases e : a = c
    · subst e
      rw [h3] at hab
      rw [h4] at hd ⊢
      by_cases e2 : b = n
      · subst e2
        simp [Rq.a]
      · simp only [e2, and_false, if_false] at hd ⊢
        exact h.td a b hab hd
    · rw [h1 a e] at hab hd ⊢
      simp only [e, false_and, if_false]
      exact h.td a b hab hd
theorem OI1.tell_same {cl cl' : Int → Cl} {fr th : Int → Int → Bool} {tv : Int → Int → Rq} (h : OI1 cl fr th tv) {c n e x : Int} (ht : TellTo cl cl' c n e x) (h0 : tE cl c n e ≠ 0) : OI1 cl' fr th tv := by
  rw [ht.1 h0]; exact h
theorem OI1.low {cl cl' : Int → Cl} {fr th : Int → Int → Bool} {tv : Int → Int → Rq} (h : OI1 cl fr th tv) {c m E : Int} (ht : LowTo cl cl' c m E) : OI1 cl' fr th tv := by
  rcases ht with ⟨_, _, rfl⟩ | ⟨_, _, _, rfl⟩ | ⟨_, _, _, _, rfl⟩ | ⟨_, _, _, h4, h5, h6, h7, h8, h9⟩
  · exact h
  · exact h
  · exact h
  · constructor
    · intro a b hab
      have := h.fr_ a b hab
      by_cases e : a = c
      · subst e
        rw [h6, h8 b]
        by_cases hb : b < m
        · exact .inl hb
        · exact .inr ⟨this.resolve_left (by omega), hb⟩
      · rw [h5 a e]; exact this
    · intro a b hab hd
      by_cases e : a = c
      · subst e
        have hb := (h8 b).1 hab
        rw [h9 b hab] at hd ⊢
        exact h.td a b hb.1 hd
      · rw [h5 a e] at hab hd ⊢
        exact h.td a b hab hd
end Go.Proofs.Ytpendcaefjbomaa
