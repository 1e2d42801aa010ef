/- Parcels: Back and Undo, whatever they are told; a map of ints. No condition but that they lie in memory. -/
import Derived.Test.YthccfmlfofdaeaaPdA
namespace Go.Proofs.Ythccfmlfofdaeaa
open Go.RowKit Go.Maps Go.Shelf Go.Sort
set_option linter.unusedVariables false
set_option linter.unusedSimpArgs false

/-- What it answers. -/
def backE (ks : List Int) (f : Int → Rec) (k : Int) (l : List It) : Int := if k ∈ ks then (if mayL l = false then 60 else (if plusE (f k).b.l l = 0 ∧ coversL (f k).s.l (plusR (f k).b.l l) = true then 0 else 50)) else 4
def backAllPost (F : Nat → Prop) (w : World) (p b N : Nat) (f : Int → Rec) (ks : List Int) (k : Int) (l : List It) (e : Ending) (w' : World) : Prop :=
  ∃ x, e = .returned (.int .i64 x) ∧ x = backE ks f k l ∧ Keep (fun i => i = b) w w' ∧ ((x = 0 ∧ k ∈ ks ∧ mayL l = true ∧ (plusE (f k).b.l l = 0 ∧ coversL (f k).s.l (plusR (f k).b.l l) = true) ∧ ∃ bl : Ls, bl.l = plusR (f k).b.l l ∧ PS (fun k => F k ∨ w.heap.size ≤ k) w' p b (N + 1) (fun i => if i = k then ⟨(f k).o, (f k).w, (f k).s, bl, (f k).f⟩ else f i) ks) ∨ (x ≠ 0 ∧ PS (fun k => F k ∨ w.heap.size ≤ k) w' p b N f ks))
set_option maxRecDepth 100000 in
set_option maxHeartbeats 3200000 in
theorem back_all {F : Nat → Prop} {w : World} {p b N : Nat} {f : Int → Rec} {ks : List Int} (h : PS F w p b N f ks) (hN : N < maxLen) (k : Int) (hkw : (Lit.int .i64 k).wf = true) (A : Option Addr) (c : Nat) (l : List It) (hil : IL w A l.length l) (hlit : WL l) (hll : l.length ≤ 500000) :
    Calls Try.prog 11 #[.pointer (some ⟨p, 0, none⟩), .int .i64 k, .slice A l.length c] w (backAllPost F w p b N f ks k l) := by
  have done : ∀ x w', x = backE ks f k l → x ≠ 0 → Below w.heap.size w w' → backAllPost F w p b N f ks k l (.returned (.int .i64 x)) w' := fun x w' h1 h2 h3 =>
    ⟨x, rfl, h1, Keep.ofB h3, .inr ⟨h2, (h.mono fun _ _ e => .inl e).below h3⟩⟩
  by_cases g3 : k ∈ ks ∧ mayL l = true
  · refine (back_any h hN k hkw g3.1 A c l hil hlit g3.2).mono ?_
    rintro e w' ⟨x, r, rfl, ⟨hx, hr⟩, hk, hP⟩
    have hxE : x = backE ks f k l := by
      unfold backE
      rw [if_pos g3.1, if_neg (by rw [g3.2]; decide)]
      exact hx
    refine ⟨x, rfl, hxE, hk, ?_⟩
    rcases hP with ⟨hz, hP⟩ | hP
    · obtain ⟨bl, hbl, rfl⟩ := hr hz
      have : addK ks k = ks := if_pos g3.1
      rw [this] at hP
      rw [hz] at hx
      refine .inl ⟨hz, g3.1, g3.2, ?_, bl, hbl, hP⟩
      by_cases hp : plusE (f k).b.l l = 0 ∧ coversL (f k).s.l (plusR (f k).b.l l) = true
      · exact hp
      · rw [if_neg hp] at hx
        cases hx
    · exact .inr hP
  · have e1 : (if k ∈ ks then 60 else 4 : Int) = backE ks f k l := by
      unfold backE
      by_cases hk : k ∈ ks
      · have hm : mayL l = false := by
          cases e : mayL l
          · rfl
          · exact absurd ⟨hk, e⟩ g3
        rw [if_pos hk, if_pos hk, if_pos hm]
      · rw [if_neg hk, if_neg hk]
    have e2 : (if k ∈ ks then 60 else 4 : Int) ≠ 0 := by split <;> decide
    have D := fun w' => done _ w' e1 e2
    have hb2 := (Below.refl w.heap.size w).alloc (Nat.le_refl _) (.cells #[.slice A l.length c] 27)
    have C := change_no (h.below hb2) k hkw A c l (hil.below hb2) hll (.func (.func 24) #[] #[.pointer (some ⟨w.heap.size, 0, none⟩)]) g3
    generalize (if k ∈ ks then 60 else 4 : Int) = E at C D
    clear done e1 e2 h hil hlit g3
    go_enter Try.func11, Try.ntmps11
    go_wp2_with fail
    refine C.mono ?_
    rintro e w1 ⟨rfl, hx1⟩
    have hb3 := hb2.trans (hx1.mono hb2.size)
    clear C hx1
    go_wp2
    go_ret
    exact D _ hb3
/-- What it answers. -/
def undoE (ks : List Int) (f : Int → Rec) (k : Int) (l : List It) : Int := if k ∈ ks then (if mayL l = false then 60 else minusE (f k).b.l l) else 4
def undoAllPost (F : Nat → Prop) (w : World) (p b N : Nat) (f : Int → Rec) (ks : List Int) (k : Int) (l : List It) (e : Ending) (w' : World) : Prop :=
  ∃ x, e = .returned (.int .i64 x) ∧ x = undoE ks f k l ∧ Keep (fun i => i = b) w w' ∧ ((x = 0 ∧ k ∈ ks ∧ mayL l = true ∧ (minusE (f k).b.l l = 0) ∧ ∃ bl : Ls, bl.l = minusR (f k).b.l l ∧ PS (fun k => F k ∨ w.heap.size ≤ k) w' p b (N + 1) (fun i => if i = k then ⟨(f k).o, (f k).w, (f k).s, bl, (f k).f⟩ else f i) ks) ∨ (x ≠ 0 ∧ PS (fun k => F k ∨ w.heap.size ≤ k) w' p b N f ks))
set_option maxRecDepth 100000 in
set_option maxHeartbeats 3200000 in
theorem undo_all {F : Nat → Prop} {w : World} {p b N : Nat} {f : Int → Rec} {ks : List Int} (h : PS F w p b N f ks) (hN : N < maxLen) (k : Int) (hkw : (Lit.int .i64 k).wf = true) (A : Option Addr) (c : Nat) (l : List It) (hil : IL w A l.length l) (hlit : WL l) (hll : l.length ≤ 500000) :
    Calls Try.prog 12 #[.pointer (some ⟨p, 0, none⟩), .int .i64 k, .slice A l.length c] w (undoAllPost F w p b N f ks k l) := by
  have done : ∀ x w', x = undoE ks f k l → x ≠ 0 → Below w.heap.size w w' → undoAllPost F w p b N f ks k l (.returned (.int .i64 x)) w' := fun x w' h1 h2 h3 =>
    ⟨x, rfl, h1, Keep.ofB h3, .inr ⟨h2, (h.mono fun _ _ e => .inl e).below h3⟩⟩
  by_cases g3 : k ∈ ks ∧ mayL l = true
  · refine (undo_any h hN k hkw g3.1 A c l hil hlit g3.2).mono ?_
    rintro e w' ⟨x, r, rfl, ⟨hx, hr⟩, hk, hP⟩
    have hxE : x = undoE ks f k l := by
      unfold undoE
      rw [if_pos g3.1, if_neg (by rw [g3.2]; decide)]
      exact hx
    refine ⟨x, rfl, hxE, hk, ?_⟩
    rcases hP with ⟨hz, hP⟩ | hP
    · obtain ⟨bl, hbl, rfl⟩ := hr hz
      have : addK ks k = ks := if_pos g3.1
      rw [this] at hP
      rw [hz] at hx
      refine .inl ⟨hz, g3.1, g3.2, ?_, bl, hbl, hP⟩
      exact hx.symm
    · exact .inr hP
  · have e1 : (if k ∈ ks then 60 else 4 : Int) = undoE ks f k l := by
      unfold undoE
      by_cases hk : k ∈ ks
      · have hm : mayL l = false := by
          cases e : mayL l
          · rfl
          · exact absurd ⟨hk, e⟩ g3
        rw [if_pos hk, if_pos hk, if_pos hm]
      · rw [if_neg hk, if_neg hk]
    have e2 : (if k ∈ ks then 60 else 4 : Int) ≠ 0 := by split <;> decide
    have D := fun w' => done _ w' e1 e2
    have hb2 := (Below.refl w.heap.size w).alloc (Nat.le_refl _) (.cells #[.slice A l.length c] 27)
    have C := change_no (h.below hb2) k hkw A c l (hil.below hb2) hll (.func (.func 25) #[] #[.pointer (some ⟨w.heap.size, 0, none⟩)]) g3
    generalize (if k ∈ ks then 60 else 4 : Int) = E at C D
    clear done e1 e2 h hil hlit g3
    go_enter Try.func12, Try.ntmps12
    go_wp2_with fail
    refine C.mono ?_
    rintro e w1 ⟨rfl, hx1⟩
    have hb3 := hb2.trans (hx1.mono hb2.size)
    clear C hx1
    go_wp2
    go_ret
    exact D _ hb3

/-- What a map of ints says. -/
structure IP (D : DataW Value) (g : Int → Int) : Prop where
  tidy : Tidy D
  val : ∀ a, D.atKey (.int .i64 a) (.held (.int .i64 0)) = .held (.int .i64 (g a))
theorem IP.start : IP (.map []) (fun _ => 0) := ⟨tidy_empty, fun a => rfl⟩
theorem IP.put {D : DataW Value} {g : Int → Int} (h : IP D g) (a v : Int) :
    IP (D.put (.int .i64 a) (.held (.int .i64 v))) (fun x => if x = a then v else g x) := by
  have hne : ∀ k, k ≠ a → Lit.int .i64 k ≠ Lit.int .i64 a := fun k hk e => hk (by injection e)
  refine ⟨h.tidy.put (int_lit _) _, fun x => ?_⟩
  by_cases e : x = a
  · subst e
    rw [if_pos rfl]
    exact atKey_put_same h.tidy.isMap (int_lit _) _ _
  · rw [if_neg e, atKey_put_other (hne x e)]
    exact h.val x
theorem zero_int (w : World) : (zeroValue 3).run Try.prog w = .ok (.int .i64 0) w := by kernel_rfl
/-- The map's block. -/
def IM (w : World) (m N : Nat) (g : Int → Int) : Prop := ∃ D, w.ownsMap Try.prog 3 rR m N D ∧ IP D g
theorem IM.kept {S : Nat → Prop} {w w' : World} {m N : Nat} {g : Int → Int} (h : IM w m N g) (k : Keep S w w') (hs : ¬ S m) : IM w' m N g := by
  obtain ⟨D, h1, h2⟩ := h
  exact ⟨D, ownsMap_kept h1 k hs, h2⟩
theorem IM.lt {w : World} {m N : Nat} {g : Int → Int} (h : IM w m N g) : m < w.heap.size := by
  obtain ⟨D, h1, h2⟩ := h
  exact h1.lt
theorem IM.below {w w' : World} {m N : Nat} {g : Int → Int} (h : IM w m N g) (k : Below w.heap.size w w') : IM w' m N g := h.kept (Keep.of_below k) (by have := h.lt; omega)
theorem IM.look {w : World} {m N : Nat} {g : Int → Int} (h : IM w m N g) {a : Int} (ha : (Lit.int .i64 a).wf = true) :
    (Instr.lookup 26 (.map (some m)) (.int .i64 a) false).run Try.prog w = .ok (.int .i64 (g a)) w := by
  obtain ⟨D, hm, hD⟩ := h
  obtain ⟨v, ps, hrun, hv⟩ := hm.lookup (int_keyed Try.underlying3) Try.underlying26 (zero_int w) (show rR (.int .i64 0) = some (.held (.int .i64 0), []) from rfl) (keyI ha)
  rw [hD.val a] at hv
  have e : some ((DataW.held v : DataW Value), ([] : List MemPlace)) = some (DataW.held (.int .i64 (g a)), ps) := hv
  simp only [Option.some.injEq, Prod.mk.injEq, DataW.held.injEq] at e
  obtain ⟨rfl, _⟩ := e
  exact hrun
theorem IM.upd {w : World} {m N : Nat} {g : Int → Int} (h : IM w m N g) (hN : N < maxLen) {a : Int} (ha : (Lit.int .i64 a).wf = true) (v : Int) :
    ∃ w', (Instr.mapUpdate 26 (.map (some m)) (.int .i64 a) (.int .i64 v)).run Try.prog w = .ok () w' ∧ IM w' m (N + 1) (fun x => if x = a then v else g x) ∧ Keep (fun i => i = m) w w' := by
  obtain ⟨D, hm, hD⟩ := h
  obtain ⟨w', hrun, hm', hg⟩ := hm.update (int_keyed Try.underlying3) Try.underlying26 hN (keyI ha) (show rR (.int .i64 v) = some (.held (.int .i64 v), []) from rfl)
  exact ⟨w', hrun, ⟨_, hm', hD.put a v⟩, (Keep.of_grown hg).mono fun i _ e => (Option.some.inj e).symm⟩
theorem ofL_rest_le {a b : List It} (ha : MY a) (hb : MY b) (g : List UInt8) : ofL (restL a b) g ≤ ofL a g := by
  rw [of_rest ha hb]
  have h1 := ha.nonneg g
  have h2 := hb.nonneg g
  omega
end Go.Proofs.Ythccfmlfofdaeaa
