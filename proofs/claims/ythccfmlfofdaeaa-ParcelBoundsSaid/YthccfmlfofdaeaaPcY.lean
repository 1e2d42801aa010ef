/- Parcels: Open and Ship, whatever they are told. No condition but that they lie in memory. -/
import Derived.Test.YthccfmlfofdaeaaPcW
namespace Go.Proofs.Ythccfmlfofdaeaa
open Go.RowKit Go.Maps Go.Shelf Go.Sort
set_option linter.unusedVariables false
set_option linter.unusedSimpArgs false

/-- What Open answers. -/
def openE (ks : List Int) (k : Int) (l : List It) : Int := if k < 1 ∨ 1099511627776 < k then 1 else if mayL l = false ∨ l = [] then 60 else if k ∈ ks then 5 else 0
set_option maxRecDepth 100000 in
set_option maxHeartbeats 3200000 in
theorem popen_no {F : Nat → Prop} {w : World} {p b N : Nat} {f : Int → Rec} {ks : List Int} (h : PS F w p b N f ks) (k : Int) (A : Option Addr) (c : Nat) (l : List It) (hil : IL w A l.length l) (hkw : (Lit.int .i64 k).wf = true) (hll : l.length ≤ 500000) (hne : openE ks k l ≠ 0) :
    Calls Try.prog 9 #[.pointer (some ⟨p, 0, none⟩), .int .i64 k, .slice A l.length c] w fun e w' => e = .returned (.int .i64 (openE ks k l)) ∧ Below w.heap.size w w' := by
  have hlk := h.look hkw
  have hmy := mayI_any A l.length c l (w.alloc (.cells (f k).cs.toArray 55)) (hil.alloc _) (by omega)
  have hb0 := (Below.refl w.heap.size w).alloc (Nat.le_refl _) (.cells (f k).cs.toArray 55)
  have hE := Lib.hid (show openE ks k l = if k < 1 ∨ 1099511627776 < k then 1 else if mayL l = false ∨ l = [] then 60 else if k ∈ ks then 5 else 0 from rfl)
  obtain ⟨E, hEe⟩ : ∃ E, openE ks k l = E := ⟨_, rfl⟩
  rw [hEe] at hE hne ⊢
  clear hEe
  generalize hr : f k = r0 at *
  obtain ⟨o, ⟨wA, wn, wc, wl⟩, ⟨sA, sn, sc, sl⟩, ⟨bA, bn, bc, bl⟩, ⟨f0, f1, f2, f3, f4, f5, f6, f7⟩⟩ := r0
  clear hr
  change (Instr.lookup _ _ _ _).run _ _ = Result.ok (.tuple #[.agg #[.int .i64 o, .slice wA wn wc, .slice sA sn sc, .slice bA bn bc, .bool f0, .bool f1, .bool f2, .bool f3, .bool f4, .bool f5, .bool f6, .bool f7], .bool (decide (k ∈ ks))]) _ at hlk
  by_cases g1 : k < 1
  · have e1 : E = 1 := hE.out.trans (if_pos (.inl g1))
    subst e1
    clear hE hmy hne
    generalize decide (k ∈ ks) = I at hlk
    go_enter Try.func9, Try.ntmps9
    go_wp2_with fail
    refine (pall_any h).mono ?_
    rintro e w' ⟨rfl, hww⟩
    subst hww
    go_wp2
    go_ret
    exact ⟨rfl, hb0⟩
  by_cases g2 : 1099511627776 < k
  · have e1 : E = 1 := hE.out.trans (if_pos (.inr g2))
    subst e1
    clear hE hmy hne
    generalize decide (k ∈ ks) = I at hlk
    go_enter Try.func9, Try.ntmps9
    go_wp2_with fail
    refine (pall_any h).mono ?_
    rintro e w' ⟨rfl, hww⟩
    subst hww
    go_wp2
    go_ret
    exact ⟨rfl, hb0⟩
  have n12 : ¬ (k < 1 ∨ 1099511627776 < k) := fun e => e.elim g1 g2
  by_cases g3 : mayL l = false
  · have e1 : E = 60 := hE.out.trans (by rw [if_neg n12, if_pos (.inl g3)])
    subst e1
    clear hE hne n12
    rw [g3] at hmy
    clear g3
    generalize decide (k ∈ ks) = I at hlk
    go_enter Try.func9, Try.ntmps9
    go_wp2_with fail
    refine (pall_any h).mono ?_
    rintro e w' ⟨rfl, hww⟩
    subst hww
    go_wp2_with fail
    refine hmy.mono ?_
    rintro e w1 ⟨rfl, hx1⟩
    have hb1 := hb0.trans (hx1.mono hb0.size)
    clear hmy hx1
    go_wp2
    go_ret
    exact ⟨rfl, hb1⟩
  have g3' : mayL l = true := by simpa using g3
  rw [g3'] at hmy
  by_cases g4 : l = []
  · have e1 : E = 60 := hE.out.trans (by rw [if_neg n12, if_pos (.inr g4)])
    subst e1
    subst g4
    clear hE hne n12 g3 g3'
    simp only [List.length_nil] at hmy ⊢
    generalize decide (k ∈ ks) = I at hlk
    go_enter Try.func9, Try.ntmps9
    go_wp2_with fail
    refine (pall_any h).mono ?_
    rintro e w' ⟨rfl, hww⟩
    subst hww
    go_wp2_with fail
    refine hmy.mono ?_
    rintro e w1 ⟨rfl, hx1⟩
    have hb1 := hb0.trans (hx1.mono hb0.size)
    clear hmy hx1
    go_wp2
    go_ret
    exact ⟨rfl, hb1⟩
  have hlp : ((l.length : Int) == 0) = false := beq_eq_false_iff_ne.2 (fun e => g4 (List.eq_nil_of_length_eq_zero (by omega)))
  have n34 : ¬ (mayL l = false ∨ l = []) := fun e => e.elim g3 g4
  by_cases g5 : k ∈ ks
  · have e1 : E = 5 := hE.out.trans (by rw [if_neg n12, if_neg n34, if_pos g5])
    subst e1
    rw [decide_eq_true g5] at hlk
    clear hE hne n12 n34 g3 g3' g4 g5
    go_enter Try.func9, Try.ntmps9
    go_wp2_with fail
    refine (pall_any h).mono ?_
    rintro e w' ⟨rfl, hww⟩
    subst hww
    go_wp2_with fail
    refine hmy.mono ?_
    rintro e w1 ⟨rfl, hx1⟩
    have hb1 := hb0.trans (hx1.mono hb0.size)
    clear hmy hx1
    go_wp2
    go_ret
    exact ⟨rfl, hb1⟩
  exact absurd (hE.out.trans (by rw [if_neg n12, if_neg n34, if_neg g5])) hne
set_option maxRecDepth 100000 in
set_option maxHeartbeats 3200000 in
theorem change_no {F : Nat → Prop} {w : World} {p b N : Nat} {f : Int → Rec} {ks : List Int} (h : PS F w p b N f ks) (k : Int) (hkw : (Lit.int .i64 k).wf = true) (A : Option Addr) (c : Nat) (l : List It) (hil : IL w A l.length l) (hll : l.length ≤ 500000) (v : Value) (hno : ¬ (k ∈ ks ∧ mayL l = true)) :
    Calls Try.prog 21 #[.pointer (some ⟨p, 0, none⟩), .int .i64 k, .slice A l.length c, v] w fun e w' => e = .returned (.int .i64 (if k ∈ ks then 60 else 4)) ∧ Below w.heap.size w w' := by
  have hlk := h.look hkw
  have hmy := mayI_any A l.length c l (w.alloc (.cells (f k).cs.toArray 55)) (hil.alloc _) (by omega)
  have hb0 := (Below.refl w.heap.size w).alloc (Nat.le_refl _) (.cells (f k).cs.toArray 55)
  generalize hr : f k = r0 at *
  obtain ⟨o, ⟨wA, wn, wc, wl⟩, ⟨sA, sn, sc, sl⟩, ⟨bA, bn, bc, bl⟩, ⟨f0, f1, f2, f3, f4, f5, f6, f7⟩⟩ := r0
  clear hr
  change (Instr.lookup _ _ _ _).run _ _ = Result.ok (.tuple #[.agg #[.int .i64 o, .slice wA wn wc, .slice sA sn sc, .slice bA bn bc, .bool f0, .bool f1, .bool f2, .bool f3, .bool f4, .bool f5, .bool f6, .bool f7], .bool (decide (k ∈ ks))]) _ at hlk
  by_cases g : k ∈ ks
  · have g3 : mayL l = false := by
      cases e : mayL l
      · rfl
      · exact absurd ⟨g, e⟩ hno
    rw [decide_eq_true g] at hlk
    rw [if_pos g]
    rw [g3] at hmy
    clear hno g g3
    go_enter Try.func21, Try.ntmps21
    go_wp2_with fail
    refine (pall_any h).mono ?_
    rintro e w' ⟨rfl, hww⟩
    subst hww
    go_wp2_with fail
    refine hmy.mono ?_
    rintro e w1 ⟨rfl, hx1⟩
    have hb1 := hb0.trans (hx1.mono hb0.size)
    clear hmy hx1
    go_wp2
    go_ret
    exact ⟨rfl, hb1⟩
  · rw [decide_eq_false g] at hlk
    rw [if_neg g]
    clear hno g hmy
    go_enter Try.func21, Try.ntmps21
    go_wp2_with fail
    refine (pall_any h).mono ?_
    rintro e w' ⟨rfl, hww⟩
    subst hww
    go_wp2
    go_ret
    exact ⟨rfl, hb0⟩
/-- What Ship answers. -/
def shipE (ks : List Int) (f : Int → Rec) (k rg : Int) (l : List It) : Int :=
  if rg < 0 ∨ 8 ≤ rg then 1 else if k ∈ ks then (if mayL l = false then 60 else if (f k).f.get rg = true then 5 else if plusE (f k).s.l l = 0 ∧ coversL (f k).w.l (plusR (f k).s.l l) = true then 0 else 50) else 4
def ShipPost (F : Nat → Prop) (w : World) (p b N : Nat) (f : Int → Rec) (ks : List Int) (k rg : Int) (l : List It) (e : Ending) (w' : World) : Prop :=
  ∃ x, e = .returned (.int .i64 x) ∧ x = shipE ks f k rg l ∧ Keep (fun i => i = b) w w' ∧
      ((x = 0 ∧ k ∈ ks ∧ 0 ≤ rg ∧ rg < 8 ∧ (f k).f.get rg = false ∧ plusE (f k).s.l l = 0 ∧ coversL (f k).w.l (plusR (f k).s.l l) = true ∧ ∃ s : Ls, s.l = plusR (f k).s.l l ∧ PS (fun k => F k ∨ w.heap.size ≤ k) w' p b (N + 1) (fun i => if i = k then shipRec (f k) rg s else f i) ks) ∨ (x ≠ 0 ∧ PS (fun k => F k ∨ w.heap.size ≤ k) w' p b N f ks))
set_option maxRecDepth 100000 in
set_option maxHeartbeats 3200000 in
theorem ship_all {F : Nat → Prop} {w : World} {p b N : Nat} {f : Int → Rec} {ks : List Int} (h : PS F w p b N f ks) (hN : N < maxLen) (k rg : Int) (hkw : (Lit.int .i64 k).wf = true) (A : Option Addr) (c : Nat) (l : List It) (hil : IL w A l.length l) (hlit : WL l) (hll : l.length ≤ 500000) :
    Calls Try.prog 10 #[.pointer (some ⟨p, 0, none⟩), .int .i64 k, .int .i64 rg, .slice A l.length c] w (ShipPost F w p b N f ks k rg l) := by
  have done : ∀ x w', x = shipE ks f k rg l → x ≠ 0 → Below w.heap.size w w' → ShipPost F w p b N f ks k rg l (.returned (.int .i64 x)) w' := fun x w' h1 h2 h3 =>
    ⟨x, rfl, h1, Keep.ofB h3, .inr ⟨h2, (h.mono fun _ _ e => .inl e).below h3⟩⟩
  have hb2 := ((Below.refl w.heap.size w).alloc (Nat.le_refl _) (.cells #[.int .i64 rg] 3)).alloc (by simp) (.cells #[.slice A l.length c] 27)
  by_cases g1 : rg < 0
  · have e1 : (1 : Int) = shipE ks f k rg l := by unfold shipE; rw [if_pos (.inl g1)]
    have D := fun w' => done 1 w' e1 (by decide)
    clear done e1 h hil hlit
    go_enter Try.func10, Try.ntmps10
    go_wp2
    go_ret
    exact D _ hb2
  by_cases g2 : 8 ≤ rg
  · have e1 : (1 : Int) = shipE ks f k rg l := by unfold shipE; rw [if_pos (.inr g2)]
    have D := fun w' => done 1 w' e1 (by decide)
    clear done e1 h hil hlit
    go_enter Try.func10, Try.ntmps10
    go_wp2
    go_ret
    exact D _ hb2
  have n12 : ¬ (rg < 0 ∨ 8 ≤ rg) := fun e => e.elim g1 g2
  by_cases g3 : k ∈ ks ∧ mayL l = true
  · refine (ship_any h hN k rg hkw g3.1 (by omega) (by omega) A c l hil hlit g3.2).mono ?_
    rintro e w' ⟨x, rfl, hst, hk, hP⟩
    have hx : x = shipE ks f k rg l := by
      unfold shipE
      rw [if_neg n12, if_pos g3.1, if_neg (by rw [g3.2]; decide)]
      by_cases hg : (f k).f.get rg = true
      · rw [if_pos hg]
        exact hst.twice hg
      · have hg' : (f k).f.get rg = false := by simpa using hg
        rw [if_neg hg]
        by_cases hp : plusE (f k).s.l l = 0 ∧ coversL (f k).w.l (plusR (f k).s.l l) = true
        · rw [if_pos hp]
          exact hst.ok hg' hp
        · rw [if_neg hp]
          exact hst.over hg' hp
    refine ⟨x, rfl, hx, hk, ?_⟩
    rcases hP with ⟨rfl, hg, hpe, hcv, s, hs, hP⟩ | hP
    · refine .inl ⟨rfl, g3.1, by omega, by omega, hg, hpe, hcv, s, hs, ?_⟩
      have : addK ks k = ks := if_pos g3.1
      rw [this] at hP
      exact hP
    · exact .inr hP
  · have e1 : (if k ∈ ks then 60 else 4 : Int) = shipE ks f k rg l := by
      unfold shipE
      rw [if_neg n12]
      by_cases hk : k ∈ ks
      · have hm : mayL l = false := by
          cases e : mayL l
          · rfl
          · exact absurd ⟨hk, e⟩ g3
        rw [if_pos hk, if_pos hk, if_pos hm]
      · rw [if_neg hk, if_neg hk]
    have e2 : (if k ∈ ks then 60 else 4 : Int) ≠ 0 := by split <;> decide
    have D := fun w' => done _ w' e1 e2
    have C := change_no (h.below hb2) k hkw A c l (hil.below hb2) hll (.func (.func 22) #[] #[.pointer (some ⟨w.heap.size, 0, none⟩), .pointer (some ⟨w.heap.size + 1, 0, none⟩)]) g3
    generalize (if k ∈ ks then 60 else 4 : Int) = E at C D
    clear done e1 e2 h hil hlit g3 n12
    go_enter Try.func10, Try.ntmps10
    go_wp2_with fail
    refine C.mono ?_
    rintro e w1 ⟨rfl, hx1⟩
    have hb3 := hb2.trans (hx1.mono hb2.size)
    clear C hx1
    go_wp2
    go_ret
    exact D _ hb3
end Go.Proofs.Ythccfmlfofdaeaa
