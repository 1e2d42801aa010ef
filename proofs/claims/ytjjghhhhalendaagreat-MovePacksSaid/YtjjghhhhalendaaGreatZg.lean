/- Texts of this proof in one: MvN, MvT, MvC, MvU, MvV, MvW, MvX. No condition. -/
import Derived.Test.YtjjghhhhalendaaGreatZd
import Derived.Test.YtjjghhhhalendaaGreatZf
import Derived.Test.YtjjghhhhalendaaGreatRgT
import Derived.Maps.OwnSet
import Derived.Test.YtjjghhhhalendaaGreatLives6
import Derived.ProofKit
import Derived.OpenShut
import Derived.ShutString
import Derived.ChangeOld
import Derived.SizedLaws
import Derived.ChangeArms
import Derived.Deep.Slices
namespace Go.Proofs.YtjjghhhhalendaaGreat
section
open Go.RowKit Go.Maps Go.Shelf Go.Sort
set_option linter.unusedVariables false
set_option linter.unusedSimpArgs false

def mbK (k : Int) : Bool := decide (1 ≤ k ∧ k ≤ 1099511627776)
def btK (f t : Int) : Bool := decide (0 ≤ f ∧ f < 8 ∧ 0 ≤ t ∧ t < 8 ∧ f ≠ t)
theorem mayBe_any (k : Int) (w : World) : Calls Tryz.prog 23 #[.int .i64 k] w fun e w' => e = .returned (.bool (mbK k)) ∧ w' = w := by
  obtain ⟨B, hB⟩ : ∃ B, mbK k = B := ⟨_, rfl⟩
  rw [hB]
  replace hB := Lib.hid hB
  have fin : ∀ X : Bool, X = mbK k → Ending.returned (Value.bool X) = Ending.returned (Value.bool B) := fun X h => by rw [h, hB.out]
  by_cases h1 : 1 ≤ k
  · have d1 : decide (1 ≤ k) = true := decide_eq_true h1
    by_cases h2 : k ≤ 1099511627776
    · have d2 : decide (k ≤ 1099511627776) = true := decide_eq_true h2
      replace fin := fin true (decide_eq_true ⟨h1, h2⟩).symm
      clear h1 h2
      go_enter Tryz.func23, Tryz.ntmps23
      go_wp2
      go_ret
      exact ⟨fin, rfl⟩
    · have d2 : decide (k ≤ 1099511627776) = false := decide_eq_false h2
      replace fin := fin false (decide_eq_false (fun h => h2 h.2)).symm
      clear h1 h2
      go_enter Tryz.func23, Tryz.ntmps23
      go_wp2
      go_ret
      exact ⟨fin, rfl⟩
  · have d1 : decide (1 ≤ k) = false := decide_eq_false h1
    replace fin := fin false (decide_eq_false (fun h => h1 h.1)).symm
    clear h1
    go_enter Tryz.func23, Tryz.ntmps23
    go_wp2
    go_ret
    exact ⟨fin, rfl⟩
theorem between_any (f t : Int) (w : World) : Calls Tryz.prog 24 #[.int .i64 f, .int .i64 t] w fun e w' => e = .returned (.bool (btK f t)) ∧ w' = w := by
  obtain ⟨B, hB⟩ : ∃ B, btK f t = B := ⟨_, rfl⟩
  rw [hB]
  replace hB := Lib.hid hB
  have fin : ∀ X : Bool, X = btK f t → Ending.returned (Value.bool X) = Ending.returned (Value.bool B) := fun X h => by rw [h, hB.out]
  by_cases e : f = t
  · have e1 : (f != t) = false := by simp [e]
    have e2 : (f == t) = true := by simp [e]
    go_enter Tryz.func24, Tryz.ntmps24
    go_wp2
    all_goals (go_ret; exact ⟨fin false (decide_eq_false (by omega)).symm, rfl⟩)
  · have e1 : (f != t) = true := by simp [e]
    have e2 : (f == t) = false := by simp [e]
    go_enter Tryz.func24, Tryz.ntmps24
    go_wp2
    all_goals (go_ret; first | exact ⟨fin true (decide_eq_true (by omega)).symm, rfl⟩ | exact ⟨fin false (decide_eq_false (by omega)).symm, rfl⟩)
theorem PS.len {F : Nat → Prop} {w : World} {p b N : Nat} {f : Int → Rec} {ks : List Int} (h : PS F w p b N f ks) (ty : TypeId) : (Builtin.len_ #[47] ty #[.map (some b)]).run Tryz.prog w = .ok (.int .i64 (ks.length : Nat)) w := by
  obtain ⟨D, hm, hD⟩ := h.mp
  rw [← hD.sz]
  exact hm.len Tryz.underlying47 ty
/-- What Go answers. -/
def goE (ks : List Int) (k f t : Int) (l : List It) : Int := if (mbK k && btK f t) = false then 1 else if mayL l = false ∨ l = [] then 60 else if k ∈ ks then 5 else if 256 ≤ ks.length then 2 else 0
theorem goE_ok {ks : List Int} {k f t : Int} {l : List It} (h : goE ks k f t l = 0) : mbK k = true ∧ btK f t = true ∧ mayL l = true ∧ l ≠ [] ∧ k ∉ ks ∧ ks.length < 256 := by
  unfold goE at h
  by_cases a1 : (mbK k && btK f t) = false
  · rw [if_pos a1] at h; omega
  · rw [if_neg a1] at h
    by_cases a2 : mayL l = false ∨ l = []
    · rw [if_pos a2] at h; omega
    · rw [if_neg a2] at h
      by_cases a3 : k ∈ ks
      · rw [if_pos a3] at h; omega
      · rw [if_neg a3] at h
        by_cases a4 : 256 ≤ ks.length
        · rw [if_pos a4] at h; omega
        · have a1' : mbK k = true ∧ btK f t = true := by simpa using a1
          exact ⟨a1'.1, a1'.2, by simpa using fun e => a2 (.inl e), fun e => a2 (.inr e), a3, by omega⟩
theorem fill5 {W : World} {g : Nat} {t : TypeId} {a0 a1 a2 a3 a4 : Value} (h : Blk W g t #[a0, a1, a2, a3, a4]) (x0 x1 x2 x3 x4 : Value) :
    Blk (((((W.setCell ⟨g, 0, none⟩ x0).setCell ⟨g, 1, none⟩ x1).setCell ⟨g, 2, none⟩ x2).setCell ⟨g, 3, none⟩ x3).setCell ⟨g, 4, none⟩ x4) g t #[x0, x1, x2, x3, x4] := by
  have := ((((h.set_ 0 x0).set_ 1 x1).set_ 2 x2).set_ 3 x3).set_ 4 x4
  simpa using this
theorem keep5 (W : World) (g : Nat) (x0 x1 x2 x3 x4 : Value) : Keep (fun k => k = g) W (((((W.setCell ⟨g, 0, none⟩ x0).setCell ⟨g, 1, none⟩ x1).setCell ⟨g, 2, none⟩ x2).setCell ⟨g, 3, none⟩ x3).setCell ⟨g, 4, none⟩ x4) :=
  (((((Keep.refl (fun k => k = g) W).setCell (p := ⟨g, 0, none⟩) (fun _ => rfl) x0).setCell (p := ⟨g, 1, none⟩) (fun _ => rfl) x1).setCell (p := ⟨g, 2, none⟩) (fun _ => rfl) x2).setCell (p := ⟨g, 3, none⟩) (fun _ => rfl) x3).setCell (p := ⟨g, 4, none⟩) (fun _ => rfl) x4
set_option maxRecDepth 100000 in
set_option maxHeartbeats 6400000 in
theorem go_no {F : Nat → Prop} {w : World} {p b N : Nat} {f : Int → Rec} {ks : List Int} (h : PS F w p b N f ks) (k fr to : Int) (A : Option Addr) (c : Nat) (l : List It) (hil : IL w A l.length l) (hkw : (Lit.int .i64 k).wf = true) (hll : l.length ≤ 500000) (hne : goE ks k fr to l ≠ 0) :
    Calls Tryz.prog 7 #[.pointer (some ⟨p, 0, none⟩), .int .i64 k, .int .i64 fr, .int .i64 to, .slice A l.length c] w fun e w' => e = .returned (.int .i64 (goE ks k fr to l)) ∧ Below w.heap.size w w' := by
  have hlk := h.look hkw
  have hmy := mayI_any A l.length c l (w.alloc (.cells (f k).cs.toArray 59)) (hil.alloc _) (by omega)
  have hb0 := (Below.refl w.heap.size w).alloc (Nat.le_refl _) (.cells (f k).cs.toArray 59)
  have hE := Lib.hid (show goE ks k fr to l = if (mbK k && btK fr to) = false then 1 else if mayL l = false ∨ l = [] then 60 else if k ∈ ks then 5 else if 256 ≤ ks.length then 2 else 0 from rfl)
  obtain ⟨E, hEe⟩ : ∃ E, goE ks k fr to l = E := ⟨_, rfl⟩
  rw [hEe] at hE hne ⊢
  clear hEe
  generalize hr : f k = r0 at *
  obtain ⟨rm, rf, rt, ⟨A0, n0, c0, l0⟩, rc⟩ := r0
  change (Instr.lookup _ _ _ _).run _ _ = Result.ok (.tuple #[.agg #[.int .i64 rm, .int .i64 rf, .int .i64 rt, .slice A0 n0 c0, .bool rc], .bool (decide (k ∈ ks))]) _ at hlk
  clear hr
  cases hmb : mbK k with
  | false =>
    have e1 : E = 1 := hE.out.trans (by rw [hmb]; rfl)
    subst e1
    clear hE hmy hne
    generalize decide (k ∈ ks) = I at hlk
    go_enter Tryz.func7, Tryz.ntmps7
    go_wp2_with fail
    refine (pall_any h).mono ?_
    rintro e w' ⟨rfl, hww⟩
    subst hww
    go_wp2_with fail
    refine (mayBe_any k _).mono ?_
    rw [hmb]
    rintro e w' ⟨rfl, hww⟩
    subst w'
    go_wp2
    go_ret
    exact ⟨rfl, hb0⟩
  | true =>
  cases hbt : btK fr to with
  | false =>
    have e1 : E = 1 := hE.out.trans (by rw [hmb, hbt]; rfl)
    subst e1
    clear hE hmy hne
    generalize decide (k ∈ ks) = I at hlk
    go_enter Tryz.func7, Tryz.ntmps7
    go_wp2_with fail
    refine (pall_any h).mono ?_
    rintro e w' ⟨rfl, hww⟩
    subst hww
    go_wp2_with fail
    refine (mayBe_any k _).mono ?_
    rw [hmb]
    rintro e w' ⟨rfl, hww⟩
    subst w'
    go_wp2_with fail
    refine (between_any fr to _).mono ?_
    rw [hbt]
    rintro e w' ⟨rfl, hww⟩
    subst w'
    go_wp2
    go_ret
    exact ⟨rfl, hb0⟩
  | true =>
  have n12 : ¬ (mbK k && btK fr to) = false := by rw [hmb, hbt]; decide
  by_cases g3 : mayL l = false
  · have e1 : E = 60 := hE.out.trans (by rw [if_neg n12, if_pos (.inl g3)])
    subst e1
    clear hE hne n12
    rw [g3] at hmy
    clear g3
    generalize decide (k ∈ ks) = I at hlk
    go_enter Tryz.func7, Tryz.ntmps7
    go_wp2_with fail
    refine (pall_any h).mono ?_
    rintro e w' ⟨rfl, hww⟩
    subst hww
    go_wp2_with fail
    refine (mayBe_any k _).mono ?_
    rw [hmb]
    rintro e w' ⟨rfl, hww⟩
    subst w'
    go_wp2_with fail
    refine (between_any fr to _).mono ?_
    rw [hbt]
    rintro e w' ⟨rfl, hww⟩
    subst w'
    go_wp2_with fail
    refine hmy.mono ?_
    rintro e w1 ⟨rfl, hx1⟩
    have hb1 := hb0.trans (hx1.mono hb0.size)
    go_wp2
    go_ret
    exact ⟨rfl, hb1⟩
  have g3' : mayL l = true := by simpa using g3
  rw [g3'] at hmy
  by_cases g4 : l = []
  · have e1 : E = 60 := hE.out.trans (by rw [if_neg n12, if_pos (.inr g4)])
    subst e1
    subst g4
    clear hE hne n12 g3 g3'
    simp only [List.length_nil] at hmy ⊢
    generalize decide (k ∈ ks) = I at hlk
    go_enter Tryz.func7, Tryz.ntmps7
    go_wp2_with fail
    refine (pall_any h).mono ?_
    rintro e w' ⟨rfl, hww⟩
    subst hww
    go_wp2_with fail
    refine (mayBe_any k _).mono ?_
    rw [hmb]
    rintro e w' ⟨rfl, hww⟩
    subst w'
    go_wp2_with fail
    refine (between_any fr to _).mono ?_
    rw [hbt]
    rintro e w' ⟨rfl, hww⟩
    subst w'
    go_wp2_with fail
    refine hmy.mono ?_
    rintro e w1 ⟨rfl, hx1⟩
    have hb1 := hb0.trans (hx1.mono hb0.size)
    go_wp2
    go_ret
    exact ⟨rfl, hb1⟩
  have hlp : ((l.length : Int) == 0) = false := beq_eq_false_iff_ne.2 (fun e => g4 (List.eq_nil_of_length_eq_zero (by omega)))
  have n34 : ¬ (mayL l = false ∨ l = []) := fun e => e.elim g3 g4
  by_cases g5 : k ∈ ks
  · have e1 : E = 5 := hE.out.trans (by rw [if_neg n12, if_neg n34, if_pos g5])
    subst e1
    rw [decide_eq_true g5] at hlk
    clear hE hne n12 n34 g3 g3' g4 g5
    go_enter Tryz.func7, Tryz.ntmps7
    go_wp2_with fail
    refine (pall_any h).mono ?_
    rintro e w' ⟨rfl, hww⟩
    subst hww
    go_wp2_with fail
    refine (mayBe_any k _).mono ?_
    rw [hmb]
    rintro e w' ⟨rfl, hww⟩
    subst w'
    go_wp2_with fail
    refine (between_any fr to _).mono ?_
    rw [hbt]
    rintro e w' ⟨rfl, hww⟩
    subst w'
    go_wp2_with fail
    refine hmy.mono ?_
    rintro e w1 ⟨rfl, hx1⟩
    have hb1 := hb0.trans (hx1.mono hb0.size)
    go_wp2
    go_ret
    exact ⟨rfl, hb1⟩
  by_cases g6 : 256 ≤ ks.length
  · have e1 : E = 2 := hE.out.trans (by rw [if_neg n12, if_neg n34, if_neg g5, if_pos g6])
    subst e1
    rw [decide_eq_false g5] at hlk
    have hle : (256 : Int) ≤ (ks.length : Int) := by omega
    clear hE hne n12 n34 g3 g3' g4 g5 g6
    go_enter Tryz.func7, Tryz.ntmps7
    go_wp2_with fail
    refine (pall_any h).mono ?_
    rintro e w' ⟨rfl, hww⟩
    subst hww
    go_wp2_with fail
    refine (mayBe_any k _).mono ?_
    rw [hmb]
    rintro e w' ⟨rfl, hww⟩
    subst w'
    go_wp2_with fail
    refine (between_any fr to _).mono ?_
    rw [hbt]
    rintro e w' ⟨rfl, hww⟩
    subst w'
    go_wp2_with fail
    refine hmy.mono ?_
    rintro e w1 ⟨rfl, hx1⟩
    have hb1 := hb0.trans (hx1.mono hb0.size)
    have h1 := h.below hb1
    have h1c := h1.pc.cell 0
    simp at h1c
    have hlen := h1.len
    go_wp2
    go_ret
    exact ⟨rfl, hb1⟩
  exact absurd (hE.out.trans (by rw [if_neg n12, if_neg n34, if_neg g5, if_neg g6])) hne
set_option maxRecDepth 100000 in
set_option maxHeartbeats 6400000 in
theorem go_ok {F : Nat → Prop} {w : World} {p b N : Nat} {f : Int → Rec} {ks : List Int} (h : PS F w p b N f ks) (hN : N < maxLen) (k fr to : Int) (A : Option Addr) (c : Nat) (l : List It) (hil : IL w A l.length l) (hlit : ∀ y ∈ l, y.1.length ≤ maxLen ∧ (Lit.int .i64 y.2).wf = true) (hkw : (Lit.int .i64 k).wf = true) (hE : goE ks k fr to l = 0) :
    Calls Tryz.prog 7 #[.pointer (some ⟨p, 0, none⟩), .int .i64 k, .int .i64 fr, .int .i64 to, .slice A l.length c] w fun e w' => e = .returned (.int .i64 0) ∧ ∃ x : Ls, x.l = l ∧ PS (fun k => F k ∨ w.heap.size ≤ k) w' p b (N + 1) (fun i => if i = k then ⟨k, fr, to, x, false⟩ else f i) (addK ks k) ∧ Keep (fun i => i = b) w w' := by
  obtain ⟨hmb, hbt, hmay, hl0, hks, hk256⟩ := goE_ok hE
  have hfew : l.length ≤ 16 := (mayL_from hmay).1
  have hlp : ((l.length : Int) == 0) = false := beq_eq_false_iff_ne.2 (fun e => hl0 (List.eq_nil_of_length_eq_zero (by omega)))
  have hlk := h.look hkw
  rw [h.no k hks, decide_eq_false hks, rec0_v] at hlk
  have hmy := mayI_any A l.length c l (w.alloc (.cells #[.int .i64 0, .int .i64 0, .int .i64 0, .slice none 0 0, .bool false] 59)) (hil.alloc _) (by omega)
  rw [hmay] at hmy
  have hb0 := (Below.refl w.heap.size w).alloc (Nat.le_refl _) (.cells #[.int .i64 0, .int .i64 0, .int .i64 0, .slice none 0 0, .bool false] 59)
  have hle : ¬ (256 : Int) ≤ (ks.length : Int) := by omega
  have HN := Lib.hid hN
  clear hks hl0 hE
  go_enter Tryz.func7, Tryz.ntmps7
  go_wp2_with fail
  refine (pall_any h).mono ?_
  rintro e w' ⟨rfl, hww⟩
  subst hww
  go_wp2_with fail
  refine (mayBe_any k _).mono ?_
  rw [hmb]
  rintro e w' ⟨rfl, hww⟩
  subst w'
  go_wp2_with fail
  refine (between_any fr to _).mono ?_
  rw [hbt]
  rintro e w' ⟨rfl, hww⟩
  subst w'
  go_wp2_with fail
  refine hmy.mono ?_
  rintro e w1 ⟨rfl, hx1⟩
  have hb1 := hb0.trans (hx1.mono hb0.size)
  clear hmy hlk hx1
  have hP1 := h.below hb1
  have hil1 := hil.below hb1
  have s1 := hP1.pc.cell 0
  simp at s1
  have hlen := hP1.len
  go_upto_region 12 with fail
  have sd : (fun W => W.cell? ⟨p, 0, none⟩ = some (.map (some b))) w1.drew := s1
  have hP2 := hP1.drew
  have hil2 := hil1.drew
  have hb2 := hb1.drew
  have hNN : N < maxLen := HN.out
  refine wp_region_held_drew (S := (fun W => W.cell? ⟨p, 0, none⟩ = some (.map (some b)))) (by kernel_rfl) sd (fun hHeld => ?_)
  generalize w1.drew = w2 at *
  obtain ⟨KB, hKB⟩ : ∃ K, w2.heap.size = K := ⟨_, rfl⟩
  have hb20 := Below.refl w2.heap.size w2
  rw [hKB] at hb20
  have HKB := Lib.hid hKB
  have hKw : w'.heap.size ≤ KB := by have := hb2.size; omega
  clear hKB
  (refine tkI 0 (by (simp only [List.getElem?_toArray, List.getElem?_cons_succ, List.getElem?_cons_zero]; rfl)) (by kernel_rfl) (by kernel_rfl) (by kernel_rfl) (by exact fun _ _ _ h => h) (by rfl) (by (intro w hSw; (try dsimp only at hSw); go_simp <;> with_reducible rfl)) (by assumption) ?_; try simp only [Act.put, List.setIfInBounds_toArray, List.set_cons_zero, List.set_cons_succ])
  (refine tkI 1 (by (simp only [List.getElem?_toArray, List.getElem?_cons_succ, List.getElem?_cons_zero]; rfl)) (by kernel_rfl) (by kernel_rfl) (by kernel_rfl) (by exact fun _ _ _ h => h) (by rfl) (by (intro w hSw; (try dsimp only at hSw); go_simp <;> with_reducible rfl)) (by assumption) ?_; try simp only [Act.put, List.setIfInBounds_toArray, List.set_cons_zero, List.set_cons_succ])
  (refine tkI 2 (by (simp only [List.getElem?_toArray, List.getElem?_cons_succ, List.getElem?_cons_zero]; rfl)) (by kernel_rfl) (by kernel_rfl) (by kernel_rfl) (by exact fun _ _ _ h => h) (by rfl) (by (intro w hSw; (try dsimp only at hSw); go_simp <;> with_reducible rfl)) (by assumption) ?_; try simp only [Act.put, List.setIfInBounds_toArray, List.set_cons_zero, List.set_cons_succ])
  (refine tkI 3 (by (simp only [List.getElem?_toArray, List.getElem?_cons_succ, List.getElem?_cons_zero]; rfl)) (by kernel_rfl) (by kernel_rfl) (by kernel_rfl) (by exact fun _ _ _ h => h) (by rfl) (by (intro w hSw; (try dsimp only at hSw); go_simp <;> with_reducible rfl)) (by assumption) ?_; try simp only [Act.put, List.setIfInBounds_toArray, List.set_cons_zero, List.set_cons_succ])
  (refine tkI 4 (by (simp only [List.getElem?_toArray, List.getElem?_cons_succ, List.getElem?_cons_zero]; rfl)) (by kernel_rfl) (by kernel_rfl) (by kernel_rfl) (by exact fun _ _ _ h => h) (by rfl) (by (intro w hSw; (try dsimp only at hSw); go_simp <;> with_reducible rfl)) (by assumption) ?_; try simp only [Act.put, List.setIfInBounds_toArray, List.set_cons_zero, List.set_cons_succ])
  (refine tkI 5 (by (simp only [List.getElem?_toArray, List.getElem?_cons_succ, List.getElem?_cons_zero]; rfl)) (by kernel_rfl) (by kernel_rfl) (by kernel_rfl) (by exact fun _ _ _ h => h) (by rfl) (by (intro w hSw; (try dsimp only at hSw); go_simp <;> with_reducible rfl)) (by assumption) ?_; try simp only [Act.put, List.setIfInBounds_toArray, List.set_cons_zero, List.set_cons_succ])
  (refine tkI 6 (by (simp only [List.getElem?_toArray, List.getElem?_cons_succ, List.getElem?_cons_zero]; rfl)) (by kernel_rfl) (by kernel_rfl) (by kernel_rfl) (by exact fun _ _ _ h => h) (by rfl) (by (intro w hSw; (try dsimp only at hSw); go_simp <;> with_reducible rfl)) (by assumption) ?_; try simp only [Act.put, List.setIfInBounds_toArray, List.set_cons_zero, List.set_cons_succ])
  (refine tkI 7 (by (simp only [List.getElem?_toArray, List.getElem?_cons_succ, List.getElem?_cons_zero]; rfl)) (by kernel_rfl) (by kernel_rfl) (by kernel_rfl) (by exact fun _ _ _ h => h) (by rfl) (by (intro w hSw; (try dsimp only at hSw); go_simp <;> with_reducible rfl)) (by assumption) ?_; try simp only [Act.put, List.setIfInBounds_toArray, List.set_cons_zero, List.set_cons_succ])
  (refine tkI 8 (by (simp only [List.getElem?_toArray, List.getElem?_cons_succ, List.getElem?_cons_zero]; rfl)) (by kernel_rfl) (by kernel_rfl) (by kernel_rfl) (by exact fun _ _ _ h => h) (by rfl) (by (intro w hSw; (try dsimp only at hSw); go_simp <;> with_reducible rfl)) (by assumption) ?_; try simp only [Act.put, List.setIfInBounds_toArray, List.set_cons_zero, List.set_cons_succ])
  refine wpAnyH_ready (rs := [9]) (by kernel_rfl) (by simp) ?_
  refine AllReadyH.cons (by (simp only [List.getElem?_toArray, List.getElem?_cons_succ, List.getElem?_cons_zero]; rfl)) (fun K hK => ?_) AllReadyH.nil
  go_simp
  refine (clone_any A l.length c l _ (hil2.below (by rw [HKB.out]; exact hb20)) (by omega)).mono ?_
  rintro e W9 ⟨v9, rfl, ho9, hx9⟩
  obtain ⟨A9, c9, rfl, hcap9, hm9, hil9, hal9⟩ := ho9.form
  have hPS9 := (hP2.mono (G := fun k => F k ∨ KB ≤ k) (fun _ _ e => .inl e)).below hx9
  have hlz : ∀ ad, A9 = some ad → 0 < l.length → (F ad.block ∨ KB ≤ ad.block) ∧ ad.block ≠ p ∧ ad.block ≠ b := fun ad e _ => by have h1 := (hal9 ad e).1; have h2 := hP2.lt; rw [HKB.out] at h1 h2; exact ⟨.inr h1, by omega, by omega⟩
  obtain ⟨W11, hrun11, hPS11, hk11⟩ := hPS9.upd hN hkw ⟨k, fr, to, ⟨A9, l.length, c9, l⟩, false⟩ ⟨⟨hil9, hcap9, hfew, hmay, hlit, hlz⟩⟩
  have hrun : (Instr.mapUpdate 47 (.map (some b)) (.int .i64 k) (.agg #[.int .i64 k, .int .i64 fr, .int .i64 to, .slice A9 l.length c9, .bool false])).run Tryz.prog W9 = .ok () W11 := hrun11
  have s9 := hPS9.pc.cell 0
  simp at s9
  have s11 := hPS11.pc.cell 0
  simp at s11
  refine hK.out _ _ s9 (fun hHeld2 => ?_)
  clear hK K hHeld
  have hHeld := hHeld2
  clear hHeld2
  try simp only [Act.put, List.setIfInBounds_toArray, List.set_cons_zero, List.set_cons_succ]
  (refine tkI 10 (by (simp only [List.getElem?_toArray, List.getElem?_cons_succ, List.getElem?_cons_zero]; rfl)) (by kernel_rfl) (by kernel_rfl) (by kernel_rfl) (by exact fun _ _ _ h => h) (by rfl) (by (intro w hSw; (try dsimp only at hSw); go_simp <;> with_reducible rfl)) (by assumption) ?_; try simp only [Act.put, List.setIfInBounds_toArray, List.set_cons_zero, List.set_cons_succ])
  refine wpAnyH_ready (rs := [11]) (by kernel_rfl) (by simp) ?_
  refine AllReadyH.cons (by (simp only [List.getElem?_toArray, List.getElem?_cons_succ, List.getElem?_cons_zero]; rfl)) (fun K hK => ?_) AllReadyH.nil
  go_simp
  refine hK.out _ _ s11 (fun hHeld2 => ?_)
  clear hK K hHeld
  have hHeld := hHeld2
  clear hHeld2
  try simp only [Act.put, List.setIfInBounds_toArray, List.set_cons_zero, List.set_cons_succ]
  refine wpAnyH_done (by kernel_rfl) ?_ _
  go_wp2
  go_ret
  refine ⟨rfl, ⟨A9, l.length, c9, l⟩, rfl, hPS11.mono (fun i _ e => ?_), ((Keep.ofB hb2).trans ((Keep.ofB (S := fun i => i = b) hx9)) (fun i hi e => e)).trans hk11 (fun i hi e => e)⟩
  rcases e with e | e
  · exact .inl e
  · exact .inr (by omega)
end
section
open Go.RowKit Go.Maps Go.Shelf Go.Sort
set_option linter.unusedVariables false
set_option linter.unusedSimpArgs false

theorem keep_turned {w w' : World} {b : Nat} (h : w.mapTurned w' b) : Keep (fun i => i = b) w w' := by
  obtain ⟨es, clock, es', clock', hb, rfl⟩ := h
  exact ⟨rfl, rfl, rfl, by simp [ChangeMaps.setBlock], fun i _ hi => ChangeMaps.heap_setBlock_other hb _ hi⟩
theorem PS.deleted {F : Nat → Prop} {w w' : World} {p b N : Nat} {f : Int → Rec} {ks : List Int} {k : Int} {D : DataW Value} (h : PS F w p b N f ks) (hm : w'.ownsMap Tryz.prog 3 rR b N (D.del (.int .i64 k))) (hD : PM D f ks) (ht : w.mapTurned w' b) :
    PS F w' p b N (fun i => if i = k then rec0 else f i) (ks.erase k) := by
  have kk := keep_turned ht
  refine ⟨h.pc.kept kk h.ne, ⟨_, hm, hD.del k⟩, h.ne, h.fp, fun i hi => ?_, fun i hi => ?_⟩
  · by_cases e : i = k
    · rw [if_pos e]
    · rw [if_neg e]
      exact h.no i fun m => hi (hD.nd.mem_erase_iff.2 ⟨e, m⟩)
  · obtain ⟨e, m⟩ := hD.nd.mem_erase_iff.1 hi
    rw [if_neg e]
    exact (h.ok i m).kept kk fun g _ _ h3 e3 => h3 e3
set_option maxRecDepth 100000 in
set_option maxHeartbeats 3200000 in
theorem find_yes {F : Nat → Prop} {w : World} {p b N : Nat} {f : Int → Rec} {ks : List Int} (h : PS F w p b N f ks) (k : Int) (hkw : (Lit.int .i64 k).wf = true) (g : k ∈ ks) :
    Calls Tryz.prog 30 #[.pointer (some ⟨p, 0, none⟩), .int .i64 k] w fun e w' => e = .returned (.tuple #[(f k).v, .int .i64 0]) ∧ Below w.heap.size w w' := by
  have hlk := (h.alloc (.cells #[.int .i64 0, .int .i64 0, .int .i64 0, .slice none 0 0, .bool false] 59)).look hkw
  have hb1 := (Below.refl w.heap.size w).alloc (Nat.le_refl _) (.cells #[.int .i64 0, .int .i64 0, .int .i64 0, .slice none 0 0, .bool false] 59)
  have hpa := pall_any (h.alloc (.cells #[.int .i64 0, .int .i64 0, .int .i64 0, .slice none 0 0, .bool false] 59))
  rw [decide_eq_true g] at hlk
  clear g h
  generalize hr : f k = r0 at *
  obtain ⟨rm, rf, rt, ⟨A0, n0, c0, l0⟩, rc⟩ := r0
  change (Instr.lookup _ _ _ _).run _ _ = Result.ok (.tuple #[.agg #[.int .i64 rm, .int .i64 rf, .int .i64 rt, .slice A0 n0 c0, .bool rc], .bool true]) _ at hlk
  have hb2 := hb1.alloc hb1.size (.cells #[.int .i64 rm, .int .i64 rf, .int .i64 rt, .slice A0 n0 c0, .bool rc] 59)
  have e1 := (Blk.new w 59 #[.int .i64 0, .int .i64 0, .int .i64 0, .slice none 0 0, .bool false]).alloc (.cells #[.int .i64 rm, .int .i64 rf, .int .i64 rt, .slice A0 n0 c0, .bool rc] 59)
  have z0 := e1.cell 0
  have z1 := e1.cell 1
  have z2 := e1.cell 2
  have z3 := e1.cell 3
  have z4 := e1.cell 4
  have zf := fun i => e1.frozen i
  have zl := e1.lt
  simp at z0 z1 z2 z3 z4
  go_enter Tryz.func30, Tryz.ntmps30
  go_wp2_with fail
  refine hpa.mono ?_
  rintro e w' ⟨rfl, hww⟩
  subst hww
  clear hpa hr
  go_wp2_with fail
  have hbE := (Below.refl w.heap.size w).alloc (Nat.le_refl _) (.cells #[.int .i64 rm, .int .i64 rf, .int .i64 rt, .slice A0 n0 c0, .bool rc] 59)
  replace hbE := hbE.alloc hbE.size (.cells #[.int .i64 rm, .int .i64 rf, .int .i64 rt, .slice A0 n0 c0, .bool rc] 59)
  refine bodyPost_ret (v := .tuple #[.agg #[.int .i64 rm, .int .i64 rf, .int .i64 rt, .slice A0 n0 c0, .bool rc], .int .i64 0]) (by simp [results, Tryz.results30, go_sem]) rfl ?_
  exact ⟨rfl, hbE⟩
set_option maxRecDepth 100000 in
set_option maxHeartbeats 3200000 in
theorem find_no {F : Nat → Prop} {w : World} {p b N : Nat} {f : Int → Rec} {ks : List Int} (h : PS F w p b N f ks) (k : Int) (hkw : (Lit.int .i64 k).wf = true) (g : k ∉ ks) :
    Calls Tryz.prog 30 #[.pointer (some ⟨p, 0, none⟩), .int .i64 k] w fun e w' => e = .returned (.tuple #[rec0.v, .int .i64 4]) ∧ Below w.heap.size w w' := by
  have hlk := (h.alloc (.cells #[.int .i64 0, .int .i64 0, .int .i64 0, .slice none 0 0, .bool false] 59)).look hkw
  have hb1 := (Below.refl w.heap.size w).alloc (Nat.le_refl _) (.cells #[.int .i64 0, .int .i64 0, .int .i64 0, .slice none 0 0, .bool false] 59)
  have hpa := pall_any (h.alloc (.cells #[.int .i64 0, .int .i64 0, .int .i64 0, .slice none 0 0, .bool false] 59))
  rw [h.no k g, decide_eq_false g, rec0_v] at hlk
  rw [rec0_v]
  clear g h
  have hb2 := hb1.alloc hb1.size (.cells #[.int .i64 0, .int .i64 0, .int .i64 0, .slice none 0 0, .bool false] 59)
  have e1 := (Blk.new w 59 #[.int .i64 0, .int .i64 0, .int .i64 0, .slice none 0 0, .bool false]).alloc (.cells #[.int .i64 0, .int .i64 0, .int .i64 0, .slice none 0 0, .bool false] 59)
  have z0 := e1.cell 0
  have z1 := e1.cell 1
  have z2 := e1.cell 2
  have z3 := e1.cell 3
  have z4 := e1.cell 4
  have zf := fun i => e1.frozen i
  have zl := e1.lt
  simp at z0 z1 z2 z3 z4
  go_enter Tryz.func30, Tryz.ntmps30
  go_wp2_with fail
  refine hpa.mono ?_
  rintro e w' ⟨rfl, hww⟩
  subst hww
  clear hpa
  go_wp2_with fail
  have hbE := (Below.refl w.heap.size w).alloc (Nat.le_refl _) (.cells #[.int .i64 0, .int .i64 0, .int .i64 0, .slice none 0 0, .bool false] 59)
  replace hbE := hbE.alloc hbE.size (.cells #[.int .i64 0, .int .i64 0, .int .i64 0, .slice none 0 0, .bool false] 59)
  refine bodyPost_ret (v := .tuple #[.agg #[.int .i64 0, .int .i64 0, .int .i64 0, .slice none 0 0, .bool false], .int .i64 4]) (by simp [results, Tryz.results30, go_sem]) rfl ?_
  exact ⟨rfl, hbE⟩
set_option maxRecDepth 100000 in
set_option maxHeartbeats 3200000 in
theorem find_nil (k : Int) (w : World) (hkw : (Lit.int .i64 k).wf = true) :
    Calls Tryz.prog 30 #[.pointer none, .int .i64 k] w fun e w' => e = .returned (.tuple #[recZ, .int .i64 6]) ∧ Below w.heap.size w w' := by
  have hlk := look_nilR (w.alloc (.cells #[.int .i64 0, .int .i64 0, .int .i64 0, .slice none 0 0, .bool false] 59)) hkw
  have hb1 := (Below.refl w.heap.size w).alloc (Nat.le_refl _) (.cells #[.int .i64 0, .int .i64 0, .int .i64 0, .slice none 0 0, .bool false] 59)
  have hpa := pall_nil (w.alloc (.cells #[.int .i64 0, .int .i64 0, .int .i64 0, .slice none 0 0, .bool false] 59))
  have hb2 := hb1.alloc hb1.size (.cells #[.int .i64 0, .int .i64 0, .int .i64 0, .slice none 0 0, .bool false] 59)
  have e1 := (Blk.new w 59 #[.int .i64 0, .int .i64 0, .int .i64 0, .slice none 0 0, .bool false]).alloc (.cells #[.int .i64 0, .int .i64 0, .int .i64 0, .slice none 0 0, .bool false] 59)
  have z0 := e1.cell 0
  have z1 := e1.cell 1
  have z2 := e1.cell 2
  have z3 := e1.cell 3
  have z4 := e1.cell 4
  have zf := fun i => e1.frozen i
  have zl := e1.lt
  simp at z0 z1 z2 z3 z4
  go_enter Tryz.func30, Tryz.ntmps30
  go_wp2_with fail
  refine hpa.mono ?_
  rintro e w' ⟨rfl, hww⟩
  subst hww
  clear hpa
  go_wp2_with fail
  have hbE := (Below.refl w.heap.size w).alloc (Nat.le_refl _) (.cells #[.int .i64 0, .int .i64 0, .int .i64 0, .slice none 0 0, .bool false] 59)
  replace hbE := hbE.alloc hbE.size (.cells #[.int .i64 0, .int .i64 0, .int .i64 0, .slice none 0 0, .bool false] 59)
  refine bodyPost_ret (v := .tuple #[.agg #[.int .i64 0, .int .i64 0, .int .i64 0, .slice none 0 0, .bool false], .int .i64 6]) (by simp [results, Tryz.results30, go_sem]) rfl ?_
  exact ⟨rfl, hbE⟩
theorem go_nil (k fr to : Int) (A : Option Addr) (n c : Nat) (w : World) (hkw : (Lit.int .i64 k).wf = true) : Calls Tryz.prog 7 #[.pointer none, .int .i64 k, .int .i64 fr, .int .i64 to, .slice A n c] w fun e w' => e = .returned (.int .i64 6) ∧ Below w.heap.size w w' := by
  have hl := look_nilR w hkw
  go_enter Tryz.func7, Tryz.ntmps7
  go_wp2_with fail
  refine (pall_nil w).mono ?_
  rintro e w' ⟨rfl, hww⟩
  subst hww
  go_wp2
  go_ret
  exact ⟨rfl, (Below.refl _ _).alloc (Nat.le_refl _) _⟩
set_option maxRecDepth 100000 in
theorem come_nil (k : Int) (w : World) (hkw : (Lit.int .i64 k).wf = true) : Calls Tryz.prog 9 #[.pointer none, .int .i64 k] w fun e w' => e = .returned (.tuple #[.slice none 0 0, .int .i64 6]) ∧ Below w.heap.size w w' := by
  go_enter Tryz.func9, Tryz.ntmps9
  go_wp2_with fail
  refine (find_nil k w hkw).mono ?_
  rintro e w1 ⟨rfl, hb⟩
  go_wp2
  go_ret2
  exact ⟨rfl, hb.alloc hb.size _⟩
set_option maxRecDepth 100000 in
theorem forget_nil (k : Int) (w : World) (hkw : (Lit.int .i64 k).wf = true) : Calls Tryz.prog 11 #[.pointer none, .int .i64 k] w fun e w' => e = .returned (.int .i64 6) ∧ Below w.heap.size w w' := by
  go_enter Tryz.func11, Tryz.ntmps11
  go_wp2_with fail
  refine (find_nil k w hkw).mono ?_
  rintro e w1 ⟨rfl, hb⟩
  go_wp2
  go_ret
  exact ⟨rfl, hb.alloc hb.size _⟩
set_option maxRecDepth 100000 in
theorem come_no {F : Nat → Prop} {w : World} {p b N : Nat} {f : Int → Rec} {ks : List Int} (h : PS F w p b N f ks) (k : Int) (hkw : (Lit.int .i64 k).wf = true) (g : k ∉ ks) : Calls Tryz.prog 9 #[.pointer (some ⟨p, 0, none⟩), .int .i64 k] w fun e w' => e = .returned (.tuple #[.slice none 0 0, .int .i64 4]) ∧ Below w.heap.size w w' := by
  have hf := find_no h k hkw g
  rw [rec0_v] at hf
  go_enter Tryz.func9, Tryz.ntmps9
  go_wp2_with fail
  refine hf.mono ?_
  rintro e w1 ⟨rfl, hb⟩
  go_wp2
  go_ret2
  exact ⟨rfl, hb.alloc hb.size _⟩
set_option maxRecDepth 100000 in
theorem forget_no {F : Nat → Prop} {w : World} {p b N : Nat} {f : Int → Rec} {ks : List Int} (h : PS F w p b N f ks) (k : Int) (hkw : (Lit.int .i64 k).wf = true) (g : k ∉ ks) : Calls Tryz.prog 11 #[.pointer (some ⟨p, 0, none⟩), .int .i64 k] w fun e w' => e = .returned (.int .i64 4) ∧ Below w.heap.size w w' := by
  have hf := find_no h k hkw g
  rw [rec0_v] at hf
  go_enter Tryz.func11, Tryz.ntmps11
  go_wp2_with fail
  refine hf.mono ?_
  rintro e w1 ⟨rfl, hb⟩
  go_wp2
  go_ret
  exact ⟨rfl, hb.alloc hb.size _⟩
set_option maxRecDepth 100000 in
theorem come_twice {F : Nat → Prop} {w : World} {p b N : Nat} {f : Int → Rec} {ks : List Int} (h : PS F w p b N f ks) (k : Int) (hkw : (Lit.int .i64 k).wf = true) (g : k ∈ ks) (hc : (f k).c = true) : Calls Tryz.prog 9 #[.pointer (some ⟨p, 0, none⟩), .int .i64 k] w fun e w' => e = .returned (.tuple #[.slice none 0 0, .int .i64 5]) ∧ Below w.heap.size w w' := by
  have hf := find_yes h k hkw g
  generalize hr : f k = r0 at *
  obtain ⟨rm, rf, rt, ⟨A0, n0, c0, l0⟩, rc⟩ := r0
  obtain rfl : rc = true := hc
  change Calls _ _ _ _ (fun e w' => e = .returned (.tuple #[.agg #[.int .i64 rm, .int .i64 rf, .int .i64 rt, .slice A0 n0 c0, .bool true], .int .i64 0]) ∧ Below w.heap.size w w') at hf
  clear hr
  go_enter Tryz.func9, Tryz.ntmps9
  go_wp2_with fail
  refine hf.mono ?_
  rintro e w1 ⟨rfl, hb⟩
  go_wp2
  go_ret2
  exact ⟨rfl, hb.alloc hb.size _⟩
set_option maxRecDepth 100000 in
theorem forget_state {F : Nat → Prop} {w : World} {p b N : Nat} {f : Int → Rec} {ks : List Int} (h : PS F w p b N f ks) (k : Int) (hkw : (Lit.int .i64 k).wf = true) (g : k ∈ ks) (hc : (f k).c = false) : Calls Tryz.prog 11 #[.pointer (some ⟨p, 0, none⟩), .int .i64 k] w fun e w' => e = .returned (.int .i64 80) ∧ Below w.heap.size w w' := by
  have hf := find_yes h k hkw g
  generalize hr : f k = r0 at *
  obtain ⟨rm, rf, rt, ⟨A0, n0, c0, l0⟩, rc⟩ := r0
  obtain rfl : rc = false := hc
  change Calls _ _ _ _ (fun e w' => e = .returned (.tuple #[.agg #[.int .i64 rm, .int .i64 rf, .int .i64 rt, .slice A0 n0 c0, .bool false], .int .i64 0]) ∧ Below w.heap.size w w') at hf
  clear hr
  go_enter Tryz.func11, Tryz.ntmps11
  go_wp2_with fail
  refine hf.mono ?_
  rintro e w1 ⟨rfl, hb⟩
  go_wp2
  go_ret
  exact ⟨rfl, hb.alloc hb.size _⟩
set_option maxRecDepth 100000 in
theorem forget_ok {F : Nat → Prop} {w : World} {p b N : Nat} {f : Int → Rec} {ks : List Int} (h : PS F w p b N f ks) (k : Int) (hkw : (Lit.int .i64 k).wf = true) (g : k ∈ ks) (hc : (f k).c = true) : Calls Tryz.prog 11 #[.pointer (some ⟨p, 0, none⟩), .int .i64 k] w fun e w' => e = .returned (.int .i64 0) ∧ PS F w' p b N (fun i => if i = k then rec0 else f i) (ks.erase k) ∧ Keep (fun i => i = b) w w' := by
  have hf := find_yes h k hkw g
  obtain ⟨r0, hr⟩ : ∃ r0, f k = r0 := ⟨_, rfl⟩
  rw [hr] at hf hc
  obtain ⟨rm, rf, rt, ⟨A0, n0, c0, l0⟩, rc⟩ := r0
  obtain rfl : rc = true := hc
  change Calls _ _ _ _ (fun e w' => e = .returned (.tuple #[.agg #[.int .i64 rm, .int .i64 rf, .int .i64 rt, .slice A0 n0 c0, .bool true], .int .i64 0]) ∧ Below w.heap.size w w') at hf
  clear hr
  go_enter Tryz.func11, Tryz.ntmps11
  go_wp2_with fail
  refine hf.mono ?_
  rintro e w1 ⟨rfl, hb⟩
  have hb2 := hb.alloc hb.size (.cells #[.int .i64 rm, .int .i64 rf, .int .i64 rt, .slice A0 n0 c0, .bool true] 59)
  have hP2 := h.below hb2
  have s1 := hP2.pc.cell 0
  simp at s1
  obtain ⟨D, hm, hD⟩ := hP2.mp
  clear hf
  go_wp2_with (at_delete; refine wpList_delete_own _ rfl _ _ 47 3 rfl 59 (int_keyed Tryz.underlying3) Tryz.underlying47 rR b N D rfl hm _ _ rfl (keyI hkw) ?_; intro w4 hm4 hturn4)
  go_ret
  exact ⟨rfl, hP2.deleted hm4 hD hturn4, (Keep.ofB (S := fun i => i = b) hb2).trans (keep_turned hturn4) (fun _ _ e => e)⟩
end
section
open Go.RowKit Go.Maps Go.Shelf Go.Sort
set_option linter.unusedVariables false
set_option linter.unusedSimpArgs false

set_option maxRecDepth 100000 in
set_option maxHeartbeats 6400000 in
theorem come_ok {F : Nat → Prop} {w : World} {p b N : Nat} {f : Int → Rec} {ks : List Int} (h : PS F w p b N f ks) (hN : N < maxLen) (k : Int) (hkw : (Lit.int .i64 k).wf = true) (g : k ∈ ks) (hc : (f k).c = false) :
    Calls Tryz.prog 9 #[.pointer (some ⟨p, 0, none⟩), .int .i64 k] w fun e w' => ∃ v, e = .returned (.tuple #[v, .int .i64 0]) ∧ OI w.heap.size w' v (f k).l.l ∧ PS F w' p b (N + 1) (fun i => if i = k then ⟨(f k).m, (f k).f, (f k).t, (f k).l, true⟩ else f i) ks ∧ Keep (fun i => i = b) w w' := by
  have hf := find_yes h k hkw g
  have hrc := h.ok k g
  have hkk : addK ks k = ks := if_pos g
  generalize hr : f k = r0 at *
  obtain ⟨rm, rf, rt, ⟨A0, n0, c0, l0⟩, rc⟩ := r0
  obtain rfl : rc = false := hc
  change Calls _ _ _ _ (fun e w' => e = .returned (.tuple #[.agg #[.int .i64 rm, .int .i64 rf, .int .i64 rt, .slice A0 n0 c0, .bool false], .int .i64 0]) ∧ Below w.heap.size w w') at hf
  dsimp only
  clear hr
  have HN := Lib.hid hN
  replace hkk := Lib.hid hkk
  go_enter Tryz.func9, Tryz.ntmps9
  go_wp2_with fail
  refine hf.mono ?_
  rintro e w1 ⟨rfl, hb⟩
  clear hf
  go_upto_region 7 with fail
  obtain ⟨rb, hrb⟩ : ∃ rb, w1.heap.size = rb := ⟨_, rfl⟩
  have hb2 := hb.alloc hb.size (.cells #[.int .i64 rm, .int .i64 rf, .int .i64 rt, .slice A0 n0 c0, .bool true] 59)
  have hB2 := Blk.new w1 59 #[.int .i64 rm, .int .i64 rf, .int .i64 rt, .slice A0 n0 c0, .bool true]
  have hP2 := h.below hb2
  have hrc2 := hrc.below hb2
  have hlt := h.lt
  have hz := hb.size
  rw [hrb] at hB2 hz ⊢
  have sd : (fun W => W.cell? ⟨p, 0, none⟩ = some (.map (some b)) ∧ W.cell? ⟨rb, 0, none⟩ = some (.int .i64 rm) ∧ W.cell? ⟨rb, 1, none⟩ = some (.int .i64 rf) ∧ W.cell? ⟨rb, 2, none⟩ = some (.int .i64 rt) ∧ W.cell? ⟨rb, 3, none⟩ = some (.slice A0 n0 c0) ∧ W.cell? ⟨rb, 4, none⟩ = some (.bool true)) (w1.alloc (.cells #[.int .i64 rm, .int .i64 rf, .int .i64 rt, .slice A0 n0 c0, .bool true] 59)).drew := by
    have p0 := hP2.pc.cell 0
    have z0 := hB2.cell 0
    have z1 := hB2.cell 1
    have z2 := hB2.cell 2
    have z3 := hB2.cell 3
    have z4 := hB2.cell 4
    simp only [List.getElem?_toArray, List.getElem?_cons_succ, List.getElem?_cons_zero] at p0 z0 z1 z2 z3 z4
    exact ⟨p0, z0, z1, z2, z3, z4⟩
  have hP3 := hP2.drew
  have hB3 := hB2.drew
  have hrc3 := hrc2.below (Below.refl _ (w1.alloc (.cells #[.int .i64 rm, .int .i64 rf, .int .i64 rt, .slice A0 n0 c0, .bool true] 59))).drew
  have hb3 := hb2.drew
  replace hN := HN.out
  refine wp_region_held_drew (S := (fun W => W.cell? ⟨p, 0, none⟩ = some (.map (some b)) ∧ W.cell? ⟨rb, 0, none⟩ = some (.int .i64 rm) ∧ W.cell? ⟨rb, 1, none⟩ = some (.int .i64 rf) ∧ W.cell? ⟨rb, 2, none⟩ = some (.int .i64 rt) ∧ W.cell? ⟨rb, 3, none⟩ = some (.slice A0 n0 c0) ∧ W.cell? ⟨rb, 4, none⟩ = some (.bool true))) (by kernel_rfl) sd (fun hHeld => ?_)
  generalize (w1.alloc (.cells #[.int .i64 rm, .int .i64 rf, .int .i64 rt, .slice A0 n0 c0, .bool true] 59)).drew = w3 at *
  (refine tkI 0 (by (simp only [List.getElem?_toArray, List.getElem?_cons_succ, List.getElem?_cons_zero]; rfl)) (by kernel_rfl) (by kernel_rfl) (by kernel_rfl) (by exact fun _ _ _ h => h) (by rfl) (by (intro w hSw; (try dsimp only at hSw); go_simp <;> with_reducible rfl)) (by assumption) ?_; try simp only [Act.put, List.setIfInBounds_toArray, List.set_cons_zero, List.set_cons_succ])
  (refine tkI 1 (by (simp only [List.getElem?_toArray, List.getElem?_cons_succ, List.getElem?_cons_zero]; rfl)) (by kernel_rfl) (by kernel_rfl) (by kernel_rfl) (by exact fun _ _ _ h => h) (by rfl) (by (intro w hSw; (try dsimp only at hSw); go_simp <;> with_reducible rfl)) (by assumption) ?_; try simp only [Act.put, List.setIfInBounds_toArray, List.set_cons_zero, List.set_cons_succ])
  (refine tkI 2 (by (simp only [List.getElem?_toArray, List.getElem?_cons_succ, List.getElem?_cons_zero]; rfl)) (by kernel_rfl) (by kernel_rfl) (by kernel_rfl) (by exact fun _ _ _ h => h) (by rfl) (by (intro w hSw; (try dsimp only at hSw); go_simp <;> with_reducible rfl)) (by assumption) ?_; try simp only [Act.put, List.setIfInBounds_toArray, List.set_cons_zero, List.set_cons_succ])
  (refine tkI 3 (by (simp only [List.getElem?_toArray, List.getElem?_cons_succ, List.getElem?_cons_zero]; rfl)) (by kernel_rfl) (by kernel_rfl) (by kernel_rfl) (by exact fun _ _ _ h => h) (by rfl) (by (intro w hSw; (try dsimp only at hSw); go_simp <;> with_reducible rfl)) (by assumption) ?_; try simp only [Act.put, List.setIfInBounds_toArray, List.set_cons_zero, List.set_cons_succ])
  (refine tkI 4 (by (simp only [List.getElem?_toArray, List.getElem?_cons_succ, List.getElem?_cons_zero]; rfl)) (by kernel_rfl) (by kernel_rfl) (by kernel_rfl) (by exact fun _ _ _ h => h) (by rfl) (by (intro w hSw; (try dsimp only at hSw); go_simp <;> with_reducible rfl)) (by assumption) ?_; try simp only [Act.put, List.setIfInBounds_toArray, List.set_cons_zero, List.set_cons_succ])
  (refine tkI 5 (by (simp only [List.getElem?_toArray, List.getElem?_cons_succ, List.getElem?_cons_zero]; rfl)) (by kernel_rfl) (by kernel_rfl) (by kernel_rfl) (by exact fun _ _ _ h => h) (by rfl) (by (intro w hSw; (try dsimp only at hSw); go_simp <;> with_reducible rfl)) (by assumption) ?_; try simp only [Act.put, List.setIfInBounds_toArray, List.set_cons_zero, List.set_cons_succ])
  refine wpAnyH_ready (rs := [6]) (by kernel_rfl) (by simp) ?_
  refine AllReadyH.cons (by (simp only [List.getElem?_toArray, List.getElem?_cons_succ, List.getElem?_cons_zero]; rfl)) (fun K hK => ?_) AllReadyH.nil
  skip
  obtain ⟨W9, hrun9, hPS9, hk9⟩ := hP3.upd hN hkw ⟨rm, rf, rt, ⟨A0, n0, c0, l0⟩, true⟩ ⟨⟨hrc3.l_.il, hrc3.l_.cap, hrc3.l_.few, hrc3.l_.may, hrc3.l_.lit, hrc3.l_.lies⟩⟩
  have hrun : (Instr.mapUpdate 47 (.map (some b)) (.int .i64 k) (.agg #[.int .i64 rm, .int .i64 rf, .int .i64 rt, .slice A0 n0 c0, .bool true])).run Tryz.prog w3 = .ok () W9 := hrun9
  go_simp
  have hB9 := hB3.kept hk9 (fun e => by have := hP3.lt; omega)
  have p9 := hPS9.pc.cell 0
  have z0 := hB9.cell 0
  have z1 := hB9.cell 1
  have z2 := hB9.cell 2
  have z3 := hB9.cell 3
  have z4 := hB9.cell 4
  simp at p9 z0 z1 z2 z3 z4
  refine hK.out _ _ ⟨p9, z0, z1, z2, z3, z4⟩ (fun hHeld2 => ?_)
  clear hK K hHeld
  have hHeld := hHeld2
  clear hHeld2
  try simp only [Act.put, List.setIfInBounds_toArray, List.set_cons_zero, List.set_cons_succ]
  refine wpAnyH_done (by kernel_rfl) ?_ _
  have hk9' := (Keep.ofB (S := fun i => i = b) hb3).trans hk9 (fun i hi e => e)
  have hil9 : IL W9 A0 n0 l0 := hrc3.l_.il.kept hk9 (fun ad e hn => by exact fun e2 => (hrc3.l_.lies ad e hn).2.2 e2)
  have hn16 : l0.length ≤ 16 := hrc3.l_.few
  have hnn : l0.length = n0 := hrc3.l_.il.len
  have hz9 := hk9'.size
  clear hrun hrun9 hHeld p9 z0 z1 z2 hrc3 hB3
  go_wp2_with fail
  refine (clone_any A0 n0 c0 l0 _ hil9 (by omega)).mono ?_
  rintro e W10 ⟨v10, rfl, ho10, hx10⟩
  have hPF := hPS9.below hx10
  go_wp2
  go_ret2
  rw [hkk.out] at hPF
  exact ⟨v10, rfl, ho10.mono hz9, hPF, hk9'.trans (Keep.ofB (S := fun i => i = b) hx10) (fun i hi e => e)⟩
theorem mlen_any {F : Nat → Prop} {w : World} {p b N : Nat} {f : Int → Rec} {ks : List Int} (h : PS F w p b N f ks) : Calls Tryz.prog 21 #[.pointer (some ⟨p, 0, none⟩)] w fun e w' => e = .returned (.int .i64 (ks.length : Nat)) ∧ w' = w := by
  have hl := h.len
  go_enter Tryz.func21, Tryz.ntmps21
  go_wp2_with fail
  refine (pall_any h).mono ?_
  rintro e w' ⟨rfl, hww⟩
  subst hww
  go_wp2
  go_ret
  exact ⟨rfl, rfl⟩
/-- What is told of a move: the list is another one. -/
def ToldW (base : Nat) (w : World) (r : Rec) (u : Value) : Prop := ∃ A c, u = .agg #[.int .i64 r.m, .int .i64 r.f, .int .i64 r.t, .slice A r.l.l.length c, .bool r.c] ∧ OI base w (.slice A r.l.l.length c) r.l.l
set_option maxRecDepth 100000 in
set_option maxHeartbeats 3200000 in
theorem told_any (r : Rec) (w : World) (hil : IL w r.l.A r.l.n r.l.l) (hn : r.l.n ≤ 1048576) : Calls Tryz.prog 49 #[r.v] w fun e w' => ∃ u, e = .returned u ∧ ToldW w.heap.size w' r u ∧ Below w.heap.size w w' := by
  obtain ⟨rm, rf, rt, ⟨A0, n0, c0, l0⟩, rc⟩ := r
  dsimp only at hil hn
  change Calls _ _ #[.agg #[.int .i64 rm, .int .i64 rf, .int .i64 rt, .slice A0 n0 c0, .bool rc]] _ _
  have hba := ((Below.refl w.heap.size w).alloc (Nat.le_refl _) (.cells #[.int .i64 rm, .int .i64 rf, .int .i64 rt, .slice A0 n0 c0, .bool rc] 59)).alloc (by simp) (.cells #[.int .i64 0, .int .i64 0, .int .i64 0, .slice none 0 0, .bool false] 59)
  have hgb := (Blk.new w 59 #[.int .i64 rm, .int .i64 rf, .int .i64 rt, .slice A0 n0 c0, .bool rc]).alloc (.cells #[.int .i64 0, .int .i64 0, .int .i64 0, .slice none 0 0, .bool false] 59)
  have hzb := Blk.new (w.alloc (.cells #[.int .i64 rm, .int .i64 rf, .int .i64 rt, .slice A0 n0 c0, .bool rc] 59)) 59 #[.int .i64 0, .int .i64 0, .int .i64 0, .slice none 0 0, .bool false]
  rw [World.size_alloc] at hzb
  have hil2 := hil.below hba
  have hz1 : ((w.alloc (.cells #[.int .i64 rm, .int .i64 rf, .int .i64 rt, .slice A0 n0 c0, .bool rc] 59)).alloc (.cells #[.int .i64 0, .int .i64 0, .int .i64 0, .slice none 0 0, .bool false] 59)).heap.size = w.heap.size + 2 := by simp
  replace hz1 := Lib.hid hz1
  have g3 := hgb.cell 3
  simp at g3
  have hcl := clone_any A0 n0 c0 l0 _ hil2 (by omega)
  go_enter Tryz.func49, Tryz.ntmps49
  go_wp2_with fail
  refine hcl.mono ?_
  rintro e w3 ⟨v3, rfl, ho3, hx3⟩
  obtain ⟨A3, c3, rfl, hfm⟩ := ho3.form
  clear hfm hcl g3
  have hb3 := hba.trans (hx3.mono hba.size)
  have hg3 := hgb.kept (Keep.of_below hx3) (Nat.not_le.2 hgb.lt)
  have hz3 := hzb.kept (Keep.of_below hx3) (Nat.not_le.2 hzb.lt)
  have hg4 := hg3.set_ 3 (.slice A3 l0.length c3)
  have hz4 := hz3.kept ((Keep.refl (fun k => k = w.heap.size) w3).setCell (p := ⟨w.heap.size, 3, none⟩) (fun _ => rfl) (.slice A3 l0.length c3)) (by omega)
  have k4 := (Keep.refl (fun k => k = w.heap.size) w3).setCell (p := ⟨w.heap.size, 3, none⟩) (fun _ => rfl) (.slice A3 l0.length c3)
  have q3 := hg3.cell 3
  have qf := hg3.frozen 3
  have ql := hg3.lt
  simp at q3 hg4
  clear hgb hzb hba hx3
  go_upto_region 2 with fail
  generalize hw4 : w3.setCell ⟨w.heap.size, 3, none⟩ (.slice A3 l0.length c3) = w4 at *
  have x0 := hg4.cell 0
  have x1 := hg4.cell 1
  have x2 := hg4.cell 2
  have x3 := hg4.cell 3
  have x4 := hg4.cell 4
  have z0 := hz4.cell 0
  have z1 := hz4.cell 1
  have z2 := hz4.cell 2
  have z3 := hz4.cell 3
  have z4 := hz4.cell 4
  have zf := fun i => hz4.frozen i
  have zl := hz4.lt
  simp at x0 x1 x2 x3 x4 z0 z1 z2 z3 z4
  clear q3 qf ql hw4
  go_wp2_with fail
  have zE := fill5 hz4 (.int .i64 rm) (.int .i64 rf) (.int .i64 rt) (.slice A3 l0.length c3) (.bool rc)
  have kE := keep5 w4 (w.heap.size + 1) (.int .i64 rm) (.int .i64 rf) (.int .i64 rt) (.slice A3 l0.length c3) (.bool rc)
  generalize ((((w4.setCell ⟨w.heap.size + 1, 0, none⟩ (.int .i64 rm)).setCell ⟨w.heap.size + 1, 1, none⟩ (.int .i64 rf)).setCell ⟨w.heap.size + 1, 2, none⟩ (.int .i64 rt)).setCell ⟨w.heap.size + 1, 3, none⟩ (.slice A3 l0.length c3)).setCell ⟨w.heap.size + 1, 4, none⟩ (.bool rc) = WE at zE kE ⊢
  have y0 := zE.cell 0
  have y1 := zE.cell 1
  have y2 := zE.cell 2
  have y3 := zE.cell 3
  have y4 := zE.cell 4
  simp at y0 y1 y2 y3 y4
  have hz9 := hb3.size
  have hb4 := hb3.trans (k4.below (B := w.heap.size) hz9 (fun i hi e => by omega))
  have hbE := hb4.trans (kE.below (B := w.heap.size) hb4.size (fun i hi e => by omega))
  rw [hz1.out] at ho3
  have ho4 := (ho3.kept k4 (fun g hg e => by have := (ho3.lt g hg).1; omega))
  have hoE := (ho4.kept kE (fun g hg e => by have := (ho4.lt g hg).1; omega)).mono (show w.heap.size ≤ w.heap.size + 2 by omega)
  refine bodyPost_ret (v := .agg #[.int .i64 rm, .int .i64 rf, .int .i64 rt, .slice A3 l0.length c3, .bool rc]) (by simp [results, Tryz.results49, go_sem, y0, y1, y2, y3, y4]) rfl ?_
  exact ⟨_, rfl, ⟨A3, c3, rfl, hoE⟩, hbE⟩
theorem mlen_nil (w : World) : Calls Tryz.prog 21 #[.pointer none] w fun e w' => e = .returned (.int .i64 0) ∧ w' = w := by
  go_enter Tryz.func21, Tryz.ntmps21
  go_wp2_with fail
  refine (pall_nil w).mono ?_
  rintro e w' ⟨rfl, hww⟩
  subst hww
  go_wp2
  go_ret
  exact ⟨rfl, rfl⟩
end
section
open Go.RowKit Go.Maps Go.Shelf Go.Sort
set_option linter.unusedVariables false
set_option linter.unusedSimpArgs false
attribute [local go_sem] Oper.semAt_some

/-- Is it on its way from the one to the other? -/
def onWay (r : Rec) (fr to : Int) : Bool := !r.c && (decide (r.f = fr) && decide (r.t = to))
/-- The sums over moves, up to the first that is refused. -/
def underO (f : Int → Rec) (fr to : Int) : List Int → List It → List It
  | [], acc => acc
  | x :: xs, acc => match onWay (f x) fr to with
    | false => underO f fr to xs acc
    | true => if plusE acc (f x).l.l = 0 then underO f fr to xs (plusR acc (f x).l.l) else acc
theorem keep_own {β : Type} (S : Nat → Prop) (w : World) : OwnFrom w.heap.size (fun (_ : β) W => Keep S w W) :=
  fun s A A' row hs hg hr => ⟨hg.os.trans hs.os, hg.tape.trans hs.tape, hg.output.trans hs.output, Nat.le_trans hs.size hg.size, fun k hk hn => (hg.block k (Nat.lt_of_lt_of_le hk hs.size) (fun e => by have := (hr k e.symm).1; omega)).trans (hs.block k hk hn)⟩
theorem oi_row {base B : Nat} {A A' : World} {row : Option Nat} {v : Value} {l : List It} (h : OI base A v l) (hg : A.grownBy A' row) (hr : ∀ r, row = some r → B ≤ r ∧ ∃ o : Obj, A.heap[r]? = some o ∧ o.isCells = false) : OI base A' v l := by
  refine h.kept (Keep.of_grown hg) fun g hgv e => ?_
  rcases h.2 with ⟨rfl, _⟩ | ⟨g', cap, cur, rfl, hb, hh, rest⟩
  · cases hgv
  · have : g' = g := Option.some.inj hgv
    subst this
    obtain ⟨o, ho, hc⟩ := (hr g' e).2
    rw [hh] at ho
    cases ho
    cases hc
theorem oi_notD {base D : Nat} {w : World} {v : Value} {l : List It} (h : OI base w v l) (hg : v.ownBlock = some D) {ds : Option (List Deferred)} (hD : w.heap[D]? = some (.deferred ds)) : False := by
  rcases h.2 with ⟨rfl, _⟩ | ⟨g', cap, cur, rfl, hb, hh, rest⟩
  · cases hg
  · have : g' = D := Option.some.inj hg
    subst this
    rw [hh] at hD
    cases hD
theorem blk_row {B : Nat} {A A' : World} {row : Option Nat} {g : Nat} {t : TypeId} {cs : Array Value} (h : Blk A g t cs) (hg : A.grownBy A' row) (hr : ∀ r, row = some r → B ≤ r ∧ ∃ o : Obj, A.heap[r]? = some o ∧ o.isCells = false) : Blk A' g t cs :=
  (hg.block g h.lt (fun e => by
    obtain ⟨o, ho, hc⟩ := (hr g e.symm).2
    rw [show A.heap[g]? = _ from h] at ho
    cases ho
    cases hc)).trans h
theorem my_wl {l : List It} (h : MY l) : WL l := fun x hx => by
  have h1 := h.num x hx
  have h2 := h.good x hx
  refine ⟨?_, by simp [Lit.wf, IntKind.min, IntKind.max, IntKind.signed, IntKind.bits]; omega⟩
  unfold gOK at h2
  simp only [Bool.and_eq_true, decide_eq_true_eq] at h2
  have h3 := h2.1.2
  unfold maxLen
  omega
set_option maxRecDepth 100000 in
set_option maxHeartbeats 6400000 in
theorem under_any {F : Nat → Prop} {w : World} {p b N : Nat} {f : Int → Rec} {ks : List Int} (h : PS F w p b N f ks) (hks : ks.length ≤ 1048576) (fr to : Int) :
    Calls Tryz.prog 19 #[.pointer (some ⟨p, 0, none⟩), .int .i64 fr, .int .i64 to] w fun e w' => ∃ v, e = .returned v ∧ OI w.heap.size w' v (underO f fr to (sortI ks) []) ∧ Below w.heap.size w w' := by
  obtain ⟨L, hL⟩ : ∃ L, sortI ks = L := ⟨_, rfl⟩
  rw [hL]
  replace hL := Lib.hid hL
  have hlt := h.lt
  have hb1 := (((Below.refl w.heap.size w).alloc (Nat.le_refl _) (.cells #[.int .i64 fr] 3)).alloc (by simp) (.cells #[.int .i64 to] 3)).alloc (by simp; omega) (.cells #[.slice none 0 0] 30)
  have e1 := ((Blk.new w 3 #[.int .i64 fr]).alloc (.cells #[.int .i64 to] 3)).alloc (.cells #[.slice none 0 0] 30)
  have e2 := (Blk.new (w.alloc (.cells #[.int .i64 fr] 3)) 3 #[.int .i64 to]).alloc (.cells #[.slice none 0 0] 30)
  have e3 := Blk.new ((w.alloc (.cells #[.int .i64 fr] 3)).alloc (.cells #[.int .i64 to] 3)) 30 #[.slice none 0 0]
  rw [World.size_alloc] at e2
  rw [World.size_alloc, World.size_alloc] at e3
  have hz1 : (((w.alloc (.cells #[.int .i64 fr] 3)).alloc (.cells #[.int .i64 to] 3)).alloc (.cells #[.slice none 0 0] 30)).heap.size = w.heap.size + 3 := by simp
  have hpr := prising_any (h.below hb1)
  replace hz1 := Lib.hid hz1
  refine (callsIn_wide (n := 9)).1 ?_
  refine callsIn_of_wp_marks Tryz.func19 rfl trivial ?_ rfl
  simp only [Tryz.ntmps19, List.size_toArray, List.length_cons, List.length_nil, Nat.reduceAdd, Nat.reduceSub, Array.replicate_succ, Array.replicate_zero, List.push_toArray, List.append_toArray, List.nil_append, List.cons_append]
  gi_wp2_with (refine ⟨trivial, ?_⟩; gi_at_call 33; refine (callsIn_wide.2 hpr).mono ?_; rintro e w2 ⟨W, D, rfl, rfl, hmD, hD, hbW⟩)
  rw [hz1.out] at hbW hmD
  rw [show w.heap.size + 1 + 1 + 1 = w.heap.size + 3 from rfl, show w.heap.size + 1 + 1 = w.heap.size + 2 from rfl]
  rw [show w.heap.size + 1 + 1 = w.heap.size + 2 from rfl] at e3
  have f1 := (e1.kept (Keep.of_below hbW) (by omega)).alloc (.cells #[.map (some (w.heap.size + 3))] 107)
  have f2 := (e2.kept (Keep.of_below hbW) (by omega)).alloc (.cells #[.map (some (w.heap.size + 3))] 107)
  have f3 := (e3.kept (Keep.of_below hbW) (by omega)).alloc (.cells #[.map (some (w.heap.size + 3))] 107)
  have hI := (cell_new_a W (.map (some (w.heap.size + 3))) 107).1
  have hm3 := hmD.alloc (.cells #[.map (some (w.heap.size + 3))] 107)
  have hzW := hbW.size
  rw [hz1.out] at hzW
  have hb3 := (hb1.trans (hbW.mono (by omega))).alloc (by omega) (.cells #[.map (some (w.heap.size + 3))] 107)
  have hz3 : (W.alloc (.cells #[.map (some (w.heap.size + 3))] 107)).heap.size = W.heap.size + 1 := by simp
  have hg := kmap_gives W.heap.size (w.heap.size + 3) N D f ks (fun k => k = w.heap.size + 2) (W.alloc (.cells #[.map (some (w.heap.size + 3))] 107)) (fun k e => by omega) hI hm3 hD hks (by omega) (by omega)
  have hsrt : sortI (intKeys D) = sortI ks := hD.sorted
  rw [hsrt, hL.out] at hg
  have hmem : ∀ x, x ∈ L → x ∈ ks := fun x hx => (List.mem_mergeSort).1 (show x ∈ sortI ks by rw [hL.out]; exact hx)
  clear e1 e2 e3 hb1 hbW hpr hsrt
  obtain ⟨w3, hw3⟩ : ∃ w3, W.alloc (.cells #[.map (some (w.heap.size + 3))] 107) = w3 := ⟨_, rfl⟩
  rw [hw3] at f1 f2 f3 hb3 hz3 hg ⊢
  clear hw3 hI hm3 hmD hD
  clear hL
  refine range_ownB (a := _) (w := w3) (w0 := w3) (gf := 77) (lb := #[.pointer (some ⟨W.heap.size, 0, none⟩)]) (by first | rfl | simp [go_sem]) (enters_of Tryz.func77 (by kernel_rfl) rfl) hg (Below.refl _ _) (fun k e => by omega) (fun _ => rfl)
    (fun pre W' => Keep (fun k => k = w.heap.size + 2) w3 W' ∧ ∃ acc A c, Blk W' (w.heap.size + 2) 30 #[.slice A acc.length c] ∧ OI w3.heap.size W' (.slice A acc.length c) acc ∧ MY acc ∧ ∀ rest, underO f fr to (pre ++ rest) [] = underO f fr to rest acc)
    (fun cd pre W' => cd = .exit 0 ∧ Keep (fun k => k = w.heap.size + 2) w3 W' ∧ ∃ acc A c, Blk W' (w.heap.size + 2) 30 #[.slice A acc.length c] ∧ OI w3.heap.size W' (.slice A acc.length c) acc ∧ ∀ rest, underO f fr to (pre ++ rest) [] = acc)
    ?hI ?hIx ⟨Keep.refl _ _, [], none, 0, f3, OI.nil _ _, MY.of_ (by decide), fun rest => rfl⟩ 59 (fun x => (f x).cs.toArray) ?round ?done ?stop
  case hI =>
    rintro s A A' row ⟨h1, acc, B, c, h2, h3, h4⟩ hg hr
    exact ⟨keep_own (β := List Int) _ w3 s A A' row h1 hg hr, acc, B, c, blk_row h2 hg hr, oi_row h3 hg hr, h4⟩
  case hIx =>
    rintro cd s A A' row ⟨h0, h1, acc, B, c, h2, h3, h4⟩ hg hr
    exact ⟨h0, keep_own (β := List Int) _ w3 s A A' row h1 hg hr, acc, B, c, blk_row h2 hg hr, oi_row h3 hg hr, h4⟩
  case round =>
    apply Exists.intro
    constructor
    · rintro l' pre x W' K hpre hz ⟨hk, acc, A, c, hS, hO, hMY, hu⟩ hK
      obtain ⟨r, hr⟩ : ∃ r, f x = r := ⟨_, rfl⟩
      obtain ⟨rm, rf, rt, ⟨A0, n0, c0, l0⟩, rc⟩ := r
      have hv : (f x).v = .agg #[.int .i64 rm, .int .i64 rf, .int .i64 rt, .slice A0 n0 c0, .bool rc] := by rw [hr]; rfl
      have hcs : (f x).cs.toArray = #[.int .i64 rm, .int .i64 rf, .int .i64 rt, .slice A0 n0 c0, .bool rc] := by rw [hr]; rfl
      rw [hv]
      rw [hcs] at hK
      have hz2 : w3.heap.size ≤ W'.heap.size := hz
      obtain ⟨Bx, hBx⟩ : ∃ Bx, Bx = W'.heap.size := ⟨_, rfl⟩
      have hK2 := hK Bx (W'.alloc (.cells #[.int .i64 rm, .int .i64 rf, .int .i64 rt, .slice A0 n0 c0, .bool rc] 59)) ((Keep.refl _ W').alloc _) ⟨hk.alloc _, acc, A, c, hS.alloc _, hO.alloc _, hMY, hu⟩ (by omega) (by rw [hBx]; exact Blk.new W' _ _)
      gi_wp2
      rw [← hBx, ← hv]
      exact hK2
    · rintro l' pre x Bx W' hpre hz ⟨hk, acc, A, c, hS, hO, hMY, hu⟩ hBx hB
      have hxks : x ∈ ks := hmem x (hpre.subset (by simp))
      have hrc := h.ok x hxks
      have hun := fun rest => hu (x :: rest)
      obtain ⟨r, hr⟩ : ∃ r, f x = r := ⟨_, rfl⟩
      rw [hr] at hrc
      simp only [underO, hr] at hun
      rw [hr] at hB
      obtain ⟨rm, rf, rt, ⟨A0, n0, c0, l0⟩, rc⟩ := r
      change Blk W' Bx 59 #[.int .i64 rm, .int .i64 rf, .int .i64 rt, .slice A0 n0 c0, .bool rc] at hB
      have c1 := (f1.kept hk (by omega)).cell 0
      have c2 := (f2.kept hk (by omega)).cell 0
      have c3 := hS.cell 0
      have cf := hS.frozen 0
      have cl := hS.lt
      have x1 := hB.cell 1
      have x2 := hB.cell 2
      have x3 := hB.cell 3
      have x4 := hB.cell 4
      simp at c1 c2 c3 x1 x2 x3 x4
      have hskip : onWay ⟨rm, rf, rt, ⟨A0, n0, c0, l0⟩, rc⟩ fr to = false → ∀ rest, underO f fr to ((pre ++ [x]) ++ rest) [] = underO f fr to rest acc := fun e rest => by
        rw [List.append_assoc, List.singleton_append, hun rest, e]
      have hgo : onWay ⟨rm, rf, rt, ⟨A0, n0, c0, l0⟩, rc⟩ fr to = true → ∀ rest, underO f fr to ((pre ++ [x]) ++ rest) [] = if plusE acc l0 = 0 then underO f fr to rest (plusR acc l0) else acc := fun e rest => by
        rw [List.append_assoc, List.singleton_append, hun rest, e]
      clear hun hr
      cases rc with
      | true =>
        have hs := hskip rfl
        clear hskip hgo
        gi_wp2
        exact ⟨Keep.refl _ _, hk, acc, A, c, hS, hO, hMY, hs⟩
      | false =>
      by_cases g1 : rf = fr
      case neg =>
        have b1 : (rf != fr) = true := by simp [g1]
        have hs := hskip (by unfold onWay; simp [g1])
        clear hskip hgo g1
        gi_wp2
        exact ⟨Keep.refl _ _, hk, acc, A, c, hS, hO, hMY, hs⟩
      by_cases g2 : rt = to
      case neg =>
        have b1 : (rf != fr) = false := by simp [g1]
        have b2 : (rt != to) = true := by simp [g2]
        have hs := hskip (by unfold onWay; simp [g2])
        clear hskip hgo g1 g2
        gi_wp2
        exact ⟨Keep.refl _ _, hk, acc, A, c, hS, hO, hMY, hs⟩
      have b1 : (rf != fr) = false := by simp [g1]
      have b2 : (rt != to) = false := by simp [g2]
      have hs := hgo (by unfold onWay; simp [g1, g2])
      clear hskip hgo g1 g2
      have hil0 : IL W' A0 n0 l0 := by
        have hwlt := hrc.l_.il.lt
        exact (hrc.l_.il.below hb3).kept hk (fun ad e hn e2 => by have := hwlt ad e hn; omega)
      have hilA := (hO.form)
      obtain ⟨A', c', hv, -, -, hilA, -⟩ := hilA
      simp only [Value.slice.injEq] at hv
      obtain ⟨rfl, -, -⟩ := hv
      have hmy0 := MY.of_ hrc.l_.may
      have hn0 : l0.length = n0 := hrc.l_.il.len
      have h16 := hmy0.len
      have h16' := hMY.len
      dsimp only at h16
      have hpl := plus_any A A0 acc.length c n0 c0 acc l0 W' hilA hil0 (by omega) (by omega) (my_wl hMY) hrc.l_.lit
      obtain ⟨pe, hpe⟩ : ∃ pe, plusE acc l0 = pe := ⟨_, rfl⟩
      rw [hpe] at hpl
      replace hpe := Lib.hid hpe
      replace hs := Lib.hid hs
      by_cases hp0 : pe = 0
      · subst hp0
        gi_wp2_with (refine ⟨trivial, ?_⟩; gi_at_call 50; refine (callsIn_wide.2 hpl).mono ?_; rintro e W5 ⟨v5, rfl, hO5, hx5⟩; obtain ⟨A5, c5, rfl, -, -, hil5, hal5⟩ := hO5.form; have hS5 := hS.kept (Keep.of_below hx5) (Nat.not_le.2 hS.lt); have q5 := hS5.cell 0; have qf := hS5.frozen 0; have ql := hS5.lt; simp at q5)
        have hmy5 := (plus_ok hMY hmy0 hpe.out).1
        have hs5 := fun rest => (hs.out rest).trans (if_pos hpe.out)
        have k5 := (Keep.ofB (S := fun k => k = w.heap.size + 2) hx5).setCell (p := ⟨w.heap.size + 2, 0, none⟩) (fun _ => rfl) (.slice A5 (plusR acc l0).length c5)
        have hS6 := hS5.set_ 0 (.slice A5 (plusR acc l0).length c5)
        simp at hS6
        have hO6 := (hO5.mono (show w3.heap.size ≤ W'.heap.size from hz)).kept ((Keep.refl (fun k => k = w.heap.size + 2) W5).setCell (p := ⟨w.heap.size + 2, 0, none⟩) (fun _ => rfl) (.slice A5 (plusR acc l0).length c5)) (fun g hg e => by have := ((hO5.mono (show w3.heap.size ≤ W'.heap.size from hz)).lt g hg).1; omega)
        exact ⟨k5, hk.trans k5 (fun _ _ e => e), plusR acc l0, A5, c5, hS6, hO6, hmy5, hs5⟩
      · have hpn : (pe != 0) = true := by simp [hp0]
        gi_wp2_with (refine ⟨trivial, ?_⟩; gi_at_call 50; refine (callsIn_wide.2 hpl).mono ?_; rintro e W5 ⟨v5, rfl, hO5, hx5⟩; obtain ⟨A5, c5, rfl, -, -, hil5, hal5⟩ := hO5.form; have hS5 := hS.kept (Keep.of_below hx5) (Nat.not_le.2 hS.lt); have q5 := hS5.cell 0; have qf := hS5.frozen 0; have ql := hS5.lt; simp at q5)
        have hs5 := fun rest => (hs.out rest).trans (if_neg (by rw [hpe.out]; exact hp0))
        have k5 := Keep.ofB (S := fun k => k = w.heap.size + 2) hx5
        exact ⟨k5, rfl, hk.trans k5 (fun _ _ e => e), acc, A, c, hS5, hO.below hx5, hs5⟩
  case done =>
    rintro E W' hE ⟨hk, acc, A, c, hS, hO, hMY, hu⟩ hDf
    have hres := hu []
    rw [List.append_nil] at hres
    have q0 := hS.cell 0
    simp at q0
    have hbF := hb3.trans (hk.below (B := w.heap.size) hb3.size (fun i hi e => by omega))
    have hz9 := hb3.size
    replace hres := Lib.hid hres
    gi_wp2
    refine ⟨by simp, .inl ⟨_, _, rfl, run_takeDeferred hDf, ?_⟩⟩
    exact ⟨_, results_tmp rfl _ _ _, _, rfl, (by rw [hres.out]; exact (hO.kept (S := fun k => k = E) (Keep.putObj (S := fun k => k = E) (Keep.refl _ W') rfl _) (fun g hg e => by subst e; exact oi_notD hO hg hDf)).mono hz9), bel_putD hbF (by omega) hDf⟩
  case stop =>
    rintro E cd pre W' hE hpre ⟨rfl, hk, acc, A, c, hS, hO, hu⟩ hDf
    obtain ⟨rest, hrest⟩ := hpre
    have hres := hu rest
    rw [hrest] at hres
    have q0 := hS.cell 0
    simp at q0
    have hbF := hb3.trans (hk.below (B := w.heap.size) hb3.size (fun i hi e => by omega))
    have hz9 := hb3.size
    replace hres := Lib.hid hres
    gi_wp2
    refine ⟨by simp, .inl ⟨_, _, rfl, run_takeDeferred hDf, ?_⟩⟩
    exact ⟨_, results_tmp rfl _ _ _, _, rfl, (by rw [hres.out]; exact (hO.kept (S := fun k => k = E) (Keep.putObj (S := fun k => k = E) (Keep.refl _ W') rfl _) (fun g hg e => by subst e; exact oi_notD hO hg hDf)).mono hz9), bel_putD hbF (by omega) hDf⟩
end
section
open Go.RowKit Go.Maps Go.Shelf Go.Sort
set_option linter.unusedVariables false
set_option linter.unusedSimpArgs false
attribute [local go_sem] Oper.semAt_some

set_option maxRecDepth 100000 in
set_option maxHeartbeats 3200000 in
theorem under_nil (fr to : Int) (w : World) : Calls Tryz.prog 19 #[.pointer none, .int .i64 fr, .int .i64 to] w fun e w' => e = .returned (.slice none 0 0) ∧ Below w.heap.size w w' := by
  have hb1 := (((Below.refl w.heap.size w).alloc (Nat.le_refl _) (.cells #[.int .i64 fr] 3)).alloc (by simp) (.cells #[.int .i64 to] 3)).alloc (by simp; omega) (.cells #[.slice none 0 0] 30)
  have e3 := Blk.new ((w.alloc (.cells #[.int .i64 fr] 3)).alloc (.cells #[.int .i64 to] 3)) 30 #[.slice none 0 0]
  rw [World.size_alloc, World.size_alloc] at e3
  have hz1 : (((w.alloc (.cells #[.int .i64 fr] 3)).alloc (.cells #[.int .i64 to] 3)).alloc (.cells #[.slice none 0 0] 30)).heap.size = w.heap.size + 3 := by simp
  obtain ⟨w1, hw1⟩ : ∃ w1, w1 = ((w.alloc (.cells #[.int .i64 fr] 3)).alloc (.cells #[.int .i64 to] 3)).alloc (.cells #[.slice none 0 0] 30) := ⟨_, rfl⟩
  have hpr := prising_nil (((w.alloc (.cells #[.int .i64 fr] 3)).alloc (.cells #[.int .i64 to] 3)).alloc (.cells #[.slice none 0 0] 30))
  rw [← hw1] at hb1 e3 hz1
  replace hz1 := Lib.hid hz1
  replace hw1 := Lib.hid hw1
  refine (callsIn_wide (n := 9)).1 ?_
  refine callsIn_of_wp_marks Tryz.func19 rfl trivial ?_ rfl
  simp only [Tryz.ntmps19, List.size_toArray, List.length_cons, List.length_nil, Nat.reduceAdd, Nat.reduceSub, Array.replicate_succ, Array.replicate_zero, List.push_toArray, List.append_toArray, List.nil_append, List.cons_append]
  gi_wp2_with (refine ⟨trivial, ?_⟩; gi_at_call 33; refine (callsIn_wide.2 hpr).mono ?_; rintro e w2 ⟨rfl, rfl⟩)
  rw [← hw1.out]
  have f3 := e3.alloc (.cells #[.map none] 107)
  have hI := (cell_new_a w1 (.map none) 107).1
  have hb3 := hb1.alloc hb1.size (.cells #[.map none] 107)
  have hz3 : (w1.alloc (.cells #[.map none] 107)).heap.size = w.heap.size + 4 := by simp [hz1.out]
  refine range_none (by first | rfl | simp [go_sem, hz1.out]) (enters_of Tryz.func77 (by kernel_rfl) rfl) (kmap_nil_goes w1.heap.size _ (by simp) hI) ?_
  intro D Wd hD hb hDf
  have hb4 := hb3.trans (hb.mono hb3.size)
  have f4 := f3.kept (Keep.of_below hb) (Nat.not_le.2 f3.lt)
  have q0 := f4.cell 0
  simp at q0
  rw [hz3] at hD
  rw [show w.heap.size + 1 + 1 = w.heap.size + 2 from rfl] at q0
  gi_wp2
  refine ⟨by simp, .inl ⟨_, _, rfl, run_takeDeferred hDf, ?_⟩⟩
  exact ⟨_, results_tmp rfl _ _ _, rfl, bel_putD hb4 (by omega) hDf⟩
theorem func_eqW (d : Nat) (fn : Fn) (first cap : Array Value) (W : World) : (Op.equalIn (d + 1) 51 (.func fn first cap) .nilFunc).run Tryz.prog W = .ok false W := by
  simp [Op.equalIn, run_underlying Tryz.underlying51]
theorem func_eq_nilW (fn : Fn) (first cap : Array Value) (W : World) : (binOp .eql 51 (.func fn first cap) .nilFunc).run Tryz.prog W = .ok (.bool false) W := by
  have h := func_eqW 9999 fn first cap W
  simp only [binOp]
  simp [Op.equal, Op.maxDepth, h]
def pl5 : List It := [([97], 5)]
theorem pl_may5 : mayL pl5 = true := by decide
theorem pl_may0 : mayL [] = true := by decide
theorem pl_rows5 : rowsN ([] ++ pl5) = pl5 := by
  rw [rowsN_eq ([] ++ pl5) [[97]] (by decide) (fun g => by simp [pl5])]
  decide
theorem pl_plusE5 : plusE [] pl5 = 0 := by
  unfold plusE normE
  rw [pl_may0, pl_may5, pl_rows5]
  decide
theorem pl_plusR5 : plusR [] pl5 = pl5 := by
  have h : normE ([] ++ pl5) = 0 := by have := pl_plusE5; unfold plusE at this; rw [pl_may0, pl_may5] at this; exact this
  unfold plusR normR
  rw [pl_may0, pl_may5, h, pl_rows5]
  rfl
theorem pl_wl5 : WL pl5 := fun x hx => by simp [pl5] at hx; subst hx; exact ⟨by simp [maxLen], by decide⟩
theorem pl_go : goE [] 1 0 2 pl5 = 0 := by decide +kernel
theorem pl_under (f : Int → Rec) (x : Ls) (hx : x.l = pl5) (e : f 1 = ⟨1, 0, 2, x, false⟩) : underO f 0 2 (sortI [1]) [] = pl5 := by
  rw [show sortI [1] = [1] from by unfold sortI; simp]
  unfold underO
  rw [e]
  show (if plusE [] x.l = 0 then underO f 0 2 [] (plusR [] x.l) else []) = pl5
  rw [hx, pl_plusE5, if_pos rfl, pl_plusR5]
  rfl
theorem pl_under2 (f : Int → Rec) (x : Ls) (e : f 1 = ⟨1, 0, 2, x, true⟩) : underO f 0 2 (sortI [1]) [] = [] := by
  rw [show sortI [1] = [1] from by unfold sortI; simp]
  unfold underO
  rw [e]
  rfl
set_option maxRecDepth 100000 in
set_option maxHeartbeats 3200000 in
theorem lives_any (w : World) : Calls Tryz.prog 6 #[] w fun e w' => e = .returned (.bool true) ∧ Below w.heap.size w w' := by
  have hnn := func_eq_nilW
  go_enter Tryz.func6, Tryz.ntmps6
  go_wp2_with fail
  refine (pnew_any _).mono ?_
  rintro e w1 ⟨p, b, rfl, hP, hpw, hbw, hb⟩
  go_wp2_with fail
  refine (pall_make _ _).mono ?_
  rintro e w2 ⟨rfl, hww⟩
  replace hP := hP.alloc (.cells #[.pointer (some ⟨p, 0, none⟩)] 23)
  replace hb := hb.alloc hb.size (.cells #[.pointer (some ⟨p, 0, none⟩)] 23)
  rw [← hww] at hP hb
  clear hww
  have hlt := hP.lt
  have hil := IL.one w2 [97] 5 54
  have hPa := hP.alloc (.cells #[.string ⟨#[97]⟩, .int .i64 5] 54)
  have hba := hb.alloc hb.size (.cells #[.string ⟨#[97]⟩, .int .i64 5] 54)
  obtain ⟨lb, hlb⟩ : ∃ lb, w2.heap.size = lb := ⟨_, rfl⟩
  have hz3 : (w2.alloc (.cells #[.string ⟨#[97]⟩, .int .i64 5] 54)).heap.size = lb + 1 := by simp [hlb]
  rw [hlb] at hil hlt
  replace hlb := Lib.hid hlb
  replace hz3 := Lib.hid hz3
  have c1 := go_ok hPa (by simp [maxLen]) 1 0 2 (some ⟨lb, 0, none⟩) 1 pl5 hil pl_wl5 (by decide) pl_go
  clear hP hb
  go_upto_region 5 with fail
  rw [hlb.out]
  go_wp2_with fail
  refine c1.mono ?_
  rintro e w3 ⟨rfl, x, hx, hP, hk⟩
  have hb := hba.trans (hk.below (B := w.heap.size) hba.size (fun i hi e => by omega))
  have hil3 := hil.kept hk (fun ad e _ e2 => by cases e; dsimp only at e2; omega)
  clear c1 hPa hba hk hil
  obtain ⟨f1, e1, hP⟩ : ∃ f1 : Int → Rec, f1 1 = ⟨1, 0, 2, x, false⟩ ∧ PS _ w3 p b _ f1 (addK [] 1) := ⟨_, if_pos rfl, hP⟩
  rw [show addK [] 1 = [1] from rfl] at hP
  have hlt3 := hP.lt
  have c1 := under_any hP (by simp) 0 2
  rw [pl_under f1 x hx e1] at c1
  go_wp2_with fail
  refine c1.mono ?_
  rintro e w4 ⟨v4, rfl, hO4, hx4⟩
  replace hP := hP.below hx4
  replace hb := hb.trans (hx4.mono hb.size)
  replace hil3 := hil3.below hx4
  obtain ⟨A4, c4, rfl, -, -, hil4, hal4⟩ := hO4.form
  simp only [show pl5.length = 1 from rfl] at hil4 hil3 ⊢
  have hbw4 := hP.lt.2
  have hal4b : ∀ ad, A4 = some ad → ¬ ad.block = b := fun ad e => by have h1 := (hal4 ad e).1; have h2 := hlt3.2; omega
  clear c1 hx4 hO4 hal4
  have c1 := come_ok hP (by simp [maxLen]) 1 (by decide) (by simp) (by rw [e1])
  rw [e1] at c1
  go_wp2_with fail
  refine c1.mono ?_
  rintro e w5 ⟨v5, rfl, hO5, hP, hk⟩
  have hbz := hb.size
  replace hb := hb.trans (hk.below (B := w.heap.size) hb.size (fun i hi e => by omega))
  replace hil3 := hil3.kept hk (fun ad e _ e2 => by cases e; dsimp only at e2; omega)
  replace hil4 := hil4.kept hk (fun ad e _ e2 => hal4b ad e e2)
  rw [show (⟨1, 0, 2, x, false⟩ : Rec).l.l = pl5 from hx] at hO5
  obtain ⟨A5, c5, rfl, -, -, hil5, -⟩ := hO5.form
  simp only [show pl5.length = 1 from rfl] at hil5 ⊢
  clear c1 hk hO5
  obtain ⟨f2, e2, hP⟩ : ∃ f2 : Int → Rec, f2 1 = ⟨1, 0, 2, x, true⟩ ∧ PS _ w5 p b _ f2 [1] := ⟨_, if_pos rfl, hP⟩
  go_wp2_with fail
  refine (come_twice hP 1 (by decide) (by simp) (by rw [e2])).mono ?_
  rintro e w6 ⟨rfl, hx6⟩
  replace hP := hP.below hx6
  replace hb := hb.trans (hx6.mono hb.size)
  replace hil3 := hil3.below hx6
  replace hil4 := hil4.below hx6
  replace hil5 := hil5.below hx6
  have s1 := same_b A4 (some ⟨lb, 0, none⟩) 1 c4 1 1 pl5 pl5 w6 hil4 hil3 (by decide)
  rw [show decide (pl5 = pl5) = true from by decide] at s1
  go_wp2_with fail
  refine s1.mono ?_
  rintro e w7 ⟨rfl, hx7⟩
  replace hP := hP.below hx7
  replace hb := hb.trans (hx7.mono hb.size)
  replace hil3 := hil3.below hx7
  replace hil5 := hil5.below hx7
  have s2 := same_b A5 (some ⟨lb, 0, none⟩) 1 c5 1 1 pl5 pl5 w7 hil5 hil3 (by decide)
  rw [show decide (pl5 = pl5) = true from by decide] at s2
  clear s1
  go_wp2_with fail
  refine s2.mono ?_
  rintro e w8 ⟨rfl, hx8⟩
  replace hP := hP.below hx8
  replace hb := hb.trans (hx8.mono hb.size)
  clear s2 hil3 hil4 hil5
  go_wp2_with fail
  refine (mlen_any hP).mono ?_
  rintro e w' ⟨rfl, hww⟩
  subst w'
  go_wp2_with fail
  refine (forget_no hP 2 (by decide) (by decide)).mono ?_
  rintro e w9 ⟨rfl, hx9⟩
  replace hP := hP.below hx9
  replace hb := hb.trans (hx9.mono hb.size)
  have c1 := under_any hP (by simp) 0 2
  rw [pl_under2 f2 x e2] at c1
  go_wp2_with fail
  refine c1.mono ?_
  rintro e w10 ⟨v10, rfl, hO10, hx10⟩
  replace hb := hb.trans (hx10.mono hb.size)
  obtain ⟨A10, c10, rfl, -, -, -, -⟩ := hO10.form
  simp only [List.length_nil]
  clear c1 hO10
  go_wp2
  go_ret
  exact ⟨rfl, hb⟩
end
section
open Go.RowKit
set_option linter.unusedVariables false

theorem cells_int : Tryz.prog.cellsOf 3 = 1 := by kernel_rfl
theorem cells_items : Tryz.prog.cellsOf 30 = 1 := by kernel_rfl
theorem cells_op : Tryz.prog.cellsOf 32 = 5 := by kernel_rfl
/-- A call. -/
structure OpV where
  i0 : Int
  i1 : Int
  i2 : Int
  i3 : Int
  l : List It
structure OpVAt (w : World) (o : OpV) (A : Option Addr) (c : Nat) : Prop where
  il : IL w A o.l.length o.l
  wl : WL o.l
  cap : o.l.length ≤ c
  capm : c ≤ 9223372036854775807
  w0 : (Lit.int .i64 o.i0).wf = true
  w1 : (Lit.int .i64 o.i1).wf = true
  w2 : (Lit.int .i64 o.i2).wf = true
  w3 : (Lit.int .i64 o.i3).wf = true
theorem OpVAt.below {w w' : World} {o : OpV} {A : Option Addr} {c : Nat} (h : OpVAt w o A c) (hb : Below w.heap.size w w') : OpVAt w' o A c := ⟨h.il.below hb, h.wl, h.cap, h.capm, h.w0, h.w1, h.w2, h.w3⟩
set_option maxRecDepth 100000 in
open Go.ChangeShapes Go.WideShapes in
theorem opv_cells {H : Type} {enc : TypeId × Value → H} {w : World} {fuel : Nat} {c0 c1 c2 c3 c4 : Value} {x : DataW H × List MemPlace}
    (h : DataW.trod enc Tryz.prog w 0 (fun _ => true) true fuel 32 [c0, c1, c2, c3, c4] = some x) :
    ∃ (o : OpV) (A : Option Addr) (c : Nat), c0 = .int .i64 o.i0 ∧ c1 = .int .i64 o.i1 ∧ c2 = .int .i64 o.i2 ∧ c3 = .int .i64 o.i3 ∧ c4 = .slice A o.l.length c ∧ OpVAt w o A c := by
  obtain ⟨xs, m, _, hx, _, hlen, hg⟩ := DataW.trod_struct Tryz.underlying32 h
  have h0 : DataW.trod enc Tryz.prog w 0 (fun _ => true) true m 3 (([c0, c1, c2, c3, c4].drop 0).take (Tryz.prog.cellsOf 3)) = xs[0]? := hg 0 _ rfl
  have h1 : DataW.trod enc Tryz.prog w 0 (fun _ => true) true m 3 (([c0, c1, c2, c3, c4].drop 1).take (Tryz.prog.cellsOf 3)) = xs[1]? := hg 1 _ rfl
  have h2 : DataW.trod enc Tryz.prog w 0 (fun _ => true) true m 3 (([c0, c1, c2, c3, c4].drop 2).take (Tryz.prog.cellsOf 3)) = xs[2]? := hg 2 _ rfl
  have h3 : DataW.trod enc Tryz.prog w 0 (fun _ => true) true m 3 (([c0, c1, c2, c3, c4].drop 3).take (Tryz.prog.cellsOf 3)) = xs[3]? := hg 3 _ rfl
  have h4 : DataW.trod enc Tryz.prog w 0 (fun _ => true) true m 30 (([c0, c1, c2, c3, c4].drop 4).take (Tryz.prog.cellsOf 30)) = xs[4]? := hg 4 _ rfl
  match xs, hlen with
  | [y0, y1, y2, y3, y4], _ =>
    rw [cells_int] at h0 h1 h2 h3
    rw [cells_items] at h4
    simp at h0 h1 h2 h3 h4
    obtain ⟨k0, e0, x0, w0⟩ := DataW.trod_int Tryz.underlying3 h0
    obtain ⟨k1, e1, x1, w1⟩ := DataW.trod_int Tryz.underlying3 h1
    obtain ⟨k2, e2, x2, w2⟩ := DataW.trod_int Tryz.underlying3 h2
    obtain ⟨k3, e3, x3, w3⟩ := DataW.trod_int Tryz.underlying3 h3
    simp only [List.cons.injEq, and_true] at e0 e1 e2 e3
    have key : ∃ (A : Option Addr) (ln cp : Nat), c4 = .slice A ln cp := by
      rcases DataW.trod_slice Tryz.underlying30 h4 with ⟨hcs, _⟩ | ⟨a', ln, cp, _, _, _, _, hcs, _⟩
      · simp only [List.cons.injEq, and_true] at hcs
        exact ⟨none, 0, 0, hcs⟩
      · simp only [List.cons.injEq, and_true] at hcs
        exact ⟨some a', ln, cp, hcs⟩
    obtain ⟨A, ln, cp, rfl⟩ := key
    obtain ⟨l, hl, hw, hlc, hcm, _⟩ := items_open (W := w) (d := y4.1) (p := y4.2) ⟨m, by simpa [Value.cells] using h4⟩
    have hln := hl.len
    subst hln
    exact ⟨⟨k0, k1, k2, k3, l⟩, A, cp, e0, e1, e2, e3, rfl, hl, hw, hlc, hcm, w0, w1, w2, w3⟩
set_option maxRecDepth 100000 in
open Go.ChangeShapes Go.WideShapes in
theorem opv_open {H : Type} {enc : TypeId × Value → H} {w : World} {r : Reach} {b0 : Nat} {v : Value} {d : DataW H} {p : List MemPlace}
    (hv : Value.okWide Tryz.prog w r b0 32 v) (h : DataW.Trod enc Tryz.prog w 0 (fun _ => true) true 32 v d p) :
    ∃ (o : OpV) (A : Option Addr) (c : Nat), v = .agg #[.int .i64 o.i0, .int .i64 o.i1, .int .i64 o.i2, .int .i64 o.i3, .slice A o.l.length c] ∧ OpVAt w o A c := by
  obtain ⟨cs, rfl, hsz⟩ := okWide_struct Tryz.underlying32 hv
  rw [cells_op] at hsz
  obtain ⟨l⟩ := cs
  match l, hsz with
  | [c0, c1, c2, c3, c4], _ =>
    obtain ⟨fuel, hf⟩ := h
    obtain ⟨o, A, c, rfl, rfl, rfl, rfl, rfl, h1⟩ := opv_cells (by simpa [Value.cells] using hf)
    exact ⟨o, A, c, rfl, h1⟩
/-- A call, and where its list lies. -/
structure OpX where
  o : OpV
  A : Option Addr
  c : Nat
/-- The cells of a call, at off in block b. -/
structure OpAtX (w : World) (b off : Nat) (x : OpX) : Prop where
  c0 : w.cell? ⟨b, off, none⟩ = some (.int .i64 x.o.i0)
  c1 : w.cell? ⟨b, off + 1, none⟩ = some (.int .i64 x.o.i1)
  c2 : w.cell? ⟨b, off + 2, none⟩ = some (.int .i64 x.o.i2)
  c3 : w.cell? ⟨b, off + 3, none⟩ = some (.int .i64 x.o.i3)
  c4 : w.cell? ⟨b, off + 4, none⟩ = some (.slice x.A x.o.l.length x.c)
  at_ : OpVAt w x.o x.A x.c
/-- The slice reads as these calls. -/
def OPX (w : World) (A : Option Addr) (len : Nat) (f : Nat → OpX) : Prop :=
  0 < len → ∃ b off, A = some ⟨b, off, none⟩ ∧ b < w.heap.size ∧ ∀ i, i < len → OpAtX w b (off + i * 5) (f i)
theorem OpAtX.below {w w' : World} {b off : Nat} {x : OpX} (h : OpAtX w b off x) (hb : Below w.heap.size w w') : OpAtX w' b off x :=
  ⟨(hb.cell (World.block_lt_of_cell? _ _ h.c0)).trans h.c0, (hb.cell (World.block_lt_of_cell? _ _ h.c1)).trans h.c1, (hb.cell (World.block_lt_of_cell? _ _ h.c2)).trans h.c2, (hb.cell (World.block_lt_of_cell? _ _ h.c3)).trans h.c3, (hb.cell (World.block_lt_of_cell? _ _ h.c4)).trans h.c4, h.at_.below hb⟩
theorem OPX.below {w w' : World} {A : Option Addr} {len : Nat} {f : Nat → OpX} (h : OPX w A len f) (hb : Below w.heap.size w w') : OPX w' A len f := fun hl => by
  obtain ⟨b, off, e, hlt, h2⟩ := h hl
  exact ⟨b, off, e, Nat.lt_of_lt_of_le hlt hb.size, fun i hi => (h2 i hi).below hb⟩
set_option maxRecDepth 100000 in
open Go.ChangeShapes Go.WideShapes in
theorem ops_open {H : Type} {enc : TypeId × Value → H} {W : World} {a : Option Addr} {len cap : Nat} {d : DataW H} {p : List MemPlace}
    (h : DataW.Trod enc Tryz.prog W 0 (fun _ => true) true 22 (.slice a len cap) d p) :
    ∃ f, OPX W a len f ∧ len ≤ cap ∧ cap ≤ 9223372036854775807 := by
  have dflt : OpX := ⟨⟨0, 0, 0, 0, []⟩, none, 0⟩
  obtain ⟨fuel, hf⟩ := h
  rcases Go.Deep.open_slice Tryz.underlying22 hf with ⟨hcs, hx⟩ | ⟨x, l, c, m, n, D, Pl, hcs, _, hl, hm, hmm, hx, hi⟩
  · simp [Value.cells] at hcs
    obtain ⟨rfl, rfl, rfl⟩ := hcs
    exact ⟨fun _ => dflt, fun hn => absurd hn (by omega), Nat.le_refl _, by omega⟩
  · simp [Value.cells] at hcs
    obtain ⟨rfl, rfl, rfl⟩ := hcs
    simp at hmm
    subst hmm
    rw [cells_op] at hi
    obtain ⟨b, off, spot⟩ := x
    by_cases hpos : 0 < len
    · have hspot : spot = none := by
        obtain ⟨cs', hc, _⟩ := hi 0 (by omega)
        obtain ⟨_, hlen, hat⟩ := World.cells?_some hc
        have h0 := hat 0 (by omega)
        rw [List.getElem?_eq_getElem (by omega)] at h0
        have := World.cell?_spot h0
        simpa [Addr.add] using this
      subst hspot
      have key : ∀ i, ∃ o : OpX, i < len → OpAtX W b (off + i * 5) o := by
        intro i
        by_cases hil : i < len
        · obtain ⟨cs', hc, ht'⟩ := hi i (by omega)
          obtain ⟨_, hlen, hat⟩ := World.cells?_some hc
          match cs', hlen with
          | [c0, c1, c2, c3, c4], _ =>
            obtain ⟨o, A, c, rfl, rfl, rfl, rfl, rfl, hx⟩ := opv_cells ht'
            have h0 := hat 0 (by omega)
            have h1 := hat 1 (by omega)
            have h2 := hat 2 (by omega)
            have h3 := hat 3 (by omega)
            have h4 := hat 4 (by omega)
            simp only [Addr.add_lit, Nat.add_zero, List.getElem?_cons_zero, List.getElem?_cons_succ] at h0 h1 h2 h3 h4
            exact ⟨⟨o, A, c⟩, fun _ => ⟨h0, h1, h2, h3, h4, hx⟩⟩
        · exact ⟨dflt, fun h => absurd h hil⟩
      refine ⟨fun i => (key i).choose, fun _ => ⟨b, off, rfl, ?_, fun i hil => (key i).choose_spec hil⟩, hl, by unfold maxLen at hm; omega⟩
      exact World.block_lt_of_cell? _ _ ((key 0).choose_spec hpos).c0
    · exact ⟨fun _ => dflt, fun hn => absurd hn hpos, hl, by unfold maxLen at hm; omega⟩
end
section
open Go.RowKit Go.Maps Go.Shelf Go.Sort
set_option linter.unusedVariables false
set_option linter.unusedSimpArgs false

set_option maxRecDepth 100000 in
set_option maxHeartbeats 3200000 in
theorem rsame_nil (A : Option Addr) (a : Nat) (w : World) : Calls Tryz.prog 44 #[.agg #[.int .i64 0, .int .i64 0, .int .i64 0, .slice A 0 a, .bool false], .agg #[.int .i64 0, .int .i64 0, .int .i64 0, .slice none 0 0, .bool false]] w fun e w' => e = .returned (.bool true) ∧ Below w.heap.size w w' := by
  have hs := fun (W : World) => same_b A none 0 a 0 0 [] [] W (IL.nil _ _) (IL.nil _ _) (by decide)
  rw [show decide (([] : List It) = []) = true from rfl] at hs
  have hb := ((Below.refl w.heap.size w).alloc (Nat.le_refl _) (.cells #[.int .i64 0, .int .i64 0, .int .i64 0, .slice A 0 a, .bool false] 59)).alloc (by simp) (.cells #[.int .i64 0, .int .i64 0, .int .i64 0, .slice none 0 0, .bool false] 59)
  have eA := (Blk.new w 59 #[.int .i64 0, .int .i64 0, .int .i64 0, .slice A 0 a, .bool false]).alloc (.cells #[.int .i64 0, .int .i64 0, .int .i64 0, .slice none 0 0, .bool false] 59)
  have eZ := Blk.new (w.alloc (.cells #[.int .i64 0, .int .i64 0, .int .i64 0, .slice A 0 a, .bool false] 59)) 59 #[.int .i64 0, .int .i64 0, .int .i64 0, .slice none 0 0, .bool false]
  rw [World.size_alloc] at eZ
  have hz : ((w.alloc (.cells #[.int .i64 0, .int .i64 0, .int .i64 0, .slice A 0 a, .bool false] 59)).alloc (.cells #[.int .i64 0, .int .i64 0, .int .i64 0, .slice none 0 0, .bool false] 59)).heap.size = w.heap.size + 2 := by simp
  go_enter Tryz.func44, Tryz.ntmps44
  go_wp2_with fail
  refine (hs _).mono ?_
  rintro e w1 ⟨rfl, h1⟩
  rw [hz] at h1
  replace hb := hb.trans (h1.mono (by omega))
  have a1 := (eA.kept (Keep.of_below h1) (by omega)).cell 4
  have a2 := (eZ.kept (Keep.of_below h1) (by omega)).cell 4
  simp at a1 a2
  go_wp2
  go_ret
  exact ⟨rfl, hb⟩
end
end Go.Proofs.YtjjghhhhalendaaGreat
