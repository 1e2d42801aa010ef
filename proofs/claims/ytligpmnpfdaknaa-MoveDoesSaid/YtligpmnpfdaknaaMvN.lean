/- Moves: Go, Come, Forget, Len, and the calls on nil. No condition but that they lie in memory. -/
import Derived.Test.YtligpmnpfdaknaaMvQ
import Derived.Test.YtligpmnpfdaknaaPar6
import Derived.Test.YtligpmnpfdaknaaRgT
import Derived.Maps.OwnSet
namespace Go.Proofs.Ytligpmnpfdaknaa
open Go.RowKit Go.Maps Go.Shelf Go.Sort
set_option linter.unusedVariables false
set_option linter.unusedSimpArgs false

def mbK (k : Int) : Bool := decide (1 ≤ k ∧ k ≤ 1099511627776)
def btK (f t : Int) : Bool := decide (0 ≤ f ∧ f < 8 ∧ 0 ≤ t ∧ t < 8 ∧ f ≠ t)
theorem mayBe_any (k : Int) (w : World) : Calls Try.prog 26 #[.int .i64 k] w fun e w' => e = .returned (.bool (mbK k)) ∧ w' = w := by
  obtain ⟨B, hB⟩ : ∃ B, mbK k = B := ⟨_, rfl⟩
  rw [hB]
  replace hB := Lib.hid hB
  have fin : ∀ X : Bool, X = mbK k → Ending.returned (Value.bool X) = Ending.returned (Value.bool B) := fun X h => by rw [h, hB.out]
  by_cases h1 : 1 ≤ k
  · have d1 : decide (1 ≤ k) = true := decide_eq_true h1
    by_cases h2 : k ≤ 1099511627776
    · have d2 : decide (k ≤ 1099511627776) = true := decide_eq_true h2
      replace fin := fin true (decide_eq_true ⟨h1, h2⟩).symm
      clear h1 h2
      go_enter Try.func26, Try.ntmps26
      go_wp2
      go_ret
      exact ⟨fin, rfl⟩
    · have d2 : decide (k ≤ 1099511627776) = false := decide_eq_false h2
      replace fin := fin false (decide_eq_false (fun h => h2 h.2)).symm
      clear h1 h2
      go_enter Try.func26, Try.ntmps26
      go_wp2
      go_ret
      exact ⟨fin, rfl⟩
  · have d1 : decide (1 ≤ k) = false := decide_eq_false h1
    replace fin := fin false (decide_eq_false (fun h => h1 h.1)).symm
    clear h1
    go_enter Try.func26, Try.ntmps26
    go_wp2
    go_ret
    exact ⟨fin, rfl⟩
theorem between_any (f t : Int) (w : World) : Calls Try.prog 27 #[.int .i64 f, .int .i64 t] w fun e w' => e = .returned (.bool (btK f t)) ∧ w' = w := by
  obtain ⟨B, hB⟩ : ∃ B, btK f t = B := ⟨_, rfl⟩
  rw [hB]
  replace hB := Lib.hid hB
  have fin : ∀ X : Bool, X = btK f t → Ending.returned (Value.bool X) = Ending.returned (Value.bool B) := fun X h => by rw [h, hB.out]
  by_cases e : f = t
  · have e1 : (f != t) = false := by simp [e]
    have e2 : (f == t) = true := by simp [e]
    go_enter Try.func27, Try.ntmps27
    go_wp2
    all_goals (go_ret; exact ⟨fin false (decide_eq_false (by omega)).symm, rfl⟩)
  · have e1 : (f != t) = true := by simp [e]
    have e2 : (f == t) = false := by simp [e]
    go_enter Try.func27, Try.ntmps27
    go_wp2
    all_goals (go_ret; first | exact ⟨fin true (decide_eq_true (by omega)).symm, rfl⟩ | exact ⟨fin false (decide_eq_false (by omega)).symm, rfl⟩)
theorem PS.len {F : Nat → Prop} {w : World} {p b N : Nat} {f : Int → Rec} {ks : List Int} (h : PS F w p b N f ks) (ty : TypeId) : (Builtin.len_ #[59] ty #[.map (some b)]).run Try.prog w = .ok (.int .i64 (ks.length : Nat)) w := by
  obtain ⟨D, hm, hD⟩ := h.mp
  rw [← hD.sz]
  exact hm.len Try.underlying59 ty
/-- What Go answers. -/
def goE (ks : List Int) (k f t : Int) (l : List It) : Int := if (mbK k && btK f t) = false then 1 else if mayL l = false ∨ l = [] then 60 else if k ∈ ks then 5 else if 256 ≤ ks.length then 2 else 0
theorem goE_ok {ks : List Int} {k f t : Int} {l : List It} (h : goE ks k f t l = 0) : mbK k = true ∧ btK f t = true ∧ mayL l = true ∧ l ≠ [] ∧ k ∉ ks ∧ ks.length < 256 := by
  unfold goE at h
  by_cases a1 : (mbK k && btK f t) = false
  · rw [if_pos a1] at h; omega
  · rw [if_neg a1] at h
    by_cases a2 : mayL l = false ∨ l = []
    · rw [if_pos a2] at h; omega
    · rw [if_neg a2] at h
      by_cases a3 : k ∈ ks
      · rw [if_pos a3] at h; omega
      · rw [if_neg a3] at h
        by_cases a4 : 256 ≤ ks.length
        · rw [if_pos a4] at h; omega
        · have a1' : mbK k = true ∧ btK f t = true := by simpa using a1
          exact ⟨a1'.1, a1'.2, by simpa using fun e => a2 (.inl e), fun e => a2 (.inr e), a3, by omega⟩
theorem fill5 {W : World} {g : Nat} {t : TypeId} {a0 a1 a2 a3 a4 : Value} (h : Blk W g t #[a0, a1, a2, a3, a4]) (x0 x1 x2 x3 x4 : Value) :
    Blk (((((W.setCell ⟨g, 0, none⟩ x0).setCell ⟨g, 1, none⟩ x1).setCell ⟨g, 2, none⟩ x2).setCell ⟨g, 3, none⟩ x3).setCell ⟨g, 4, none⟩ x4) g t #[x0, x1, x2, x3, x4] := by
  have := ((((h.set_ 0 x0).set_ 1 x1).set_ 2 x2).set_ 3 x3).set_ 4 x4
  simpa using this
theorem keep5 (W : World) (g : Nat) (x0 x1 x2 x3 x4 : Value) : Keep (fun k => k = g) W (((((W.setCell ⟨g, 0, none⟩ x0).setCell ⟨g, 1, none⟩ x1).setCell ⟨g, 2, none⟩ x2).setCell ⟨g, 3, none⟩ x3).setCell ⟨g, 4, none⟩ x4) :=
  (((((Keep.refl (fun k => k = g) W).setCell (p := ⟨g, 0, none⟩) (fun _ => rfl) x0).setCell (p := ⟨g, 1, none⟩) (fun _ => rfl) x1).setCell (p := ⟨g, 2, none⟩) (fun _ => rfl) x2).setCell (p := ⟨g, 3, none⟩) (fun _ => rfl) x3).setCell (p := ⟨g, 4, none⟩) (fun _ => rfl) x4
set_option maxRecDepth 100000 in
set_option maxHeartbeats 6400000 in
theorem go_no {F : Nat → Prop} {w : World} {p b N : Nat} {f : Int → Rec} {ks : List Int} (h : PS F w p b N f ks) (k fr to : Int) (A : Option Addr) (c : Nat) (l : List It) (hil : IL w A l.length l) (hkw : (Lit.int .i64 k).wf = true) (hll : l.length ≤ 500000) (hne : goE ks k fr to l ≠ 0) :
    Calls Try.prog 9 #[.pointer (some ⟨p, 0, none⟩), .int .i64 k, .int .i64 fr, .int .i64 to, .slice A l.length c] w fun e w' => e = .returned (.int .i64 (goE ks k fr to l)) ∧ Below w.heap.size w w' := by
  have hlk := h.look hkw
  have hmy := mayI_any A l.length c l (w.alloc (.cells (f k).cs.toArray 42)) (hil.alloc _) (by omega)
  have hb0 := (Below.refl w.heap.size w).alloc (Nat.le_refl _) (.cells (f k).cs.toArray 42)
  have hE := Lib.hid (show goE ks k fr to l = if (mbK k && btK fr to) = false then 1 else if mayL l = false ∨ l = [] then 60 else if k ∈ ks then 5 else if 256 ≤ ks.length then 2 else 0 from rfl)
  obtain ⟨E, hEe⟩ : ∃ E, goE ks k fr to l = E := ⟨_, rfl⟩
  rw [hEe] at hE hne ⊢
  clear hEe
  generalize hr : f k = r0 at *
  obtain ⟨rm, rf, rt, ⟨A0, n0, c0, l0⟩, rc⟩ := r0
  change (Instr.lookup _ _ _ _).run _ _ = Result.ok (.tuple #[.agg #[.int .i64 rm, .int .i64 rf, .int .i64 rt, .slice A0 n0 c0, .bool rc], .bool (decide (k ∈ ks))]) _ at hlk
  clear hr
  cases hmb : mbK k with
  | false =>
    have e1 : E = 1 := hE.out.trans (by rw [hmb]; rfl)
    subst e1
    clear hE hmy hne
    generalize decide (k ∈ ks) = I at hlk
    go_enter Try.func9, Try.ntmps9
    go_wp2_with fail
    refine (pall_any h).mono ?_
    rintro e w' ⟨rfl, hww⟩
    subst hww
    go_wp2_with fail
    refine (mayBe_any k _).mono ?_
    rw [hmb]
    rintro e w' ⟨rfl, hww⟩
    subst w'
    go_wp2
    go_ret
    exact ⟨rfl, hb0⟩
  | true =>
  cases hbt : btK fr to with
  | false =>
    have e1 : E = 1 := hE.out.trans (by rw [hmb, hbt]; rfl)
    subst e1
    clear hE hmy hne
    generalize decide (k ∈ ks) = I at hlk
    go_enter Try.func9, Try.ntmps9
    go_wp2_with fail
    refine (pall_any h).mono ?_
    rintro e w' ⟨rfl, hww⟩
    subst hww
    go_wp2_with fail
    refine (mayBe_any k _).mono ?_
    rw [hmb]
    rintro e w' ⟨rfl, hww⟩
    subst w'
    go_wp2_with fail
    refine (between_any fr to _).mono ?_
    rw [hbt]
    rintro e w' ⟨rfl, hww⟩
    subst w'
    go_wp2
    go_ret
    exact ⟨rfl, hb0⟩
  | true =>
  have n12 : ¬ (mbK k && btK fr to) = false := by rw [hmb, hbt]; decide
  by_cases g3 : mayL l = false
  · have e1 : E = 60 := hE.out.trans (by rw [if_neg n12, if_pos (.inl g3)])
    subst e1
    clear hE hne n12
    rw [g3] at hmy
    clear g3
    generalize decide (k ∈ ks) = I at hlk
    go_enter Try.func9, Try.ntmps9
    go_wp2_with fail
    refine (pall_any h).mono ?_
    rintro e w' ⟨rfl, hww⟩
    subst hww
    go_wp2_with fail
    refine (mayBe_any k _).mono ?_
    rw [hmb]
    rintro e w' ⟨rfl, hww⟩
    subst w'
    go_wp2_with fail
    refine (between_any fr to _).mono ?_
    rw [hbt]
    rintro e w' ⟨rfl, hww⟩
    subst w'
    go_wp2_with fail
    refine hmy.mono ?_
    rintro e w1 ⟨rfl, hx1⟩
    have hb1 := hb0.trans (hx1.mono hb0.size)
    go_wp2
    go_ret
    exact ⟨rfl, hb1⟩
  have g3' : mayL l = true := by simpa using g3
  rw [g3'] at hmy
  by_cases g4 : l = []
  · have e1 : E = 60 := hE.out.trans (by rw [if_neg n12, if_pos (.inr g4)])
    subst e1
    subst g4
    clear hE hne n12 g3 g3'
    simp only [List.length_nil] at hmy ⊢
    generalize decide (k ∈ ks) = I at hlk
    go_enter Try.func9, Try.ntmps9
    go_wp2_with fail
    refine (pall_any h).mono ?_
    rintro e w' ⟨rfl, hww⟩
    subst hww
    go_wp2_with fail
    refine (mayBe_any k _).mono ?_
    rw [hmb]
    rintro e w' ⟨rfl, hww⟩
    subst w'
    go_wp2_with fail
    refine (between_any fr to _).mono ?_
    rw [hbt]
    rintro e w' ⟨rfl, hww⟩
    subst w'
    go_wp2_with fail
    refine hmy.mono ?_
    rintro e w1 ⟨rfl, hx1⟩
    have hb1 := hb0.trans (hx1.mono hb0.size)
    go_wp2
    go_ret
    exact ⟨rfl, hb1⟩
  have hlp : ((l.length : Int) == 0) = false := beq_eq_false_iff_ne.2 (fun e => g4 (List.eq_nil_of_length_eq_zero (by omega)))
  have n34 : ¬ (mayL l = false ∨ l = []) := fun e => e.elim g3 g4
  by_cases g5 : k ∈ ks
  · have e1 : E = 5 := hE.out.trans (by rw [if_neg n12, if_neg n34, if_pos g5])
    subst e1
    rw [decide_eq_true g5] at hlk
    clear hE hne n12 n34 g3 g3' g4 g5
    go_enter Try.func9, Try.ntmps9
    go_wp2_with fail
    refine (pall_any h).mono ?_
    rintro e w' ⟨rfl, hww⟩
    subst hww
    go_wp2_with fail
    refine (mayBe_any k _).mono ?_
    rw [hmb]
    rintro e w' ⟨rfl, hww⟩
    subst w'
    go_wp2_with fail
    refine (between_any fr to _).mono ?_
    rw [hbt]
    rintro e w' ⟨rfl, hww⟩
    subst w'
    go_wp2_with fail
    refine hmy.mono ?_
    rintro e w1 ⟨rfl, hx1⟩
    have hb1 := hb0.trans (hx1.mono hb0.size)
    go_wp2
    go_ret
    exact ⟨rfl, hb1⟩
  by_cases g6 : 256 ≤ ks.length
  · have e1 : E = 2 := hE.out.trans (by rw [if_neg n12, if_neg n34, if_neg g5, if_pos g6])
    subst e1
    rw [decide_eq_false g5] at hlk
    have hle : (256 : Int) ≤ (ks.length : Int) := by omega
    clear hE hne n12 n34 g3 g3' g4 g5 g6
    go_enter Try.func9, Try.ntmps9
    go_wp2_with fail
    refine (pall_any h).mono ?_
    rintro e w' ⟨rfl, hww⟩
    subst hww
    go_wp2_with fail
    refine (mayBe_any k _).mono ?_
    rw [hmb]
    rintro e w' ⟨rfl, hww⟩
    subst w'
    go_wp2_with fail
    refine (between_any fr to _).mono ?_
    rw [hbt]
    rintro e w' ⟨rfl, hww⟩
    subst w'
    go_wp2_with fail
    refine hmy.mono ?_
    rintro e w1 ⟨rfl, hx1⟩
    have hb1 := hb0.trans (hx1.mono hb0.size)
    have h1 := h.below hb1
    have h1c := h1.pc.cell 0
    simp at h1c
    have hlen := h1.len
    go_wp2
    go_ret
    exact ⟨rfl, hb1⟩
  exact absurd (hE.out.trans (by rw [if_neg n12, if_neg n34, if_neg g5, if_neg g6])) hne
set_option maxRecDepth 100000 in
set_option maxHeartbeats 6400000 in
theorem go_ok {F : Nat → Prop} {w : World} {p b N : Nat} {f : Int → Rec} {ks : List Int} (h : PS F w p b N f ks) (hN : N < maxLen) (k fr to : Int) (A : Option Addr) (c : Nat) (l : List It) (hil : IL w A l.length l) (hlit : ∀ y ∈ l, y.1.length ≤ maxLen ∧ (Lit.int .i64 y.2).wf = true) (hkw : (Lit.int .i64 k).wf = true) (hE : goE ks k fr to l = 0) :
    Calls Try.prog 9 #[.pointer (some ⟨p, 0, none⟩), .int .i64 k, .int .i64 fr, .int .i64 to, .slice A l.length c] w fun e w' => e = .returned (.int .i64 0) ∧ ∃ x : Ls, x.l = l ∧ PS (fun k => F k ∨ w.heap.size ≤ k) w' p b (N + 1) (fun i => if i = k then ⟨k, fr, to, x, false⟩ else f i) (addK ks k) ∧ Keep (fun i => i = b) w w' := by
  obtain ⟨hmb, hbt, hmay, hl0, hks, hk256⟩ := goE_ok hE
  have hfew : l.length ≤ 16 := (mayL_from hmay).1
  have hlp : ((l.length : Int) == 0) = false := beq_eq_false_iff_ne.2 (fun e => hl0 (List.eq_nil_of_length_eq_zero (by omega)))
  have hlk := h.look hkw
  rw [h.no k hks, decide_eq_false hks, rec0_v] at hlk
  have hmy := mayI_any A l.length c l (w.alloc (.cells #[.int .i64 0, .int .i64 0, .int .i64 0, .slice none 0 0, .bool false] 42)) (hil.alloc _) (by omega)
  rw [hmay] at hmy
  have hb0 := (Below.refl w.heap.size w).alloc (Nat.le_refl _) (.cells #[.int .i64 0, .int .i64 0, .int .i64 0, .slice none 0 0, .bool false] 42)
  have hle : ¬ (256 : Int) ≤ (ks.length : Int) := by omega
  have HN := Lib.hid hN
  clear hks hl0 hE
  go_enter Try.func9, Try.ntmps9
  go_wp2_with fail
  refine (pall_any h).mono ?_
  rintro e w' ⟨rfl, hww⟩
  subst hww
  go_wp2_with fail
  refine (mayBe_any k _).mono ?_
  rw [hmb]
  rintro e w' ⟨rfl, hww⟩
  subst w'
  go_wp2_with fail
  refine (between_any fr to _).mono ?_
  rw [hbt]
  rintro e w' ⟨rfl, hww⟩
  subst w'
  go_wp2_with fail
  refine hmy.mono ?_
  rintro e w1 ⟨rfl, hx1⟩
  have hb1 := hb0.trans (hx1.mono hb0.size)
  clear hmy hlk hx1
  have hP1 := h.below hb1
  have hil1 := hil.below hb1
  have s1 := hP1.pc.cell 0
  simp at s1
  have hlen := hP1.len
  go_upto_region 12 with fail
  have sd : (fun W => W.cell? ⟨p, 0, none⟩ = some (.map (some b))) w1.drew := s1
  have hP2 := hP1.drew
  have hil2 := hil1.drew
  have hb2 := hb1.drew
  have hNN : N < maxLen := HN.out
  refine wp_region_held_drew (S := (fun W => W.cell? ⟨p, 0, none⟩ = some (.map (some b)))) (by kernel_rfl) sd (fun hHeld => ?_)
  generalize w1.drew = w2 at *
  obtain ⟨KB, hKB⟩ : ∃ K, w2.heap.size = K := ⟨_, rfl⟩
  have hb20 := Below.refl w2.heap.size w2
  rw [hKB] at hb20
  have HKB := Lib.hid hKB
  have hKw : w'.heap.size ≤ KB := by have := hb2.size; omega
  clear hKB
  (refine tkI 0 (by (simp only [List.getElem?_toArray, List.getElem?_cons_succ, List.getElem?_cons_zero]; rfl)) (by kernel_rfl) (by kernel_rfl) (by kernel_rfl) (by exact fun _ _ _ h => h) (by rfl) (by (intro w hSw; (try dsimp only at hSw); go_simp <;> with_reducible rfl)) (by assumption) ?_; try simp only [Act.put, List.setIfInBounds_toArray, List.set_cons_zero, List.set_cons_succ])
  (refine tkI 1 (by (simp only [List.getElem?_toArray, List.getElem?_cons_succ, List.getElem?_cons_zero]; rfl)) (by kernel_rfl) (by kernel_rfl) (by kernel_rfl) (by exact fun _ _ _ h => h) (by rfl) (by (intro w hSw; (try dsimp only at hSw); go_simp <;> with_reducible rfl)) (by assumption) ?_; try simp only [Act.put, List.setIfInBounds_toArray, List.set_cons_zero, List.set_cons_succ])
  (refine tkI 2 (by (simp only [List.getElem?_toArray, List.getElem?_cons_succ, List.getElem?_cons_zero]; rfl)) (by kernel_rfl) (by kernel_rfl) (by kernel_rfl) (by exact fun _ _ _ h => h) (by rfl) (by (intro w hSw; (try dsimp only at hSw); go_simp <;> with_reducible rfl)) (by assumption) ?_; try simp only [Act.put, List.setIfInBounds_toArray, List.set_cons_zero, List.set_cons_succ])
  (refine tkI 3 (by (simp only [List.getElem?_toArray, List.getElem?_cons_succ, List.getElem?_cons_zero]; rfl)) (by kernel_rfl) (by kernel_rfl) (by kernel_rfl) (by exact fun _ _ _ h => h) (by rfl) (by (intro w hSw; (try dsimp only at hSw); go_simp <;> with_reducible rfl)) (by assumption) ?_; try simp only [Act.put, List.setIfInBounds_toArray, List.set_cons_zero, List.set_cons_succ])
  (refine tkI 4 (by (simp only [List.getElem?_toArray, List.getElem?_cons_succ, List.getElem?_cons_zero]; rfl)) (by kernel_rfl) (by kernel_rfl) (by kernel_rfl) (by exact fun _ _ _ h => h) (by rfl) (by (intro w hSw; (try dsimp only at hSw); go_simp <;> with_reducible rfl)) (by assumption) ?_; try simp only [Act.put, List.setIfInBounds_toArray, List.set_cons_zero, List.set_cons_succ])
  (refine tkI 5 (by (simp only [List.getElem?_toArray, List.getElem?_cons_succ, List.getElem?_cons_zero]; rfl)) (by kernel_rfl) (by kernel_rfl) (by kernel_rfl) (by exact fun _ _ _ h => h) (by rfl) (by (intro w hSw; (try dsimp only at hSw); go_simp <;> with_reducible rfl)) (by assumption) ?_; try simp only [Act.put, List.setIfInBounds_toArray, List.set_cons_zero, List.set_cons_succ])
  (refine tkI 6 (by (simp only [List.getElem?_toArray, List.getElem?_cons_succ, List.getElem?_cons_zero]; rfl)) (by kernel_rfl) (by kernel_rfl) (by kernel_rfl) (by exact fun _ _ _ h => h) (by rfl) (by (intro w hSw; (try dsimp only at hSw); go_simp <;> with_reducible rfl)) (by assumption) ?_; try simp only [Act.put, List.setIfInBounds_toArray, List.set_cons_zero, List.set_cons_succ])
  (refine tkI 7 (by (simp only [List.getElem?_toArray, List.getElem?_cons_succ, List.getElem?_cons_zero]; rfl)) (by kernel_rfl) (by kernel_rfl) (by kernel_rfl) (by exact fun _ _ _ h => h) (by rfl) (by (intro w hSw; (try dsimp only at hSw); go_simp <;> with_reducible rfl)) (by assumption) ?_; try simp only [Act.put, List.setIfInBounds_toArray, List.set_cons_zero, List.set_cons_succ])
  (refine tkI 8 (by (simp only [List.getElem?_toArray, List.getElem?_cons_succ, List.getElem?_cons_zero]; rfl)) (by kernel_rfl) (by kernel_rfl) (by kernel_rfl) (by exact fun _ _ _ h => h) (by rfl) (by (intro w hSw; (try dsimp only at hSw); go_simp <;> with_reducible rfl)) (by assumption) ?_; try simp only [Act.put, List.setIfInBounds_toArray, List.set_cons_zero, List.set_cons_succ])
  refine wpAnyH_ready (rs := [9]) (by kernel_rfl) (by simp) ?_
  refine AllReadyH.cons (by (simp only [List.getElem?_toArray, List.getElem?_cons_succ, List.getElem?_cons_zero]; rfl)) (fun K hK => ?_) AllReadyH.nil
  go_simp
  refine (clone_any A l.length c l _ (hil2.below (by rw [HKB.out]; exact hb20)) (by omega)).mono ?_
  rintro e W9 ⟨v9, rfl, ho9, hx9⟩
  obtain ⟨A9, c9, rfl, hcap9, hm9, hil9, hal9⟩ := ho9.form
  have hPS9 := (hP2.mono (G := fun k => F k ∨ KB ≤ k) (fun _ _ e => .inl e)).below hx9
  have hlz : ∀ ad, A9 = some ad → 0 < l.length → (F ad.block ∨ KB ≤ ad.block) ∧ ad.block ≠ p ∧ ad.block ≠ b := fun ad e _ => by have h1 := (hal9 ad e).1; have h2 := hP2.lt; rw [HKB.out] at h1 h2; exact ⟨.inr h1, by omega, by omega⟩
  obtain ⟨W11, hrun11, hPS11, hk11⟩ := hPS9.upd hN hkw ⟨k, fr, to, ⟨A9, l.length, c9, l⟩, false⟩ ⟨⟨hil9, hcap9, hfew, hmay, hlit, hlz⟩⟩
  have hrun : (Instr.mapUpdate 59 (.map (some b)) (.int .i64 k) (.agg #[.int .i64 k, .int .i64 fr, .int .i64 to, .slice A9 l.length c9, .bool false])).run Try.prog W9 = .ok () W11 := hrun11
  have s9 := hPS9.pc.cell 0
  simp at s9
  have s11 := hPS11.pc.cell 0
  simp at s11
  refine hK.out _ _ s9 (fun hHeld2 => ?_)
  clear hK K hHeld
  have hHeld := hHeld2
  clear hHeld2
  try simp only [Act.put, List.setIfInBounds_toArray, List.set_cons_zero, List.set_cons_succ]
  (refine tkI 10 (by (simp only [List.getElem?_toArray, List.getElem?_cons_succ, List.getElem?_cons_zero]; rfl)) (by kernel_rfl) (by kernel_rfl) (by kernel_rfl) (by exact fun _ _ _ h => h) (by rfl) (by (intro w hSw; (try dsimp only at hSw); go_simp <;> with_reducible rfl)) (by assumption) ?_; try simp only [Act.put, List.setIfInBounds_toArray, List.set_cons_zero, List.set_cons_succ])
  refine wpAnyH_ready (rs := [11]) (by kernel_rfl) (by simp) ?_
  refine AllReadyH.cons (by (simp only [List.getElem?_toArray, List.getElem?_cons_succ, List.getElem?_cons_zero]; rfl)) (fun K hK => ?_) AllReadyH.nil
  go_simp
  refine hK.out _ _ s11 (fun hHeld2 => ?_)
  clear hK K hHeld
  have hHeld := hHeld2
  clear hHeld2
  try simp only [Act.put, List.setIfInBounds_toArray, List.set_cons_zero, List.set_cons_succ]
  refine wpAnyH_done (by kernel_rfl) ?_ _
  go_wp2
  go_ret
  refine ⟨rfl, ⟨A9, l.length, c9, l⟩, rfl, hPS11.mono (fun i _ e => ?_), ((Keep.ofB hb2).trans ((Keep.ofB (S := fun i => i = b) hx9)) (fun i hi e => e)).trans hk11 (fun i hi e => e)⟩
  rcases e with e | e
  · exact .inl e
  · exact .inr (by omega)
end Go.Proofs.Ytligpmnpfdaknaa
