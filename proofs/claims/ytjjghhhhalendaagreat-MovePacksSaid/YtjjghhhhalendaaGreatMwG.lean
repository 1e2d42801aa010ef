/- The document's moves: Go. No condition but that they lie in memory. -/
import Derived.Test.YtjjghhhhalendaaGreatMwU
namespace Go.Proofs.YtjjghhhhalendaaGreat
open Go.RowKit Go.Shelf
set_option linter.unusedVariables false
set_option linter.unusedSimpArgs false

/-- What Go of these rows answers. -/
def goW (l : List Rec) (k f t : Int) (x : List It) : Int := if (mbK k && btK f t) = false then 1 else if mayL x = false ∨ x = [] then 60 else if 0 ≤ placeR l k then 5 else if 256 ≤ l.length then 2 else 0
/-- Where a new one goes. -/
def atR (l : List Rec) (k : Int) : Nat := (l.takeWhile fun x => decide (x.m < k)).length
def insW (l : List Rec) (r : Rec) : List Rec := l.take (atR l r.m) ++ r :: l.drop (atR l r.m)
theorem atR_le (l : List Rec) (k : Int) : atR l k ≤ l.length := (List.takeWhile_sublist _).length_le
theorem atR_of {l : List Rec} {k : Int} {j : Nat} (h1 : ∀ x ∈ l.take j, x.m < k) (hj : j ≤ l.length) (h2 : ∀ x, l[j]? = some x → ¬ x.m < k) : atR l k = j := by
  induction l generalizing j with
  | nil =>
    simp only [List.length_nil] at hj
    obtain rfl : j = 0 := by omega
    rfl
  | cons y l ih =>
    cases j with
    | zero =>
      have := h2 y rfl
      unfold atR
      rw [List.takeWhile_cons, if_neg (by simpa using this)]
      rfl
    | succ j =>
      have h3 := h1 y (by simp)
      have h4 := ih (j := j) (fun x hx => h1 x (by rw [List.take_succ_cons]; exact List.mem_cons_of_mem _ hx)) (by simpa using hj) (fun x hx => h2 x (by simpa using hx))
      unfold atR at h4 ⊢
      rw [List.takeWhile_cons, if_pos (by simpa using h3), List.length_cons, h4]
theorem insW_eq (l : List Rec) (r : Rec) : insW l r = l.take (atR l r.m) ++ [r] ++ l.drop (atR l r.m) := by unfold insW; simp
theorem elem_way : Tryz.prog.elem 26 = 59 := by simp [Program.elem, Tryz.underlying26]
theorem under_ways : Tryz.prog.underlying 26 = some (.slice (Tryz.prog.elem 26)) := by rw [elem_way]; exact Tryz.underlying26
/-- Rows from some one on. -/
theorem cutW (A : Option Addr) (n cap k : Nat) (hk : k ≤ n) (hc : n ≤ cap) (hA : A = none ∨ ∃ b off, A = some ⟨b, off, none⟩) : ∃ A', (∀ W : World, (Instr.slice 26 (.slice A n cap) (some (.int .i64 (k : Int))) none none).run Tryz.prog W = .ok (.slice A' (n - k) (cap - k)) W) ∧
    (A' = none ∨ ∃ b off, A' = some ⟨b, off, none⟩) ∧ (∀ (W : World) (l : List Rec), WR W A n l → WR W A' (n - k) (l.drop k)) := by
  refine ⟨if cap = k then A else A.map (·.add (k * 5)), fun W => ?_, ?_, fun W l h => ⟨by rw [List.length_drop, h.len], fun j x hx => ?_⟩⟩
  · rw [run_slice_l W 26 A n cap under_ways .i64 (k : Int) (by omega) (by omega), elem_way, Tryz.sizeOf59]
    simp [Result.andThen, sliced]
  · by_cases e : cap = k
    · rw [if_pos e]; exact hA
    · rw [if_neg e]
      rcases hA with rfl | ⟨b, off, rfl⟩
      · exact .inl rfl
      · exact .inr ⟨b, off + k * 5, by simp only [Option.map_some]; rw [Addr.add_lit]⟩
  · rw [List.getElem?_drop] at hx
    obtain ⟨b, off, rfl, h0, h1, h2, h3, h4⟩ := h.at_ _ x hx
    have hj := (List.getElem?_eq_some_iff.1 hx).1
    rw [h.len] at hj
    rw [if_neg (by omega)]
    refine ⟨b, off + k * 5, ?_, ?_, ?_, ?_, ?_, ?_⟩
    · simp only [Option.map_some]
      rw [Addr.add_lit]
    · rw [← h0]; congr 2; omega
    · rw [← h1]; congr 2; omega
    · rw [← h2]; congr 2; omega
    · rw [← h3]; congr 2; omega
    · rw [← h4]; congr 2; omega
theorem rregion_any (n : Int) (w : World) : Calls Tryz.prog 27 #[.int .i64 n] w fun e w' => e = .returned (.bool (decide (0 ≤ n ∧ n ≤ 7))) ∧ w' = w := by
  by_cases h1 : 0 ≤ n
  · have d1 : decide (0 ≤ n) = true := decide_eq_true h1
    by_cases h2 : n ≤ 7
    · have d2 : decide (n ≤ 7) = true := decide_eq_true h2
      rw [show decide (0 ≤ n ∧ n ≤ 7) = true from decide_eq_true ⟨h1, h2⟩]
      clear h1 h2
      go_enter Tryz.func27, Tryz.ntmps27
      go_wp2
      go_ret
      exact ⟨rfl, rfl⟩
    · have d2 : decide (n ≤ 7) = false := decide_eq_false h2
      rw [show decide (0 ≤ n ∧ n ≤ 7) = false from decide_eq_false (fun h => h2 h.2)]
      clear h1 h2
      go_enter Tryz.func27, Tryz.ntmps27
      go_wp2
      go_ret
      exact ⟨rfl, rfl⟩
  · have d1 : decide (0 ≤ n) = false := decide_eq_false h1
    rw [show decide (0 ≤ n ∧ n ≤ 7) = false from decide_eq_false (fun h => h1 h.1)]
    clear h1
    go_enter Tryz.func27, Tryz.ntmps27
    go_wp2
    go_ret
    exact ⟨rfl, rfl⟩
section
variable {P : Program} {ops : Array Oper} {Q : Exit → Act → World → Prop} {md : Region.Mode} {S : World → Prop} {z : Nat}
/-- One of two may come up. -/
theorem wpAnyZ_two {i j : Nat} {oi oj : Oper} {n : Nat} {listed : Array Bool} {a : Act} {w : World} (hr : Region.ready md ops listed = [i, j]) (hi : ops[i]? = some oi) (hj : ops[j]? = some oj)
    (h1 : ∀ K : Act → World → Prop, Shut (∀ b v, (i ≠ z → S v) → ((i ≠ z → S v) → wpAnyZ P md ops Q S z n (listed.setIfInBounds i true) b v) → K b v) → if Region.wanted oi (yielded ops a.tmps) = true then Oper.wp P oi a w K Q else K (a.put oi.dst undef) w)
    (h2 : ∀ K : Act → World → Prop, Shut (∀ b v, (j ≠ z → S v) → ((j ≠ z → S v) → wpAnyZ P md ops Q S z n (listed.setIfInBounds j true) b v) → K b v) → if Region.wanted oj (yielded ops a.tmps) = true then Oper.wp P oj a w K Q else K (a.put oj.dst undef) w) :
    wpAnyZ P md ops Q S z (n + 1) listed a w :=
  ⟨fun h0 => (by rw [hr] at h0; cases h0), fun q hq => by
    rw [hr, List.mem_cons, List.mem_singleton] at hq
    rcases hq with rfl | rfl
    · exact wpOp_step hi fun K hK => h1 K fun b v h1 h2 => hK b v ⟨h1, h2 h1⟩
    · exact wpOp_step hj fun K hK => h2 K fun b v h1 h2 => hK b v ⟨h1, h2 h1⟩⟩
end
set_option maxRecDepth 100000 in
set_option maxHeartbeats 3200000 in
theorem rgo_no {F : Nat → Prop} {w : World} {p : Nat} {l : List Rec} (h : QK F w p l) (hl : l.length ≤ 1048576) (k fr to : Int) (A : Option Addr) (L c : Nat) (x : List It) (hil : IL w A L x) (hwl : WL x) (hll : L ≤ 500000) (hne : goW l k fr to x ≠ 0) :
    Calls Tryz.prog 8 #[.pointer (some ⟨p, 0, none⟩), .int .i64 k, .int .i64 fr, .int .i64 to, .slice A L c] w fun e w' => e = .returned (.int .i64 (goW l k fr to x)) ∧ Below w.heap.size w w' := by
  have hmy := refmay_b A L c x w hil (by omega) (fun y hy => by have := (hwl y hy).1; simp only [maxLen] at this; omega)
  have hxl := hil.len
  have hE := Lib.hid (show goW l k fr to x = if (mbK k && btK fr to) = false then 1 else if mayL x = false ∨ x = [] then 60 else if 0 ≤ placeR l k then 5 else if 256 ≤ l.length then 2 else 0 from rfl)
  obtain ⟨E, hEe⟩ : ∃ E, goW l k fr to x = E := ⟨_, rfl⟩
  rw [hEe] at hE hne ⊢
  clear hEe
  by_cases a1 : k < 1
  · have e1 : E = 1 := hE.out.trans (if_pos (by rw [show mbK k = false from decide_eq_false (by omega)]; rfl))
    subst e1
    clear hE hne hmy
    go_enter Tryz.func8, Tryz.ntmps8
    go_wp2
    go_ret
    exact ⟨rfl, Below.refl _ _⟩
  by_cases a2 : 1099511627776 < k
  · have e1 : E = 1 := hE.out.trans (if_pos (by rw [show mbK k = false from decide_eq_false (by omega)]; rfl))
    subst e1
    clear hE hne hmy
    go_enter Tryz.func8, Tryz.ntmps8
    go_wp2
    go_ret
    exact ⟨rfl, Below.refl _ _⟩
  have m1 : mbK k = true := decide_eq_true (by omega)
  by_cases a3 : 0 ≤ fr ∧ fr ≤ 7
  case neg =>
    have d3 : decide (0 ≤ fr ∧ fr ≤ 7) = false := decide_eq_false a3
    have e1 : E = 1 := hE.out.trans (if_pos (by rw [m1, show btK fr to = false from decide_eq_false (by omega)]; rfl))
    subst e1
    clear hE hne hmy
    go_enter Tryz.func8, Tryz.ntmps8
    go_wp2_with fail
    refine (rregion_any fr _).mono ?_
    rw [d3]
    rintro e w1 ⟨rfl, hww⟩
    subst w1
    go_wp2
    go_ret
    exact ⟨rfl, Below.refl _ _⟩
  have d3 : decide (0 ≤ fr ∧ fr ≤ 7) = true := decide_eq_true a3
  by_cases a4 : 0 ≤ to ∧ to ≤ 7
  case neg =>
    have d4 : decide (0 ≤ to ∧ to ≤ 7) = false := decide_eq_false a4
    have e1 : E = 1 := hE.out.trans (if_pos (by rw [m1, show btK fr to = false from decide_eq_false (by omega)]; rfl))
    subst e1
    clear hE hne hmy
    go_enter Tryz.func8, Tryz.ntmps8
    go_wp2_with fail
    refine (rregion_any fr _).mono ?_
    rw [d3]
    rintro e w1 ⟨rfl, hww⟩
    subst w1
    go_wp2_with fail
    refine (rregion_any to _).mono ?_
    rw [d4]
    rintro e w1 ⟨rfl, hww⟩
    subst w1
    go_wp2
    go_ret
    exact ⟨rfl, Below.refl _ _⟩
  have d4 : decide (0 ≤ to ∧ to ≤ 7) = true := decide_eq_true a4
  by_cases a5 : fr = to
  · have d5 : (fr == to) = true := by simp [a5]
    have e1 : E = 1 := hE.out.trans (if_pos (by rw [m1, show btK fr to = false from decide_eq_false (by omega)]; rfl))
    subst e1
    clear a5 hE hne hmy
    go_enter Tryz.func8, Tryz.ntmps8
    go_wp2_with fail
    refine (rregion_any fr _).mono ?_
    rw [d3]
    rintro e w1 ⟨rfl, hww⟩
    subst w1
    go_wp2_with fail
    refine (rregion_any to _).mono ?_
    rw [d4]
    rintro e w1 ⟨rfl, hww⟩
    subst w1
    go_wp2
    go_ret
    exact ⟨rfl, Below.refl _ _⟩
  have d5 : (fr == to) = false := beq_eq_false_iff_ne.2 a5
  have m2 : ¬ (mbK k && btK fr to) = false := by rw [m1, show btK fr to = true from decide_eq_true (by omega)]; decide
  by_cases a6 : mayL x = false
  · have e1 : E = 60 := hE.out.trans (by rw [if_neg m2, if_pos (.inl a6)])
    subst e1
    rw [a6] at hmy
    clear hE hne m2
    go_enter Tryz.func8, Tryz.ntmps8
    go_wp2_with fail
    refine (rregion_any fr _).mono ?_
    rw [d3]
    rintro e w1 ⟨rfl, hww⟩
    subst w1
    go_wp2_with fail
    refine (rregion_any to _).mono ?_
    rw [d4]
    rintro e w1 ⟨rfl, hww⟩
    subst w1
    go_wp2_with fail
    refine hmy.mono ?_
    rintro e wm ⟨rfl, hxm⟩
    have hb := hxm
    go_wp2
    go_ret
    exact ⟨rfl, hb⟩
  have a6' : mayL x = true := by simpa using a6
  rw [a6'] at hmy
  by_cases a7 : x = []
  · have e1 : E = 60 := hE.out.trans (by rw [if_neg m2, if_pos (.inr a7)])
    subst e1
    have hL0 : ((L : Int) == 0) = true := by rw [a7] at hxl; simp at hxl; simp [← hxl]
    clear hE hne m2
    go_enter Tryz.func8, Tryz.ntmps8
    go_wp2_with fail
    refine (rregion_any fr _).mono ?_
    rw [d3]
    rintro e w1 ⟨rfl, hww⟩
    subst w1
    go_wp2_with fail
    refine (rregion_any to _).mono ?_
    rw [d4]
    rintro e w1 ⟨rfl, hww⟩
    subst w1
    go_wp2_with fail
    refine hmy.mono ?_
    rintro e wm ⟨rfl, hxm⟩
    have hb := hxm
    go_wp2
    go_ret
    exact ⟨rfl, hb⟩
  have hL0 : ((L : Int) == 0) = false := beq_eq_false_iff_ne.2 (fun e => a7 (List.eq_nil_of_length_eq_zero (by omega)))
  have m3 : ¬ (mayL x = false ∨ x = []) := fun e => e.elim a6 a7
  by_cases a8 : 0 ≤ placeR l k
  · have e1 : E = 5 := hE.out.trans (by rw [if_neg m2, if_neg m3, if_pos a8])
    subst e1
    have hcf : ∀ (W : World), Below w.heap.size w W → _ := fun W hb => rfind_any k (h.below hb) hl
    obtain ⟨X, hX⟩ : ∃ X, placeR l k = X := ⟨_, rfl⟩
    rw [hX] at hcf a8
    have d8 : decide (0 ≤ X) = true := decide_eq_true a8
    clear hE hne m2 m3
    go_enter Tryz.func8, Tryz.ntmps8
    go_wp2_with fail
    refine (rregion_any fr _).mono ?_
    rw [d3]
    rintro e w1 ⟨rfl, hww⟩
    subst w1
    go_wp2_with fail
    refine (rregion_any to _).mono ?_
    rw [d4]
    rintro e w1 ⟨rfl, hww⟩
    subst w1
    go_wp2_with fail
    refine hmy.mono ?_
    rintro e wm ⟨rfl, hxm⟩
    have hb := hxm
    go_wp2_with fail
    refine (hcf _ hb).mono ?_
    rintro e w1 ⟨rfl, hww⟩
    subst w1
    go_wp2
    go_ret
    exact ⟨rfl, hb⟩
  have hcf : ∀ (W : World), Below w.heap.size w W → _ := fun W hb => rfind_any k (h.below hb) hl
  by_cases a9 : 256 ≤ l.length
  · have e1 : E = 2 := hE.out.trans (by rw [if_neg m2, if_neg m3, if_neg a8, if_pos a9])
    subst e1
    obtain ⟨X, hX⟩ : ∃ X, placeR l k = X := ⟨_, rfl⟩
    rw [hX] at hcf a8
    have d8 : decide (0 ≤ X) = false := decide_eq_false a8
    have d9 : decide ((256 : Int) ≤ (l.length : Int)) = true := decide_eq_true (by omega)
    obtain ⟨v, hv⟩ := h
    obtain ⟨AR, cR, rfl, hfm⟩ := hv.own.form
    clear hfm
    have hfl : ∀ (W : World), Below w.heap.size w W → W.cell? ⟨p, 0, none⟩ = some (.slice AR l.length cR) := fun W hb => (hv.below hb).field
    clear hE hne m2 m3
    go_enter Tryz.func8, Tryz.ntmps8
    go_wp2_with fail
    refine (rregion_any fr _).mono ?_
    rw [d3]
    rintro e w1 ⟨rfl, hww⟩
    subst w1
    go_wp2_with fail
    refine (rregion_any to _).mono ?_
    rw [d4]
    rintro e w1 ⟨rfl, hww⟩
    subst w1
    go_wp2_with fail
    refine hmy.mono ?_
    rintro e wm ⟨rfl, hxm⟩
    have hb := hxm
    have c0 := hfl _ hb
    go_wp2_with fail
    refine (hcf _ hb).mono ?_
    rintro e w1 ⟨rfl, hww⟩
    subst w1
    go_wp2
    go_ret
    exact ⟨rfl, hb⟩
  exact absurd (hE.out.trans (by rw [if_neg m2, if_neg m3, if_neg a8, if_neg a9])) hne
end Go.Proofs.YtjjghhhhalendaaGreat
