/- Clone, Grow of nil, Concat of two: new lists. No condition but that the lists are ones of memory, and their length. -/
import Derived.Test.YtligpmnpfdaknaaNorm
import Derived.Lib.AppendZeros
import Derived.Lib.SliceRun
namespace Go.Proofs.Ytligpmnpfdaknaa
open Go.RowKit Go.Maps Go.Shelf Go.Sort
set_option linter.unusedVariables false
set_option linter.unusedSimpArgs false

theorem IL.none_zero {w : World} {A : Option Addr} {n : Nat} {l : List It} (h : IL w A n l) (ha : A = none) : n = 0 := by
  rcases Nat.eq_zero_or_pos n with h0 | h0
  · exact h0
  · obtain ⟨b, off, x, e, _⟩ := h.place h0
    rw [ha] at e
    cases e
theorem OI.made (base : Nat) (w : World) (hb : base ≤ w.heap.size) : OI base (w.alloc (.cells #[] 36)) (.slice (some ⟨w.heap.size, 0, none⟩) 0 0) [] :=
  ⟨rfl, .inr ⟨w.heap.size, 0, #[], rfl, hb, heap_alloc_new w _, Nat.le_refl _, by simp [maxLen], rfl, rfl⟩⟩

theorem own_lt {v : Value} {b n c : Nat} (hv : v = .slice (some ⟨b, 0, none⟩) n c) : ∀ k, k < b → ¬ v.ownBlock = some k := by
  subst hv
  intro k hk e
  have e' : b = k := by simpa [Value.ownBlock] using e
  omega
set_option maxRecDepth 100000 in
set_option maxHeartbeats 1600000 in
theorem clone_any (A : Option Addr) (n c : Nat) (l : List It) (w : World) (hl : IL w A n l) (hn : n * 24 ≤ 140737488355328) :
    Calls Try.prog 29 #[.slice A n c] w fun e w' => ∃ v, e = .returned v ∧ OI w.heap.size w' v l ∧ Below w.heap.size w w' := by
  have hq := fun w => Lib.run_eql_slice_nil (P := Try.prog) w _ _ A n c 0 0 Try.underlying30
  have hlen := hl.len
  cases A with
  | none =>
    have h0 := hl.none_zero rfl
    subst h0
    obtain rfl : l = [] := List.eq_nil_of_length_eq_zero hlen
    go_enter Try.func29, Try.ntmps29
    go_wp2
    go_ret
    exact ⟨_, rfl, OI.nil _ _, Below.refl _ _⟩
  | some ad =>
    go_enter Try.func29, Try.ntmps29
    go_wp2_with (at_builtin; refine wpAppI rfl _ _ rfl w.heap.size _ [] rfl (OI.made _ _ (Nat.le_refl _)) (some ad) n c l rfl (hl.alloc _) (fun h => by cases h) (by simp; omega) (by simp) ?_; rintro v' w3 hO3 hk3 hl3)
    go_ret
    rw [List.nil_append] at hO3
    refine ⟨_, rfl, hO3, ((Below.refl w.heap.size w).alloc (Nat.le_refl _) _).trans (hk3.below (by simp) (own_lt rfl))⟩

set_option maxRecDepth 100000 in
set_option maxHeartbeats 1600000 in
theorem grow_nil (k : Nat) (w : World) (hk : k ≤ 1048576) :
    Calls Try.prog 55 #[.slice none 0 0, .int .i64 (k : Int)] w fun e w' => ∃ v, e = .returned v ∧ OI w.heap.size w' v [] ∧ Below w.heap.size w w' := by
  obtain ⟨i, hi, hz, hs, hb⟩ := info_parts item_info
  have h1 : ¬ (k : Int) < 0 := by omega
  have hw1 : wrap64 ((k : Int) - 0) = (k : Int) := by unfold wrap64; omega
  by_cases h0 : k = 0
  · subst h0
    go_enter Try.func55, Try.ntmps55
    go_wp2
    go_ret
    exact ⟨_, rfl, OI.nil _ _, Below.refl _ _⟩
  · have h2 : 0 < (k : Int) := by omega
    have hrun := fun ty => Lib.run_append_nil_zeros (P := Try.prog) w 30 3 ty 36 i _ .i64 .i64 Try.underlying30 Try.underlying3 hi hz k (by omega) (by omega) (by omega) (by rw [hb]; omega)
    have hcl := grownCap_le_maxLen w k 0 36 (by simp only [maxLen]; omega)
    have hcg := grownCap_ge w k 0 36
    generalize grownCap w k 0 36 = cap at *
    have hcap0 : (0 : Int) ≤ (cap : Int) := by omega
    go_enter Try.func55, Try.ntmps55
    go_wp2_with (at_builtin; refine Lib.wpList_append_run _ rfl _ _ _ _ rfl _ _ rfl rfl _ _ (hrun _) ?_)
    go_ret
    refine ⟨_, rfl, ⟨rfl, .inr ⟨w.heap.size, cap, _, rfl, Nat.le_refl _, heap_alloc_new w.drew _, Nat.zero_le _, hcl, ?_, by simp⟩⟩, (Below.refl w.heap.size w).drew.alloc (Nat.le_refl _) _⟩
    simp [Builtin.zeroCells, Value.cells]
    omega

/-- How many items lie ahead of list k of two. -/
def upTo2 (n n' k : Nat) : Nat := match k with | 0 => 0 | 1 => n | _ => n + n'
def lists2 (l l' : List It) (k : Nat) : List It := match k with | 0 => [] | 1 => l | _ => l ++ l'

set_option maxRecDepth 100000 in
set_option maxHeartbeats 3200000 in
theorem concat_two (g : Nat) (A A' : Option Addr) (n c n' c' : Nat) (l l' : List It) (w : World) (h0 : w.cell? ⟨g, 0, none⟩ = some (.slice A n c)) (h1 : w.cell? ⟨g, 1, none⟩ = some (.slice A' n' c')) (hl : IL w A n l) (hl' : IL w A' n' l') (hn : n ≤ 500000) (hn' : n' ≤ 500000) :
    Calls Try.prog 47 #[.slice (some ⟨g, 0, none⟩) 2 2] w fun e w' => ∃ v, e = .returned v ∧ OI w.heap.size w' v (l ++ l') ∧ Below w.heap.size w w' := by
  have hlen := hl.len
  have hlen' := hl'.len
  have hg := World.block_lt_of_cell? _ _ h0
  dsimp only at hg
  go_enter Try.func47, Try.ntmps47
  go_wp2
  go_loopw [3, 5, 11] (fun sz s i wr => wr = w ∧ ∃ k : Nat, i = .int .i64 (k : Int) ∧ k ≤ 2 ∧ sz = .int .i64 (upTo2 n n' k : Int)) (fun _ _ i _ => 2 - (intOf i).toNat)
  case atStart => exact ⟨rfl, 0, by go_num, by omega, rfl⟩
  case round =>
    obtain ⟨hw, k, rfl, hk, rfl⟩ := hrel
    have hw' := hw.symm
    subst hw'
    rcases (by omega : k = 0 ∨ k = 1 ∨ k = 2) with rfl | rfl | rfl
    · have hnn : ¬ (n : Int) < 0 := by omega
      have hw0 : wrap64 (0 + (n : Int)) = (n : Int) := by unfold wrap64; omega
      simp only [upTo2]
      go_wp2
      go_roundw
      case measure => simp [intOf]
      case rel => exact ⟨trivial, 1, by go_num, by omega, rfl⟩
    · have hnn : ¬ ((n : Int) + (n' : Int)) < 0 := by omega
      have hw0 : wrap64 ((n : Int) + (n' : Int)) = (n : Int) + (n' : Int) := by unfold wrap64; omega
      simp only [upTo2]
      go_wp2
      go_roundw
      case measure => simp [intOf]
      case rel => exact ⟨trivial, 2, by go_num, by omega, by simp [upTo2]⟩
    · simp only [upTo2]
      go_wp2_with (go_at_call 55; refine (grow_nil (n + n') _ (by omega)).mono ?_; rintro e w2 ⟨v, rfl, ho2, hb2⟩; have h02 := (hb2.cell (p := ⟨g, 0, none⟩) hg).trans h0; have h12 := (hb2.cell (p := ⟨g, 1, none⟩) hg).trans h1)
      go_loopw [6, 8, 27] (fun v s i w3 => ∃ k : Nat, i = .int .i64 (k : Int) ∧ k ≤ 2 ∧ OI w.heap.size w3 v (lists2 l l' k) ∧ Below w.heap.size w w3) (fun _ _ i _ => 2 - (intOf i).toNat)
      case atStart => exact ⟨0, by go_num, by omega, ho2, hb2⟩
      case round =>
        obtain ⟨k, rfl, hk, hO, hB⟩ := hrel
        have hl3 := hl.below hB
        have hl3' := hl'.below hB
        have h03 := (hB.cell (p := ⟨g, 0, none⟩) hg).trans h0
        have h13 := (hB.cell (p := ⟨g, 1, none⟩) hg).trans h1
        have hzB := hB.size
        rcases (by omega : k = 0 ∨ k = 1 ∨ k = 2) with rfl | rfl | rfl
        · go_wp2_with (at_builtin; refine wpAppI rfl _ _ rfl w.heap.size _ [] rfl hO A n c l rfl hl3 hl3.none_zero (by simp; omega) hzB ?_; rintro v' w4 hO4 hk4 hl4)
          go_roundw
          case measure => simp [intOf]
          case rel => exact ⟨1, by go_num, by omega, hO4, hB.trans (hk4.below hzB (fun j hj e => by have := (hO.lt j e).1; omega))⟩
        · go_wp2_with (at_builtin; refine wpAppI rfl _ _ rfl w.heap.size _ l rfl hO A' n' c' l' rfl hl3' hl3'.none_zero (by omega) hzB ?_; rintro v' w4 hO4 hk4 hl4)
          go_roundw
          case measure => simp [intOf]
          case rel => exact ⟨2, by go_num, by omega, hO4, hB.trans (hk4.below hzB (fun j hj e => by have := (hO.lt j e).1; omega))⟩
        · go_wp2
          go_ret
          exact ⟨_, rfl, hO, hB⟩
end Go.Proofs.Ytligpmnpfdaknaa
