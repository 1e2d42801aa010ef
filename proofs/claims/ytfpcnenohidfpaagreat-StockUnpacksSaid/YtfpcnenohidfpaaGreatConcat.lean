/- Clone, Grow of nil, Concat of two: new lists. No condition but that the lists are ones of memory, and their length. -/
import Derived.Test.YtfpcnenohidfpaaGreatNorm
import Derived.Lib.AppendZeros
import Derived.Lib.SliceRun
namespace Go.Proofs.YtfpcnenohidfpaaGreat
open Go.RowKit Go.Maps Go.Shelf Go.Sort
set_option linter.unusedVariables false
set_option linter.unusedSimpArgs false

theorem IL.none_zero {w : World} {A : Option Addr} {n : Nat} {l : List It} (h : IL w A n l) (ha : A = none) : n = 0 := by
  rcases Nat.eq_zero_or_pos n with h0 | h0
  · exact h0
  · obtain ⟨b, off, x, e, _⟩ := h.place h0
    rw [ha] at e
    cases e
theorem OI.made (base : Nat) (w : World) (hb : base ≤ w.heap.size) : OI base (w.alloc (.cells #[] 66)) (.slice (some ⟨w.heap.size, 0, none⟩) 0 0) [] :=
  ⟨rfl, .inr ⟨w.heap.size, 0, #[], rfl, hb, heap_alloc_new w _, Nat.le_refl _, by simp [maxLen], rfl, rfl⟩⟩

theorem own_lt {v : Value} {b n c : Nat} (hv : v = .slice (some ⟨b, 0, none⟩) n c) : ∀ k, k < b → ¬ v.ownBlock = some k := by
  subst hv
  intro k hk e
  have e' : b = k := by simpa [Value.ownBlock] using e
  omega
set_option maxRecDepth 100000 in
set_option maxHeartbeats 1600000 in
theorem clone_any (A : Option Addr) (n c : Nat) (l : List It) (w : World) (hl : IL w A n l) (hn : n * 24 ≤ 140737488355328) :
    Calls Tryz.prog 70 #[.slice A n c] w fun e w' => ∃ v, e = .returned v ∧ OI w.heap.size w' v l ∧ Below w.heap.size w w' := by
  have hq := fun w => Lib.run_eql_slice_nil (P := Tryz.prog) w _ _ A n c 0 0 Tryz.underlying67
  have hlen := hl.len
  cases A with
  | none =>
    have h0 := hl.none_zero rfl
    subst h0
    obtain rfl : l = [] := List.eq_nil_of_length_eq_zero hlen
    go_enter Tryz.func70, Tryz.ntmps70
    go_wp2
    go_ret
    exact ⟨_, rfl, OI.nil _ _, Below.refl _ _⟩
  | some ad =>
    go_enter Tryz.func70, Tryz.ntmps70
    go_wp2_with (at_builtin; refine wpAppI rfl _ _ rfl w.heap.size _ [] rfl (OI.made _ _ (Nat.le_refl _)) (some ad) n c l rfl (hl.alloc _) (fun h => by cases h) (by simp; omega) (by simp) ?_; rintro v' w3 hO3 hk3 hl3)
    go_ret
    rw [List.nil_append] at hO3
    refine ⟨_, rfl, hO3, ((Below.refl w.heap.size w).alloc (Nat.le_refl _) _).trans (hk3.below (by simp) (own_lt rfl))⟩

/-- How many items lie ahead of list k of two. -/
def upTo2 (n n' k : Nat) : Nat := match k with | 0 => 0 | 1 => n | _ => n + n'
def lists2 (l l' : List It) (k : Nat) : List It := match k with | 0 => [] | 1 => l | _ => l ++ l'

end Go.Proofs.YtfpcnenohidfpaaGreat
