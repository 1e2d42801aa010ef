/- The stock's calls: several texts as one (StkC, StkD). No condition but those told at each. -/
import Derived.Test.YtfpcnenohidfpaaGreatSmA
import Derived.Deep.RegionHeld3
namespace Go.Proofs.YtfpcnenohidfpaaGreat
section
open Go.RowKit Go.Maps Go.Shelf
set_option linter.unusedVariables false
set_option linter.unusedSimpArgs false

/-- Of a kind: from which of a row's numbers it takes, to which it adds, which flow grows. -/
def chg (k : Int) : Option Nat × Option Nat × Option Nat :=
  if k = 1 then (none, some 0, some 4)
  else if k = 2 then (some 0, some 1, none)
  else if k = 3 then (some 1, some 0, none)
  else if k = 4 then (some 1, some 2, none)
  else if k = 5 then (some 2, some 1, none)
  else if k = 6 then (some 2, none, some 8)
  else if k = 7 then (none, some 3, some 5)
  else if k = 8 then (some 3, some 0, none)
  else if k = 9 then (some 3, none, some 9)
  else if k = 10 then (some 0, none, some 10)
  else if k = 11 then (none, some 0, some 7)
  else (none, none, none)
def ptrTo (g : Nat) : Option Nat → Value
  | none => .pointer none
  | some i => .pointer (some ⟨g, i, none⟩)
def chgV (g : Nat) (k : Int) : Value := .agg #[ptrTo g (chg k).1, ptrTo g (chg k).2.1, ptrTo g (chg k).2.2]
theorem chg_none {k : Int} (h : ¬ (1 ≤ k ∧ k ≤ 11)) : chg k = (none, none, none) := by
  unfold chg
  repeat rw [if_neg (by omega)]
theorem doKinds {k : Int} (h : 1 ≤ k ∧ k ≤ 11) : k = 1 ∨ k = 2 ∨ k = 3 ∨ k = 4 ∨ k = 5 ∨ k = 6 ∨ k = 7 ∨ k = 8 ∨ k = 9 ∨ k = 10 ∨ k = 11 := by omega

set_option maxRecDepth 100000 in
set_option maxHeartbeats 6400000 in
theorem change_any (g : Nat) (k : Int) (w : World) : Calls Tryz.prog 65 #[.pointer (some ⟨g, 0, none⟩), .int .i64 k] w fun e w' => e = .returned (chgV g k) ∧ Below w.heap.size w w' := by
  by_cases h : 1 ≤ k ∧ k ≤ 11
  · rcases doKinds h with rfl | rfl | rfl | rfl | rfl | rfl | rfl | rfl | rfl | rfl | rfl
    · have hb := Below.drew (Below.drew ((Below.refl w.heap.size w).alloc (Nat.le_refl _) (.cells #[.pointer none, .pointer (some ⟨g, 0, none⟩), .pointer (some ⟨g, 4, none⟩)] 123)))
      go_enter Tryz.func65, Tryz.ntmps65
      go_wp2_with fail
      refine wp_region_held_drew (S := (fun _ => True)) (by kernel_rfl) trivial (fun hHeld => ?_)
      refine wpAnyH_take (i := 0) (oi := ?oi0A1) (v := ?v0A1) ?hi0A1 (by kernel_rfl) (by kernel_rfl) (by kernel_rfl) ?hq0A1 (Or.inl ⟨?hw0A1, ?hy0A1⟩) (by assumption) ?rest0A1
      case hi0A1 => (simp only [List.getElem?_toArray, List.getElem?_cons_succ, List.getElem?_cons_zero]; rfl)
      case hq0A1 => exact fun _ _ _ h => h
      case hw0A1 => rfl
      case hy0A1 => (intro w hSw; (try dsimp only at hSw); go_simp <;> with_reducible rfl)
      try simp only [Act.put, List.setIfInBounds_toArray, List.set_cons_zero, List.set_cons_succ]
      refine wpAnyH_take (i := 1) (oi := ?oi1A1) (v := ?v1A1) ?hi1A1 (by kernel_rfl) (by kernel_rfl) (by kernel_rfl) ?hq1A1 (Or.inl ⟨?hw1A1, ?hy1A1⟩) (by assumption) ?rest1A1
      case hi1A1 => (simp only [List.getElem?_toArray, List.getElem?_cons_succ, List.getElem?_cons_zero]; rfl)
      case hq1A1 => exact fun _ _ _ h => h
      case hw1A1 => rfl
      case hy1A1 => (intro w hSw; (try dsimp only at hSw); go_simp <;> with_reducible rfl)
      try simp only [Act.put, List.setIfInBounds_toArray, List.set_cons_zero, List.set_cons_succ]
      refine wpAnyH_take (i := 2) (oi := ?oi2A1) (v := ?v2A1) ?hi2A1 (by kernel_rfl) (by kernel_rfl) (by kernel_rfl) ?hq2A1 (Or.inl ⟨?hw2A1, ?hy2A1⟩) (by assumption) ?rest2A1
      case hi2A1 => (simp only [List.getElem?_toArray, List.getElem?_cons_succ, List.getElem?_cons_zero]; rfl)
      case hq2A1 => exact fun _ _ _ h => h
      case hw2A1 => rfl
      case hy2A1 => (intro w hSw; (try dsimp only at hSw); go_simp <;> with_reducible rfl)
      try simp only [Act.put, List.setIfInBounds_toArray, List.set_cons_zero, List.set_cons_succ]
      refine wpAnyH_take (i := 3) (oi := ?oi3A1) (v := ?v3A1) ?hi3A1 (by kernel_rfl) (by kernel_rfl) (by kernel_rfl) ?hq3A1 (Or.inl ⟨?hw3A1, ?hy3A1⟩) (by assumption) ?rest3A1
      case hi3A1 => (simp only [List.getElem?_toArray, List.getElem?_cons_succ, List.getElem?_cons_zero]; rfl)
      case hq3A1 => exact fun _ _ _ h => h
      case hw3A1 => rfl
      case hy3A1 => (intro w hSw; (try dsimp only at hSw); go_simp <;> with_reducible rfl)
      try simp only [Act.put, List.setIfInBounds_toArray, List.set_cons_zero, List.set_cons_succ]
      refine wpAnyH_take (i := 4) (oi := ?oi4A1) (v := ?v4A1) ?hi4A1 (by kernel_rfl) (by kernel_rfl) (by kernel_rfl) ?hq4A1 (Or.inl ⟨?hw4A1, ?hy4A1⟩) (by assumption) ?rest4A1
      case hi4A1 => (simp only [List.getElem?_toArray, List.getElem?_cons_succ, List.getElem?_cons_zero]; rfl)
      case hq4A1 => exact fun _ _ _ h => h
      case hw4A1 => rfl
      case hy4A1 => (intro w hSw; (try dsimp only at hSw); go_simp <;> with_reducible rfl)
      try simp only [Act.put, List.setIfInBounds_toArray, List.set_cons_zero, List.set_cons_succ]
      refine wpAnyH_take (i := 5) (oi := ?oi5A1) (v := ?v5A1) ?hi5A1 (by kernel_rfl) (by kernel_rfl) (by kernel_rfl) ?hq5A1 (Or.inl ⟨?hw5A1, ?hy5A1⟩) (by assumption) ?rest5A1
      case hi5A1 => (simp only [List.getElem?_toArray, List.getElem?_cons_succ, List.getElem?_cons_zero]; rfl)
      case hq5A1 => exact fun _ _ _ h => h
      case hw5A1 => rfl
      case hy5A1 => (intro w hSw; (try dsimp only at hSw); go_simp <;> with_reducible rfl)
      try simp only [Act.put, List.setIfInBounds_toArray, List.set_cons_zero, List.set_cons_succ]
      refine wpAnyH_take (i := 6) (oi := ?oi6A1) (v := ?v6A1) ?hi6A1 (by kernel_rfl) (by kernel_rfl) (by kernel_rfl) ?hq6A1 (Or.inl ⟨?hw6A1, ?hy6A1⟩) (by assumption) ?rest6A1
      case hi6A1 => (simp only [List.getElem?_toArray, List.getElem?_cons_succ, List.getElem?_cons_zero]; rfl)
      case hq6A1 => exact fun _ _ _ h => h
      case hw6A1 => rfl
      case hy6A1 => (intro w hSw; (try dsimp only at hSw); go_simp <;> with_reducible rfl)
      try simp only [Act.put, List.setIfInBounds_toArray, List.set_cons_zero, List.set_cons_succ]
      refine wpAnyH_take (i := 7) (oi := ?oi7A1) (v := ?v7A1) ?hi7A1 (by kernel_rfl) (by kernel_rfl) (by kernel_rfl) ?hq7A1 (Or.inl ⟨?hw7A1, ?hy7A1⟩) (by assumption) ?rest7A1
      case hi7A1 => (simp only [List.getElem?_toArray, List.getElem?_cons_succ, List.getElem?_cons_zero]; rfl)
      case hq7A1 => exact fun _ _ _ h => h
      case hw7A1 => rfl
      case hy7A1 => (intro w hSw; (try dsimp only at hSw); go_simp <;> with_reducible rfl)
      try simp only [Act.put, List.setIfInBounds_toArray, List.set_cons_zero, List.set_cons_succ]
      refine wpAnyH_done (by kernel_rfl) ?_ _
      go_wp2_with fail
      refine wp_region_held_drew (S := (fun _ => True)) (by kernel_rfl) trivial (fun hHeld => ?_)
      refine wpAnyH_take (i := 0) (oi := ?oi0B1) (v := ?v0B1) ?hi0B1 (by kernel_rfl) (by kernel_rfl) (by kernel_rfl) ?hq0B1 (Or.inl ⟨?hw0B1, ?hy0B1⟩) (by assumption) ?rest0B1
      case hi0B1 => (simp only [List.getElem?_toArray, List.getElem?_cons_succ, List.getElem?_cons_zero]; rfl)
      case hq0B1 => exact fun _ _ _ h => h
      case hw0B1 => rfl
      case hy0B1 => (intro w hSw; (try dsimp only at hSw); go_simp <;> with_reducible rfl)
      try simp only [Act.put, List.setIfInBounds_toArray, List.set_cons_zero, List.set_cons_succ]
      refine wpAnyH_take (i := 1) (oi := ?oi1B1) (v := ?v1B1) ?hi1B1 (by kernel_rfl) (by kernel_rfl) (by kernel_rfl) ?hq1B1 (Or.inl ⟨?hw1B1, ?hy1B1⟩) (by assumption) ?rest1B1
      case hi1B1 => (simp only [List.getElem?_toArray, List.getElem?_cons_succ, List.getElem?_cons_zero]; rfl)
      case hq1B1 => exact fun _ _ _ h => h
      case hw1B1 => rfl
      case hy1B1 => (intro w hSw; (try dsimp only at hSw); go_simp <;> with_reducible rfl)
      try simp only [Act.put, List.setIfInBounds_toArray, List.set_cons_zero, List.set_cons_succ]
      refine wpAnyH_take (i := 2) (oi := ?oi2B1) (v := ?v2B1) ?hi2B1 (by kernel_rfl) (by kernel_rfl) (by kernel_rfl) ?hq2B1 (Or.inl ⟨?hw2B1, ?hy2B1⟩) (by assumption) ?rest2B1
      case hi2B1 => (simp only [List.getElem?_toArray, List.getElem?_cons_succ, List.getElem?_cons_zero]; rfl)
      case hq2B1 => exact fun _ _ _ h => h
      case hw2B1 => rfl
      case hy2B1 => (intro w hSw; (try dsimp only at hSw); go_simp <;> with_reducible rfl)
      try simp only [Act.put, List.setIfInBounds_toArray, List.set_cons_zero, List.set_cons_succ]
      refine wpAnyH_take (i := 3) (oi := ?oi3B1) (v := ?v3B1) ?hi3B1 (by kernel_rfl) (by kernel_rfl) (by kernel_rfl) ?hq3B1 (Or.inl ⟨?hw3B1, ?hy3B1⟩) (by assumption) ?rest3B1
      case hi3B1 => (simp only [List.getElem?_toArray, List.getElem?_cons_succ, List.getElem?_cons_zero]; rfl)
      case hq3B1 => exact fun _ _ _ h => h
      case hw3B1 => rfl
      case hy3B1 => (intro w hSw; (try dsimp only at hSw); go_simp <;> with_reducible rfl)
      try simp only [Act.put, List.setIfInBounds_toArray, List.set_cons_zero, List.set_cons_succ]
      refine wpAnyH_take (i := 4) (oi := ?oi4B1) (v := ?v4B1) ?hi4B1 (by kernel_rfl) (by kernel_rfl) (by kernel_rfl) ?hq4B1 (Or.inl ⟨?hw4B1, ?hy4B1⟩) (by assumption) ?rest4B1
      case hi4B1 => (simp only [List.getElem?_toArray, List.getElem?_cons_succ, List.getElem?_cons_zero]; rfl)
      case hq4B1 => exact fun _ _ _ h => h
      case hw4B1 => rfl
      case hy4B1 => (intro w hSw; (try dsimp only at hSw); go_simp <;> with_reducible rfl)
      try simp only [Act.put, List.setIfInBounds_toArray, List.set_cons_zero, List.set_cons_succ]
      refine wpAnyH_take (i := 5) (oi := ?oi5B1) (v := ?v5B1) ?hi5B1 (by kernel_rfl) (by kernel_rfl) (by kernel_rfl) ?hq5B1 (Or.inl ⟨?hw5B1, ?hy5B1⟩) (by assumption) ?rest5B1
      case hi5B1 => (simp only [List.getElem?_toArray, List.getElem?_cons_succ, List.getElem?_cons_zero]; rfl)
      case hq5B1 => exact fun _ _ _ h => h
      case hw5B1 => rfl
      case hy5B1 => (intro w hSw; (try dsimp only at hSw); go_simp <;> with_reducible rfl)
      try simp only [Act.put, List.setIfInBounds_toArray, List.set_cons_zero, List.set_cons_succ]
      refine wpAnyH_take (i := 6) (oi := ?oi6B1) (v := ?v6B1) ?hi6B1 (by kernel_rfl) (by kernel_rfl) (by kernel_rfl) ?hq6B1 (Or.inl ⟨?hw6B1, ?hy6B1⟩) (by assumption) ?rest6B1
      case hi6B1 => (simp only [List.getElem?_toArray, List.getElem?_cons_succ, List.getElem?_cons_zero]; rfl)
      case hq6B1 => exact fun _ _ _ h => h
      case hw6B1 => rfl
      case hy6B1 => (intro w hSw; (try dsimp only at hSw); go_simp <;> with_reducible rfl)
      try simp only [Act.put, List.setIfInBounds_toArray, List.set_cons_zero, List.set_cons_succ]
      refine wpAnyH_ready (rs := [7]) (by kernel_rfl) (by simp) ?_
      refine AllReadyH.cons (o := ?o7B1) ?hi7B1 (fun K hK => ?st7B1) AllReadyH.nil
      case hi7B1 => (simp only [List.getElem?_toArray, List.getElem?_cons_succ, List.getElem?_cons_zero]; rfl)
      go_simp
      refine hK.out _ _ trivial (fun hHeld2 => ?_)
      clear hK K hHeld
      have hHeld := hHeld2
      clear hHeld2
      try simp only [Act.put, List.setIfInBounds_toArray, List.set_cons_zero, List.set_cons_succ]
      refine wpAnyH_done (by kernel_rfl) ?_ _
      go_wp2
      refine bodyPost_ret (v := .agg #[.pointer none, .pointer (some ⟨g, 0, none⟩), .pointer (some ⟨g, 4, none⟩)]) (by simp [results, Tryz.results65, go_sem]) rfl ⟨rfl, hb⟩
    · have hb := Below.drew (Below.drew ((Below.refl w.heap.size w).alloc (Nat.le_refl _) (.cells #[.pointer (some ⟨g, 0, none⟩), .pointer (some ⟨g, 1, none⟩), .pointer none] 123)))
      go_enter Tryz.func65, Tryz.ntmps65
      go_wp2_with fail
      refine wp_region_held_drew (S := (fun _ => True)) (by kernel_rfl) trivial (fun hHeld => ?_)
      refine wpAnyH_take (i := 0) (oi := ?oi0A2) (v := ?v0A2) ?hi0A2 (by kernel_rfl) (by kernel_rfl) (by kernel_rfl) ?hq0A2 (Or.inl ⟨?hw0A2, ?hy0A2⟩) (by assumption) ?rest0A2
      case hi0A2 => (simp only [List.getElem?_toArray, List.getElem?_cons_succ, List.getElem?_cons_zero]; rfl)
      case hq0A2 => exact fun _ _ _ h => h
      case hw0A2 => rfl
      case hy0A2 => (intro w hSw; (try dsimp only at hSw); go_simp <;> with_reducible rfl)
      try simp only [Act.put, List.setIfInBounds_toArray, List.set_cons_zero, List.set_cons_succ]
      refine wpAnyH_take (i := 1) (oi := ?oi1A2) (v := ?v1A2) ?hi1A2 (by kernel_rfl) (by kernel_rfl) (by kernel_rfl) ?hq1A2 (Or.inl ⟨?hw1A2, ?hy1A2⟩) (by assumption) ?rest1A2
      case hi1A2 => (simp only [List.getElem?_toArray, List.getElem?_cons_succ, List.getElem?_cons_zero]; rfl)
      case hq1A2 => exact fun _ _ _ h => h
      case hw1A2 => rfl
      case hy1A2 => (intro w hSw; (try dsimp only at hSw); go_simp <;> with_reducible rfl)
      try simp only [Act.put, List.setIfInBounds_toArray, List.set_cons_zero, List.set_cons_succ]
      refine wpAnyH_take (i := 2) (oi := ?oi2A2) (v := ?v2A2) ?hi2A2 (by kernel_rfl) (by kernel_rfl) (by kernel_rfl) ?hq2A2 (Or.inl ⟨?hw2A2, ?hy2A2⟩) (by assumption) ?rest2A2
      case hi2A2 => (simp only [List.getElem?_toArray, List.getElem?_cons_succ, List.getElem?_cons_zero]; rfl)
      case hq2A2 => exact fun _ _ _ h => h
      case hw2A2 => rfl
      case hy2A2 => (intro w hSw; (try dsimp only at hSw); go_simp <;> with_reducible rfl)
      try simp only [Act.put, List.setIfInBounds_toArray, List.set_cons_zero, List.set_cons_succ]
      refine wpAnyH_take (i := 3) (oi := ?oi3A2) (v := ?v3A2) ?hi3A2 (by kernel_rfl) (by kernel_rfl) (by kernel_rfl) ?hq3A2 (Or.inl ⟨?hw3A2, ?hy3A2⟩) (by assumption) ?rest3A2
      case hi3A2 => (simp only [List.getElem?_toArray, List.getElem?_cons_succ, List.getElem?_cons_zero]; rfl)
      case hq3A2 => exact fun _ _ _ h => h
      case hw3A2 => rfl
      case hy3A2 => (intro w hSw; (try dsimp only at hSw); go_simp <;> with_reducible rfl)
      try simp only [Act.put, List.setIfInBounds_toArray, List.set_cons_zero, List.set_cons_succ]
      refine wpAnyH_take (i := 4) (oi := ?oi4A2) (v := ?v4A2) ?hi4A2 (by kernel_rfl) (by kernel_rfl) (by kernel_rfl) ?hq4A2 (Or.inl ⟨?hw4A2, ?hy4A2⟩) (by assumption) ?rest4A2
      case hi4A2 => (simp only [List.getElem?_toArray, List.getElem?_cons_succ, List.getElem?_cons_zero]; rfl)
      case hq4A2 => exact fun _ _ _ h => h
      case hw4A2 => rfl
      case hy4A2 => (intro w hSw; (try dsimp only at hSw); go_simp <;> with_reducible rfl)
      try simp only [Act.put, List.setIfInBounds_toArray, List.set_cons_zero, List.set_cons_succ]
      refine wpAnyH_take (i := 5) (oi := ?oi5A2) (v := ?v5A2) ?hi5A2 (by kernel_rfl) (by kernel_rfl) (by kernel_rfl) ?hq5A2 (Or.inl ⟨?hw5A2, ?hy5A2⟩) (by assumption) ?rest5A2
      case hi5A2 => (simp only [List.getElem?_toArray, List.getElem?_cons_succ, List.getElem?_cons_zero]; rfl)
      case hq5A2 => exact fun _ _ _ h => h
      case hw5A2 => rfl
      case hy5A2 => (intro w hSw; (try dsimp only at hSw); go_simp <;> with_reducible rfl)
      try simp only [Act.put, List.setIfInBounds_toArray, List.set_cons_zero, List.set_cons_succ]
      refine wpAnyH_take (i := 6) (oi := ?oi6A2) (v := ?v6A2) ?hi6A2 (by kernel_rfl) (by kernel_rfl) (by kernel_rfl) ?hq6A2 (Or.inl ⟨?hw6A2, ?hy6A2⟩) (by assumption) ?rest6A2
      case hi6A2 => (simp only [List.getElem?_toArray, List.getElem?_cons_succ, List.getElem?_cons_zero]; rfl)
      case hq6A2 => exact fun _ _ _ h => h
      case hw6A2 => rfl
      case hy6A2 => (intro w hSw; (try dsimp only at hSw); go_simp <;> with_reducible rfl)
      try simp only [Act.put, List.setIfInBounds_toArray, List.set_cons_zero, List.set_cons_succ]
      refine wpAnyH_take (i := 7) (oi := ?oi7A2) (v := ?v7A2) ?hi7A2 (by kernel_rfl) (by kernel_rfl) (by kernel_rfl) ?hq7A2 (Or.inl ⟨?hw7A2, ?hy7A2⟩) (by assumption) ?rest7A2
      case hi7A2 => (simp only [List.getElem?_toArray, List.getElem?_cons_succ, List.getElem?_cons_zero]; rfl)
      case hq7A2 => exact fun _ _ _ h => h
      case hw7A2 => rfl
      case hy7A2 => (intro w hSw; (try dsimp only at hSw); go_simp <;> with_reducible rfl)
      try simp only [Act.put, List.setIfInBounds_toArray, List.set_cons_zero, List.set_cons_succ]
      refine wpAnyH_done (by kernel_rfl) ?_ _
      go_wp2_with fail
      refine wp_region_held_drew (S := (fun _ => True)) (by kernel_rfl) trivial (fun hHeld => ?_)
      refine wpAnyH_take (i := 0) (oi := ?oi0B2) (v := ?v0B2) ?hi0B2 (by kernel_rfl) (by kernel_rfl) (by kernel_rfl) ?hq0B2 (Or.inl ⟨?hw0B2, ?hy0B2⟩) (by assumption) ?rest0B2
      case hi0B2 => (simp only [List.getElem?_toArray, List.getElem?_cons_succ, List.getElem?_cons_zero]; rfl)
      case hq0B2 => exact fun _ _ _ h => h
      case hw0B2 => rfl
      case hy0B2 => (intro w hSw; (try dsimp only at hSw); go_simp <;> with_reducible rfl)
      try simp only [Act.put, List.setIfInBounds_toArray, List.set_cons_zero, List.set_cons_succ]
      refine wpAnyH_take (i := 1) (oi := ?oi1B2) (v := ?v1B2) ?hi1B2 (by kernel_rfl) (by kernel_rfl) (by kernel_rfl) ?hq1B2 (Or.inl ⟨?hw1B2, ?hy1B2⟩) (by assumption) ?rest1B2
      case hi1B2 => (simp only [List.getElem?_toArray, List.getElem?_cons_succ, List.getElem?_cons_zero]; rfl)
      case hq1B2 => exact fun _ _ _ h => h
      case hw1B2 => rfl
      case hy1B2 => (intro w hSw; (try dsimp only at hSw); go_simp <;> with_reducible rfl)
      try simp only [Act.put, List.setIfInBounds_toArray, List.set_cons_zero, List.set_cons_succ]
      refine wpAnyH_take (i := 2) (oi := ?oi2B2) (v := ?v2B2) ?hi2B2 (by kernel_rfl) (by kernel_rfl) (by kernel_rfl) ?hq2B2 (Or.inl ⟨?hw2B2, ?hy2B2⟩) (by assumption) ?rest2B2
      case hi2B2 => (simp only [List.getElem?_toArray, List.getElem?_cons_succ, List.getElem?_cons_zero]; rfl)
      case hq2B2 => exact fun _ _ _ h => h
      case hw2B2 => rfl
      case hy2B2 => (intro w hSw; (try dsimp only at hSw); go_simp <;> with_reducible rfl)
      try simp only [Act.put, List.setIfInBounds_toArray, List.set_cons_zero, List.set_cons_succ]
      refine wpAnyH_take (i := 3) (oi := ?oi3B2) (v := ?v3B2) ?hi3B2 (by kernel_rfl) (by kernel_rfl) (by kernel_rfl) ?hq3B2 (Or.inl ⟨?hw3B2, ?hy3B2⟩) (by assumption) ?rest3B2
      case hi3B2 => (simp only [List.getElem?_toArray, List.getElem?_cons_succ, List.getElem?_cons_zero]; rfl)
      case hq3B2 => exact fun _ _ _ h => h
      case hw3B2 => rfl
      case hy3B2 => (intro w hSw; (try dsimp only at hSw); go_simp <;> with_reducible rfl)
      try simp only [Act.put, List.setIfInBounds_toArray, List.set_cons_zero, List.set_cons_succ]
      refine wpAnyH_take (i := 4) (oi := ?oi4B2) (v := ?v4B2) ?hi4B2 (by kernel_rfl) (by kernel_rfl) (by kernel_rfl) ?hq4B2 (Or.inl ⟨?hw4B2, ?hy4B2⟩) (by assumption) ?rest4B2
      case hi4B2 => (simp only [List.getElem?_toArray, List.getElem?_cons_succ, List.getElem?_cons_zero]; rfl)
      case hq4B2 => exact fun _ _ _ h => h
      case hw4B2 => rfl
      case hy4B2 => (intro w hSw; (try dsimp only at hSw); go_simp <;> with_reducible rfl)
      try simp only [Act.put, List.setIfInBounds_toArray, List.set_cons_zero, List.set_cons_succ]
      refine wpAnyH_take (i := 5) (oi := ?oi5B2) (v := ?v5B2) ?hi5B2 (by kernel_rfl) (by kernel_rfl) (by kernel_rfl) ?hq5B2 (Or.inl ⟨?hw5B2, ?hy5B2⟩) (by assumption) ?rest5B2
      case hi5B2 => (simp only [List.getElem?_toArray, List.getElem?_cons_succ, List.getElem?_cons_zero]; rfl)
      case hq5B2 => exact fun _ _ _ h => h
      case hw5B2 => rfl
      case hy5B2 => (intro w hSw; (try dsimp only at hSw); go_simp <;> with_reducible rfl)
      try simp only [Act.put, List.setIfInBounds_toArray, List.set_cons_zero, List.set_cons_succ]
      refine wpAnyH_take (i := 6) (oi := ?oi6B2) (v := ?v6B2) ?hi6B2 (by kernel_rfl) (by kernel_rfl) (by kernel_rfl) ?hq6B2 (Or.inl ⟨?hw6B2, ?hy6B2⟩) (by assumption) ?rest6B2
      case hi6B2 => (simp only [List.getElem?_toArray, List.getElem?_cons_succ, List.getElem?_cons_zero]; rfl)
      case hq6B2 => exact fun _ _ _ h => h
      case hw6B2 => rfl
      case hy6B2 => (intro w hSw; (try dsimp only at hSw); go_simp <;> with_reducible rfl)
      try simp only [Act.put, List.setIfInBounds_toArray, List.set_cons_zero, List.set_cons_succ]
      refine wpAnyH_ready (rs := [7]) (by kernel_rfl) (by simp) ?_
      refine AllReadyH.cons (o := ?o7B2) ?hi7B2 (fun K hK => ?st7B2) AllReadyH.nil
      case hi7B2 => (simp only [List.getElem?_toArray, List.getElem?_cons_succ, List.getElem?_cons_zero]; rfl)
      go_simp
      refine hK.out _ _ trivial (fun hHeld2 => ?_)
      clear hK K hHeld
      have hHeld := hHeld2
      clear hHeld2
      try simp only [Act.put, List.setIfInBounds_toArray, List.set_cons_zero, List.set_cons_succ]
      refine wpAnyH_done (by kernel_rfl) ?_ _
      go_wp2
      refine bodyPost_ret (v := .agg #[.pointer (some ⟨g, 0, none⟩), .pointer (some ⟨g, 1, none⟩), .pointer none]) (by simp [results, Tryz.results65, go_sem]) rfl ⟨rfl, hb⟩
    · have hb := Below.drew (Below.drew ((Below.refl w.heap.size w).alloc (Nat.le_refl _) (.cells #[.pointer (some ⟨g, 1, none⟩), .pointer (some ⟨g, 0, none⟩), .pointer none] 123)))
      go_enter Tryz.func65, Tryz.ntmps65
      go_wp2_with fail
      refine wp_region_held_drew (S := (fun _ => True)) (by kernel_rfl) trivial (fun hHeld => ?_)
      refine wpAnyH_take (i := 0) (oi := ?oi0A3) (v := ?v0A3) ?hi0A3 (by kernel_rfl) (by kernel_rfl) (by kernel_rfl) ?hq0A3 (Or.inl ⟨?hw0A3, ?hy0A3⟩) (by assumption) ?rest0A3
      case hi0A3 => (simp only [List.getElem?_toArray, List.getElem?_cons_succ, List.getElem?_cons_zero]; rfl)
      case hq0A3 => exact fun _ _ _ h => h
      case hw0A3 => rfl
      case hy0A3 => (intro w hSw; (try dsimp only at hSw); go_simp <;> with_reducible rfl)
      try simp only [Act.put, List.setIfInBounds_toArray, List.set_cons_zero, List.set_cons_succ]
      refine wpAnyH_take (i := 1) (oi := ?oi1A3) (v := ?v1A3) ?hi1A3 (by kernel_rfl) (by kernel_rfl) (by kernel_rfl) ?hq1A3 (Or.inl ⟨?hw1A3, ?hy1A3⟩) (by assumption) ?rest1A3
      case hi1A3 => (simp only [List.getElem?_toArray, List.getElem?_cons_succ, List.getElem?_cons_zero]; rfl)
      case hq1A3 => exact fun _ _ _ h => h
      case hw1A3 => rfl
      case hy1A3 => (intro w hSw; (try dsimp only at hSw); go_simp <;> with_reducible rfl)
      try simp only [Act.put, List.setIfInBounds_toArray, List.set_cons_zero, List.set_cons_succ]
      refine wpAnyH_take (i := 2) (oi := ?oi2A3) (v := ?v2A3) ?hi2A3 (by kernel_rfl) (by kernel_rfl) (by kernel_rfl) ?hq2A3 (Or.inl ⟨?hw2A3, ?hy2A3⟩) (by assumption) ?rest2A3
      case hi2A3 => (simp only [List.getElem?_toArray, List.getElem?_cons_succ, List.getElem?_cons_zero]; rfl)
      case hq2A3 => exact fun _ _ _ h => h
      case hw2A3 => rfl
      case hy2A3 => (intro w hSw; (try dsimp only at hSw); go_simp <;> with_reducible rfl)
      try simp only [Act.put, List.setIfInBounds_toArray, List.set_cons_zero, List.set_cons_succ]
      refine wpAnyH_take (i := 3) (oi := ?oi3A3) (v := ?v3A3) ?hi3A3 (by kernel_rfl) (by kernel_rfl) (by kernel_rfl) ?hq3A3 (Or.inl ⟨?hw3A3, ?hy3A3⟩) (by assumption) ?rest3A3
      case hi3A3 => (simp only [List.getElem?_toArray, List.getElem?_cons_succ, List.getElem?_cons_zero]; rfl)
      case hq3A3 => exact fun _ _ _ h => h
      case hw3A3 => rfl
      case hy3A3 => (intro w hSw; (try dsimp only at hSw); go_simp <;> with_reducible rfl)
      try simp only [Act.put, List.setIfInBounds_toArray, List.set_cons_zero, List.set_cons_succ]
      refine wpAnyH_take (i := 4) (oi := ?oi4A3) (v := ?v4A3) ?hi4A3 (by kernel_rfl) (by kernel_rfl) (by kernel_rfl) ?hq4A3 (Or.inl ⟨?hw4A3, ?hy4A3⟩) (by assumption) ?rest4A3
      case hi4A3 => (simp only [List.getElem?_toArray, List.getElem?_cons_succ, List.getElem?_cons_zero]; rfl)
      case hq4A3 => exact fun _ _ _ h => h
      case hw4A3 => rfl
      case hy4A3 => (intro w hSw; (try dsimp only at hSw); go_simp <;> with_reducible rfl)
      try simp only [Act.put, List.setIfInBounds_toArray, List.set_cons_zero, List.set_cons_succ]
      refine wpAnyH_take (i := 5) (oi := ?oi5A3) (v := ?v5A3) ?hi5A3 (by kernel_rfl) (by kernel_rfl) (by kernel_rfl) ?hq5A3 (Or.inl ⟨?hw5A3, ?hy5A3⟩) (by assumption) ?rest5A3
      case hi5A3 => (simp only [List.getElem?_toArray, List.getElem?_cons_succ, List.getElem?_cons_zero]; rfl)
      case hq5A3 => exact fun _ _ _ h => h
      case hw5A3 => rfl
      case hy5A3 => (intro w hSw; (try dsimp only at hSw); go_simp <;> with_reducible rfl)
      try simp only [Act.put, List.setIfInBounds_toArray, List.set_cons_zero, List.set_cons_succ]
      refine wpAnyH_take (i := 6) (oi := ?oi6A3) (v := ?v6A3) ?hi6A3 (by kernel_rfl) (by kernel_rfl) (by kernel_rfl) ?hq6A3 (Or.inl ⟨?hw6A3, ?hy6A3⟩) (by assumption) ?rest6A3
      case hi6A3 => (simp only [List.getElem?_toArray, List.getElem?_cons_succ, List.getElem?_cons_zero]; rfl)
      case hq6A3 => exact fun _ _ _ h => h
      case hw6A3 => rfl
      case hy6A3 => (intro w hSw; (try dsimp only at hSw); go_simp <;> with_reducible rfl)
      try simp only [Act.put, List.setIfInBounds_toArray, List.set_cons_zero, List.set_cons_succ]
      refine wpAnyH_take (i := 7) (oi := ?oi7A3) (v := ?v7A3) ?hi7A3 (by kernel_rfl) (by kernel_rfl) (by kernel_rfl) ?hq7A3 (Or.inl ⟨?hw7A3, ?hy7A3⟩) (by assumption) ?rest7A3
      case hi7A3 => (simp only [List.getElem?_toArray, List.getElem?_cons_succ, List.getElem?_cons_zero]; rfl)
      case hq7A3 => exact fun _ _ _ h => h
      case hw7A3 => rfl
      case hy7A3 => (intro w hSw; (try dsimp only at hSw); go_simp <;> with_reducible rfl)
      try simp only [Act.put, List.setIfInBounds_toArray, List.set_cons_zero, List.set_cons_succ]
      refine wpAnyH_done (by kernel_rfl) ?_ _
      go_wp2_with fail
      refine wp_region_held_drew (S := (fun _ => True)) (by kernel_rfl) trivial (fun hHeld => ?_)
      refine wpAnyH_take (i := 0) (oi := ?oi0B3) (v := ?v0B3) ?hi0B3 (by kernel_rfl) (by kernel_rfl) (by kernel_rfl) ?hq0B3 (Or.inl ⟨?hw0B3, ?hy0B3⟩) (by assumption) ?rest0B3
      case hi0B3 => (simp only [List.getElem?_toArray, List.getElem?_cons_succ, List.getElem?_cons_zero]; rfl)
      case hq0B3 => exact fun _ _ _ h => h
      case hw0B3 => rfl
      case hy0B3 => (intro w hSw; (try dsimp only at hSw); go_simp <;> with_reducible rfl)
      try simp only [Act.put, List.setIfInBounds_toArray, List.set_cons_zero, List.set_cons_succ]
      refine wpAnyH_take (i := 1) (oi := ?oi1B3) (v := ?v1B3) ?hi1B3 (by kernel_rfl) (by kernel_rfl) (by kernel_rfl) ?hq1B3 (Or.inl ⟨?hw1B3, ?hy1B3⟩) (by assumption) ?rest1B3
      case hi1B3 => (simp only [List.getElem?_toArray, List.getElem?_cons_succ, List.getElem?_cons_zero]; rfl)
      case hq1B3 => exact fun _ _ _ h => h
      case hw1B3 => rfl
      case hy1B3 => (intro w hSw; (try dsimp only at hSw); go_simp <;> with_reducible rfl)
      try simp only [Act.put, List.setIfInBounds_toArray, List.set_cons_zero, List.set_cons_succ]
      refine wpAnyH_take (i := 2) (oi := ?oi2B3) (v := ?v2B3) ?hi2B3 (by kernel_rfl) (by kernel_rfl) (by kernel_rfl) ?hq2B3 (Or.inl ⟨?hw2B3, ?hy2B3⟩) (by assumption) ?rest2B3
      case hi2B3 => (simp only [List.getElem?_toArray, List.getElem?_cons_succ, List.getElem?_cons_zero]; rfl)
      case hq2B3 => exact fun _ _ _ h => h
      case hw2B3 => rfl
      case hy2B3 => (intro w hSw; (try dsimp only at hSw); go_simp <;> with_reducible rfl)
      try simp only [Act.put, List.setIfInBounds_toArray, List.set_cons_zero, List.set_cons_succ]
      refine wpAnyH_take (i := 3) (oi := ?oi3B3) (v := ?v3B3) ?hi3B3 (by kernel_rfl) (by kernel_rfl) (by kernel_rfl) ?hq3B3 (Or.inl ⟨?hw3B3, ?hy3B3⟩) (by assumption) ?rest3B3
      case hi3B3 => (simp only [List.getElem?_toArray, List.getElem?_cons_succ, List.getElem?_cons_zero]; rfl)
      case hq3B3 => exact fun _ _ _ h => h
      case hw3B3 => rfl
      case hy3B3 => (intro w hSw; (try dsimp only at hSw); go_simp <;> with_reducible rfl)
      try simp only [Act.put, List.setIfInBounds_toArray, List.set_cons_zero, List.set_cons_succ]
      refine wpAnyH_take (i := 4) (oi := ?oi4B3) (v := ?v4B3) ?hi4B3 (by kernel_rfl) (by kernel_rfl) (by kernel_rfl) ?hq4B3 (Or.inl ⟨?hw4B3, ?hy4B3⟩) (by assumption) ?rest4B3
      case hi4B3 => (simp only [List.getElem?_toArray, List.getElem?_cons_succ, List.getElem?_cons_zero]; rfl)
      case hq4B3 => exact fun _ _ _ h => h
      case hw4B3 => rfl
      case hy4B3 => (intro w hSw; (try dsimp only at hSw); go_simp <;> with_reducible rfl)
      try simp only [Act.put, List.setIfInBounds_toArray, List.set_cons_zero, List.set_cons_succ]
      refine wpAnyH_take (i := 5) (oi := ?oi5B3) (v := ?v5B3) ?hi5B3 (by kernel_rfl) (by kernel_rfl) (by kernel_rfl) ?hq5B3 (Or.inl ⟨?hw5B3, ?hy5B3⟩) (by assumption) ?rest5B3
      case hi5B3 => (simp only [List.getElem?_toArray, List.getElem?_cons_succ, List.getElem?_cons_zero]; rfl)
      case hq5B3 => exact fun _ _ _ h => h
      case hw5B3 => rfl
      case hy5B3 => (intro w hSw; (try dsimp only at hSw); go_simp <;> with_reducible rfl)
      try simp only [Act.put, List.setIfInBounds_toArray, List.set_cons_zero, List.set_cons_succ]
      refine wpAnyH_take (i := 6) (oi := ?oi6B3) (v := ?v6B3) ?hi6B3 (by kernel_rfl) (by kernel_rfl) (by kernel_rfl) ?hq6B3 (Or.inl ⟨?hw6B3, ?hy6B3⟩) (by assumption) ?rest6B3
      case hi6B3 => (simp only [List.getElem?_toArray, List.getElem?_cons_succ, List.getElem?_cons_zero]; rfl)
      case hq6B3 => exact fun _ _ _ h => h
      case hw6B3 => rfl
      case hy6B3 => (intro w hSw; (try dsimp only at hSw); go_simp <;> with_reducible rfl)
      try simp only [Act.put, List.setIfInBounds_toArray, List.set_cons_zero, List.set_cons_succ]
      refine wpAnyH_ready (rs := [7]) (by kernel_rfl) (by simp) ?_
      refine AllReadyH.cons (o := ?o7B3) ?hi7B3 (fun K hK => ?st7B3) AllReadyH.nil
      case hi7B3 => (simp only [List.getElem?_toArray, List.getElem?_cons_succ, List.getElem?_cons_zero]; rfl)
      go_simp
      refine hK.out _ _ trivial (fun hHeld2 => ?_)
      clear hK K hHeld
      have hHeld := hHeld2
      clear hHeld2
      try simp only [Act.put, List.setIfInBounds_toArray, List.set_cons_zero, List.set_cons_succ]
      refine wpAnyH_done (by kernel_rfl) ?_ _
      go_wp2
      refine bodyPost_ret (v := .agg #[.pointer (some ⟨g, 1, none⟩), .pointer (some ⟨g, 0, none⟩), .pointer none]) (by simp [results, Tryz.results65, go_sem]) rfl ⟨rfl, hb⟩
    · have hb := Below.drew (Below.drew ((Below.refl w.heap.size w).alloc (Nat.le_refl _) (.cells #[.pointer (some ⟨g, 1, none⟩), .pointer (some ⟨g, 2, none⟩), .pointer none] 123)))
      go_enter Tryz.func65, Tryz.ntmps65
      go_wp2_with fail
      refine wp_region_held_drew (S := (fun _ => True)) (by kernel_rfl) trivial (fun hHeld => ?_)
      refine wpAnyH_take (i := 0) (oi := ?oi0A4) (v := ?v0A4) ?hi0A4 (by kernel_rfl) (by kernel_rfl) (by kernel_rfl) ?hq0A4 (Or.inl ⟨?hw0A4, ?hy0A4⟩) (by assumption) ?rest0A4
      case hi0A4 => (simp only [List.getElem?_toArray, List.getElem?_cons_succ, List.getElem?_cons_zero]; rfl)
      case hq0A4 => exact fun _ _ _ h => h
      case hw0A4 => rfl
      case hy0A4 => (intro w hSw; (try dsimp only at hSw); go_simp <;> with_reducible rfl)
      try simp only [Act.put, List.setIfInBounds_toArray, List.set_cons_zero, List.set_cons_succ]
      refine wpAnyH_take (i := 1) (oi := ?oi1A4) (v := ?v1A4) ?hi1A4 (by kernel_rfl) (by kernel_rfl) (by kernel_rfl) ?hq1A4 (Or.inl ⟨?hw1A4, ?hy1A4⟩) (by assumption) ?rest1A4
      case hi1A4 => (simp only [List.getElem?_toArray, List.getElem?_cons_succ, List.getElem?_cons_zero]; rfl)
      case hq1A4 => exact fun _ _ _ h => h
      case hw1A4 => rfl
      case hy1A4 => (intro w hSw; (try dsimp only at hSw); go_simp <;> with_reducible rfl)
      try simp only [Act.put, List.setIfInBounds_toArray, List.set_cons_zero, List.set_cons_succ]
      refine wpAnyH_take (i := 2) (oi := ?oi2A4) (v := ?v2A4) ?hi2A4 (by kernel_rfl) (by kernel_rfl) (by kernel_rfl) ?hq2A4 (Or.inl ⟨?hw2A4, ?hy2A4⟩) (by assumption) ?rest2A4
      case hi2A4 => (simp only [List.getElem?_toArray, List.getElem?_cons_succ, List.getElem?_cons_zero]; rfl)
      case hq2A4 => exact fun _ _ _ h => h
      case hw2A4 => rfl
      case hy2A4 => (intro w hSw; (try dsimp only at hSw); go_simp <;> with_reducible rfl)
      try simp only [Act.put, List.setIfInBounds_toArray, List.set_cons_zero, List.set_cons_succ]
      refine wpAnyH_take (i := 3) (oi := ?oi3A4) (v := ?v3A4) ?hi3A4 (by kernel_rfl) (by kernel_rfl) (by kernel_rfl) ?hq3A4 (Or.inl ⟨?hw3A4, ?hy3A4⟩) (by assumption) ?rest3A4
      case hi3A4 => (simp only [List.getElem?_toArray, List.getElem?_cons_succ, List.getElem?_cons_zero]; rfl)
      case hq3A4 => exact fun _ _ _ h => h
      case hw3A4 => rfl
      case hy3A4 => (intro w hSw; (try dsimp only at hSw); go_simp <;> with_reducible rfl)
      try simp only [Act.put, List.setIfInBounds_toArray, List.set_cons_zero, List.set_cons_succ]
      refine wpAnyH_take (i := 4) (oi := ?oi4A4) (v := ?v4A4) ?hi4A4 (by kernel_rfl) (by kernel_rfl) (by kernel_rfl) ?hq4A4 (Or.inl ⟨?hw4A4, ?hy4A4⟩) (by assumption) ?rest4A4
      case hi4A4 => (simp only [List.getElem?_toArray, List.getElem?_cons_succ, List.getElem?_cons_zero]; rfl)
      case hq4A4 => exact fun _ _ _ h => h
      case hw4A4 => rfl
      case hy4A4 => (intro w hSw; (try dsimp only at hSw); go_simp <;> with_reducible rfl)
      try simp only [Act.put, List.setIfInBounds_toArray, List.set_cons_zero, List.set_cons_succ]
      refine wpAnyH_take (i := 5) (oi := ?oi5A4) (v := ?v5A4) ?hi5A4 (by kernel_rfl) (by kernel_rfl) (by kernel_rfl) ?hq5A4 (Or.inl ⟨?hw5A4, ?hy5A4⟩) (by assumption) ?rest5A4
      case hi5A4 => (simp only [List.getElem?_toArray, List.getElem?_cons_succ, List.getElem?_cons_zero]; rfl)
      case hq5A4 => exact fun _ _ _ h => h
      case hw5A4 => rfl
      case hy5A4 => (intro w hSw; (try dsimp only at hSw); go_simp <;> with_reducible rfl)
      try simp only [Act.put, List.setIfInBounds_toArray, List.set_cons_zero, List.set_cons_succ]
      refine wpAnyH_take (i := 6) (oi := ?oi6A4) (v := ?v6A4) ?hi6A4 (by kernel_rfl) (by kernel_rfl) (by kernel_rfl) ?hq6A4 (Or.inl ⟨?hw6A4, ?hy6A4⟩) (by assumption) ?rest6A4
      case hi6A4 => (simp only [List.getElem?_toArray, List.getElem?_cons_succ, List.getElem?_cons_zero]; rfl)
      case hq6A4 => exact fun _ _ _ h => h
      case hw6A4 => rfl
      case hy6A4 => (intro w hSw; (try dsimp only at hSw); go_simp <;> with_reducible rfl)
      try simp only [Act.put, List.setIfInBounds_toArray, List.set_cons_zero, List.set_cons_succ]
      refine wpAnyH_take (i := 7) (oi := ?oi7A4) (v := ?v7A4) ?hi7A4 (by kernel_rfl) (by kernel_rfl) (by kernel_rfl) ?hq7A4 (Or.inl ⟨?hw7A4, ?hy7A4⟩) (by assumption) ?rest7A4
      case hi7A4 => (simp only [List.getElem?_toArray, List.getElem?_cons_succ, List.getElem?_cons_zero]; rfl)
      case hq7A4 => exact fun _ _ _ h => h
      case hw7A4 => rfl
      case hy7A4 => (intro w hSw; (try dsimp only at hSw); go_simp <;> with_reducible rfl)
      try simp only [Act.put, List.setIfInBounds_toArray, List.set_cons_zero, List.set_cons_succ]
      refine wpAnyH_done (by kernel_rfl) ?_ _
      go_wp2_with fail
      refine wp_region_held_drew (S := (fun _ => True)) (by kernel_rfl) trivial (fun hHeld => ?_)
      refine wpAnyH_take (i := 0) (oi := ?oi0B4) (v := ?v0B4) ?hi0B4 (by kernel_rfl) (by kernel_rfl) (by kernel_rfl) ?hq0B4 (Or.inl ⟨?hw0B4, ?hy0B4⟩) (by assumption) ?rest0B4
      case hi0B4 => (simp only [List.getElem?_toArray, List.getElem?_cons_succ, List.getElem?_cons_zero]; rfl)
      case hq0B4 => exact fun _ _ _ h => h
      case hw0B4 => rfl
      case hy0B4 => (intro w hSw; (try dsimp only at hSw); go_simp <;> with_reducible rfl)
      try simp only [Act.put, List.setIfInBounds_toArray, List.set_cons_zero, List.set_cons_succ]
      refine wpAnyH_take (i := 1) (oi := ?oi1B4) (v := ?v1B4) ?hi1B4 (by kernel_rfl) (by kernel_rfl) (by kernel_rfl) ?hq1B4 (Or.inl ⟨?hw1B4, ?hy1B4⟩) (by assumption) ?rest1B4
      case hi1B4 => (simp only [List.getElem?_toArray, List.getElem?_cons_succ, List.getElem?_cons_zero]; rfl)
      case hq1B4 => exact fun _ _ _ h => h
      case hw1B4 => rfl
      case hy1B4 => (intro w hSw; (try dsimp only at hSw); go_simp <;> with_reducible rfl)
      try simp only [Act.put, List.setIfInBounds_toArray, List.set_cons_zero, List.set_cons_succ]
      refine wpAnyH_take (i := 2) (oi := ?oi2B4) (v := ?v2B4) ?hi2B4 (by kernel_rfl) (by kernel_rfl) (by kernel_rfl) ?hq2B4 (Or.inl ⟨?hw2B4, ?hy2B4⟩) (by assumption) ?rest2B4
      case hi2B4 => (simp only [List.getElem?_toArray, List.getElem?_cons_succ, List.getElem?_cons_zero]; rfl)
      case hq2B4 => exact fun _ _ _ h => h
      case hw2B4 => rfl
      case hy2B4 => (intro w hSw; (try dsimp only at hSw); go_simp <;> with_reducible rfl)
      try simp only [Act.put, List.setIfInBounds_toArray, List.set_cons_zero, List.set_cons_succ]
      refine wpAnyH_take (i := 3) (oi := ?oi3B4) (v := ?v3B4) ?hi3B4 (by kernel_rfl) (by kernel_rfl) (by kernel_rfl) ?hq3B4 (Or.inl ⟨?hw3B4, ?hy3B4⟩) (by assumption) ?rest3B4
      case hi3B4 => (simp only [List.getElem?_toArray, List.getElem?_cons_succ, List.getElem?_cons_zero]; rfl)
      case hq3B4 => exact fun _ _ _ h => h
      case hw3B4 => rfl
      case hy3B4 => (intro w hSw; (try dsimp only at hSw); go_simp <;> with_reducible rfl)
      try simp only [Act.put, List.setIfInBounds_toArray, List.set_cons_zero, List.set_cons_succ]
      refine wpAnyH_take (i := 4) (oi := ?oi4B4) (v := ?v4B4) ?hi4B4 (by kernel_rfl) (by kernel_rfl) (by kernel_rfl) ?hq4B4 (Or.inl ⟨?hw4B4, ?hy4B4⟩) (by assumption) ?rest4B4
      case hi4B4 => (simp only [List.getElem?_toArray, List.getElem?_cons_succ, List.getElem?_cons_zero]; rfl)
      case hq4B4 => exact fun _ _ _ h => h
      case hw4B4 => rfl
      case hy4B4 => (intro w hSw; (try dsimp only at hSw); go_simp <;> with_reducible rfl)
      try simp only [Act.put, List.setIfInBounds_toArray, List.set_cons_zero, List.set_cons_succ]
      refine wpAnyH_take (i := 5) (oi := ?oi5B4) (v := ?v5B4) ?hi5B4 (by kernel_rfl) (by kernel_rfl) (by kernel_rfl) ?hq5B4 (Or.inl ⟨?hw5B4, ?hy5B4⟩) (by assumption) ?rest5B4
      case hi5B4 => (simp only [List.getElem?_toArray, List.getElem?_cons_succ, List.getElem?_cons_zero]; rfl)
      case hq5B4 => exact fun _ _ _ h => h
      case hw5B4 => rfl
      case hy5B4 => (intro w hSw; (try dsimp only at hSw); go_simp <;> with_reducible rfl)
      try simp only [Act.put, List.setIfInBounds_toArray, List.set_cons_zero, List.set_cons_succ]
      refine wpAnyH_take (i := 6) (oi := ?oi6B4) (v := ?v6B4) ?hi6B4 (by kernel_rfl) (by kernel_rfl) (by kernel_rfl) ?hq6B4 (Or.inl ⟨?hw6B4, ?hy6B4⟩) (by assumption) ?rest6B4
      case hi6B4 => (simp only [List.getElem?_toArray, List.getElem?_cons_succ, List.getElem?_cons_zero]; rfl)
      case hq6B4 => exact fun _ _ _ h => h
      case hw6B4 => rfl
      case hy6B4 => (intro w hSw; (try dsimp only at hSw); go_simp <;> with_reducible rfl)
      try simp only [Act.put, List.setIfInBounds_toArray, List.set_cons_zero, List.set_cons_succ]
      refine wpAnyH_ready (rs := [7]) (by kernel_rfl) (by simp) ?_
      refine AllReadyH.cons (o := ?o7B4) ?hi7B4 (fun K hK => ?st7B4) AllReadyH.nil
      case hi7B4 => (simp only [List.getElem?_toArray, List.getElem?_cons_succ, List.getElem?_cons_zero]; rfl)
      go_simp
      refine hK.out _ _ trivial (fun hHeld2 => ?_)
      clear hK K hHeld
      have hHeld := hHeld2
      clear hHeld2
      try simp only [Act.put, List.setIfInBounds_toArray, List.set_cons_zero, List.set_cons_succ]
      refine wpAnyH_done (by kernel_rfl) ?_ _
      go_wp2
      refine bodyPost_ret (v := .agg #[.pointer (some ⟨g, 1, none⟩), .pointer (some ⟨g, 2, none⟩), .pointer none]) (by simp [results, Tryz.results65, go_sem]) rfl ⟨rfl, hb⟩
    · have hb := Below.drew (Below.drew ((Below.refl w.heap.size w).alloc (Nat.le_refl _) (.cells #[.pointer (some ⟨g, 2, none⟩), .pointer (some ⟨g, 1, none⟩), .pointer none] 123)))
      go_enter Tryz.func65, Tryz.ntmps65
      go_wp2_with fail
      refine wp_region_held_drew (S := (fun _ => True)) (by kernel_rfl) trivial (fun hHeld => ?_)
      refine wpAnyH_take (i := 0) (oi := ?oi0A5) (v := ?v0A5) ?hi0A5 (by kernel_rfl) (by kernel_rfl) (by kernel_rfl) ?hq0A5 (Or.inl ⟨?hw0A5, ?hy0A5⟩) (by assumption) ?rest0A5
      case hi0A5 => (simp only [List.getElem?_toArray, List.getElem?_cons_succ, List.getElem?_cons_zero]; rfl)
      case hq0A5 => exact fun _ _ _ h => h
      case hw0A5 => rfl
      case hy0A5 => (intro w hSw; (try dsimp only at hSw); go_simp <;> with_reducible rfl)
      try simp only [Act.put, List.setIfInBounds_toArray, List.set_cons_zero, List.set_cons_succ]
      refine wpAnyH_take (i := 1) (oi := ?oi1A5) (v := ?v1A5) ?hi1A5 (by kernel_rfl) (by kernel_rfl) (by kernel_rfl) ?hq1A5 (Or.inl ⟨?hw1A5, ?hy1A5⟩) (by assumption) ?rest1A5
      case hi1A5 => (simp only [List.getElem?_toArray, List.getElem?_cons_succ, List.getElem?_cons_zero]; rfl)
      case hq1A5 => exact fun _ _ _ h => h
      case hw1A5 => rfl
      case hy1A5 => (intro w hSw; (try dsimp only at hSw); go_simp <;> with_reducible rfl)
      try simp only [Act.put, List.setIfInBounds_toArray, List.set_cons_zero, List.set_cons_succ]
      refine wpAnyH_take (i := 2) (oi := ?oi2A5) (v := ?v2A5) ?hi2A5 (by kernel_rfl) (by kernel_rfl) (by kernel_rfl) ?hq2A5 (Or.inl ⟨?hw2A5, ?hy2A5⟩) (by assumption) ?rest2A5
      case hi2A5 => (simp only [List.getElem?_toArray, List.getElem?_cons_succ, List.getElem?_cons_zero]; rfl)
      case hq2A5 => exact fun _ _ _ h => h
      case hw2A5 => rfl
      case hy2A5 => (intro w hSw; (try dsimp only at hSw); go_simp <;> with_reducible rfl)
      try simp only [Act.put, List.setIfInBounds_toArray, List.set_cons_zero, List.set_cons_succ]
      refine wpAnyH_take (i := 3) (oi := ?oi3A5) (v := ?v3A5) ?hi3A5 (by kernel_rfl) (by kernel_rfl) (by kernel_rfl) ?hq3A5 (Or.inl ⟨?hw3A5, ?hy3A5⟩) (by assumption) ?rest3A5
      case hi3A5 => (simp only [List.getElem?_toArray, List.getElem?_cons_succ, List.getElem?_cons_zero]; rfl)
      case hq3A5 => exact fun _ _ _ h => h
      case hw3A5 => rfl
      case hy3A5 => (intro w hSw; (try dsimp only at hSw); go_simp <;> with_reducible rfl)
      try simp only [Act.put, List.setIfInBounds_toArray, List.set_cons_zero, List.set_cons_succ]
      refine wpAnyH_take (i := 4) (oi := ?oi4A5) (v := ?v4A5) ?hi4A5 (by kernel_rfl) (by kernel_rfl) (by kernel_rfl) ?hq4A5 (Or.inl ⟨?hw4A5, ?hy4A5⟩) (by assumption) ?rest4A5
      case hi4A5 => (simp only [List.getElem?_toArray, List.getElem?_cons_succ, List.getElem?_cons_zero]; rfl)
      case hq4A5 => exact fun _ _ _ h => h
      case hw4A5 => rfl
      case hy4A5 => (intro w hSw; (try dsimp only at hSw); go_simp <;> with_reducible rfl)
      try simp only [Act.put, List.setIfInBounds_toArray, List.set_cons_zero, List.set_cons_succ]
      refine wpAnyH_take (i := 5) (oi := ?oi5A5) (v := ?v5A5) ?hi5A5 (by kernel_rfl) (by kernel_rfl) (by kernel_rfl) ?hq5A5 (Or.inl ⟨?hw5A5, ?hy5A5⟩) (by assumption) ?rest5A5
      case hi5A5 => (simp only [List.getElem?_toArray, List.getElem?_cons_succ, List.getElem?_cons_zero]; rfl)
      case hq5A5 => exact fun _ _ _ h => h
      case hw5A5 => rfl
      case hy5A5 => (intro w hSw; (try dsimp only at hSw); go_simp <;> with_reducible rfl)
      try simp only [Act.put, List.setIfInBounds_toArray, List.set_cons_zero, List.set_cons_succ]
      refine wpAnyH_take (i := 6) (oi := ?oi6A5) (v := ?v6A5) ?hi6A5 (by kernel_rfl) (by kernel_rfl) (by kernel_rfl) ?hq6A5 (Or.inl ⟨?hw6A5, ?hy6A5⟩) (by assumption) ?rest6A5
      case hi6A5 => (simp only [List.getElem?_toArray, List.getElem?_cons_succ, List.getElem?_cons_zero]; rfl)
      case hq6A5 => exact fun _ _ _ h => h
      case hw6A5 => rfl
      case hy6A5 => (intro w hSw; (try dsimp only at hSw); go_simp <;> with_reducible rfl)
      try simp only [Act.put, List.setIfInBounds_toArray, List.set_cons_zero, List.set_cons_succ]
      refine wpAnyH_take (i := 7) (oi := ?oi7A5) (v := ?v7A5) ?hi7A5 (by kernel_rfl) (by kernel_rfl) (by kernel_rfl) ?hq7A5 (Or.inl ⟨?hw7A5, ?hy7A5⟩) (by assumption) ?rest7A5
      case hi7A5 => (simp only [List.getElem?_toArray, List.getElem?_cons_succ, List.getElem?_cons_zero]; rfl)
      case hq7A5 => exact fun _ _ _ h => h
      case hw7A5 => rfl
      case hy7A5 => (intro w hSw; (try dsimp only at hSw); go_simp <;> with_reducible rfl)
      try simp only [Act.put, List.setIfInBounds_toArray, List.set_cons_zero, List.set_cons_succ]
      refine wpAnyH_done (by kernel_rfl) ?_ _
      go_wp2_with fail
      refine wp_region_held_drew (S := (fun _ => True)) (by kernel_rfl) trivial (fun hHeld => ?_)
      refine wpAnyH_take (i := 0) (oi := ?oi0B5) (v := ?v0B5) ?hi0B5 (by kernel_rfl) (by kernel_rfl) (by kernel_rfl) ?hq0B5 (Or.inl ⟨?hw0B5, ?hy0B5⟩) (by assumption) ?rest0B5
      case hi0B5 => (simp only [List.getElem?_toArray, List.getElem?_cons_succ, List.getElem?_cons_zero]; rfl)
      case hq0B5 => exact fun _ _ _ h => h
      case hw0B5 => rfl
      case hy0B5 => (intro w hSw; (try dsimp only at hSw); go_simp <;> with_reducible rfl)
      try simp only [Act.put, List.setIfInBounds_toArray, List.set_cons_zero, List.set_cons_succ]
      refine wpAnyH_take (i := 1) (oi := ?oi1B5) (v := ?v1B5) ?hi1B5 (by kernel_rfl) (by kernel_rfl) (by kernel_rfl) ?hq1B5 (Or.inl ⟨?hw1B5, ?hy1B5⟩) (by assumption) ?rest1B5
      case hi1B5 => (simp only [List.getElem?_toArray, List.getElem?_cons_succ, List.getElem?_cons_zero]; rfl)
      case hq1B5 => exact fun _ _ _ h => h
      case hw1B5 => rfl
      case hy1B5 => (intro w hSw; (try dsimp only at hSw); go_simp <;> with_reducible rfl)
      try simp only [Act.put, List.setIfInBounds_toArray, List.set_cons_zero, List.set_cons_succ]
      refine wpAnyH_take (i := 2) (oi := ?oi2B5) (v := ?v2B5) ?hi2B5 (by kernel_rfl) (by kernel_rfl) (by kernel_rfl) ?hq2B5 (Or.inl ⟨?hw2B5, ?hy2B5⟩) (by assumption) ?rest2B5
      case hi2B5 => (simp only [List.getElem?_toArray, List.getElem?_cons_succ, List.getElem?_cons_zero]; rfl)
      case hq2B5 => exact fun _ _ _ h => h
      case hw2B5 => rfl
      case hy2B5 => (intro w hSw; (try dsimp only at hSw); go_simp <;> with_reducible rfl)
      try simp only [Act.put, List.setIfInBounds_toArray, List.set_cons_zero, List.set_cons_succ]
      refine wpAnyH_take (i := 3) (oi := ?oi3B5) (v := ?v3B5) ?hi3B5 (by kernel_rfl) (by kernel_rfl) (by kernel_rfl) ?hq3B5 (Or.inl ⟨?hw3B5, ?hy3B5⟩) (by assumption) ?rest3B5
      case hi3B5 => (simp only [List.getElem?_toArray, List.getElem?_cons_succ, List.getElem?_cons_zero]; rfl)
      case hq3B5 => exact fun _ _ _ h => h
      case hw3B5 => rfl
      case hy3B5 => (intro w hSw; (try dsimp only at hSw); go_simp <;> with_reducible rfl)
      try simp only [Act.put, List.setIfInBounds_toArray, List.set_cons_zero, List.set_cons_succ]
      refine wpAnyH_take (i := 4) (oi := ?oi4B5) (v := ?v4B5) ?hi4B5 (by kernel_rfl) (by kernel_rfl) (by kernel_rfl) ?hq4B5 (Or.inl ⟨?hw4B5, ?hy4B5⟩) (by assumption) ?rest4B5
      case hi4B5 => (simp only [List.getElem?_toArray, List.getElem?_cons_succ, List.getElem?_cons_zero]; rfl)
      case hq4B5 => exact fun _ _ _ h => h
      case hw4B5 => rfl
      case hy4B5 => (intro w hSw; (try dsimp only at hSw); go_simp <;> with_reducible rfl)
      try simp only [Act.put, List.setIfInBounds_toArray, List.set_cons_zero, List.set_cons_succ]
      refine wpAnyH_take (i := 5) (oi := ?oi5B5) (v := ?v5B5) ?hi5B5 (by kernel_rfl) (by kernel_rfl) (by kernel_rfl) ?hq5B5 (Or.inl ⟨?hw5B5, ?hy5B5⟩) (by assumption) ?rest5B5
      case hi5B5 => (simp only [List.getElem?_toArray, List.getElem?_cons_succ, List.getElem?_cons_zero]; rfl)
      case hq5B5 => exact fun _ _ _ h => h
      case hw5B5 => rfl
      case hy5B5 => (intro w hSw; (try dsimp only at hSw); go_simp <;> with_reducible rfl)
      try simp only [Act.put, List.setIfInBounds_toArray, List.set_cons_zero, List.set_cons_succ]
      refine wpAnyH_take (i := 6) (oi := ?oi6B5) (v := ?v6B5) ?hi6B5 (by kernel_rfl) (by kernel_rfl) (by kernel_rfl) ?hq6B5 (Or.inl ⟨?hw6B5, ?hy6B5⟩) (by assumption) ?rest6B5
      case hi6B5 => (simp only [List.getElem?_toArray, List.getElem?_cons_succ, List.getElem?_cons_zero]; rfl)
      case hq6B5 => exact fun _ _ _ h => h
      case hw6B5 => rfl
      case hy6B5 => (intro w hSw; (try dsimp only at hSw); go_simp <;> with_reducible rfl)
      try simp only [Act.put, List.setIfInBounds_toArray, List.set_cons_zero, List.set_cons_succ]
      refine wpAnyH_ready (rs := [7]) (by kernel_rfl) (by simp) ?_
      refine AllReadyH.cons (o := ?o7B5) ?hi7B5 (fun K hK => ?st7B5) AllReadyH.nil
      case hi7B5 => (simp only [List.getElem?_toArray, List.getElem?_cons_succ, List.getElem?_cons_zero]; rfl)
      go_simp
      refine hK.out _ _ trivial (fun hHeld2 => ?_)
      clear hK K hHeld
      have hHeld := hHeld2
      clear hHeld2
      try simp only [Act.put, List.setIfInBounds_toArray, List.set_cons_zero, List.set_cons_succ]
      refine wpAnyH_done (by kernel_rfl) ?_ _
      go_wp2
      refine bodyPost_ret (v := .agg #[.pointer (some ⟨g, 2, none⟩), .pointer (some ⟨g, 1, none⟩), .pointer none]) (by simp [results, Tryz.results65, go_sem]) rfl ⟨rfl, hb⟩
    · have hb := Below.drew (Below.drew ((Below.refl w.heap.size w).alloc (Nat.le_refl _) (.cells #[.pointer (some ⟨g, 2, none⟩), .pointer none, .pointer (some ⟨g, 8, none⟩)] 123)))
      go_enter Tryz.func65, Tryz.ntmps65
      go_wp2_with fail
      refine wp_region_held_drew (S := (fun _ => True)) (by kernel_rfl) trivial (fun hHeld => ?_)
      refine wpAnyH_take (i := 0) (oi := ?oi0A6) (v := ?v0A6) ?hi0A6 (by kernel_rfl) (by kernel_rfl) (by kernel_rfl) ?hq0A6 (Or.inl ⟨?hw0A6, ?hy0A6⟩) (by assumption) ?rest0A6
      case hi0A6 => (simp only [List.getElem?_toArray, List.getElem?_cons_succ, List.getElem?_cons_zero]; rfl)
      case hq0A6 => exact fun _ _ _ h => h
      case hw0A6 => rfl
      case hy0A6 => (intro w hSw; (try dsimp only at hSw); go_simp <;> with_reducible rfl)
      try simp only [Act.put, List.setIfInBounds_toArray, List.set_cons_zero, List.set_cons_succ]
      refine wpAnyH_take (i := 1) (oi := ?oi1A6) (v := ?v1A6) ?hi1A6 (by kernel_rfl) (by kernel_rfl) (by kernel_rfl) ?hq1A6 (Or.inl ⟨?hw1A6, ?hy1A6⟩) (by assumption) ?rest1A6
      case hi1A6 => (simp only [List.getElem?_toArray, List.getElem?_cons_succ, List.getElem?_cons_zero]; rfl)
      case hq1A6 => exact fun _ _ _ h => h
      case hw1A6 => rfl
      case hy1A6 => (intro w hSw; (try dsimp only at hSw); go_simp <;> with_reducible rfl)
      try simp only [Act.put, List.setIfInBounds_toArray, List.set_cons_zero, List.set_cons_succ]
      refine wpAnyH_take (i := 2) (oi := ?oi2A6) (v := ?v2A6) ?hi2A6 (by kernel_rfl) (by kernel_rfl) (by kernel_rfl) ?hq2A6 (Or.inl ⟨?hw2A6, ?hy2A6⟩) (by assumption) ?rest2A6
      case hi2A6 => (simp only [List.getElem?_toArray, List.getElem?_cons_succ, List.getElem?_cons_zero]; rfl)
      case hq2A6 => exact fun _ _ _ h => h
      case hw2A6 => rfl
      case hy2A6 => (intro w hSw; (try dsimp only at hSw); go_simp <;> with_reducible rfl)
      try simp only [Act.put, List.setIfInBounds_toArray, List.set_cons_zero, List.set_cons_succ]
      refine wpAnyH_take (i := 3) (oi := ?oi3A6) (v := ?v3A6) ?hi3A6 (by kernel_rfl) (by kernel_rfl) (by kernel_rfl) ?hq3A6 (Or.inl ⟨?hw3A6, ?hy3A6⟩) (by assumption) ?rest3A6
      case hi3A6 => (simp only [List.getElem?_toArray, List.getElem?_cons_succ, List.getElem?_cons_zero]; rfl)
      case hq3A6 => exact fun _ _ _ h => h
      case hw3A6 => rfl
      case hy3A6 => (intro w hSw; (try dsimp only at hSw); go_simp <;> with_reducible rfl)
      try simp only [Act.put, List.setIfInBounds_toArray, List.set_cons_zero, List.set_cons_succ]
      refine wpAnyH_take (i := 4) (oi := ?oi4A6) (v := ?v4A6) ?hi4A6 (by kernel_rfl) (by kernel_rfl) (by kernel_rfl) ?hq4A6 (Or.inl ⟨?hw4A6, ?hy4A6⟩) (by assumption) ?rest4A6
      case hi4A6 => (simp only [List.getElem?_toArray, List.getElem?_cons_succ, List.getElem?_cons_zero]; rfl)
      case hq4A6 => exact fun _ _ _ h => h
      case hw4A6 => rfl
      case hy4A6 => (intro w hSw; (try dsimp only at hSw); go_simp <;> with_reducible rfl)
      try simp only [Act.put, List.setIfInBounds_toArray, List.set_cons_zero, List.set_cons_succ]
      refine wpAnyH_take (i := 5) (oi := ?oi5A6) (v := ?v5A6) ?hi5A6 (by kernel_rfl) (by kernel_rfl) (by kernel_rfl) ?hq5A6 (Or.inl ⟨?hw5A6, ?hy5A6⟩) (by assumption) ?rest5A6
      case hi5A6 => (simp only [List.getElem?_toArray, List.getElem?_cons_succ, List.getElem?_cons_zero]; rfl)
      case hq5A6 => exact fun _ _ _ h => h
      case hw5A6 => rfl
      case hy5A6 => (intro w hSw; (try dsimp only at hSw); go_simp <;> with_reducible rfl)
      try simp only [Act.put, List.setIfInBounds_toArray, List.set_cons_zero, List.set_cons_succ]
      refine wpAnyH_take (i := 6) (oi := ?oi6A6) (v := ?v6A6) ?hi6A6 (by kernel_rfl) (by kernel_rfl) (by kernel_rfl) ?hq6A6 (Or.inl ⟨?hw6A6, ?hy6A6⟩) (by assumption) ?rest6A6
      case hi6A6 => (simp only [List.getElem?_toArray, List.getElem?_cons_succ, List.getElem?_cons_zero]; rfl)
      case hq6A6 => exact fun _ _ _ h => h
      case hw6A6 => rfl
      case hy6A6 => (intro w hSw; (try dsimp only at hSw); go_simp <;> with_reducible rfl)
      try simp only [Act.put, List.setIfInBounds_toArray, List.set_cons_zero, List.set_cons_succ]
      refine wpAnyH_take (i := 7) (oi := ?oi7A6) (v := ?v7A6) ?hi7A6 (by kernel_rfl) (by kernel_rfl) (by kernel_rfl) ?hq7A6 (Or.inl ⟨?hw7A6, ?hy7A6⟩) (by assumption) ?rest7A6
      case hi7A6 => (simp only [List.getElem?_toArray, List.getElem?_cons_succ, List.getElem?_cons_zero]; rfl)
      case hq7A6 => exact fun _ _ _ h => h
      case hw7A6 => rfl
      case hy7A6 => (intro w hSw; (try dsimp only at hSw); go_simp <;> with_reducible rfl)
      try simp only [Act.put, List.setIfInBounds_toArray, List.set_cons_zero, List.set_cons_succ]
      refine wpAnyH_done (by kernel_rfl) ?_ _
      go_wp2_with fail
      refine wp_region_held_drew (S := (fun _ => True)) (by kernel_rfl) trivial (fun hHeld => ?_)
      refine wpAnyH_take (i := 0) (oi := ?oi0B6) (v := ?v0B6) ?hi0B6 (by kernel_rfl) (by kernel_rfl) (by kernel_rfl) ?hq0B6 (Or.inl ⟨?hw0B6, ?hy0B6⟩) (by assumption) ?rest0B6
      case hi0B6 => (simp only [List.getElem?_toArray, List.getElem?_cons_succ, List.getElem?_cons_zero]; rfl)
      case hq0B6 => exact fun _ _ _ h => h
      case hw0B6 => rfl
      case hy0B6 => (intro w hSw; (try dsimp only at hSw); go_simp <;> with_reducible rfl)
      try simp only [Act.put, List.setIfInBounds_toArray, List.set_cons_zero, List.set_cons_succ]
      refine wpAnyH_take (i := 1) (oi := ?oi1B6) (v := ?v1B6) ?hi1B6 (by kernel_rfl) (by kernel_rfl) (by kernel_rfl) ?hq1B6 (Or.inl ⟨?hw1B6, ?hy1B6⟩) (by assumption) ?rest1B6
      case hi1B6 => (simp only [List.getElem?_toArray, List.getElem?_cons_succ, List.getElem?_cons_zero]; rfl)
      case hq1B6 => exact fun _ _ _ h => h
      case hw1B6 => rfl
      case hy1B6 => (intro w hSw; (try dsimp only at hSw); go_simp <;> with_reducible rfl)
      try simp only [Act.put, List.setIfInBounds_toArray, List.set_cons_zero, List.set_cons_succ]
      refine wpAnyH_take (i := 2) (oi := ?oi2B6) (v := ?v2B6) ?hi2B6 (by kernel_rfl) (by kernel_rfl) (by kernel_rfl) ?hq2B6 (Or.inl ⟨?hw2B6, ?hy2B6⟩) (by assumption) ?rest2B6
      case hi2B6 => (simp only [List.getElem?_toArray, List.getElem?_cons_succ, List.getElem?_cons_zero]; rfl)
      case hq2B6 => exact fun _ _ _ h => h
      case hw2B6 => rfl
      case hy2B6 => (intro w hSw; (try dsimp only at hSw); go_simp <;> with_reducible rfl)
      try simp only [Act.put, List.setIfInBounds_toArray, List.set_cons_zero, List.set_cons_succ]
      refine wpAnyH_take (i := 3) (oi := ?oi3B6) (v := ?v3B6) ?hi3B6 (by kernel_rfl) (by kernel_rfl) (by kernel_rfl) ?hq3B6 (Or.inl ⟨?hw3B6, ?hy3B6⟩) (by assumption) ?rest3B6
      case hi3B6 => (simp only [List.getElem?_toArray, List.getElem?_cons_succ, List.getElem?_cons_zero]; rfl)
      case hq3B6 => exact fun _ _ _ h => h
      case hw3B6 => rfl
      case hy3B6 => (intro w hSw; (try dsimp only at hSw); go_simp <;> with_reducible rfl)
      try simp only [Act.put, List.setIfInBounds_toArray, List.set_cons_zero, List.set_cons_succ]
      refine wpAnyH_take (i := 4) (oi := ?oi4B6) (v := ?v4B6) ?hi4B6 (by kernel_rfl) (by kernel_rfl) (by kernel_rfl) ?hq4B6 (Or.inl ⟨?hw4B6, ?hy4B6⟩) (by assumption) ?rest4B6
      case hi4B6 => (simp only [List.getElem?_toArray, List.getElem?_cons_succ, List.getElem?_cons_zero]; rfl)
      case hq4B6 => exact fun _ _ _ h => h
      case hw4B6 => rfl
      case hy4B6 => (intro w hSw; (try dsimp only at hSw); go_simp <;> with_reducible rfl)
      try simp only [Act.put, List.setIfInBounds_toArray, List.set_cons_zero, List.set_cons_succ]
      refine wpAnyH_take (i := 5) (oi := ?oi5B6) (v := ?v5B6) ?hi5B6 (by kernel_rfl) (by kernel_rfl) (by kernel_rfl) ?hq5B6 (Or.inl ⟨?hw5B6, ?hy5B6⟩) (by assumption) ?rest5B6
      case hi5B6 => (simp only [List.getElem?_toArray, List.getElem?_cons_succ, List.getElem?_cons_zero]; rfl)
      case hq5B6 => exact fun _ _ _ h => h
      case hw5B6 => rfl
      case hy5B6 => (intro w hSw; (try dsimp only at hSw); go_simp <;> with_reducible rfl)
      try simp only [Act.put, List.setIfInBounds_toArray, List.set_cons_zero, List.set_cons_succ]
      refine wpAnyH_take (i := 6) (oi := ?oi6B6) (v := ?v6B6) ?hi6B6 (by kernel_rfl) (by kernel_rfl) (by kernel_rfl) ?hq6B6 (Or.inl ⟨?hw6B6, ?hy6B6⟩) (by assumption) ?rest6B6
      case hi6B6 => (simp only [List.getElem?_toArray, List.getElem?_cons_succ, List.getElem?_cons_zero]; rfl)
      case hq6B6 => exact fun _ _ _ h => h
      case hw6B6 => rfl
      case hy6B6 => (intro w hSw; (try dsimp only at hSw); go_simp <;> with_reducible rfl)
      try simp only [Act.put, List.setIfInBounds_toArray, List.set_cons_zero, List.set_cons_succ]
      refine wpAnyH_ready (rs := [7]) (by kernel_rfl) (by simp) ?_
      refine AllReadyH.cons (o := ?o7B6) ?hi7B6 (fun K hK => ?st7B6) AllReadyH.nil
      case hi7B6 => (simp only [List.getElem?_toArray, List.getElem?_cons_succ, List.getElem?_cons_zero]; rfl)
      go_simp
      refine hK.out _ _ trivial (fun hHeld2 => ?_)
      clear hK K hHeld
      have hHeld := hHeld2
      clear hHeld2
      try simp only [Act.put, List.setIfInBounds_toArray, List.set_cons_zero, List.set_cons_succ]
      refine wpAnyH_done (by kernel_rfl) ?_ _
      go_wp2
      refine bodyPost_ret (v := .agg #[.pointer (some ⟨g, 2, none⟩), .pointer none, .pointer (some ⟨g, 8, none⟩)]) (by simp [results, Tryz.results65, go_sem]) rfl ⟨rfl, hb⟩
    · have hb := Below.drew (Below.drew ((Below.refl w.heap.size w).alloc (Nat.le_refl _) (.cells #[.pointer none, .pointer (some ⟨g, 3, none⟩), .pointer (some ⟨g, 5, none⟩)] 123)))
      go_enter Tryz.func65, Tryz.ntmps65
      go_wp2_with fail
      refine wp_region_held_drew (S := (fun _ => True)) (by kernel_rfl) trivial (fun hHeld => ?_)
      refine wpAnyH_take (i := 0) (oi := ?oi0A7) (v := ?v0A7) ?hi0A7 (by kernel_rfl) (by kernel_rfl) (by kernel_rfl) ?hq0A7 (Or.inl ⟨?hw0A7, ?hy0A7⟩) (by assumption) ?rest0A7
      case hi0A7 => (simp only [List.getElem?_toArray, List.getElem?_cons_succ, List.getElem?_cons_zero]; rfl)
      case hq0A7 => exact fun _ _ _ h => h
      case hw0A7 => rfl
      case hy0A7 => (intro w hSw; (try dsimp only at hSw); go_simp <;> with_reducible rfl)
      try simp only [Act.put, List.setIfInBounds_toArray, List.set_cons_zero, List.set_cons_succ]
      refine wpAnyH_take (i := 1) (oi := ?oi1A7) (v := ?v1A7) ?hi1A7 (by kernel_rfl) (by kernel_rfl) (by kernel_rfl) ?hq1A7 (Or.inl ⟨?hw1A7, ?hy1A7⟩) (by assumption) ?rest1A7
      case hi1A7 => (simp only [List.getElem?_toArray, List.getElem?_cons_succ, List.getElem?_cons_zero]; rfl)
      case hq1A7 => exact fun _ _ _ h => h
      case hw1A7 => rfl
      case hy1A7 => (intro w hSw; (try dsimp only at hSw); go_simp <;> with_reducible rfl)
      try simp only [Act.put, List.setIfInBounds_toArray, List.set_cons_zero, List.set_cons_succ]
      refine wpAnyH_take (i := 2) (oi := ?oi2A7) (v := ?v2A7) ?hi2A7 (by kernel_rfl) (by kernel_rfl) (by kernel_rfl) ?hq2A7 (Or.inl ⟨?hw2A7, ?hy2A7⟩) (by assumption) ?rest2A7
      case hi2A7 => (simp only [List.getElem?_toArray, List.getElem?_cons_succ, List.getElem?_cons_zero]; rfl)
      case hq2A7 => exact fun _ _ _ h => h
      case hw2A7 => rfl
      case hy2A7 => (intro w hSw; (try dsimp only at hSw); go_simp <;> with_reducible rfl)
      try simp only [Act.put, List.setIfInBounds_toArray, List.set_cons_zero, List.set_cons_succ]
      refine wpAnyH_take (i := 3) (oi := ?oi3A7) (v := ?v3A7) ?hi3A7 (by kernel_rfl) (by kernel_rfl) (by kernel_rfl) ?hq3A7 (Or.inl ⟨?hw3A7, ?hy3A7⟩) (by assumption) ?rest3A7
      case hi3A7 => (simp only [List.getElem?_toArray, List.getElem?_cons_succ, List.getElem?_cons_zero]; rfl)
      case hq3A7 => exact fun _ _ _ h => h
      case hw3A7 => rfl
      case hy3A7 => (intro w hSw; (try dsimp only at hSw); go_simp <;> with_reducible rfl)
      try simp only [Act.put, List.setIfInBounds_toArray, List.set_cons_zero, List.set_cons_succ]
      refine wpAnyH_take (i := 4) (oi := ?oi4A7) (v := ?v4A7) ?hi4A7 (by kernel_rfl) (by kernel_rfl) (by kernel_rfl) ?hq4A7 (Or.inl ⟨?hw4A7, ?hy4A7⟩) (by assumption) ?rest4A7
      case hi4A7 => (simp only [List.getElem?_toArray, List.getElem?_cons_succ, List.getElem?_cons_zero]; rfl)
      case hq4A7 => exact fun _ _ _ h => h
      case hw4A7 => rfl
      case hy4A7 => (intro w hSw; (try dsimp only at hSw); go_simp <;> with_reducible rfl)
      try simp only [Act.put, List.setIfInBounds_toArray, List.set_cons_zero, List.set_cons_succ]
      refine wpAnyH_take (i := 5) (oi := ?oi5A7) (v := ?v5A7) ?hi5A7 (by kernel_rfl) (by kernel_rfl) (by kernel_rfl) ?hq5A7 (Or.inl ⟨?hw5A7, ?hy5A7⟩) (by assumption) ?rest5A7
      case hi5A7 => (simp only [List.getElem?_toArray, List.getElem?_cons_succ, List.getElem?_cons_zero]; rfl)
      case hq5A7 => exact fun _ _ _ h => h
      case hw5A7 => rfl
      case hy5A7 => (intro w hSw; (try dsimp only at hSw); go_simp <;> with_reducible rfl)
      try simp only [Act.put, List.setIfInBounds_toArray, List.set_cons_zero, List.set_cons_succ]
      refine wpAnyH_take (i := 6) (oi := ?oi6A7) (v := ?v6A7) ?hi6A7 (by kernel_rfl) (by kernel_rfl) (by kernel_rfl) ?hq6A7 (Or.inl ⟨?hw6A7, ?hy6A7⟩) (by assumption) ?rest6A7
      case hi6A7 => (simp only [List.getElem?_toArray, List.getElem?_cons_succ, List.getElem?_cons_zero]; rfl)
      case hq6A7 => exact fun _ _ _ h => h
      case hw6A7 => rfl
      case hy6A7 => (intro w hSw; (try dsimp only at hSw); go_simp <;> with_reducible rfl)
      try simp only [Act.put, List.setIfInBounds_toArray, List.set_cons_zero, List.set_cons_succ]
      refine wpAnyH_take (i := 7) (oi := ?oi7A7) (v := ?v7A7) ?hi7A7 (by kernel_rfl) (by kernel_rfl) (by kernel_rfl) ?hq7A7 (Or.inl ⟨?hw7A7, ?hy7A7⟩) (by assumption) ?rest7A7
      case hi7A7 => (simp only [List.getElem?_toArray, List.getElem?_cons_succ, List.getElem?_cons_zero]; rfl)
      case hq7A7 => exact fun _ _ _ h => h
      case hw7A7 => rfl
      case hy7A7 => (intro w hSw; (try dsimp only at hSw); go_simp <;> with_reducible rfl)
      try simp only [Act.put, List.setIfInBounds_toArray, List.set_cons_zero, List.set_cons_succ]
      refine wpAnyH_done (by kernel_rfl) ?_ _
      go_wp2_with fail
      refine wp_region_held_drew (S := (fun _ => True)) (by kernel_rfl) trivial (fun hHeld => ?_)
      refine wpAnyH_take (i := 0) (oi := ?oi0B7) (v := ?v0B7) ?hi0B7 (by kernel_rfl) (by kernel_rfl) (by kernel_rfl) ?hq0B7 (Or.inl ⟨?hw0B7, ?hy0B7⟩) (by assumption) ?rest0B7
      case hi0B7 => (simp only [List.getElem?_toArray, List.getElem?_cons_succ, List.getElem?_cons_zero]; rfl)
      case hq0B7 => exact fun _ _ _ h => h
      case hw0B7 => rfl
      case hy0B7 => (intro w hSw; (try dsimp only at hSw); go_simp <;> with_reducible rfl)
      try simp only [Act.put, List.setIfInBounds_toArray, List.set_cons_zero, List.set_cons_succ]
      refine wpAnyH_take (i := 1) (oi := ?oi1B7) (v := ?v1B7) ?hi1B7 (by kernel_rfl) (by kernel_rfl) (by kernel_rfl) ?hq1B7 (Or.inl ⟨?hw1B7, ?hy1B7⟩) (by assumption) ?rest1B7
      case hi1B7 => (simp only [List.getElem?_toArray, List.getElem?_cons_succ, List.getElem?_cons_zero]; rfl)
      case hq1B7 => exact fun _ _ _ h => h
      case hw1B7 => rfl
      case hy1B7 => (intro w hSw; (try dsimp only at hSw); go_simp <;> with_reducible rfl)
      try simp only [Act.put, List.setIfInBounds_toArray, List.set_cons_zero, List.set_cons_succ]
      refine wpAnyH_take (i := 2) (oi := ?oi2B7) (v := ?v2B7) ?hi2B7 (by kernel_rfl) (by kernel_rfl) (by kernel_rfl) ?hq2B7 (Or.inl ⟨?hw2B7, ?hy2B7⟩) (by assumption) ?rest2B7
      case hi2B7 => (simp only [List.getElem?_toArray, List.getElem?_cons_succ, List.getElem?_cons_zero]; rfl)
      case hq2B7 => exact fun _ _ _ h => h
      case hw2B7 => rfl
      case hy2B7 => (intro w hSw; (try dsimp only at hSw); go_simp <;> with_reducible rfl)
      try simp only [Act.put, List.setIfInBounds_toArray, List.set_cons_zero, List.set_cons_succ]
      refine wpAnyH_take (i := 3) (oi := ?oi3B7) (v := ?v3B7) ?hi3B7 (by kernel_rfl) (by kernel_rfl) (by kernel_rfl) ?hq3B7 (Or.inl ⟨?hw3B7, ?hy3B7⟩) (by assumption) ?rest3B7
      case hi3B7 => (simp only [List.getElem?_toArray, List.getElem?_cons_succ, List.getElem?_cons_zero]; rfl)
      case hq3B7 => exact fun _ _ _ h => h
      case hw3B7 => rfl
      case hy3B7 => (intro w hSw; (try dsimp only at hSw); go_simp <;> with_reducible rfl)
      try simp only [Act.put, List.setIfInBounds_toArray, List.set_cons_zero, List.set_cons_succ]
      refine wpAnyH_take (i := 4) (oi := ?oi4B7) (v := ?v4B7) ?hi4B7 (by kernel_rfl) (by kernel_rfl) (by kernel_rfl) ?hq4B7 (Or.inl ⟨?hw4B7, ?hy4B7⟩) (by assumption) ?rest4B7
      case hi4B7 => (simp only [List.getElem?_toArray, List.getElem?_cons_succ, List.getElem?_cons_zero]; rfl)
      case hq4B7 => exact fun _ _ _ h => h
      case hw4B7 => rfl
      case hy4B7 => (intro w hSw; (try dsimp only at hSw); go_simp <;> with_reducible rfl)
      try simp only [Act.put, List.setIfInBounds_toArray, List.set_cons_zero, List.set_cons_succ]
      refine wpAnyH_take (i := 5) (oi := ?oi5B7) (v := ?v5B7) ?hi5B7 (by kernel_rfl) (by kernel_rfl) (by kernel_rfl) ?hq5B7 (Or.inl ⟨?hw5B7, ?hy5B7⟩) (by assumption) ?rest5B7
      case hi5B7 => (simp only [List.getElem?_toArray, List.getElem?_cons_succ, List.getElem?_cons_zero]; rfl)
      case hq5B7 => exact fun _ _ _ h => h
      case hw5B7 => rfl
      case hy5B7 => (intro w hSw; (try dsimp only at hSw); go_simp <;> with_reducible rfl)
      try simp only [Act.put, List.setIfInBounds_toArray, List.set_cons_zero, List.set_cons_succ]
      refine wpAnyH_take (i := 6) (oi := ?oi6B7) (v := ?v6B7) ?hi6B7 (by kernel_rfl) (by kernel_rfl) (by kernel_rfl) ?hq6B7 (Or.inl ⟨?hw6B7, ?hy6B7⟩) (by assumption) ?rest6B7
      case hi6B7 => (simp only [List.getElem?_toArray, List.getElem?_cons_succ, List.getElem?_cons_zero]; rfl)
      case hq6B7 => exact fun _ _ _ h => h
      case hw6B7 => rfl
      case hy6B7 => (intro w hSw; (try dsimp only at hSw); go_simp <;> with_reducible rfl)
      try simp only [Act.put, List.setIfInBounds_toArray, List.set_cons_zero, List.set_cons_succ]
      refine wpAnyH_ready (rs := [7]) (by kernel_rfl) (by simp) ?_
      refine AllReadyH.cons (o := ?o7B7) ?hi7B7 (fun K hK => ?st7B7) AllReadyH.nil
      case hi7B7 => (simp only [List.getElem?_toArray, List.getElem?_cons_succ, List.getElem?_cons_zero]; rfl)
      go_simp
      refine hK.out _ _ trivial (fun hHeld2 => ?_)
      clear hK K hHeld
      have hHeld := hHeld2
      clear hHeld2
      try simp only [Act.put, List.setIfInBounds_toArray, List.set_cons_zero, List.set_cons_succ]
      refine wpAnyH_done (by kernel_rfl) ?_ _
      go_wp2
      refine bodyPost_ret (v := .agg #[.pointer none, .pointer (some ⟨g, 3, none⟩), .pointer (some ⟨g, 5, none⟩)]) (by simp [results, Tryz.results65, go_sem]) rfl ⟨rfl, hb⟩
    · have hb := Below.drew (Below.drew ((Below.refl w.heap.size w).alloc (Nat.le_refl _) (.cells #[.pointer (some ⟨g, 3, none⟩), .pointer (some ⟨g, 0, none⟩), .pointer none] 123)))
      go_enter Tryz.func65, Tryz.ntmps65
      go_wp2_with fail
      refine wp_region_held_drew (S := (fun _ => True)) (by kernel_rfl) trivial (fun hHeld => ?_)
      refine wpAnyH_take (i := 0) (oi := ?oi0A8) (v := ?v0A8) ?hi0A8 (by kernel_rfl) (by kernel_rfl) (by kernel_rfl) ?hq0A8 (Or.inl ⟨?hw0A8, ?hy0A8⟩) (by assumption) ?rest0A8
      case hi0A8 => (simp only [List.getElem?_toArray, List.getElem?_cons_succ, List.getElem?_cons_zero]; rfl)
      case hq0A8 => exact fun _ _ _ h => h
      case hw0A8 => rfl
      case hy0A8 => (intro w hSw; (try dsimp only at hSw); go_simp <;> with_reducible rfl)
      try simp only [Act.put, List.setIfInBounds_toArray, List.set_cons_zero, List.set_cons_succ]
      refine wpAnyH_take (i := 1) (oi := ?oi1A8) (v := ?v1A8) ?hi1A8 (by kernel_rfl) (by kernel_rfl) (by kernel_rfl) ?hq1A8 (Or.inl ⟨?hw1A8, ?hy1A8⟩) (by assumption) ?rest1A8
      case hi1A8 => (simp only [List.getElem?_toArray, List.getElem?_cons_succ, List.getElem?_cons_zero]; rfl)
      case hq1A8 => exact fun _ _ _ h => h
      case hw1A8 => rfl
      case hy1A8 => (intro w hSw; (try dsimp only at hSw); go_simp <;> with_reducible rfl)
      try simp only [Act.put, List.setIfInBounds_toArray, List.set_cons_zero, List.set_cons_succ]
      refine wpAnyH_take (i := 2) (oi := ?oi2A8) (v := ?v2A8) ?hi2A8 (by kernel_rfl) (by kernel_rfl) (by kernel_rfl) ?hq2A8 (Or.inl ⟨?hw2A8, ?hy2A8⟩) (by assumption) ?rest2A8
      case hi2A8 => (simp only [List.getElem?_toArray, List.getElem?_cons_succ, List.getElem?_cons_zero]; rfl)
      case hq2A8 => exact fun _ _ _ h => h
      case hw2A8 => rfl
      case hy2A8 => (intro w hSw; (try dsimp only at hSw); go_simp <;> with_reducible rfl)
      try simp only [Act.put, List.setIfInBounds_toArray, List.set_cons_zero, List.set_cons_succ]
      refine wpAnyH_take (i := 3) (oi := ?oi3A8) (v := ?v3A8) ?hi3A8 (by kernel_rfl) (by kernel_rfl) (by kernel_rfl) ?hq3A8 (Or.inl ⟨?hw3A8, ?hy3A8⟩) (by assumption) ?rest3A8
      case hi3A8 => (simp only [List.getElem?_toArray, List.getElem?_cons_succ, List.getElem?_cons_zero]; rfl)
      case hq3A8 => exact fun _ _ _ h => h
      case hw3A8 => rfl
      case hy3A8 => (intro w hSw; (try dsimp only at hSw); go_simp <;> with_reducible rfl)
      try simp only [Act.put, List.setIfInBounds_toArray, List.set_cons_zero, List.set_cons_succ]
      refine wpAnyH_take (i := 4) (oi := ?oi4A8) (v := ?v4A8) ?hi4A8 (by kernel_rfl) (by kernel_rfl) (by kernel_rfl) ?hq4A8 (Or.inl ⟨?hw4A8, ?hy4A8⟩) (by assumption) ?rest4A8
      case hi4A8 => (simp only [List.getElem?_toArray, List.getElem?_cons_succ, List.getElem?_cons_zero]; rfl)
      case hq4A8 => exact fun _ _ _ h => h
      case hw4A8 => rfl
      case hy4A8 => (intro w hSw; (try dsimp only at hSw); go_simp <;> with_reducible rfl)
      try simp only [Act.put, List.setIfInBounds_toArray, List.set_cons_zero, List.set_cons_succ]
      refine wpAnyH_take (i := 5) (oi := ?oi5A8) (v := ?v5A8) ?hi5A8 (by kernel_rfl) (by kernel_rfl) (by kernel_rfl) ?hq5A8 (Or.inl ⟨?hw5A8, ?hy5A8⟩) (by assumption) ?rest5A8
      case hi5A8 => (simp only [List.getElem?_toArray, List.getElem?_cons_succ, List.getElem?_cons_zero]; rfl)
      case hq5A8 => exact fun _ _ _ h => h
      case hw5A8 => rfl
      case hy5A8 => (intro w hSw; (try dsimp only at hSw); go_simp <;> with_reducible rfl)
      try simp only [Act.put, List.setIfInBounds_toArray, List.set_cons_zero, List.set_cons_succ]
      refine wpAnyH_take (i := 6) (oi := ?oi6A8) (v := ?v6A8) ?hi6A8 (by kernel_rfl) (by kernel_rfl) (by kernel_rfl) ?hq6A8 (Or.inl ⟨?hw6A8, ?hy6A8⟩) (by assumption) ?rest6A8
      case hi6A8 => (simp only [List.getElem?_toArray, List.getElem?_cons_succ, List.getElem?_cons_zero]; rfl)
      case hq6A8 => exact fun _ _ _ h => h
      case hw6A8 => rfl
      case hy6A8 => (intro w hSw; (try dsimp only at hSw); go_simp <;> with_reducible rfl)
      try simp only [Act.put, List.setIfInBounds_toArray, List.set_cons_zero, List.set_cons_succ]
      refine wpAnyH_take (i := 7) (oi := ?oi7A8) (v := ?v7A8) ?hi7A8 (by kernel_rfl) (by kernel_rfl) (by kernel_rfl) ?hq7A8 (Or.inl ⟨?hw7A8, ?hy7A8⟩) (by assumption) ?rest7A8
      case hi7A8 => (simp only [List.getElem?_toArray, List.getElem?_cons_succ, List.getElem?_cons_zero]; rfl)
      case hq7A8 => exact fun _ _ _ h => h
      case hw7A8 => rfl
      case hy7A8 => (intro w hSw; (try dsimp only at hSw); go_simp <;> with_reducible rfl)
      try simp only [Act.put, List.setIfInBounds_toArray, List.set_cons_zero, List.set_cons_succ]
      refine wpAnyH_done (by kernel_rfl) ?_ _
      go_wp2_with fail
      refine wp_region_held_drew (S := (fun _ => True)) (by kernel_rfl) trivial (fun hHeld => ?_)
      refine wpAnyH_take (i := 0) (oi := ?oi0B8) (v := ?v0B8) ?hi0B8 (by kernel_rfl) (by kernel_rfl) (by kernel_rfl) ?hq0B8 (Or.inl ⟨?hw0B8, ?hy0B8⟩) (by assumption) ?rest0B8
      case hi0B8 => (simp only [List.getElem?_toArray, List.getElem?_cons_succ, List.getElem?_cons_zero]; rfl)
      case hq0B8 => exact fun _ _ _ h => h
      case hw0B8 => rfl
      case hy0B8 => (intro w hSw; (try dsimp only at hSw); go_simp <;> with_reducible rfl)
      try simp only [Act.put, List.setIfInBounds_toArray, List.set_cons_zero, List.set_cons_succ]
      refine wpAnyH_take (i := 1) (oi := ?oi1B8) (v := ?v1B8) ?hi1B8 (by kernel_rfl) (by kernel_rfl) (by kernel_rfl) ?hq1B8 (Or.inl ⟨?hw1B8, ?hy1B8⟩) (by assumption) ?rest1B8
      case hi1B8 => (simp only [List.getElem?_toArray, List.getElem?_cons_succ, List.getElem?_cons_zero]; rfl)
      case hq1B8 => exact fun _ _ _ h => h
      case hw1B8 => rfl
      case hy1B8 => (intro w hSw; (try dsimp only at hSw); go_simp <;> with_reducible rfl)
      try simp only [Act.put, List.setIfInBounds_toArray, List.set_cons_zero, List.set_cons_succ]
      refine wpAnyH_take (i := 2) (oi := ?oi2B8) (v := ?v2B8) ?hi2B8 (by kernel_rfl) (by kernel_rfl) (by kernel_rfl) ?hq2B8 (Or.inl ⟨?hw2B8, ?hy2B8⟩) (by assumption) ?rest2B8
      case hi2B8 => (simp only [List.getElem?_toArray, List.getElem?_cons_succ, List.getElem?_cons_zero]; rfl)
      case hq2B8 => exact fun _ _ _ h => h
      case hw2B8 => rfl
      case hy2B8 => (intro w hSw; (try dsimp only at hSw); go_simp <;> with_reducible rfl)
      try simp only [Act.put, List.setIfInBounds_toArray, List.set_cons_zero, List.set_cons_succ]
      refine wpAnyH_take (i := 3) (oi := ?oi3B8) (v := ?v3B8) ?hi3B8 (by kernel_rfl) (by kernel_rfl) (by kernel_rfl) ?hq3B8 (Or.inl ⟨?hw3B8, ?hy3B8⟩) (by assumption) ?rest3B8
      case hi3B8 => (simp only [List.getElem?_toArray, List.getElem?_cons_succ, List.getElem?_cons_zero]; rfl)
      case hq3B8 => exact fun _ _ _ h => h
      case hw3B8 => rfl
      case hy3B8 => (intro w hSw; (try dsimp only at hSw); go_simp <;> with_reducible rfl)
      try simp only [Act.put, List.setIfInBounds_toArray, List.set_cons_zero, List.set_cons_succ]
      refine wpAnyH_take (i := 4) (oi := ?oi4B8) (v := ?v4B8) ?hi4B8 (by kernel_rfl) (by kernel_rfl) (by kernel_rfl) ?hq4B8 (Or.inl ⟨?hw4B8, ?hy4B8⟩) (by assumption) ?rest4B8
      case hi4B8 => (simp only [List.getElem?_toArray, List.getElem?_cons_succ, List.getElem?_cons_zero]; rfl)
      case hq4B8 => exact fun _ _ _ h => h
      case hw4B8 => rfl
      case hy4B8 => (intro w hSw; (try dsimp only at hSw); go_simp <;> with_reducible rfl)
      try simp only [Act.put, List.setIfInBounds_toArray, List.set_cons_zero, List.set_cons_succ]
      refine wpAnyH_take (i := 5) (oi := ?oi5B8) (v := ?v5B8) ?hi5B8 (by kernel_rfl) (by kernel_rfl) (by kernel_rfl) ?hq5B8 (Or.inl ⟨?hw5B8, ?hy5B8⟩) (by assumption) ?rest5B8
      case hi5B8 => (simp only [List.getElem?_toArray, List.getElem?_cons_succ, List.getElem?_cons_zero]; rfl)
      case hq5B8 => exact fun _ _ _ h => h
      case hw5B8 => rfl
      case hy5B8 => (intro w hSw; (try dsimp only at hSw); go_simp <;> with_reducible rfl)
      try simp only [Act.put, List.setIfInBounds_toArray, List.set_cons_zero, List.set_cons_succ]
      refine wpAnyH_take (i := 6) (oi := ?oi6B8) (v := ?v6B8) ?hi6B8 (by kernel_rfl) (by kernel_rfl) (by kernel_rfl) ?hq6B8 (Or.inl ⟨?hw6B8, ?hy6B8⟩) (by assumption) ?rest6B8
      case hi6B8 => (simp only [List.getElem?_toArray, List.getElem?_cons_succ, List.getElem?_cons_zero]; rfl)
      case hq6B8 => exact fun _ _ _ h => h
      case hw6B8 => rfl
      case hy6B8 => (intro w hSw; (try dsimp only at hSw); go_simp <;> with_reducible rfl)
      try simp only [Act.put, List.setIfInBounds_toArray, List.set_cons_zero, List.set_cons_succ]
      refine wpAnyH_ready (rs := [7]) (by kernel_rfl) (by simp) ?_
      refine AllReadyH.cons (o := ?o7B8) ?hi7B8 (fun K hK => ?st7B8) AllReadyH.nil
      case hi7B8 => (simp only [List.getElem?_toArray, List.getElem?_cons_succ, List.getElem?_cons_zero]; rfl)
      go_simp
      refine hK.out _ _ trivial (fun hHeld2 => ?_)
      clear hK K hHeld
      have hHeld := hHeld2
      clear hHeld2
      try simp only [Act.put, List.setIfInBounds_toArray, List.set_cons_zero, List.set_cons_succ]
      refine wpAnyH_done (by kernel_rfl) ?_ _
      go_wp2
      refine bodyPost_ret (v := .agg #[.pointer (some ⟨g, 3, none⟩), .pointer (some ⟨g, 0, none⟩), .pointer none]) (by simp [results, Tryz.results65, go_sem]) rfl ⟨rfl, hb⟩
    · have hb := Below.drew (Below.drew ((Below.refl w.heap.size w).alloc (Nat.le_refl _) (.cells #[.pointer (some ⟨g, 3, none⟩), .pointer none, .pointer (some ⟨g, 9, none⟩)] 123)))
      go_enter Tryz.func65, Tryz.ntmps65
      go_wp2_with fail
      refine wp_region_held_drew (S := (fun _ => True)) (by kernel_rfl) trivial (fun hHeld => ?_)
      refine wpAnyH_take (i := 0) (oi := ?oi0A9) (v := ?v0A9) ?hi0A9 (by kernel_rfl) (by kernel_rfl) (by kernel_rfl) ?hq0A9 (Or.inl ⟨?hw0A9, ?hy0A9⟩) (by assumption) ?rest0A9
      case hi0A9 => (simp only [List.getElem?_toArray, List.getElem?_cons_succ, List.getElem?_cons_zero]; rfl)
      case hq0A9 => exact fun _ _ _ h => h
      case hw0A9 => rfl
      case hy0A9 => (intro w hSw; (try dsimp only at hSw); go_simp <;> with_reducible rfl)
      try simp only [Act.put, List.setIfInBounds_toArray, List.set_cons_zero, List.set_cons_succ]
      refine wpAnyH_take (i := 1) (oi := ?oi1A9) (v := ?v1A9) ?hi1A9 (by kernel_rfl) (by kernel_rfl) (by kernel_rfl) ?hq1A9 (Or.inl ⟨?hw1A9, ?hy1A9⟩) (by assumption) ?rest1A9
      case hi1A9 => (simp only [List.getElem?_toArray, List.getElem?_cons_succ, List.getElem?_cons_zero]; rfl)
      case hq1A9 => exact fun _ _ _ h => h
      case hw1A9 => rfl
      case hy1A9 => (intro w hSw; (try dsimp only at hSw); go_simp <;> with_reducible rfl)
      try simp only [Act.put, List.setIfInBounds_toArray, List.set_cons_zero, List.set_cons_succ]
      refine wpAnyH_take (i := 2) (oi := ?oi2A9) (v := ?v2A9) ?hi2A9 (by kernel_rfl) (by kernel_rfl) (by kernel_rfl) ?hq2A9 (Or.inl ⟨?hw2A9, ?hy2A9⟩) (by assumption) ?rest2A9
      case hi2A9 => (simp only [List.getElem?_toArray, List.getElem?_cons_succ, List.getElem?_cons_zero]; rfl)
      case hq2A9 => exact fun _ _ _ h => h
      case hw2A9 => rfl
      case hy2A9 => (intro w hSw; (try dsimp only at hSw); go_simp <;> with_reducible rfl)
      try simp only [Act.put, List.setIfInBounds_toArray, List.set_cons_zero, List.set_cons_succ]
      refine wpAnyH_take (i := 3) (oi := ?oi3A9) (v := ?v3A9) ?hi3A9 (by kernel_rfl) (by kernel_rfl) (by kernel_rfl) ?hq3A9 (Or.inl ⟨?hw3A9, ?hy3A9⟩) (by assumption) ?rest3A9
      case hi3A9 => (simp only [List.getElem?_toArray, List.getElem?_cons_succ, List.getElem?_cons_zero]; rfl)
      case hq3A9 => exact fun _ _ _ h => h
      case hw3A9 => rfl
      case hy3A9 => (intro w hSw; (try dsimp only at hSw); go_simp <;> with_reducible rfl)
      try simp only [Act.put, List.setIfInBounds_toArray, List.set_cons_zero, List.set_cons_succ]
      refine wpAnyH_take (i := 4) (oi := ?oi4A9) (v := ?v4A9) ?hi4A9 (by kernel_rfl) (by kernel_rfl) (by kernel_rfl) ?hq4A9 (Or.inl ⟨?hw4A9, ?hy4A9⟩) (by assumption) ?rest4A9
      case hi4A9 => (simp only [List.getElem?_toArray, List.getElem?_cons_succ, List.getElem?_cons_zero]; rfl)
      case hq4A9 => exact fun _ _ _ h => h
      case hw4A9 => rfl
      case hy4A9 => (intro w hSw; (try dsimp only at hSw); go_simp <;> with_reducible rfl)
      try simp only [Act.put, List.setIfInBounds_toArray, List.set_cons_zero, List.set_cons_succ]
      refine wpAnyH_take (i := 5) (oi := ?oi5A9) (v := ?v5A9) ?hi5A9 (by kernel_rfl) (by kernel_rfl) (by kernel_rfl) ?hq5A9 (Or.inl ⟨?hw5A9, ?hy5A9⟩) (by assumption) ?rest5A9
      case hi5A9 => (simp only [List.getElem?_toArray, List.getElem?_cons_succ, List.getElem?_cons_zero]; rfl)
      case hq5A9 => exact fun _ _ _ h => h
      case hw5A9 => rfl
      case hy5A9 => (intro w hSw; (try dsimp only at hSw); go_simp <;> with_reducible rfl)
      try simp only [Act.put, List.setIfInBounds_toArray, List.set_cons_zero, List.set_cons_succ]
      refine wpAnyH_take (i := 6) (oi := ?oi6A9) (v := ?v6A9) ?hi6A9 (by kernel_rfl) (by kernel_rfl) (by kernel_rfl) ?hq6A9 (Or.inl ⟨?hw6A9, ?hy6A9⟩) (by assumption) ?rest6A9
      case hi6A9 => (simp only [List.getElem?_toArray, List.getElem?_cons_succ, List.getElem?_cons_zero]; rfl)
      case hq6A9 => exact fun _ _ _ h => h
      case hw6A9 => rfl
      case hy6A9 => (intro w hSw; (try dsimp only at hSw); go_simp <;> with_reducible rfl)
      try simp only [Act.put, List.setIfInBounds_toArray, List.set_cons_zero, List.set_cons_succ]
      refine wpAnyH_take (i := 7) (oi := ?oi7A9) (v := ?v7A9) ?hi7A9 (by kernel_rfl) (by kernel_rfl) (by kernel_rfl) ?hq7A9 (Or.inl ⟨?hw7A9, ?hy7A9⟩) (by assumption) ?rest7A9
      case hi7A9 => (simp only [List.getElem?_toArray, List.getElem?_cons_succ, List.getElem?_cons_zero]; rfl)
      case hq7A9 => exact fun _ _ _ h => h
      case hw7A9 => rfl
      case hy7A9 => (intro w hSw; (try dsimp only at hSw); go_simp <;> with_reducible rfl)
      try simp only [Act.put, List.setIfInBounds_toArray, List.set_cons_zero, List.set_cons_succ]
      refine wpAnyH_done (by kernel_rfl) ?_ _
      go_wp2_with fail
      refine wp_region_held_drew (S := (fun _ => True)) (by kernel_rfl) trivial (fun hHeld => ?_)
      refine wpAnyH_take (i := 0) (oi := ?oi0B9) (v := ?v0B9) ?hi0B9 (by kernel_rfl) (by kernel_rfl) (by kernel_rfl) ?hq0B9 (Or.inl ⟨?hw0B9, ?hy0B9⟩) (by assumption) ?rest0B9
      case hi0B9 => (simp only [List.getElem?_toArray, List.getElem?_cons_succ, List.getElem?_cons_zero]; rfl)
      case hq0B9 => exact fun _ _ _ h => h
      case hw0B9 => rfl
      case hy0B9 => (intro w hSw; (try dsimp only at hSw); go_simp <;> with_reducible rfl)
      try simp only [Act.put, List.setIfInBounds_toArray, List.set_cons_zero, List.set_cons_succ]
      refine wpAnyH_take (i := 1) (oi := ?oi1B9) (v := ?v1B9) ?hi1B9 (by kernel_rfl) (by kernel_rfl) (by kernel_rfl) ?hq1B9 (Or.inl ⟨?hw1B9, ?hy1B9⟩) (by assumption) ?rest1B9
      case hi1B9 => (simp only [List.getElem?_toArray, List.getElem?_cons_succ, List.getElem?_cons_zero]; rfl)
      case hq1B9 => exact fun _ _ _ h => h
      case hw1B9 => rfl
      case hy1B9 => (intro w hSw; (try dsimp only at hSw); go_simp <;> with_reducible rfl)
      try simp only [Act.put, List.setIfInBounds_toArray, List.set_cons_zero, List.set_cons_succ]
      refine wpAnyH_take (i := 2) (oi := ?oi2B9) (v := ?v2B9) ?hi2B9 (by kernel_rfl) (by kernel_rfl) (by kernel_rfl) ?hq2B9 (Or.inl ⟨?hw2B9, ?hy2B9⟩) (by assumption) ?rest2B9
      case hi2B9 => (simp only [List.getElem?_toArray, List.getElem?_cons_succ, List.getElem?_cons_zero]; rfl)
      case hq2B9 => exact fun _ _ _ h => h
      case hw2B9 => rfl
      case hy2B9 => (intro w hSw; (try dsimp only at hSw); go_simp <;> with_reducible rfl)
      try simp only [Act.put, List.setIfInBounds_toArray, List.set_cons_zero, List.set_cons_succ]
      refine wpAnyH_take (i := 3) (oi := ?oi3B9) (v := ?v3B9) ?hi3B9 (by kernel_rfl) (by kernel_rfl) (by kernel_rfl) ?hq3B9 (Or.inl ⟨?hw3B9, ?hy3B9⟩) (by assumption) ?rest3B9
      case hi3B9 => (simp only [List.getElem?_toArray, List.getElem?_cons_succ, List.getElem?_cons_zero]; rfl)
      case hq3B9 => exact fun _ _ _ h => h
      case hw3B9 => rfl
      case hy3B9 => (intro w hSw; (try dsimp only at hSw); go_simp <;> with_reducible rfl)
      try simp only [Act.put, List.setIfInBounds_toArray, List.set_cons_zero, List.set_cons_succ]
      refine wpAnyH_take (i := 4) (oi := ?oi4B9) (v := ?v4B9) ?hi4B9 (by kernel_rfl) (by kernel_rfl) (by kernel_rfl) ?hq4B9 (Or.inl ⟨?hw4B9, ?hy4B9⟩) (by assumption) ?rest4B9
      case hi4B9 => (simp only [List.getElem?_toArray, List.getElem?_cons_succ, List.getElem?_cons_zero]; rfl)
      case hq4B9 => exact fun _ _ _ h => h
      case hw4B9 => rfl
      case hy4B9 => (intro w hSw; (try dsimp only at hSw); go_simp <;> with_reducible rfl)
      try simp only [Act.put, List.setIfInBounds_toArray, List.set_cons_zero, List.set_cons_succ]
      refine wpAnyH_take (i := 5) (oi := ?oi5B9) (v := ?v5B9) ?hi5B9 (by kernel_rfl) (by kernel_rfl) (by kernel_rfl) ?hq5B9 (Or.inl ⟨?hw5B9, ?hy5B9⟩) (by assumption) ?rest5B9
      case hi5B9 => (simp only [List.getElem?_toArray, List.getElem?_cons_succ, List.getElem?_cons_zero]; rfl)
      case hq5B9 => exact fun _ _ _ h => h
      case hw5B9 => rfl
      case hy5B9 => (intro w hSw; (try dsimp only at hSw); go_simp <;> with_reducible rfl)
      try simp only [Act.put, List.setIfInBounds_toArray, List.set_cons_zero, List.set_cons_succ]
      refine wpAnyH_take (i := 6) (oi := ?oi6B9) (v := ?v6B9) ?hi6B9 (by kernel_rfl) (by kernel_rfl) (by kernel_rfl) ?hq6B9 (Or.inl ⟨?hw6B9, ?hy6B9⟩) (by assumption) ?rest6B9
      case hi6B9 => (simp only [List.getElem?_toArray, List.getElem?_cons_succ, List.getElem?_cons_zero]; rfl)
      case hq6B9 => exact fun _ _ _ h => h
      case hw6B9 => rfl
      case hy6B9 => (intro w hSw; (try dsimp only at hSw); go_simp <;> with_reducible rfl)
      try simp only [Act.put, List.setIfInBounds_toArray, List.set_cons_zero, List.set_cons_succ]
      refine wpAnyH_ready (rs := [7]) (by kernel_rfl) (by simp) ?_
      refine AllReadyH.cons (o := ?o7B9) ?hi7B9 (fun K hK => ?st7B9) AllReadyH.nil
      case hi7B9 => (simp only [List.getElem?_toArray, List.getElem?_cons_succ, List.getElem?_cons_zero]; rfl)
      go_simp
      refine hK.out _ _ trivial (fun hHeld2 => ?_)
      clear hK K hHeld
      have hHeld := hHeld2
      clear hHeld2
      try simp only [Act.put, List.setIfInBounds_toArray, List.set_cons_zero, List.set_cons_succ]
      refine wpAnyH_done (by kernel_rfl) ?_ _
      go_wp2
      refine bodyPost_ret (v := .agg #[.pointer (some ⟨g, 3, none⟩), .pointer none, .pointer (some ⟨g, 9, none⟩)]) (by simp [results, Tryz.results65, go_sem]) rfl ⟨rfl, hb⟩
    · have hb := Below.drew (Below.drew ((Below.refl w.heap.size w).alloc (Nat.le_refl _) (.cells #[.pointer (some ⟨g, 0, none⟩), .pointer none, .pointer (some ⟨g, 10, none⟩)] 123)))
      go_enter Tryz.func65, Tryz.ntmps65
      go_wp2_with fail
      refine wp_region_held_drew (S := (fun _ => True)) (by kernel_rfl) trivial (fun hHeld => ?_)
      refine wpAnyH_take (i := 0) (oi := ?oi0A10) (v := ?v0A10) ?hi0A10 (by kernel_rfl) (by kernel_rfl) (by kernel_rfl) ?hq0A10 (Or.inl ⟨?hw0A10, ?hy0A10⟩) (by assumption) ?rest0A10
      case hi0A10 => (simp only [List.getElem?_toArray, List.getElem?_cons_succ, List.getElem?_cons_zero]; rfl)
      case hq0A10 => exact fun _ _ _ h => h
      case hw0A10 => rfl
      case hy0A10 => (intro w hSw; (try dsimp only at hSw); go_simp <;> with_reducible rfl)
      try simp only [Act.put, List.setIfInBounds_toArray, List.set_cons_zero, List.set_cons_succ]
      refine wpAnyH_take (i := 1) (oi := ?oi1A10) (v := ?v1A10) ?hi1A10 (by kernel_rfl) (by kernel_rfl) (by kernel_rfl) ?hq1A10 (Or.inl ⟨?hw1A10, ?hy1A10⟩) (by assumption) ?rest1A10
      case hi1A10 => (simp only [List.getElem?_toArray, List.getElem?_cons_succ, List.getElem?_cons_zero]; rfl)
      case hq1A10 => exact fun _ _ _ h => h
      case hw1A10 => rfl
      case hy1A10 => (intro w hSw; (try dsimp only at hSw); go_simp <;> with_reducible rfl)
      try simp only [Act.put, List.setIfInBounds_toArray, List.set_cons_zero, List.set_cons_succ]
      refine wpAnyH_take (i := 2) (oi := ?oi2A10) (v := ?v2A10) ?hi2A10 (by kernel_rfl) (by kernel_rfl) (by kernel_rfl) ?hq2A10 (Or.inl ⟨?hw2A10, ?hy2A10⟩) (by assumption) ?rest2A10
      case hi2A10 => (simp only [List.getElem?_toArray, List.getElem?_cons_succ, List.getElem?_cons_zero]; rfl)
      case hq2A10 => exact fun _ _ _ h => h
      case hw2A10 => rfl
      case hy2A10 => (intro w hSw; (try dsimp only at hSw); go_simp <;> with_reducible rfl)
      try simp only [Act.put, List.setIfInBounds_toArray, List.set_cons_zero, List.set_cons_succ]
      refine wpAnyH_take (i := 3) (oi := ?oi3A10) (v := ?v3A10) ?hi3A10 (by kernel_rfl) (by kernel_rfl) (by kernel_rfl) ?hq3A10 (Or.inl ⟨?hw3A10, ?hy3A10⟩) (by assumption) ?rest3A10
      case hi3A10 => (simp only [List.getElem?_toArray, List.getElem?_cons_succ, List.getElem?_cons_zero]; rfl)
      case hq3A10 => exact fun _ _ _ h => h
      case hw3A10 => rfl
      case hy3A10 => (intro w hSw; (try dsimp only at hSw); go_simp <;> with_reducible rfl)
      try simp only [Act.put, List.setIfInBounds_toArray, List.set_cons_zero, List.set_cons_succ]
      refine wpAnyH_take (i := 4) (oi := ?oi4A10) (v := ?v4A10) ?hi4A10 (by kernel_rfl) (by kernel_rfl) (by kernel_rfl) ?hq4A10 (Or.inl ⟨?hw4A10, ?hy4A10⟩) (by assumption) ?rest4A10
      case hi4A10 => (simp only [List.getElem?_toArray, List.getElem?_cons_succ, List.getElem?_cons_zero]; rfl)
      case hq4A10 => exact fun _ _ _ h => h
      case hw4A10 => rfl
      case hy4A10 => (intro w hSw; (try dsimp only at hSw); go_simp <;> with_reducible rfl)
      try simp only [Act.put, List.setIfInBounds_toArray, List.set_cons_zero, List.set_cons_succ]
      refine wpAnyH_take (i := 5) (oi := ?oi5A10) (v := ?v5A10) ?hi5A10 (by kernel_rfl) (by kernel_rfl) (by kernel_rfl) ?hq5A10 (Or.inl ⟨?hw5A10, ?hy5A10⟩) (by assumption) ?rest5A10
      case hi5A10 => (simp only [List.getElem?_toArray, List.getElem?_cons_succ, List.getElem?_cons_zero]; rfl)
      case hq5A10 => exact fun _ _ _ h => h
      case hw5A10 => rfl
      case hy5A10 => (intro w hSw; (try dsimp only at hSw); go_simp <;> with_reducible rfl)
      try simp only [Act.put, List.setIfInBounds_toArray, List.set_cons_zero, List.set_cons_succ]
      refine wpAnyH_take (i := 6) (oi := ?oi6A10) (v := ?v6A10) ?hi6A10 (by kernel_rfl) (by kernel_rfl) (by kernel_rfl) ?hq6A10 (Or.inl ⟨?hw6A10, ?hy6A10⟩) (by assumption) ?rest6A10
      case hi6A10 => (simp only [List.getElem?_toArray, List.getElem?_cons_succ, List.getElem?_cons_zero]; rfl)
      case hq6A10 => exact fun _ _ _ h => h
      case hw6A10 => rfl
      case hy6A10 => (intro w hSw; (try dsimp only at hSw); go_simp <;> with_reducible rfl)
      try simp only [Act.put, List.setIfInBounds_toArray, List.set_cons_zero, List.set_cons_succ]
      refine wpAnyH_take (i := 7) (oi := ?oi7A10) (v := ?v7A10) ?hi7A10 (by kernel_rfl) (by kernel_rfl) (by kernel_rfl) ?hq7A10 (Or.inl ⟨?hw7A10, ?hy7A10⟩) (by assumption) ?rest7A10
      case hi7A10 => (simp only [List.getElem?_toArray, List.getElem?_cons_succ, List.getElem?_cons_zero]; rfl)
      case hq7A10 => exact fun _ _ _ h => h
      case hw7A10 => rfl
      case hy7A10 => (intro w hSw; (try dsimp only at hSw); go_simp <;> with_reducible rfl)
      try simp only [Act.put, List.setIfInBounds_toArray, List.set_cons_zero, List.set_cons_succ]
      refine wpAnyH_done (by kernel_rfl) ?_ _
      go_wp2_with fail
      refine wp_region_held_drew (S := (fun _ => True)) (by kernel_rfl) trivial (fun hHeld => ?_)
      refine wpAnyH_take (i := 0) (oi := ?oi0B10) (v := ?v0B10) ?hi0B10 (by kernel_rfl) (by kernel_rfl) (by kernel_rfl) ?hq0B10 (Or.inl ⟨?hw0B10, ?hy0B10⟩) (by assumption) ?rest0B10
      case hi0B10 => (simp only [List.getElem?_toArray, List.getElem?_cons_succ, List.getElem?_cons_zero]; rfl)
      case hq0B10 => exact fun _ _ _ h => h
      case hw0B10 => rfl
      case hy0B10 => (intro w hSw; (try dsimp only at hSw); go_simp <;> with_reducible rfl)
      try simp only [Act.put, List.setIfInBounds_toArray, List.set_cons_zero, List.set_cons_succ]
      refine wpAnyH_take (i := 1) (oi := ?oi1B10) (v := ?v1B10) ?hi1B10 (by kernel_rfl) (by kernel_rfl) (by kernel_rfl) ?hq1B10 (Or.inl ⟨?hw1B10, ?hy1B10⟩) (by assumption) ?rest1B10
      case hi1B10 => (simp only [List.getElem?_toArray, List.getElem?_cons_succ, List.getElem?_cons_zero]; rfl)
      case hq1B10 => exact fun _ _ _ h => h
      case hw1B10 => rfl
      case hy1B10 => (intro w hSw; (try dsimp only at hSw); go_simp <;> with_reducible rfl)
      try simp only [Act.put, List.setIfInBounds_toArray, List.set_cons_zero, List.set_cons_succ]
      refine wpAnyH_take (i := 2) (oi := ?oi2B10) (v := ?v2B10) ?hi2B10 (by kernel_rfl) (by kernel_rfl) (by kernel_rfl) ?hq2B10 (Or.inl ⟨?hw2B10, ?hy2B10⟩) (by assumption) ?rest2B10
      case hi2B10 => (simp only [List.getElem?_toArray, List.getElem?_cons_succ, List.getElem?_cons_zero]; rfl)
      case hq2B10 => exact fun _ _ _ h => h
      case hw2B10 => rfl
      case hy2B10 => (intro w hSw; (try dsimp only at hSw); go_simp <;> with_reducible rfl)
      try simp only [Act.put, List.setIfInBounds_toArray, List.set_cons_zero, List.set_cons_succ]
      refine wpAnyH_take (i := 3) (oi := ?oi3B10) (v := ?v3B10) ?hi3B10 (by kernel_rfl) (by kernel_rfl) (by kernel_rfl) ?hq3B10 (Or.inl ⟨?hw3B10, ?hy3B10⟩) (by assumption) ?rest3B10
      case hi3B10 => (simp only [List.getElem?_toArray, List.getElem?_cons_succ, List.getElem?_cons_zero]; rfl)
      case hq3B10 => exact fun _ _ _ h => h
      case hw3B10 => rfl
      case hy3B10 => (intro w hSw; (try dsimp only at hSw); go_simp <;> with_reducible rfl)
      try simp only [Act.put, List.setIfInBounds_toArray, List.set_cons_zero, List.set_cons_succ]
      refine wpAnyH_take (i := 4) (oi := ?oi4B10) (v := ?v4B10) ?hi4B10 (by kernel_rfl) (by kernel_rfl) (by kernel_rfl) ?hq4B10 (Or.inl ⟨?hw4B10, ?hy4B10⟩) (by assumption) ?rest4B10
      case hi4B10 => (simp only [List.getElem?_toArray, List.getElem?_cons_succ, List.getElem?_cons_zero]; rfl)
      case hq4B10 => exact fun _ _ _ h => h
      case hw4B10 => rfl
      case hy4B10 => (intro w hSw; (try dsimp only at hSw); go_simp <;> with_reducible rfl)
      try simp only [Act.put, List.setIfInBounds_toArray, List.set_cons_zero, List.set_cons_succ]
      refine wpAnyH_take (i := 5) (oi := ?oi5B10) (v := ?v5B10) ?hi5B10 (by kernel_rfl) (by kernel_rfl) (by kernel_rfl) ?hq5B10 (Or.inl ⟨?hw5B10, ?hy5B10⟩) (by assumption) ?rest5B10
      case hi5B10 => (simp only [List.getElem?_toArray, List.getElem?_cons_succ, List.getElem?_cons_zero]; rfl)
      case hq5B10 => exact fun _ _ _ h => h
      case hw5B10 => rfl
      case hy5B10 => (intro w hSw; (try dsimp only at hSw); go_simp <;> with_reducible rfl)
      try simp only [Act.put, List.setIfInBounds_toArray, List.set_cons_zero, List.set_cons_succ]
      refine wpAnyH_take (i := 6) (oi := ?oi6B10) (v := ?v6B10) ?hi6B10 (by kernel_rfl) (by kernel_rfl) (by kernel_rfl) ?hq6B10 (Or.inl ⟨?hw6B10, ?hy6B10⟩) (by assumption) ?rest6B10
      case hi6B10 => (simp only [List.getElem?_toArray, List.getElem?_cons_succ, List.getElem?_cons_zero]; rfl)
      case hq6B10 => exact fun _ _ _ h => h
      case hw6B10 => rfl
      case hy6B10 => (intro w hSw; (try dsimp only at hSw); go_simp <;> with_reducible rfl)
      try simp only [Act.put, List.setIfInBounds_toArray, List.set_cons_zero, List.set_cons_succ]
      refine wpAnyH_ready (rs := [7]) (by kernel_rfl) (by simp) ?_
      refine AllReadyH.cons (o := ?o7B10) ?hi7B10 (fun K hK => ?st7B10) AllReadyH.nil
      case hi7B10 => (simp only [List.getElem?_toArray, List.getElem?_cons_succ, List.getElem?_cons_zero]; rfl)
      go_simp
      refine hK.out _ _ trivial (fun hHeld2 => ?_)
      clear hK K hHeld
      have hHeld := hHeld2
      clear hHeld2
      try simp only [Act.put, List.setIfInBounds_toArray, List.set_cons_zero, List.set_cons_succ]
      refine wpAnyH_done (by kernel_rfl) ?_ _
      go_wp2
      refine bodyPost_ret (v := .agg #[.pointer (some ⟨g, 0, none⟩), .pointer none, .pointer (some ⟨g, 10, none⟩)]) (by simp [results, Tryz.results65, go_sem]) rfl ⟨rfl, hb⟩
    · have hb := Below.drew (Below.drew ((Below.refl w.heap.size w).alloc (Nat.le_refl _) (.cells #[.pointer none, .pointer (some ⟨g, 0, none⟩), .pointer (some ⟨g, 7, none⟩)] 123)))
      go_enter Tryz.func65, Tryz.ntmps65
      go_wp2_with fail
      refine wp_region_held_drew (S := (fun _ => True)) (by kernel_rfl) trivial (fun hHeld => ?_)
      refine wpAnyH_take (i := 0) (oi := ?oi0A11) (v := ?v0A11) ?hi0A11 (by kernel_rfl) (by kernel_rfl) (by kernel_rfl) ?hq0A11 (Or.inl ⟨?hw0A11, ?hy0A11⟩) (by assumption) ?rest0A11
      case hi0A11 => (simp only [List.getElem?_toArray, List.getElem?_cons_succ, List.getElem?_cons_zero]; rfl)
      case hq0A11 => exact fun _ _ _ h => h
      case hw0A11 => rfl
      case hy0A11 => (intro w hSw; (try dsimp only at hSw); go_simp <;> with_reducible rfl)
      try simp only [Act.put, List.setIfInBounds_toArray, List.set_cons_zero, List.set_cons_succ]
      refine wpAnyH_take (i := 1) (oi := ?oi1A11) (v := ?v1A11) ?hi1A11 (by kernel_rfl) (by kernel_rfl) (by kernel_rfl) ?hq1A11 (Or.inl ⟨?hw1A11, ?hy1A11⟩) (by assumption) ?rest1A11
      case hi1A11 => (simp only [List.getElem?_toArray, List.getElem?_cons_succ, List.getElem?_cons_zero]; rfl)
      case hq1A11 => exact fun _ _ _ h => h
      case hw1A11 => rfl
      case hy1A11 => (intro w hSw; (try dsimp only at hSw); go_simp <;> with_reducible rfl)
      try simp only [Act.put, List.setIfInBounds_toArray, List.set_cons_zero, List.set_cons_succ]
      refine wpAnyH_take (i := 2) (oi := ?oi2A11) (v := ?v2A11) ?hi2A11 (by kernel_rfl) (by kernel_rfl) (by kernel_rfl) ?hq2A11 (Or.inl ⟨?hw2A11, ?hy2A11⟩) (by assumption) ?rest2A11
      case hi2A11 => (simp only [List.getElem?_toArray, List.getElem?_cons_succ, List.getElem?_cons_zero]; rfl)
      case hq2A11 => exact fun _ _ _ h => h
      case hw2A11 => rfl
      case hy2A11 => (intro w hSw; (try dsimp only at hSw); go_simp <;> with_reducible rfl)
      try simp only [Act.put, List.setIfInBounds_toArray, List.set_cons_zero, List.set_cons_succ]
      refine wpAnyH_take (i := 3) (oi := ?oi3A11) (v := ?v3A11) ?hi3A11 (by kernel_rfl) (by kernel_rfl) (by kernel_rfl) ?hq3A11 (Or.inl ⟨?hw3A11, ?hy3A11⟩) (by assumption) ?rest3A11
      case hi3A11 => (simp only [List.getElem?_toArray, List.getElem?_cons_succ, List.getElem?_cons_zero]; rfl)
      case hq3A11 => exact fun _ _ _ h => h
      case hw3A11 => rfl
      case hy3A11 => (intro w hSw; (try dsimp only at hSw); go_simp <;> with_reducible rfl)
      try simp only [Act.put, List.setIfInBounds_toArray, List.set_cons_zero, List.set_cons_succ]
      refine wpAnyH_take (i := 4) (oi := ?oi4A11) (v := ?v4A11) ?hi4A11 (by kernel_rfl) (by kernel_rfl) (by kernel_rfl) ?hq4A11 (Or.inl ⟨?hw4A11, ?hy4A11⟩) (by assumption) ?rest4A11
      case hi4A11 => (simp only [List.getElem?_toArray, List.getElem?_cons_succ, List.getElem?_cons_zero]; rfl)
      case hq4A11 => exact fun _ _ _ h => h
      case hw4A11 => rfl
      case hy4A11 => (intro w hSw; (try dsimp only at hSw); go_simp <;> with_reducible rfl)
      try simp only [Act.put, List.setIfInBounds_toArray, List.set_cons_zero, List.set_cons_succ]
      refine wpAnyH_take (i := 5) (oi := ?oi5A11) (v := ?v5A11) ?hi5A11 (by kernel_rfl) (by kernel_rfl) (by kernel_rfl) ?hq5A11 (Or.inl ⟨?hw5A11, ?hy5A11⟩) (by assumption) ?rest5A11
      case hi5A11 => (simp only [List.getElem?_toArray, List.getElem?_cons_succ, List.getElem?_cons_zero]; rfl)
      case hq5A11 => exact fun _ _ _ h => h
      case hw5A11 => rfl
      case hy5A11 => (intro w hSw; (try dsimp only at hSw); go_simp <;> with_reducible rfl)
      try simp only [Act.put, List.setIfInBounds_toArray, List.set_cons_zero, List.set_cons_succ]
      refine wpAnyH_take (i := 6) (oi := ?oi6A11) (v := ?v6A11) ?hi6A11 (by kernel_rfl) (by kernel_rfl) (by kernel_rfl) ?hq6A11 (Or.inl ⟨?hw6A11, ?hy6A11⟩) (by assumption) ?rest6A11
      case hi6A11 => (simp only [List.getElem?_toArray, List.getElem?_cons_succ, List.getElem?_cons_zero]; rfl)
      case hq6A11 => exact fun _ _ _ h => h
      case hw6A11 => rfl
      case hy6A11 => (intro w hSw; (try dsimp only at hSw); go_simp <;> with_reducible rfl)
      try simp only [Act.put, List.setIfInBounds_toArray, List.set_cons_zero, List.set_cons_succ]
      refine wpAnyH_take (i := 7) (oi := ?oi7A11) (v := ?v7A11) ?hi7A11 (by kernel_rfl) (by kernel_rfl) (by kernel_rfl) ?hq7A11 (Or.inl ⟨?hw7A11, ?hy7A11⟩) (by assumption) ?rest7A11
      case hi7A11 => (simp only [List.getElem?_toArray, List.getElem?_cons_succ, List.getElem?_cons_zero]; rfl)
      case hq7A11 => exact fun _ _ _ h => h
      case hw7A11 => rfl
      case hy7A11 => (intro w hSw; (try dsimp only at hSw); go_simp <;> with_reducible rfl)
      try simp only [Act.put, List.setIfInBounds_toArray, List.set_cons_zero, List.set_cons_succ]
      refine wpAnyH_done (by kernel_rfl) ?_ _
      go_wp2_with fail
      refine wp_region_held_drew (S := (fun _ => True)) (by kernel_rfl) trivial (fun hHeld => ?_)
      refine wpAnyH_take (i := 0) (oi := ?oi0B11) (v := ?v0B11) ?hi0B11 (by kernel_rfl) (by kernel_rfl) (by kernel_rfl) ?hq0B11 (Or.inl ⟨?hw0B11, ?hy0B11⟩) (by assumption) ?rest0B11
      case hi0B11 => (simp only [List.getElem?_toArray, List.getElem?_cons_succ, List.getElem?_cons_zero]; rfl)
      case hq0B11 => exact fun _ _ _ h => h
      case hw0B11 => rfl
      case hy0B11 => (intro w hSw; (try dsimp only at hSw); go_simp <;> with_reducible rfl)
      try simp only [Act.put, List.setIfInBounds_toArray, List.set_cons_zero, List.set_cons_succ]
      refine wpAnyH_take (i := 1) (oi := ?oi1B11) (v := ?v1B11) ?hi1B11 (by kernel_rfl) (by kernel_rfl) (by kernel_rfl) ?hq1B11 (Or.inl ⟨?hw1B11, ?hy1B11⟩) (by assumption) ?rest1B11
      case hi1B11 => (simp only [List.getElem?_toArray, List.getElem?_cons_succ, List.getElem?_cons_zero]; rfl)
      case hq1B11 => exact fun _ _ _ h => h
      case hw1B11 => rfl
      case hy1B11 => (intro w hSw; (try dsimp only at hSw); go_simp <;> with_reducible rfl)
      try simp only [Act.put, List.setIfInBounds_toArray, List.set_cons_zero, List.set_cons_succ]
      refine wpAnyH_take (i := 2) (oi := ?oi2B11) (v := ?v2B11) ?hi2B11 (by kernel_rfl) (by kernel_rfl) (by kernel_rfl) ?hq2B11 (Or.inl ⟨?hw2B11, ?hy2B11⟩) (by assumption) ?rest2B11
      case hi2B11 => (simp only [List.getElem?_toArray, List.getElem?_cons_succ, List.getElem?_cons_zero]; rfl)
      case hq2B11 => exact fun _ _ _ h => h
      case hw2B11 => rfl
      case hy2B11 => (intro w hSw; (try dsimp only at hSw); go_simp <;> with_reducible rfl)
      try simp only [Act.put, List.setIfInBounds_toArray, List.set_cons_zero, List.set_cons_succ]
      refine wpAnyH_take (i := 3) (oi := ?oi3B11) (v := ?v3B11) ?hi3B11 (by kernel_rfl) (by kernel_rfl) (by kernel_rfl) ?hq3B11 (Or.inl ⟨?hw3B11, ?hy3B11⟩) (by assumption) ?rest3B11
      case hi3B11 => (simp only [List.getElem?_toArray, List.getElem?_cons_succ, List.getElem?_cons_zero]; rfl)
      case hq3B11 => exact fun _ _ _ h => h
      case hw3B11 => rfl
      case hy3B11 => (intro w hSw; (try dsimp only at hSw); go_simp <;> with_reducible rfl)
      try simp only [Act.put, List.setIfInBounds_toArray, List.set_cons_zero, List.set_cons_succ]
      refine wpAnyH_take (i := 4) (oi := ?oi4B11) (v := ?v4B11) ?hi4B11 (by kernel_rfl) (by kernel_rfl) (by kernel_rfl) ?hq4B11 (Or.inl ⟨?hw4B11, ?hy4B11⟩) (by assumption) ?rest4B11
      case hi4B11 => (simp only [List.getElem?_toArray, List.getElem?_cons_succ, List.getElem?_cons_zero]; rfl)
      case hq4B11 => exact fun _ _ _ h => h
      case hw4B11 => rfl
      case hy4B11 => (intro w hSw; (try dsimp only at hSw); go_simp <;> with_reducible rfl)
      try simp only [Act.put, List.setIfInBounds_toArray, List.set_cons_zero, List.set_cons_succ]
      refine wpAnyH_take (i := 5) (oi := ?oi5B11) (v := ?v5B11) ?hi5B11 (by kernel_rfl) (by kernel_rfl) (by kernel_rfl) ?hq5B11 (Or.inl ⟨?hw5B11, ?hy5B11⟩) (by assumption) ?rest5B11
      case hi5B11 => (simp only [List.getElem?_toArray, List.getElem?_cons_succ, List.getElem?_cons_zero]; rfl)
      case hq5B11 => exact fun _ _ _ h => h
      case hw5B11 => rfl
      case hy5B11 => (intro w hSw; (try dsimp only at hSw); go_simp <;> with_reducible rfl)
      try simp only [Act.put, List.setIfInBounds_toArray, List.set_cons_zero, List.set_cons_succ]
      refine wpAnyH_take (i := 6) (oi := ?oi6B11) (v := ?v6B11) ?hi6B11 (by kernel_rfl) (by kernel_rfl) (by kernel_rfl) ?hq6B11 (Or.inl ⟨?hw6B11, ?hy6B11⟩) (by assumption) ?rest6B11
      case hi6B11 => (simp only [List.getElem?_toArray, List.getElem?_cons_succ, List.getElem?_cons_zero]; rfl)
      case hq6B11 => exact fun _ _ _ h => h
      case hw6B11 => rfl
      case hy6B11 => (intro w hSw; (try dsimp only at hSw); go_simp <;> with_reducible rfl)
      try simp only [Act.put, List.setIfInBounds_toArray, List.set_cons_zero, List.set_cons_succ]
      refine wpAnyH_ready (rs := [7]) (by kernel_rfl) (by simp) ?_
      refine AllReadyH.cons (o := ?o7B11) ?hi7B11 (fun K hK => ?st7B11) AllReadyH.nil
      case hi7B11 => (simp only [List.getElem?_toArray, List.getElem?_cons_succ, List.getElem?_cons_zero]; rfl)
      go_simp
      refine hK.out _ _ trivial (fun hHeld2 => ?_)
      clear hK K hHeld
      have hHeld := hHeld2
      clear hHeld2
      try simp only [Act.put, List.setIfInBounds_toArray, List.set_cons_zero, List.set_cons_succ]
      refine wpAnyH_done (by kernel_rfl) ?_ _
      go_wp2
      refine bodyPost_ret (v := .agg #[.pointer none, .pointer (some ⟨g, 0, none⟩), .pointer (some ⟨g, 7, none⟩)]) (by simp [results, Tryz.results65, go_sem]) rfl ⟨rfl, hb⟩
  · rw [show chgV g k = .agg #[.pointer none, .pointer none, .pointer none] by unfold chgV; rw [chg_none h]; rfl]
    have h1 : (k == 1) = false := beq_eq_false_iff_ne.2 (by omega)
    have h2 : (k == 2) = false := beq_eq_false_iff_ne.2 (by omega)
    have h3 : (k == 3) = false := beq_eq_false_iff_ne.2 (by omega)
    have h4 : (k == 4) = false := beq_eq_false_iff_ne.2 (by omega)
    have h5 : (k == 5) = false := beq_eq_false_iff_ne.2 (by omega)
    have h6 : (k == 6) = false := beq_eq_false_iff_ne.2 (by omega)
    have h7 : (k == 7) = false := beq_eq_false_iff_ne.2 (by omega)
    have h8 : (k == 8) = false := beq_eq_false_iff_ne.2 (by omega)
    have h9 : (k == 9) = false := beq_eq_false_iff_ne.2 (by omega)
    have h10 : (k == 10) = false := beq_eq_false_iff_ne.2 (by omega)
    have h11 : (k == 11) = false := beq_eq_false_iff_ne.2 (by omega)
    have hb := Below.drew ((Below.refl w.heap.size w).alloc (Nat.le_refl _) (.cells #[.pointer none, .pointer none, .pointer none] 123))
    go_enter Tryz.func65, Tryz.ntmps65
    go_wp2_with fail
    refine wp_region_held_drew (S := (fun _ => True)) (by kernel_rfl) trivial (fun hHeld => ?_)
    refine wpAnyH_take (i := 0) (oi := ?oi0Z) (v := ?v0Z) ?hi0Z (by kernel_rfl) (by kernel_rfl) (by kernel_rfl) ?hq0Z (Or.inl ⟨?hw0Z, ?hy0Z⟩) (by assumption) ?rest0Z
    case hi0Z => (simp only [List.getElem?_toArray, List.getElem?_cons_succ, List.getElem?_cons_zero]; rfl)
    case hq0Z => exact fun _ _ _ h => h
    case hw0Z => rfl
    case hy0Z => (intro w hSw; (try dsimp only at hSw); go_simp <;> with_reducible rfl)
    try simp only [Act.put, List.setIfInBounds_toArray, List.set_cons_zero, List.set_cons_succ]
    refine wpAnyH_take (i := 1) (oi := ?oi1Z) (v := ?v1Z) ?hi1Z (by kernel_rfl) (by kernel_rfl) (by kernel_rfl) ?hq1Z (Or.inl ⟨?hw1Z, ?hy1Z⟩) (by assumption) ?rest1Z
    case hi1Z => (simp only [List.getElem?_toArray, List.getElem?_cons_succ, List.getElem?_cons_zero]; rfl)
    case hq1Z => exact fun _ _ _ h => h
    case hw1Z => rfl
    case hy1Z => (intro w hSw; (try dsimp only at hSw); go_simp <;> with_reducible rfl)
    try simp only [Act.put, List.setIfInBounds_toArray, List.set_cons_zero, List.set_cons_succ]
    refine wpAnyH_take (i := 2) (oi := ?oi2Z) (v := ?v2Z) ?hi2Z (by kernel_rfl) (by kernel_rfl) (by kernel_rfl) ?hq2Z (Or.inl ⟨?hw2Z, ?hy2Z⟩) (by assumption) ?rest2Z
    case hi2Z => (simp only [List.getElem?_toArray, List.getElem?_cons_succ, List.getElem?_cons_zero]; rfl)
    case hq2Z => exact fun _ _ _ h => h
    case hw2Z => rfl
    case hy2Z => (intro w hSw; (try dsimp only at hSw); go_simp <;> with_reducible rfl)
    try simp only [Act.put, List.setIfInBounds_toArray, List.set_cons_zero, List.set_cons_succ]
    refine wpAnyH_take (i := 3) (oi := ?oi3Z) (v := ?v3Z) ?hi3Z (by kernel_rfl) (by kernel_rfl) (by kernel_rfl) ?hq3Z (Or.inl ⟨?hw3Z, ?hy3Z⟩) (by assumption) ?rest3Z
    case hi3Z => (simp only [List.getElem?_toArray, List.getElem?_cons_succ, List.getElem?_cons_zero]; rfl)
    case hq3Z => exact fun _ _ _ h => h
    case hw3Z => rfl
    case hy3Z => (intro w hSw; (try dsimp only at hSw); go_simp <;> with_reducible rfl)
    try simp only [Act.put, List.setIfInBounds_toArray, List.set_cons_zero, List.set_cons_succ]
    refine wpAnyH_take (i := 4) (oi := ?oi4Z) (v := ?v4Z) ?hi4Z (by kernel_rfl) (by kernel_rfl) (by kernel_rfl) ?hq4Z (Or.inl ⟨?hw4Z, ?hy4Z⟩) (by assumption) ?rest4Z
    case hi4Z => (simp only [List.getElem?_toArray, List.getElem?_cons_succ, List.getElem?_cons_zero]; rfl)
    case hq4Z => exact fun _ _ _ h => h
    case hw4Z => rfl
    case hy4Z => (intro w hSw; (try dsimp only at hSw); go_simp <;> with_reducible rfl)
    try simp only [Act.put, List.setIfInBounds_toArray, List.set_cons_zero, List.set_cons_succ]
    refine wpAnyH_take (i := 5) (oi := ?oi5Z) (v := ?v5Z) ?hi5Z (by kernel_rfl) (by kernel_rfl) (by kernel_rfl) ?hq5Z (Or.inl ⟨?hw5Z, ?hy5Z⟩) (by assumption) ?rest5Z
    case hi5Z => (simp only [List.getElem?_toArray, List.getElem?_cons_succ, List.getElem?_cons_zero]; rfl)
    case hq5Z => exact fun _ _ _ h => h
    case hw5Z => rfl
    case hy5Z => (intro w hSw; (try dsimp only at hSw); go_simp <;> with_reducible rfl)
    try simp only [Act.put, List.setIfInBounds_toArray, List.set_cons_zero, List.set_cons_succ]
    refine wpAnyH_take (i := 6) (oi := ?oi6Z) (v := ?v6Z) ?hi6Z (by kernel_rfl) (by kernel_rfl) (by kernel_rfl) ?hq6Z (Or.inl ⟨?hw6Z, ?hy6Z⟩) (by assumption) ?rest6Z
    case hi6Z => (simp only [List.getElem?_toArray, List.getElem?_cons_succ, List.getElem?_cons_zero]; rfl)
    case hq6Z => exact fun _ _ _ h => h
    case hw6Z => rfl
    case hy6Z => (intro w hSw; (try dsimp only at hSw); go_simp <;> with_reducible rfl)
    try simp only [Act.put, List.setIfInBounds_toArray, List.set_cons_zero, List.set_cons_succ]
    refine wpAnyH_take (i := 7) (oi := ?oi7Z) (v := ?v7Z) ?hi7Z (by kernel_rfl) (by kernel_rfl) (by kernel_rfl) ?hq7Z (Or.inl ⟨?hw7Z, ?hy7Z⟩) (by assumption) ?rest7Z
    case hi7Z => (simp only [List.getElem?_toArray, List.getElem?_cons_succ, List.getElem?_cons_zero]; rfl)
    case hq7Z => exact fun _ _ _ h => h
    case hw7Z => rfl
    case hy7Z => (intro w hSw; (try dsimp only at hSw); go_simp <;> with_reducible rfl)
    try simp only [Act.put, List.setIfInBounds_toArray, List.set_cons_zero, List.set_cons_succ]
    refine wpAnyH_done (by kernel_rfl) ?_ _
    go_wp2
    refine bodyPost_ret (v := .agg #[.pointer none, .pointer none, .pointer none]) (by simp [results, Tryz.results65, go_sem]) rfl ⟨rfl, hb⟩
end
section
open Go.RowKit Go.Maps Go.Shelf
set_option linter.unusedVariables false
set_option linter.unusedSimpArgs false

theorem fill11 {W : World} {B : Nat} {t : TypeId} {a0 a1 a2 a3 a4 a5 a6 a7 a8 a9 a10 : Value} (h : Blk W B t #[a0, a1, a2, a3, a4, a5, a6, a7, a8, a9, a10]) (b0 b1 b2 b3 b4 b5 b6 b7 b8 b9 b10 : Value) : Blk (((((((((((W.setCell ⟨B, 0, none⟩ (b0)).setCell ⟨B, 1, none⟩ (b1)).setCell ⟨B, 2, none⟩ (b2)).setCell ⟨B, 3, none⟩ (b3)).setCell ⟨B, 4, none⟩ (b4)).setCell ⟨B, 5, none⟩ (b5)).setCell ⟨B, 6, none⟩ (b6)).setCell ⟨B, 7, none⟩ (b7)).setCell ⟨B, 8, none⟩ (b8)).setCell ⟨B, 9, none⟩ (b9)).setCell ⟨B, 10, none⟩ (b10)) B t #[b0, b1, b2, b3, b4, b5, b6, b7, b8, b9, b10] := by
  simpa using (((((((((((h.set_ 0 b0).set_ 1 b1).set_ 2 b2).set_ 3 b3).set_ 4 b4).set_ 5 b5).set_ 6 b6).set_ 7 b7).set_ 8 b8).set_ 9 b9).set_ 10 b10)
theorem Keep.at_ {w0 W : World} {B : Nat} (h : Keep (fun k => k = B) w0 W) (i : Nat) (u : Value) : Keep (fun k => k = B) w0 (W.setCell ⟨B, i, none⟩ u) := h.setCell (p := ⟨B, i, none⟩) (fun _ => rfl) u
theorem rowS {W : World} {B : Nat} {fr he pi sa re rt cn cm sh sc se : Int} (h : Blk W B 44 #[.int .i64 fr, .int .i64 he, .int .i64 pi, .int .i64 sa, .int .i64 re, .int .i64 rt, .int .i64 cn, .int .i64 cm, .int .i64 sh, .int .i64 sc, .int .i64 se]) : W.cell? ⟨B, 0, none⟩ = some (.int .i64 fr) ∧ W.cell? ⟨B, 1, none⟩ = some (.int .i64 he) ∧ W.cell? ⟨B, 2, none⟩ = some (.int .i64 pi) ∧ W.cell? ⟨B, 3, none⟩ = some (.int .i64 sa) ∧ W.cell? ⟨B, 4, none⟩ = some (.int .i64 re) ∧ W.cell? ⟨B, 5, none⟩ = some (.int .i64 rt) ∧ W.cell? ⟨B, 6, none⟩ = some (.int .i64 cn) ∧ W.cell? ⟨B, 7, none⟩ = some (.int .i64 cm) ∧ W.cell? ⟨B, 8, none⟩ = some (.int .i64 sh) ∧ W.cell? ⟨B, 9, none⟩ = some (.int .i64 sc) ∧ W.cell? ⟨B, 10, none⟩ = some (.int .i64 se) :=
  ⟨h.cell 0, h.cell 1, h.cell 2, h.cell 3, h.cell 4, h.cell 5, h.cell 6, h.cell 7, h.cell 8, h.cell 9, h.cell 10⟩
/-- A row behind what is done to it. -/
def doneA (k n fr he pi sa re rt cn cm sh sc se : Int) : Array Value :=
  if k = 1 then #[.int .i64 (wrap64 (fr + n)), .int .i64 (he), .int .i64 (pi), .int .i64 (sa), .int .i64 (wrap64 (re + n)), .int .i64 (rt), .int .i64 (cn), .int .i64 (cm), .int .i64 (sh), .int .i64 (sc), .int .i64 (se)]
  else if k = 2 then #[.int .i64 (wrap64 (fr - n)), .int .i64 (wrap64 (he + n)), .int .i64 (pi), .int .i64 (sa), .int .i64 (re), .int .i64 (rt), .int .i64 (cn), .int .i64 (cm), .int .i64 (sh), .int .i64 (sc), .int .i64 (se)]
  else if k = 3 then #[.int .i64 (wrap64 (fr + n)), .int .i64 (wrap64 (he - n)), .int .i64 (pi), .int .i64 (sa), .int .i64 (re), .int .i64 (rt), .int .i64 (cn), .int .i64 (cm), .int .i64 (sh), .int .i64 (sc), .int .i64 (se)]
  else if k = 4 then #[.int .i64 (fr), .int .i64 (wrap64 (he - n)), .int .i64 (wrap64 (pi + n)), .int .i64 (sa), .int .i64 (re), .int .i64 (rt), .int .i64 (cn), .int .i64 (cm), .int .i64 (sh), .int .i64 (sc), .int .i64 (se)]
  else if k = 5 then #[.int .i64 (fr), .int .i64 (wrap64 (he + n)), .int .i64 (wrap64 (pi - n)), .int .i64 (sa), .int .i64 (re), .int .i64 (rt), .int .i64 (cn), .int .i64 (cm), .int .i64 (sh), .int .i64 (sc), .int .i64 (se)]
  else if k = 6 then #[.int .i64 (fr), .int .i64 (he), .int .i64 (wrap64 (pi - n)), .int .i64 (sa), .int .i64 (re), .int .i64 (rt), .int .i64 (cn), .int .i64 (cm), .int .i64 (wrap64 (sh + n)), .int .i64 (sc), .int .i64 (se)]
  else if k = 7 then #[.int .i64 (fr), .int .i64 (he), .int .i64 (pi), .int .i64 (wrap64 (sa + n)), .int .i64 (re), .int .i64 (wrap64 (rt + n)), .int .i64 (cn), .int .i64 (cm), .int .i64 (sh), .int .i64 (sc), .int .i64 (se)]
  else if k = 8 then #[.int .i64 (wrap64 (fr + n)), .int .i64 (he), .int .i64 (pi), .int .i64 (wrap64 (sa - n)), .int .i64 (re), .int .i64 (rt), .int .i64 (cn), .int .i64 (cm), .int .i64 (sh), .int .i64 (sc), .int .i64 (se)]
  else if k = 9 then #[.int .i64 (fr), .int .i64 (he), .int .i64 (pi), .int .i64 (wrap64 (sa - n)), .int .i64 (re), .int .i64 (rt), .int .i64 (cn), .int .i64 (cm), .int .i64 (sh), .int .i64 (wrap64 (sc + n)), .int .i64 (se)]
  else if k = 10 then #[.int .i64 (wrap64 (fr - n)), .int .i64 (he), .int .i64 (pi), .int .i64 (sa), .int .i64 (re), .int .i64 (rt), .int .i64 (cn), .int .i64 (cm), .int .i64 (sh), .int .i64 (sc), .int .i64 (wrap64 (se + n))]
  else if k = 11 then #[.int .i64 (wrap64 (fr + n)), .int .i64 (he), .int .i64 (pi), .int .i64 (sa), .int .i64 (re), .int .i64 (rt), .int .i64 (cn), .int .i64 (wrap64 (cm + n)), .int .i64 (sh), .int .i64 (sc), .int .i64 (se)]
  else #[.int .i64 fr, .int .i64 he, .int .i64 pi, .int .i64 sa, .int .i64 re, .int .i64 rt, .int .i64 cn, .int .i64 cm, .int .i64 sh, .int .i64 sc, .int .i64 se]

set_option maxRecDepth 100000 in
set_option maxHeartbeats 12800000 in
theorem done_any (k n fr he pi sa re rt cn cm sh sc se : Int) (w : World) : Calls Tryz.prog 67 #[.agg #[.int .i64 fr, .int .i64 he, .int .i64 pi, .int .i64 sa, .int .i64 re, .int .i64 rt, .int .i64 cn, .int .i64 cm, .int .i64 sh, .int .i64 sc, .int .i64 se], .int .i64 k, .int .i64 n] w fun e w' => e = .returned (.agg (doneA k n fr he pi sa re rt cn cm sh sc se)) ∧ Below w.heap.size w w' := by
  have hbg : Blk ((w.alloc (.cells #[.int .i64 fr, .int .i64 he, .int .i64 pi, .int .i64 sa, .int .i64 re, .int .i64 rt, .int .i64 cn, .int .i64 cm, .int .i64 sh, .int .i64 sc, .int .i64 se] 44)).alloc (.cells #[.int .i64 0, .int .i64 0, .int .i64 0, .int .i64 0, .int .i64 0, .int .i64 0, .int .i64 0, .int .i64 0, .int .i64 0, .int .i64 0, .int .i64 0] 44)) w.heap.size 44 #[.int .i64 fr, .int .i64 he, .int .i64 pi, .int .i64 sa, .int .i64 re, .int .i64 rt, .int .i64 cn, .int .i64 cm, .int .i64 sh, .int .i64 sc, .int .i64 se] := (Blk.new _ _ _).alloc _
  have hbr : Blk ((w.alloc (.cells #[.int .i64 fr, .int .i64 he, .int .i64 pi, .int .i64 sa, .int .i64 re, .int .i64 rt, .int .i64 cn, .int .i64 cm, .int .i64 sh, .int .i64 sc, .int .i64 se] 44)).alloc (.cells #[.int .i64 0, .int .i64 0, .int .i64 0, .int .i64 0, .int .i64 0, .int .i64 0, .int .i64 0, .int .i64 0, .int .i64 0, .int .i64 0, .int .i64 0] 44)) (w.heap.size + 1) 44 #[.int .i64 0, .int .i64 0, .int .i64 0, .int .i64 0, .int .i64 0, .int .i64 0, .int .i64 0, .int .i64 0, .int .i64 0, .int .i64 0, .int .i64 0] := by
    have := Blk.new (w.alloc (.cells #[.int .i64 fr, .int .i64 he, .int .i64 pi, .int .i64 sa, .int .i64 re, .int .i64 rt, .int .i64 cn, .int .i64 cm, .int .i64 sh, .int .i64 sc, .int .i64 se] 44)) 44 #[.int .i64 0, .int .i64 0, .int .i64 0, .int .i64 0, .int .i64 0, .int .i64 0, .int .i64 0, .int .i64 0, .int .i64 0, .int .i64 0, .int .i64 0]
    rw [World.size_alloc] at this
    exact this
  have hb0 := ((Below.refl w.heap.size w).alloc (Nat.le_refl _) (.cells #[.int .i64 fr, .int .i64 he, .int .i64 pi, .int .i64 sa, .int .i64 re, .int .i64 rt, .int .i64 cn, .int .i64 cm, .int .i64 sh, .int .i64 sc, .int .i64 se] 44)).alloc (by simp only [World.size_alloc]; omega) (.cells #[.int .i64 0, .int .i64 0, .int .i64 0, .int .i64 0, .int .i64 0, .int .i64 0, .int .i64 0, .int .i64 0, .int .i64 0, .int .i64 0, .int .i64 0] 44)
  by_cases h : 1 ≤ k ∧ k ≤ 11
  · rcases doKinds h with rfl | rfl | rfl | rfl | rfl | rfl | rfl | rfl | rfl | rfl | rfl
    · rw [show doneA 1 n fr he pi sa re rt cn cm sh sc se = #[.int .i64 (wrap64 (fr + n)), .int .i64 (he), .int .i64 (pi), .int .i64 (sa), .int .i64 (wrap64 (re + n)), .int .i64 (rt), .int .i64 (cn), .int .i64 (cm), .int .i64 (sh), .int .i64 (sc), .int .i64 (se)] from rfl]
      go_enter Tryz.func67, Tryz.ntmps67
      go_wp2_with fail
      refine (change_any w.heap.size 1 _).mono ?_
      rintro e w1 ⟨rfl, hx1⟩
      have hb1 := hb0.trans (hx1.mono hb0.size)
      have hbg1 := hbg.kept (Keep.of_below hx1) (fun h => absurd hbg.lt (Nat.not_lt.2 h))
      have hbr1 := hbr.kept (Keep.of_below hx1) (fun h => absurd hbr.lt (Nat.not_lt.2 h))
      have hlg := hbg1.lt
      have hlr := hbr1.lt
      have hng : w.heap.size ≠ w1.heap.size := by omega
      have hnr : w.heap.size + 1 ≠ w1.heap.size := by omega
      obtain ⟨c0, c1, c2, c3, c4, c5, c6, c7, c8, c9, c10⟩ := rowS hbg1
      obtain ⟨d0, d1, d2, d3, d4, d5, d6, d7, d8, d9, d10⟩ := rowS hbr1
      have hfg := fun i => hbg1.frozen i
      have hfr := fun i => hbr1.frozen i
      rw [show chgV w.heap.size 1 = .agg #[.pointer none, .pointer (some ⟨w.heap.size, 0, none⟩), .pointer (some ⟨w.heap.size, 4, none⟩)] from rfl]
      go_wp2
      clear c0 c1 c2 c3 c4 c5 c6 c7 c8 c9 c10 d0 d1 d2 d3 d4 d5 d6 d7 d8 d9 d10 hfg hfr
      have kA : Keep (fun k => k = w.heap.size) w1 ((w1.setCell ⟨w.heap.size, 0, none⟩ (.int .i64 (wrap64 (fr + n)))).setCell ⟨w.heap.size, 4, none⟩ (.int .i64 (wrap64 (re + n)))) := (((Keep.refl (fun k => k = w.heap.size) w1).at_ 0 (.int .i64 (wrap64 (fr + n)))).at_ 4 (.int .i64 (wrap64 (re + n))))
      generalize ((w1.setCell ⟨w.heap.size, 0, none⟩ (.int .i64 (wrap64 (fr + n)))).setCell ⟨w.heap.size, 4, none⟩ (.int .i64 (wrap64 (re + n)))) = WA at kA ⊢
      have hbrA := hbr1.kept kA (by omega)
      have hbE := fill11 hbrA (.int .i64 (wrap64 (fr + n))) (.int .i64 he) (.int .i64 pi) (.int .i64 sa) (.int .i64 (wrap64 (re + n))) (.int .i64 rt) (.int .i64 cn) (.int .i64 cm) (.int .i64 sh) (.int .i64 sc) (.int .i64 se)
      have kE : Keep (fun k => k = w.heap.size + 1) WA (((((((((((WA.setCell ⟨(w.heap.size + 1), 0, none⟩ (.int .i64 (wrap64 (fr + n)))).setCell ⟨(w.heap.size + 1), 1, none⟩ (.int .i64 he)).setCell ⟨(w.heap.size + 1), 2, none⟩ (.int .i64 pi)).setCell ⟨(w.heap.size + 1), 3, none⟩ (.int .i64 sa)).setCell ⟨(w.heap.size + 1), 4, none⟩ (.int .i64 (wrap64 (re + n)))).setCell ⟨(w.heap.size + 1), 5, none⟩ (.int .i64 rt)).setCell ⟨(w.heap.size + 1), 6, none⟩ (.int .i64 cn)).setCell ⟨(w.heap.size + 1), 7, none⟩ (.int .i64 cm)).setCell ⟨(w.heap.size + 1), 8, none⟩ (.int .i64 sh)).setCell ⟨(w.heap.size + 1), 9, none⟩ (.int .i64 sc)).setCell ⟨(w.heap.size + 1), 10, none⟩ (.int .i64 se)) := ((((((((((((Keep.refl (fun k => k = w.heap.size + 1) WA).at_ 0 (.int .i64 (wrap64 (fr + n)))).at_ 1 (.int .i64 he)).at_ 2 (.int .i64 pi)).at_ 3 (.int .i64 sa)).at_ 4 (.int .i64 (wrap64 (re + n)))).at_ 5 (.int .i64 rt)).at_ 6 (.int .i64 cn)).at_ 7 (.int .i64 cm)).at_ 8 (.int .i64 sh)).at_ 9 (.int .i64 sc)).at_ 10 (.int .i64 se))
      generalize (((((((((((WA.setCell ⟨w.heap.size + 1, 0, none⟩ (.int .i64 (wrap64 (fr + n)))).setCell ⟨w.heap.size + 1, 1, none⟩ (.int .i64 he)).setCell ⟨w.heap.size + 1, 2, none⟩ (.int .i64 pi)).setCell ⟨w.heap.size + 1, 3, none⟩ (.int .i64 sa)).setCell ⟨w.heap.size + 1, 4, none⟩ (.int .i64 (wrap64 (re + n)))).setCell ⟨w.heap.size + 1, 5, none⟩ (.int .i64 rt)).setCell ⟨w.heap.size + 1, 6, none⟩ (.int .i64 cn)).setCell ⟨w.heap.size + 1, 7, none⟩ (.int .i64 cm)).setCell ⟨w.heap.size + 1, 8, none⟩ (.int .i64 sh)).setCell ⟨w.heap.size + 1, 9, none⟩ (.int .i64 sc)).setCell ⟨w.heap.size + 1, 10, none⟩ (.int .i64 se)) = WE at hbE kE ⊢
      have hltE := hbE.lt
      have hneE : w.heap.size + 1 ≠ WE.heap.size := by omega
      obtain ⟨j0, j1, j2, j3, j4, j5, j6, j7, j8, j9, j10⟩ := rowS hbE
      refine bodyPost_ret (v := .agg #[.int .i64 (wrap64 (fr + n)), .int .i64 he, .int .i64 pi, .int .i64 sa, .int .i64 (wrap64 (re + n)), .int .i64 rt, .int .i64 cn, .int .i64 cm, .int .i64 sh, .int .i64 sc, .int .i64 se]) (by simp [results, Tryz.results67, go_sem, hltE, hneE, j0, j1, j2, j3, j4, j5, j6, j7, j8, j9, j10]) rfl ⟨rfl, ?_⟩
      have hbA := hb1.trans (kA.below (B := w.heap.size) hb1.size (fun i hi e => by omega))
      exact (hbA.trans (kE.below (B := w.heap.size) hbA.size (fun i hi e => by omega))).alloc (Nat.le_trans hbA.size kE.size) _
    · rw [show doneA 2 n fr he pi sa re rt cn cm sh sc se = #[.int .i64 (wrap64 (fr - n)), .int .i64 (wrap64 (he + n)), .int .i64 (pi), .int .i64 (sa), .int .i64 (re), .int .i64 (rt), .int .i64 (cn), .int .i64 (cm), .int .i64 (sh), .int .i64 (sc), .int .i64 (se)] from rfl]
      go_enter Tryz.func67, Tryz.ntmps67
      go_wp2_with fail
      refine (change_any w.heap.size 2 _).mono ?_
      rintro e w1 ⟨rfl, hx1⟩
      have hb1 := hb0.trans (hx1.mono hb0.size)
      have hbg1 := hbg.kept (Keep.of_below hx1) (fun h => absurd hbg.lt (Nat.not_lt.2 h))
      have hbr1 := hbr.kept (Keep.of_below hx1) (fun h => absurd hbr.lt (Nat.not_lt.2 h))
      have hlg := hbg1.lt
      have hlr := hbr1.lt
      have hng : w.heap.size ≠ w1.heap.size := by omega
      have hnr : w.heap.size + 1 ≠ w1.heap.size := by omega
      obtain ⟨c0, c1, c2, c3, c4, c5, c6, c7, c8, c9, c10⟩ := rowS hbg1
      obtain ⟨d0, d1, d2, d3, d4, d5, d6, d7, d8, d9, d10⟩ := rowS hbr1
      have hfg := fun i => hbg1.frozen i
      have hfr := fun i => hbr1.frozen i
      rw [show chgV w.heap.size 2 = .agg #[.pointer (some ⟨w.heap.size, 0, none⟩), .pointer (some ⟨w.heap.size, 1, none⟩), .pointer none] from rfl]
      go_wp2
      clear c0 c1 c2 c3 c4 c5 c6 c7 c8 c9 c10 d0 d1 d2 d3 d4 d5 d6 d7 d8 d9 d10 hfg hfr
      have kA : Keep (fun k => k = w.heap.size) w1 ((w1.setCell ⟨w.heap.size, 0, none⟩ (.int .i64 (wrap64 (fr - n)))).setCell ⟨w.heap.size, 1, none⟩ (.int .i64 (wrap64 (he + n)))) := (((Keep.refl (fun k => k = w.heap.size) w1).at_ 0 (.int .i64 (wrap64 (fr - n)))).at_ 1 (.int .i64 (wrap64 (he + n))))
      generalize ((w1.setCell ⟨w.heap.size, 0, none⟩ (.int .i64 (wrap64 (fr - n)))).setCell ⟨w.heap.size, 1, none⟩ (.int .i64 (wrap64 (he + n)))) = WA at kA ⊢
      have hbrA := hbr1.kept kA (by omega)
      have hbE := fill11 hbrA (.int .i64 (wrap64 (fr - n))) (.int .i64 (wrap64 (he + n))) (.int .i64 pi) (.int .i64 sa) (.int .i64 re) (.int .i64 rt) (.int .i64 cn) (.int .i64 cm) (.int .i64 sh) (.int .i64 sc) (.int .i64 se)
      have kE : Keep (fun k => k = w.heap.size + 1) WA (((((((((((WA.setCell ⟨(w.heap.size + 1), 0, none⟩ (.int .i64 (wrap64 (fr - n)))).setCell ⟨(w.heap.size + 1), 1, none⟩ (.int .i64 (wrap64 (he + n)))).setCell ⟨(w.heap.size + 1), 2, none⟩ (.int .i64 pi)).setCell ⟨(w.heap.size + 1), 3, none⟩ (.int .i64 sa)).setCell ⟨(w.heap.size + 1), 4, none⟩ (.int .i64 re)).setCell ⟨(w.heap.size + 1), 5, none⟩ (.int .i64 rt)).setCell ⟨(w.heap.size + 1), 6, none⟩ (.int .i64 cn)).setCell ⟨(w.heap.size + 1), 7, none⟩ (.int .i64 cm)).setCell ⟨(w.heap.size + 1), 8, none⟩ (.int .i64 sh)).setCell ⟨(w.heap.size + 1), 9, none⟩ (.int .i64 sc)).setCell ⟨(w.heap.size + 1), 10, none⟩ (.int .i64 se)) := ((((((((((((Keep.refl (fun k => k = w.heap.size + 1) WA).at_ 0 (.int .i64 (wrap64 (fr - n)))).at_ 1 (.int .i64 (wrap64 (he + n)))).at_ 2 (.int .i64 pi)).at_ 3 (.int .i64 sa)).at_ 4 (.int .i64 re)).at_ 5 (.int .i64 rt)).at_ 6 (.int .i64 cn)).at_ 7 (.int .i64 cm)).at_ 8 (.int .i64 sh)).at_ 9 (.int .i64 sc)).at_ 10 (.int .i64 se))
      generalize (((((((((((WA.setCell ⟨w.heap.size + 1, 0, none⟩ (.int .i64 (wrap64 (fr - n)))).setCell ⟨w.heap.size + 1, 1, none⟩ (.int .i64 (wrap64 (he + n)))).setCell ⟨w.heap.size + 1, 2, none⟩ (.int .i64 pi)).setCell ⟨w.heap.size + 1, 3, none⟩ (.int .i64 sa)).setCell ⟨w.heap.size + 1, 4, none⟩ (.int .i64 re)).setCell ⟨w.heap.size + 1, 5, none⟩ (.int .i64 rt)).setCell ⟨w.heap.size + 1, 6, none⟩ (.int .i64 cn)).setCell ⟨w.heap.size + 1, 7, none⟩ (.int .i64 cm)).setCell ⟨w.heap.size + 1, 8, none⟩ (.int .i64 sh)).setCell ⟨w.heap.size + 1, 9, none⟩ (.int .i64 sc)).setCell ⟨w.heap.size + 1, 10, none⟩ (.int .i64 se)) = WE at hbE kE ⊢
      have hltE := hbE.lt
      have hneE : w.heap.size + 1 ≠ WE.heap.size := by omega
      obtain ⟨j0, j1, j2, j3, j4, j5, j6, j7, j8, j9, j10⟩ := rowS hbE
      refine bodyPost_ret (v := .agg #[.int .i64 (wrap64 (fr - n)), .int .i64 (wrap64 (he + n)), .int .i64 pi, .int .i64 sa, .int .i64 re, .int .i64 rt, .int .i64 cn, .int .i64 cm, .int .i64 sh, .int .i64 sc, .int .i64 se]) (by simp [results, Tryz.results67, go_sem, hltE, hneE, j0, j1, j2, j3, j4, j5, j6, j7, j8, j9, j10]) rfl ⟨rfl, ?_⟩
      have hbA := hb1.trans (kA.below (B := w.heap.size) hb1.size (fun i hi e => by omega))
      exact (hbA.trans (kE.below (B := w.heap.size) hbA.size (fun i hi e => by omega))).alloc (Nat.le_trans hbA.size kE.size) _
    · rw [show doneA 3 n fr he pi sa re rt cn cm sh sc se = #[.int .i64 (wrap64 (fr + n)), .int .i64 (wrap64 (he - n)), .int .i64 (pi), .int .i64 (sa), .int .i64 (re), .int .i64 (rt), .int .i64 (cn), .int .i64 (cm), .int .i64 (sh), .int .i64 (sc), .int .i64 (se)] from rfl]
      go_enter Tryz.func67, Tryz.ntmps67
      go_wp2_with fail
      refine (change_any w.heap.size 3 _).mono ?_
      rintro e w1 ⟨rfl, hx1⟩
      have hb1 := hb0.trans (hx1.mono hb0.size)
      have hbg1 := hbg.kept (Keep.of_below hx1) (fun h => absurd hbg.lt (Nat.not_lt.2 h))
      have hbr1 := hbr.kept (Keep.of_below hx1) (fun h => absurd hbr.lt (Nat.not_lt.2 h))
      have hlg := hbg1.lt
      have hlr := hbr1.lt
      have hng : w.heap.size ≠ w1.heap.size := by omega
      have hnr : w.heap.size + 1 ≠ w1.heap.size := by omega
      obtain ⟨c0, c1, c2, c3, c4, c5, c6, c7, c8, c9, c10⟩ := rowS hbg1
      obtain ⟨d0, d1, d2, d3, d4, d5, d6, d7, d8, d9, d10⟩ := rowS hbr1
      have hfg := fun i => hbg1.frozen i
      have hfr := fun i => hbr1.frozen i
      rw [show chgV w.heap.size 3 = .agg #[.pointer (some ⟨w.heap.size, 1, none⟩), .pointer (some ⟨w.heap.size, 0, none⟩), .pointer none] from rfl]
      go_wp2
      clear c0 c1 c2 c3 c4 c5 c6 c7 c8 c9 c10 d0 d1 d2 d3 d4 d5 d6 d7 d8 d9 d10 hfg hfr
      have kA : Keep (fun k => k = w.heap.size) w1 ((w1.setCell ⟨w.heap.size, 1, none⟩ (.int .i64 (wrap64 (he - n)))).setCell ⟨w.heap.size, 0, none⟩ (.int .i64 (wrap64 (fr + n)))) := (((Keep.refl (fun k => k = w.heap.size) w1).at_ 1 (.int .i64 (wrap64 (he - n)))).at_ 0 (.int .i64 (wrap64 (fr + n))))
      generalize ((w1.setCell ⟨w.heap.size, 1, none⟩ (.int .i64 (wrap64 (he - n)))).setCell ⟨w.heap.size, 0, none⟩ (.int .i64 (wrap64 (fr + n)))) = WA at kA ⊢
      have hbrA := hbr1.kept kA (by omega)
      have hbE := fill11 hbrA (.int .i64 (wrap64 (fr + n))) (.int .i64 (wrap64 (he - n))) (.int .i64 pi) (.int .i64 sa) (.int .i64 re) (.int .i64 rt) (.int .i64 cn) (.int .i64 cm) (.int .i64 sh) (.int .i64 sc) (.int .i64 se)
      have kE : Keep (fun k => k = w.heap.size + 1) WA (((((((((((WA.setCell ⟨(w.heap.size + 1), 0, none⟩ (.int .i64 (wrap64 (fr + n)))).setCell ⟨(w.heap.size + 1), 1, none⟩ (.int .i64 (wrap64 (he - n)))).setCell ⟨(w.heap.size + 1), 2, none⟩ (.int .i64 pi)).setCell ⟨(w.heap.size + 1), 3, none⟩ (.int .i64 sa)).setCell ⟨(w.heap.size + 1), 4, none⟩ (.int .i64 re)).setCell ⟨(w.heap.size + 1), 5, none⟩ (.int .i64 rt)).setCell ⟨(w.heap.size + 1), 6, none⟩ (.int .i64 cn)).setCell ⟨(w.heap.size + 1), 7, none⟩ (.int .i64 cm)).setCell ⟨(w.heap.size + 1), 8, none⟩ (.int .i64 sh)).setCell ⟨(w.heap.size + 1), 9, none⟩ (.int .i64 sc)).setCell ⟨(w.heap.size + 1), 10, none⟩ (.int .i64 se)) := ((((((((((((Keep.refl (fun k => k = w.heap.size + 1) WA).at_ 0 (.int .i64 (wrap64 (fr + n)))).at_ 1 (.int .i64 (wrap64 (he - n)))).at_ 2 (.int .i64 pi)).at_ 3 (.int .i64 sa)).at_ 4 (.int .i64 re)).at_ 5 (.int .i64 rt)).at_ 6 (.int .i64 cn)).at_ 7 (.int .i64 cm)).at_ 8 (.int .i64 sh)).at_ 9 (.int .i64 sc)).at_ 10 (.int .i64 se))
      generalize (((((((((((WA.setCell ⟨w.heap.size + 1, 0, none⟩ (.int .i64 (wrap64 (fr + n)))).setCell ⟨w.heap.size + 1, 1, none⟩ (.int .i64 (wrap64 (he - n)))).setCell ⟨w.heap.size + 1, 2, none⟩ (.int .i64 pi)).setCell ⟨w.heap.size + 1, 3, none⟩ (.int .i64 sa)).setCell ⟨w.heap.size + 1, 4, none⟩ (.int .i64 re)).setCell ⟨w.heap.size + 1, 5, none⟩ (.int .i64 rt)).setCell ⟨w.heap.size + 1, 6, none⟩ (.int .i64 cn)).setCell ⟨w.heap.size + 1, 7, none⟩ (.int .i64 cm)).setCell ⟨w.heap.size + 1, 8, none⟩ (.int .i64 sh)).setCell ⟨w.heap.size + 1, 9, none⟩ (.int .i64 sc)).setCell ⟨w.heap.size + 1, 10, none⟩ (.int .i64 se)) = WE at hbE kE ⊢
      have hltE := hbE.lt
      have hneE : w.heap.size + 1 ≠ WE.heap.size := by omega
      obtain ⟨j0, j1, j2, j3, j4, j5, j6, j7, j8, j9, j10⟩ := rowS hbE
      refine bodyPost_ret (v := .agg #[.int .i64 (wrap64 (fr + n)), .int .i64 (wrap64 (he - n)), .int .i64 pi, .int .i64 sa, .int .i64 re, .int .i64 rt, .int .i64 cn, .int .i64 cm, .int .i64 sh, .int .i64 sc, .int .i64 se]) (by simp [results, Tryz.results67, go_sem, hltE, hneE, j0, j1, j2, j3, j4, j5, j6, j7, j8, j9, j10]) rfl ⟨rfl, ?_⟩
      have hbA := hb1.trans (kA.below (B := w.heap.size) hb1.size (fun i hi e => by omega))
      exact (hbA.trans (kE.below (B := w.heap.size) hbA.size (fun i hi e => by omega))).alloc (Nat.le_trans hbA.size kE.size) _
    · rw [show doneA 4 n fr he pi sa re rt cn cm sh sc se = #[.int .i64 (fr), .int .i64 (wrap64 (he - n)), .int .i64 (wrap64 (pi + n)), .int .i64 (sa), .int .i64 (re), .int .i64 (rt), .int .i64 (cn), .int .i64 (cm), .int .i64 (sh), .int .i64 (sc), .int .i64 (se)] from rfl]
      go_enter Tryz.func67, Tryz.ntmps67
      go_wp2_with fail
      refine (change_any w.heap.size 4 _).mono ?_
      rintro e w1 ⟨rfl, hx1⟩
      have hb1 := hb0.trans (hx1.mono hb0.size)
      have hbg1 := hbg.kept (Keep.of_below hx1) (fun h => absurd hbg.lt (Nat.not_lt.2 h))
      have hbr1 := hbr.kept (Keep.of_below hx1) (fun h => absurd hbr.lt (Nat.not_lt.2 h))
      have hlg := hbg1.lt
      have hlr := hbr1.lt
      have hng : w.heap.size ≠ w1.heap.size := by omega
      have hnr : w.heap.size + 1 ≠ w1.heap.size := by omega
      obtain ⟨c0, c1, c2, c3, c4, c5, c6, c7, c8, c9, c10⟩ := rowS hbg1
      obtain ⟨d0, d1, d2, d3, d4, d5, d6, d7, d8, d9, d10⟩ := rowS hbr1
      have hfg := fun i => hbg1.frozen i
      have hfr := fun i => hbr1.frozen i
      rw [show chgV w.heap.size 4 = .agg #[.pointer (some ⟨w.heap.size, 1, none⟩), .pointer (some ⟨w.heap.size, 2, none⟩), .pointer none] from rfl]
      go_wp2
      clear c0 c1 c2 c3 c4 c5 c6 c7 c8 c9 c10 d0 d1 d2 d3 d4 d5 d6 d7 d8 d9 d10 hfg hfr
      have kA : Keep (fun k => k = w.heap.size) w1 ((w1.setCell ⟨w.heap.size, 1, none⟩ (.int .i64 (wrap64 (he - n)))).setCell ⟨w.heap.size, 2, none⟩ (.int .i64 (wrap64 (pi + n)))) := (((Keep.refl (fun k => k = w.heap.size) w1).at_ 1 (.int .i64 (wrap64 (he - n)))).at_ 2 (.int .i64 (wrap64 (pi + n))))
      generalize ((w1.setCell ⟨w.heap.size, 1, none⟩ (.int .i64 (wrap64 (he - n)))).setCell ⟨w.heap.size, 2, none⟩ (.int .i64 (wrap64 (pi + n)))) = WA at kA ⊢
      have hbrA := hbr1.kept kA (by omega)
      have hbE := fill11 hbrA (.int .i64 fr) (.int .i64 (wrap64 (he - n))) (.int .i64 (wrap64 (pi + n))) (.int .i64 sa) (.int .i64 re) (.int .i64 rt) (.int .i64 cn) (.int .i64 cm) (.int .i64 sh) (.int .i64 sc) (.int .i64 se)
      have kE : Keep (fun k => k = w.heap.size + 1) WA (((((((((((WA.setCell ⟨(w.heap.size + 1), 0, none⟩ (.int .i64 fr)).setCell ⟨(w.heap.size + 1), 1, none⟩ (.int .i64 (wrap64 (he - n)))).setCell ⟨(w.heap.size + 1), 2, none⟩ (.int .i64 (wrap64 (pi + n)))).setCell ⟨(w.heap.size + 1), 3, none⟩ (.int .i64 sa)).setCell ⟨(w.heap.size + 1), 4, none⟩ (.int .i64 re)).setCell ⟨(w.heap.size + 1), 5, none⟩ (.int .i64 rt)).setCell ⟨(w.heap.size + 1), 6, none⟩ (.int .i64 cn)).setCell ⟨(w.heap.size + 1), 7, none⟩ (.int .i64 cm)).setCell ⟨(w.heap.size + 1), 8, none⟩ (.int .i64 sh)).setCell ⟨(w.heap.size + 1), 9, none⟩ (.int .i64 sc)).setCell ⟨(w.heap.size + 1), 10, none⟩ (.int .i64 se)) := ((((((((((((Keep.refl (fun k => k = w.heap.size + 1) WA).at_ 0 (.int .i64 fr)).at_ 1 (.int .i64 (wrap64 (he - n)))).at_ 2 (.int .i64 (wrap64 (pi + n)))).at_ 3 (.int .i64 sa)).at_ 4 (.int .i64 re)).at_ 5 (.int .i64 rt)).at_ 6 (.int .i64 cn)).at_ 7 (.int .i64 cm)).at_ 8 (.int .i64 sh)).at_ 9 (.int .i64 sc)).at_ 10 (.int .i64 se))
      generalize (((((((((((WA.setCell ⟨w.heap.size + 1, 0, none⟩ (.int .i64 fr)).setCell ⟨w.heap.size + 1, 1, none⟩ (.int .i64 (wrap64 (he - n)))).setCell ⟨w.heap.size + 1, 2, none⟩ (.int .i64 (wrap64 (pi + n)))).setCell ⟨w.heap.size + 1, 3, none⟩ (.int .i64 sa)).setCell ⟨w.heap.size + 1, 4, none⟩ (.int .i64 re)).setCell ⟨w.heap.size + 1, 5, none⟩ (.int .i64 rt)).setCell ⟨w.heap.size + 1, 6, none⟩ (.int .i64 cn)).setCell ⟨w.heap.size + 1, 7, none⟩ (.int .i64 cm)).setCell ⟨w.heap.size + 1, 8, none⟩ (.int .i64 sh)).setCell ⟨w.heap.size + 1, 9, none⟩ (.int .i64 sc)).setCell ⟨w.heap.size + 1, 10, none⟩ (.int .i64 se)) = WE at hbE kE ⊢
      have hltE := hbE.lt
      have hneE : w.heap.size + 1 ≠ WE.heap.size := by omega
      obtain ⟨j0, j1, j2, j3, j4, j5, j6, j7, j8, j9, j10⟩ := rowS hbE
      refine bodyPost_ret (v := .agg #[.int .i64 fr, .int .i64 (wrap64 (he - n)), .int .i64 (wrap64 (pi + n)), .int .i64 sa, .int .i64 re, .int .i64 rt, .int .i64 cn, .int .i64 cm, .int .i64 sh, .int .i64 sc, .int .i64 se]) (by simp [results, Tryz.results67, go_sem, hltE, hneE, j0, j1, j2, j3, j4, j5, j6, j7, j8, j9, j10]) rfl ⟨rfl, ?_⟩
      have hbA := hb1.trans (kA.below (B := w.heap.size) hb1.size (fun i hi e => by omega))
      exact (hbA.trans (kE.below (B := w.heap.size) hbA.size (fun i hi e => by omega))).alloc (Nat.le_trans hbA.size kE.size) _
    · rw [show doneA 5 n fr he pi sa re rt cn cm sh sc se = #[.int .i64 (fr), .int .i64 (wrap64 (he + n)), .int .i64 (wrap64 (pi - n)), .int .i64 (sa), .int .i64 (re), .int .i64 (rt), .int .i64 (cn), .int .i64 (cm), .int .i64 (sh), .int .i64 (sc), .int .i64 (se)] from rfl]
      go_enter Tryz.func67, Tryz.ntmps67
      go_wp2_with fail
      refine (change_any w.heap.size 5 _).mono ?_
      rintro e w1 ⟨rfl, hx1⟩
      have hb1 := hb0.trans (hx1.mono hb0.size)
      have hbg1 := hbg.kept (Keep.of_below hx1) (fun h => absurd hbg.lt (Nat.not_lt.2 h))
      have hbr1 := hbr.kept (Keep.of_below hx1) (fun h => absurd hbr.lt (Nat.not_lt.2 h))
      have hlg := hbg1.lt
      have hlr := hbr1.lt
      have hng : w.heap.size ≠ w1.heap.size := by omega
      have hnr : w.heap.size + 1 ≠ w1.heap.size := by omega
      obtain ⟨c0, c1, c2, c3, c4, c5, c6, c7, c8, c9, c10⟩ := rowS hbg1
      obtain ⟨d0, d1, d2, d3, d4, d5, d6, d7, d8, d9, d10⟩ := rowS hbr1
      have hfg := fun i => hbg1.frozen i
      have hfr := fun i => hbr1.frozen i
      rw [show chgV w.heap.size 5 = .agg #[.pointer (some ⟨w.heap.size, 2, none⟩), .pointer (some ⟨w.heap.size, 1, none⟩), .pointer none] from rfl]
      go_wp2
      clear c0 c1 c2 c3 c4 c5 c6 c7 c8 c9 c10 d0 d1 d2 d3 d4 d5 d6 d7 d8 d9 d10 hfg hfr
      have kA : Keep (fun k => k = w.heap.size) w1 ((w1.setCell ⟨w.heap.size, 2, none⟩ (.int .i64 (wrap64 (pi - n)))).setCell ⟨w.heap.size, 1, none⟩ (.int .i64 (wrap64 (he + n)))) := (((Keep.refl (fun k => k = w.heap.size) w1).at_ 2 (.int .i64 (wrap64 (pi - n)))).at_ 1 (.int .i64 (wrap64 (he + n))))
      generalize ((w1.setCell ⟨w.heap.size, 2, none⟩ (.int .i64 (wrap64 (pi - n)))).setCell ⟨w.heap.size, 1, none⟩ (.int .i64 (wrap64 (he + n)))) = WA at kA ⊢
      have hbrA := hbr1.kept kA (by omega)
      have hbE := fill11 hbrA (.int .i64 fr) (.int .i64 (wrap64 (he + n))) (.int .i64 (wrap64 (pi - n))) (.int .i64 sa) (.int .i64 re) (.int .i64 rt) (.int .i64 cn) (.int .i64 cm) (.int .i64 sh) (.int .i64 sc) (.int .i64 se)
      have kE : Keep (fun k => k = w.heap.size + 1) WA (((((((((((WA.setCell ⟨(w.heap.size + 1), 0, none⟩ (.int .i64 fr)).setCell ⟨(w.heap.size + 1), 1, none⟩ (.int .i64 (wrap64 (he + n)))).setCell ⟨(w.heap.size + 1), 2, none⟩ (.int .i64 (wrap64 (pi - n)))).setCell ⟨(w.heap.size + 1), 3, none⟩ (.int .i64 sa)).setCell ⟨(w.heap.size + 1), 4, none⟩ (.int .i64 re)).setCell ⟨(w.heap.size + 1), 5, none⟩ (.int .i64 rt)).setCell ⟨(w.heap.size + 1), 6, none⟩ (.int .i64 cn)).setCell ⟨(w.heap.size + 1), 7, none⟩ (.int .i64 cm)).setCell ⟨(w.heap.size + 1), 8, none⟩ (.int .i64 sh)).setCell ⟨(w.heap.size + 1), 9, none⟩ (.int .i64 sc)).setCell ⟨(w.heap.size + 1), 10, none⟩ (.int .i64 se)) := ((((((((((((Keep.refl (fun k => k = w.heap.size + 1) WA).at_ 0 (.int .i64 fr)).at_ 1 (.int .i64 (wrap64 (he + n)))).at_ 2 (.int .i64 (wrap64 (pi - n)))).at_ 3 (.int .i64 sa)).at_ 4 (.int .i64 re)).at_ 5 (.int .i64 rt)).at_ 6 (.int .i64 cn)).at_ 7 (.int .i64 cm)).at_ 8 (.int .i64 sh)).at_ 9 (.int .i64 sc)).at_ 10 (.int .i64 se))
      generalize (((((((((((WA.setCell ⟨w.heap.size + 1, 0, none⟩ (.int .i64 fr)).setCell ⟨w.heap.size + 1, 1, none⟩ (.int .i64 (wrap64 (he + n)))).setCell ⟨w.heap.size + 1, 2, none⟩ (.int .i64 (wrap64 (pi - n)))).setCell ⟨w.heap.size + 1, 3, none⟩ (.int .i64 sa)).setCell ⟨w.heap.size + 1, 4, none⟩ (.int .i64 re)).setCell ⟨w.heap.size + 1, 5, none⟩ (.int .i64 rt)).setCell ⟨w.heap.size + 1, 6, none⟩ (.int .i64 cn)).setCell ⟨w.heap.size + 1, 7, none⟩ (.int .i64 cm)).setCell ⟨w.heap.size + 1, 8, none⟩ (.int .i64 sh)).setCell ⟨w.heap.size + 1, 9, none⟩ (.int .i64 sc)).setCell ⟨w.heap.size + 1, 10, none⟩ (.int .i64 se)) = WE at hbE kE ⊢
      have hltE := hbE.lt
      have hneE : w.heap.size + 1 ≠ WE.heap.size := by omega
      obtain ⟨j0, j1, j2, j3, j4, j5, j6, j7, j8, j9, j10⟩ := rowS hbE
      refine bodyPost_ret (v := .agg #[.int .i64 fr, .int .i64 (wrap64 (he + n)), .int .i64 (wrap64 (pi - n)), .int .i64 sa, .int .i64 re, .int .i64 rt, .int .i64 cn, .int .i64 cm, .int .i64 sh, .int .i64 sc, .int .i64 se]) (by simp [results, Tryz.results67, go_sem, hltE, hneE, j0, j1, j2, j3, j4, j5, j6, j7, j8, j9, j10]) rfl ⟨rfl, ?_⟩
      have hbA := hb1.trans (kA.below (B := w.heap.size) hb1.size (fun i hi e => by omega))
      exact (hbA.trans (kE.below (B := w.heap.size) hbA.size (fun i hi e => by omega))).alloc (Nat.le_trans hbA.size kE.size) _
    · rw [show doneA 6 n fr he pi sa re rt cn cm sh sc se = #[.int .i64 (fr), .int .i64 (he), .int .i64 (wrap64 (pi - n)), .int .i64 (sa), .int .i64 (re), .int .i64 (rt), .int .i64 (cn), .int .i64 (cm), .int .i64 (wrap64 (sh + n)), .int .i64 (sc), .int .i64 (se)] from rfl]
      go_enter Tryz.func67, Tryz.ntmps67
      go_wp2_with fail
      refine (change_any w.heap.size 6 _).mono ?_
      rintro e w1 ⟨rfl, hx1⟩
      have hb1 := hb0.trans (hx1.mono hb0.size)
      have hbg1 := hbg.kept (Keep.of_below hx1) (fun h => absurd hbg.lt (Nat.not_lt.2 h))
      have hbr1 := hbr.kept (Keep.of_below hx1) (fun h => absurd hbr.lt (Nat.not_lt.2 h))
      have hlg := hbg1.lt
      have hlr := hbr1.lt
      have hng : w.heap.size ≠ w1.heap.size := by omega
      have hnr : w.heap.size + 1 ≠ w1.heap.size := by omega
      obtain ⟨c0, c1, c2, c3, c4, c5, c6, c7, c8, c9, c10⟩ := rowS hbg1
      obtain ⟨d0, d1, d2, d3, d4, d5, d6, d7, d8, d9, d10⟩ := rowS hbr1
      have hfg := fun i => hbg1.frozen i
      have hfr := fun i => hbr1.frozen i
      rw [show chgV w.heap.size 6 = .agg #[.pointer (some ⟨w.heap.size, 2, none⟩), .pointer none, .pointer (some ⟨w.heap.size, 8, none⟩)] from rfl]
      go_wp2
      clear c0 c1 c2 c3 c4 c5 c6 c7 c8 c9 c10 d0 d1 d2 d3 d4 d5 d6 d7 d8 d9 d10 hfg hfr
      have kA : Keep (fun k => k = w.heap.size) w1 ((w1.setCell ⟨w.heap.size, 2, none⟩ (.int .i64 (wrap64 (pi - n)))).setCell ⟨w.heap.size, 8, none⟩ (.int .i64 (wrap64 (sh + n)))) := (((Keep.refl (fun k => k = w.heap.size) w1).at_ 2 (.int .i64 (wrap64 (pi - n)))).at_ 8 (.int .i64 (wrap64 (sh + n))))
      generalize ((w1.setCell ⟨w.heap.size, 2, none⟩ (.int .i64 (wrap64 (pi - n)))).setCell ⟨w.heap.size, 8, none⟩ (.int .i64 (wrap64 (sh + n)))) = WA at kA ⊢
      have hbrA := hbr1.kept kA (by omega)
      have hbE := fill11 hbrA (.int .i64 fr) (.int .i64 he) (.int .i64 (wrap64 (pi - n))) (.int .i64 sa) (.int .i64 re) (.int .i64 rt) (.int .i64 cn) (.int .i64 cm) (.int .i64 (wrap64 (sh + n))) (.int .i64 sc) (.int .i64 se)
      have kE : Keep (fun k => k = w.heap.size + 1) WA (((((((((((WA.setCell ⟨(w.heap.size + 1), 0, none⟩ (.int .i64 fr)).setCell ⟨(w.heap.size + 1), 1, none⟩ (.int .i64 he)).setCell ⟨(w.heap.size + 1), 2, none⟩ (.int .i64 (wrap64 (pi - n)))).setCell ⟨(w.heap.size + 1), 3, none⟩ (.int .i64 sa)).setCell ⟨(w.heap.size + 1), 4, none⟩ (.int .i64 re)).setCell ⟨(w.heap.size + 1), 5, none⟩ (.int .i64 rt)).setCell ⟨(w.heap.size + 1), 6, none⟩ (.int .i64 cn)).setCell ⟨(w.heap.size + 1), 7, none⟩ (.int .i64 cm)).setCell ⟨(w.heap.size + 1), 8, none⟩ (.int .i64 (wrap64 (sh + n)))).setCell ⟨(w.heap.size + 1), 9, none⟩ (.int .i64 sc)).setCell ⟨(w.heap.size + 1), 10, none⟩ (.int .i64 se)) := ((((((((((((Keep.refl (fun k => k = w.heap.size + 1) WA).at_ 0 (.int .i64 fr)).at_ 1 (.int .i64 he)).at_ 2 (.int .i64 (wrap64 (pi - n)))).at_ 3 (.int .i64 sa)).at_ 4 (.int .i64 re)).at_ 5 (.int .i64 rt)).at_ 6 (.int .i64 cn)).at_ 7 (.int .i64 cm)).at_ 8 (.int .i64 (wrap64 (sh + n)))).at_ 9 (.int .i64 sc)).at_ 10 (.int .i64 se))
      generalize (((((((((((WA.setCell ⟨w.heap.size + 1, 0, none⟩ (.int .i64 fr)).setCell ⟨w.heap.size + 1, 1, none⟩ (.int .i64 he)).setCell ⟨w.heap.size + 1, 2, none⟩ (.int .i64 (wrap64 (pi - n)))).setCell ⟨w.heap.size + 1, 3, none⟩ (.int .i64 sa)).setCell ⟨w.heap.size + 1, 4, none⟩ (.int .i64 re)).setCell ⟨w.heap.size + 1, 5, none⟩ (.int .i64 rt)).setCell ⟨w.heap.size + 1, 6, none⟩ (.int .i64 cn)).setCell ⟨w.heap.size + 1, 7, none⟩ (.int .i64 cm)).setCell ⟨w.heap.size + 1, 8, none⟩ (.int .i64 (wrap64 (sh + n)))).setCell ⟨w.heap.size + 1, 9, none⟩ (.int .i64 sc)).setCell ⟨w.heap.size + 1, 10, none⟩ (.int .i64 se)) = WE at hbE kE ⊢
      have hltE := hbE.lt
      have hneE : w.heap.size + 1 ≠ WE.heap.size := by omega
      obtain ⟨j0, j1, j2, j3, j4, j5, j6, j7, j8, j9, j10⟩ := rowS hbE
      refine bodyPost_ret (v := .agg #[.int .i64 fr, .int .i64 he, .int .i64 (wrap64 (pi - n)), .int .i64 sa, .int .i64 re, .int .i64 rt, .int .i64 cn, .int .i64 cm, .int .i64 (wrap64 (sh + n)), .int .i64 sc, .int .i64 se]) (by simp [results, Tryz.results67, go_sem, hltE, hneE, j0, j1, j2, j3, j4, j5, j6, j7, j8, j9, j10]) rfl ⟨rfl, ?_⟩
      have hbA := hb1.trans (kA.below (B := w.heap.size) hb1.size (fun i hi e => by omega))
      exact (hbA.trans (kE.below (B := w.heap.size) hbA.size (fun i hi e => by omega))).alloc (Nat.le_trans hbA.size kE.size) _
    · rw [show doneA 7 n fr he pi sa re rt cn cm sh sc se = #[.int .i64 (fr), .int .i64 (he), .int .i64 (pi), .int .i64 (wrap64 (sa + n)), .int .i64 (re), .int .i64 (wrap64 (rt + n)), .int .i64 (cn), .int .i64 (cm), .int .i64 (sh), .int .i64 (sc), .int .i64 (se)] from rfl]
      go_enter Tryz.func67, Tryz.ntmps67
      go_wp2_with fail
      refine (change_any w.heap.size 7 _).mono ?_
      rintro e w1 ⟨rfl, hx1⟩
      have hb1 := hb0.trans (hx1.mono hb0.size)
      have hbg1 := hbg.kept (Keep.of_below hx1) (fun h => absurd hbg.lt (Nat.not_lt.2 h))
      have hbr1 := hbr.kept (Keep.of_below hx1) (fun h => absurd hbr.lt (Nat.not_lt.2 h))
      have hlg := hbg1.lt
      have hlr := hbr1.lt
      have hng : w.heap.size ≠ w1.heap.size := by omega
      have hnr : w.heap.size + 1 ≠ w1.heap.size := by omega
      obtain ⟨c0, c1, c2, c3, c4, c5, c6, c7, c8, c9, c10⟩ := rowS hbg1
      obtain ⟨d0, d1, d2, d3, d4, d5, d6, d7, d8, d9, d10⟩ := rowS hbr1
      have hfg := fun i => hbg1.frozen i
      have hfr := fun i => hbr1.frozen i
      rw [show chgV w.heap.size 7 = .agg #[.pointer none, .pointer (some ⟨w.heap.size, 3, none⟩), .pointer (some ⟨w.heap.size, 5, none⟩)] from rfl]
      go_wp2
      clear c0 c1 c2 c3 c4 c5 c6 c7 c8 c9 c10 d0 d1 d2 d3 d4 d5 d6 d7 d8 d9 d10 hfg hfr
      have kA : Keep (fun k => k = w.heap.size) w1 ((w1.setCell ⟨w.heap.size, 3, none⟩ (.int .i64 (wrap64 (sa + n)))).setCell ⟨w.heap.size, 5, none⟩ (.int .i64 (wrap64 (rt + n)))) := (((Keep.refl (fun k => k = w.heap.size) w1).at_ 3 (.int .i64 (wrap64 (sa + n)))).at_ 5 (.int .i64 (wrap64 (rt + n))))
      generalize ((w1.setCell ⟨w.heap.size, 3, none⟩ (.int .i64 (wrap64 (sa + n)))).setCell ⟨w.heap.size, 5, none⟩ (.int .i64 (wrap64 (rt + n)))) = WA at kA ⊢
      have hbrA := hbr1.kept kA (by omega)
      have hbE := fill11 hbrA (.int .i64 fr) (.int .i64 he) (.int .i64 pi) (.int .i64 (wrap64 (sa + n))) (.int .i64 re) (.int .i64 (wrap64 (rt + n))) (.int .i64 cn) (.int .i64 cm) (.int .i64 sh) (.int .i64 sc) (.int .i64 se)
      have kE : Keep (fun k => k = w.heap.size + 1) WA (((((((((((WA.setCell ⟨(w.heap.size + 1), 0, none⟩ (.int .i64 fr)).setCell ⟨(w.heap.size + 1), 1, none⟩ (.int .i64 he)).setCell ⟨(w.heap.size + 1), 2, none⟩ (.int .i64 pi)).setCell ⟨(w.heap.size + 1), 3, none⟩ (.int .i64 (wrap64 (sa + n)))).setCell ⟨(w.heap.size + 1), 4, none⟩ (.int .i64 re)).setCell ⟨(w.heap.size + 1), 5, none⟩ (.int .i64 (wrap64 (rt + n)))).setCell ⟨(w.heap.size + 1), 6, none⟩ (.int .i64 cn)).setCell ⟨(w.heap.size + 1), 7, none⟩ (.int .i64 cm)).setCell ⟨(w.heap.size + 1), 8, none⟩ (.int .i64 sh)).setCell ⟨(w.heap.size + 1), 9, none⟩ (.int .i64 sc)).setCell ⟨(w.heap.size + 1), 10, none⟩ (.int .i64 se)) := ((((((((((((Keep.refl (fun k => k = w.heap.size + 1) WA).at_ 0 (.int .i64 fr)).at_ 1 (.int .i64 he)).at_ 2 (.int .i64 pi)).at_ 3 (.int .i64 (wrap64 (sa + n)))).at_ 4 (.int .i64 re)).at_ 5 (.int .i64 (wrap64 (rt + n)))).at_ 6 (.int .i64 cn)).at_ 7 (.int .i64 cm)).at_ 8 (.int .i64 sh)).at_ 9 (.int .i64 sc)).at_ 10 (.int .i64 se))
      generalize (((((((((((WA.setCell ⟨w.heap.size + 1, 0, none⟩ (.int .i64 fr)).setCell ⟨w.heap.size + 1, 1, none⟩ (.int .i64 he)).setCell ⟨w.heap.size + 1, 2, none⟩ (.int .i64 pi)).setCell ⟨w.heap.size + 1, 3, none⟩ (.int .i64 (wrap64 (sa + n)))).setCell ⟨w.heap.size + 1, 4, none⟩ (.int .i64 re)).setCell ⟨w.heap.size + 1, 5, none⟩ (.int .i64 (wrap64 (rt + n)))).setCell ⟨w.heap.size + 1, 6, none⟩ (.int .i64 cn)).setCell ⟨w.heap.size + 1, 7, none⟩ (.int .i64 cm)).setCell ⟨w.heap.size + 1, 8, none⟩ (.int .i64 sh)).setCell ⟨w.heap.size + 1, 9, none⟩ (.int .i64 sc)).setCell ⟨w.heap.size + 1, 10, none⟩ (.int .i64 se)) = WE at hbE kE ⊢
      have hltE := hbE.lt
      have hneE : w.heap.size + 1 ≠ WE.heap.size := by omega
      obtain ⟨j0, j1, j2, j3, j4, j5, j6, j7, j8, j9, j10⟩ := rowS hbE
      refine bodyPost_ret (v := .agg #[.int .i64 fr, .int .i64 he, .int .i64 pi, .int .i64 (wrap64 (sa + n)), .int .i64 re, .int .i64 (wrap64 (rt + n)), .int .i64 cn, .int .i64 cm, .int .i64 sh, .int .i64 sc, .int .i64 se]) (by simp [results, Tryz.results67, go_sem, hltE, hneE, j0, j1, j2, j3, j4, j5, j6, j7, j8, j9, j10]) rfl ⟨rfl, ?_⟩
      have hbA := hb1.trans (kA.below (B := w.heap.size) hb1.size (fun i hi e => by omega))
      exact (hbA.trans (kE.below (B := w.heap.size) hbA.size (fun i hi e => by omega))).alloc (Nat.le_trans hbA.size kE.size) _
    · rw [show doneA 8 n fr he pi sa re rt cn cm sh sc se = #[.int .i64 (wrap64 (fr + n)), .int .i64 (he), .int .i64 (pi), .int .i64 (wrap64 (sa - n)), .int .i64 (re), .int .i64 (rt), .int .i64 (cn), .int .i64 (cm), .int .i64 (sh), .int .i64 (sc), .int .i64 (se)] from rfl]
      go_enter Tryz.func67, Tryz.ntmps67
      go_wp2_with fail
      refine (change_any w.heap.size 8 _).mono ?_
      rintro e w1 ⟨rfl, hx1⟩
      have hb1 := hb0.trans (hx1.mono hb0.size)
      have hbg1 := hbg.kept (Keep.of_below hx1) (fun h => absurd hbg.lt (Nat.not_lt.2 h))
      have hbr1 := hbr.kept (Keep.of_below hx1) (fun h => absurd hbr.lt (Nat.not_lt.2 h))
      have hlg := hbg1.lt
      have hlr := hbr1.lt
      have hng : w.heap.size ≠ w1.heap.size := by omega
      have hnr : w.heap.size + 1 ≠ w1.heap.size := by omega
      obtain ⟨c0, c1, c2, c3, c4, c5, c6, c7, c8, c9, c10⟩ := rowS hbg1
      obtain ⟨d0, d1, d2, d3, d4, d5, d6, d7, d8, d9, d10⟩ := rowS hbr1
      have hfg := fun i => hbg1.frozen i
      have hfr := fun i => hbr1.frozen i
      rw [show chgV w.heap.size 8 = .agg #[.pointer (some ⟨w.heap.size, 3, none⟩), .pointer (some ⟨w.heap.size, 0, none⟩), .pointer none] from rfl]
      go_wp2
      clear c0 c1 c2 c3 c4 c5 c6 c7 c8 c9 c10 d0 d1 d2 d3 d4 d5 d6 d7 d8 d9 d10 hfg hfr
      have kA : Keep (fun k => k = w.heap.size) w1 ((w1.setCell ⟨w.heap.size, 3, none⟩ (.int .i64 (wrap64 (sa - n)))).setCell ⟨w.heap.size, 0, none⟩ (.int .i64 (wrap64 (fr + n)))) := (((Keep.refl (fun k => k = w.heap.size) w1).at_ 3 (.int .i64 (wrap64 (sa - n)))).at_ 0 (.int .i64 (wrap64 (fr + n))))
      generalize ((w1.setCell ⟨w.heap.size, 3, none⟩ (.int .i64 (wrap64 (sa - n)))).setCell ⟨w.heap.size, 0, none⟩ (.int .i64 (wrap64 (fr + n)))) = WA at kA ⊢
      have hbrA := hbr1.kept kA (by omega)
      have hbE := fill11 hbrA (.int .i64 (wrap64 (fr + n))) (.int .i64 he) (.int .i64 pi) (.int .i64 (wrap64 (sa - n))) (.int .i64 re) (.int .i64 rt) (.int .i64 cn) (.int .i64 cm) (.int .i64 sh) (.int .i64 sc) (.int .i64 se)
      have kE : Keep (fun k => k = w.heap.size + 1) WA (((((((((((WA.setCell ⟨(w.heap.size + 1), 0, none⟩ (.int .i64 (wrap64 (fr + n)))).setCell ⟨(w.heap.size + 1), 1, none⟩ (.int .i64 he)).setCell ⟨(w.heap.size + 1), 2, none⟩ (.int .i64 pi)).setCell ⟨(w.heap.size + 1), 3, none⟩ (.int .i64 (wrap64 (sa - n)))).setCell ⟨(w.heap.size + 1), 4, none⟩ (.int .i64 re)).setCell ⟨(w.heap.size + 1), 5, none⟩ (.int .i64 rt)).setCell ⟨(w.heap.size + 1), 6, none⟩ (.int .i64 cn)).setCell ⟨(w.heap.size + 1), 7, none⟩ (.int .i64 cm)).setCell ⟨(w.heap.size + 1), 8, none⟩ (.int .i64 sh)).setCell ⟨(w.heap.size + 1), 9, none⟩ (.int .i64 sc)).setCell ⟨(w.heap.size + 1), 10, none⟩ (.int .i64 se)) := ((((((((((((Keep.refl (fun k => k = w.heap.size + 1) WA).at_ 0 (.int .i64 (wrap64 (fr + n)))).at_ 1 (.int .i64 he)).at_ 2 (.int .i64 pi)).at_ 3 (.int .i64 (wrap64 (sa - n)))).at_ 4 (.int .i64 re)).at_ 5 (.int .i64 rt)).at_ 6 (.int .i64 cn)).at_ 7 (.int .i64 cm)).at_ 8 (.int .i64 sh)).at_ 9 (.int .i64 sc)).at_ 10 (.int .i64 se))
      generalize (((((((((((WA.setCell ⟨w.heap.size + 1, 0, none⟩ (.int .i64 (wrap64 (fr + n)))).setCell ⟨w.heap.size + 1, 1, none⟩ (.int .i64 he)).setCell ⟨w.heap.size + 1, 2, none⟩ (.int .i64 pi)).setCell ⟨w.heap.size + 1, 3, none⟩ (.int .i64 (wrap64 (sa - n)))).setCell ⟨w.heap.size + 1, 4, none⟩ (.int .i64 re)).setCell ⟨w.heap.size + 1, 5, none⟩ (.int .i64 rt)).setCell ⟨w.heap.size + 1, 6, none⟩ (.int .i64 cn)).setCell ⟨w.heap.size + 1, 7, none⟩ (.int .i64 cm)).setCell ⟨w.heap.size + 1, 8, none⟩ (.int .i64 sh)).setCell ⟨w.heap.size + 1, 9, none⟩ (.int .i64 sc)).setCell ⟨w.heap.size + 1, 10, none⟩ (.int .i64 se)) = WE at hbE kE ⊢
      have hltE := hbE.lt
      have hneE : w.heap.size + 1 ≠ WE.heap.size := by omega
      obtain ⟨j0, j1, j2, j3, j4, j5, j6, j7, j8, j9, j10⟩ := rowS hbE
      refine bodyPost_ret (v := .agg #[.int .i64 (wrap64 (fr + n)), .int .i64 he, .int .i64 pi, .int .i64 (wrap64 (sa - n)), .int .i64 re, .int .i64 rt, .int .i64 cn, .int .i64 cm, .int .i64 sh, .int .i64 sc, .int .i64 se]) (by simp [results, Tryz.results67, go_sem, hltE, hneE, j0, j1, j2, j3, j4, j5, j6, j7, j8, j9, j10]) rfl ⟨rfl, ?_⟩
      have hbA := hb1.trans (kA.below (B := w.heap.size) hb1.size (fun i hi e => by omega))
      exact (hbA.trans (kE.below (B := w.heap.size) hbA.size (fun i hi e => by omega))).alloc (Nat.le_trans hbA.size kE.size) _
    · rw [show doneA 9 n fr he pi sa re rt cn cm sh sc se = #[.int .i64 (fr), .int .i64 (he), .int .i64 (pi), .int .i64 (wrap64 (sa - n)), .int .i64 (re), .int .i64 (rt), .int .i64 (cn), .int .i64 (cm), .int .i64 (sh), .int .i64 (wrap64 (sc + n)), .int .i64 (se)] from rfl]
      go_enter Tryz.func67, Tryz.ntmps67
      go_wp2_with fail
      refine (change_any w.heap.size 9 _).mono ?_
      rintro e w1 ⟨rfl, hx1⟩
      have hb1 := hb0.trans (hx1.mono hb0.size)
      have hbg1 := hbg.kept (Keep.of_below hx1) (fun h => absurd hbg.lt (Nat.not_lt.2 h))
      have hbr1 := hbr.kept (Keep.of_below hx1) (fun h => absurd hbr.lt (Nat.not_lt.2 h))
      have hlg := hbg1.lt
      have hlr := hbr1.lt
      have hng : w.heap.size ≠ w1.heap.size := by omega
      have hnr : w.heap.size + 1 ≠ w1.heap.size := by omega
      obtain ⟨c0, c1, c2, c3, c4, c5, c6, c7, c8, c9, c10⟩ := rowS hbg1
      obtain ⟨d0, d1, d2, d3, d4, d5, d6, d7, d8, d9, d10⟩ := rowS hbr1
      have hfg := fun i => hbg1.frozen i
      have hfr := fun i => hbr1.frozen i
      rw [show chgV w.heap.size 9 = .agg #[.pointer (some ⟨w.heap.size, 3, none⟩), .pointer none, .pointer (some ⟨w.heap.size, 9, none⟩)] from rfl]
      go_wp2
      clear c0 c1 c2 c3 c4 c5 c6 c7 c8 c9 c10 d0 d1 d2 d3 d4 d5 d6 d7 d8 d9 d10 hfg hfr
      have kA : Keep (fun k => k = w.heap.size) w1 ((w1.setCell ⟨w.heap.size, 3, none⟩ (.int .i64 (wrap64 (sa - n)))).setCell ⟨w.heap.size, 9, none⟩ (.int .i64 (wrap64 (sc + n)))) := (((Keep.refl (fun k => k = w.heap.size) w1).at_ 3 (.int .i64 (wrap64 (sa - n)))).at_ 9 (.int .i64 (wrap64 (sc + n))))
      generalize ((w1.setCell ⟨w.heap.size, 3, none⟩ (.int .i64 (wrap64 (sa - n)))).setCell ⟨w.heap.size, 9, none⟩ (.int .i64 (wrap64 (sc + n)))) = WA at kA ⊢
      have hbrA := hbr1.kept kA (by omega)
      have hbE := fill11 hbrA (.int .i64 fr) (.int .i64 he) (.int .i64 pi) (.int .i64 (wrap64 (sa - n))) (.int .i64 re) (.int .i64 rt) (.int .i64 cn) (.int .i64 cm) (.int .i64 sh) (.int .i64 (wrap64 (sc + n))) (.int .i64 se)
      have kE : Keep (fun k => k = w.heap.size + 1) WA (((((((((((WA.setCell ⟨(w.heap.size + 1), 0, none⟩ (.int .i64 fr)).setCell ⟨(w.heap.size + 1), 1, none⟩ (.int .i64 he)).setCell ⟨(w.heap.size + 1), 2, none⟩ (.int .i64 pi)).setCell ⟨(w.heap.size + 1), 3, none⟩ (.int .i64 (wrap64 (sa - n)))).setCell ⟨(w.heap.size + 1), 4, none⟩ (.int .i64 re)).setCell ⟨(w.heap.size + 1), 5, none⟩ (.int .i64 rt)).setCell ⟨(w.heap.size + 1), 6, none⟩ (.int .i64 cn)).setCell ⟨(w.heap.size + 1), 7, none⟩ (.int .i64 cm)).setCell ⟨(w.heap.size + 1), 8, none⟩ (.int .i64 sh)).setCell ⟨(w.heap.size + 1), 9, none⟩ (.int .i64 (wrap64 (sc + n)))).setCell ⟨(w.heap.size + 1), 10, none⟩ (.int .i64 se)) := ((((((((((((Keep.refl (fun k => k = w.heap.size + 1) WA).at_ 0 (.int .i64 fr)).at_ 1 (.int .i64 he)).at_ 2 (.int .i64 pi)).at_ 3 (.int .i64 (wrap64 (sa - n)))).at_ 4 (.int .i64 re)).at_ 5 (.int .i64 rt)).at_ 6 (.int .i64 cn)).at_ 7 (.int .i64 cm)).at_ 8 (.int .i64 sh)).at_ 9 (.int .i64 (wrap64 (sc + n)))).at_ 10 (.int .i64 se))
      generalize (((((((((((WA.setCell ⟨w.heap.size + 1, 0, none⟩ (.int .i64 fr)).setCell ⟨w.heap.size + 1, 1, none⟩ (.int .i64 he)).setCell ⟨w.heap.size + 1, 2, none⟩ (.int .i64 pi)).setCell ⟨w.heap.size + 1, 3, none⟩ (.int .i64 (wrap64 (sa - n)))).setCell ⟨w.heap.size + 1, 4, none⟩ (.int .i64 re)).setCell ⟨w.heap.size + 1, 5, none⟩ (.int .i64 rt)).setCell ⟨w.heap.size + 1, 6, none⟩ (.int .i64 cn)).setCell ⟨w.heap.size + 1, 7, none⟩ (.int .i64 cm)).setCell ⟨w.heap.size + 1, 8, none⟩ (.int .i64 sh)).setCell ⟨w.heap.size + 1, 9, none⟩ (.int .i64 (wrap64 (sc + n)))).setCell ⟨w.heap.size + 1, 10, none⟩ (.int .i64 se)) = WE at hbE kE ⊢
      have hltE := hbE.lt
      have hneE : w.heap.size + 1 ≠ WE.heap.size := by omega
      obtain ⟨j0, j1, j2, j3, j4, j5, j6, j7, j8, j9, j10⟩ := rowS hbE
      refine bodyPost_ret (v := .agg #[.int .i64 fr, .int .i64 he, .int .i64 pi, .int .i64 (wrap64 (sa - n)), .int .i64 re, .int .i64 rt, .int .i64 cn, .int .i64 cm, .int .i64 sh, .int .i64 (wrap64 (sc + n)), .int .i64 se]) (by simp [results, Tryz.results67, go_sem, hltE, hneE, j0, j1, j2, j3, j4, j5, j6, j7, j8, j9, j10]) rfl ⟨rfl, ?_⟩
      have hbA := hb1.trans (kA.below (B := w.heap.size) hb1.size (fun i hi e => by omega))
      exact (hbA.trans (kE.below (B := w.heap.size) hbA.size (fun i hi e => by omega))).alloc (Nat.le_trans hbA.size kE.size) _
    · rw [show doneA 10 n fr he pi sa re rt cn cm sh sc se = #[.int .i64 (wrap64 (fr - n)), .int .i64 (he), .int .i64 (pi), .int .i64 (sa), .int .i64 (re), .int .i64 (rt), .int .i64 (cn), .int .i64 (cm), .int .i64 (sh), .int .i64 (sc), .int .i64 (wrap64 (se + n))] from rfl]
      go_enter Tryz.func67, Tryz.ntmps67
      go_wp2_with fail
      refine (change_any w.heap.size 10 _).mono ?_
      rintro e w1 ⟨rfl, hx1⟩
      have hb1 := hb0.trans (hx1.mono hb0.size)
      have hbg1 := hbg.kept (Keep.of_below hx1) (fun h => absurd hbg.lt (Nat.not_lt.2 h))
      have hbr1 := hbr.kept (Keep.of_below hx1) (fun h => absurd hbr.lt (Nat.not_lt.2 h))
      have hlg := hbg1.lt
      have hlr := hbr1.lt
      have hng : w.heap.size ≠ w1.heap.size := by omega
      have hnr : w.heap.size + 1 ≠ w1.heap.size := by omega
      obtain ⟨c0, c1, c2, c3, c4, c5, c6, c7, c8, c9, c10⟩ := rowS hbg1
      obtain ⟨d0, d1, d2, d3, d4, d5, d6, d7, d8, d9, d10⟩ := rowS hbr1
      have hfg := fun i => hbg1.frozen i
      have hfr := fun i => hbr1.frozen i
      rw [show chgV w.heap.size 10 = .agg #[.pointer (some ⟨w.heap.size, 0, none⟩), .pointer none, .pointer (some ⟨w.heap.size, 10, none⟩)] from rfl]
      go_wp2
      clear c0 c1 c2 c3 c4 c5 c6 c7 c8 c9 c10 d0 d1 d2 d3 d4 d5 d6 d7 d8 d9 d10 hfg hfr
      have kA : Keep (fun k => k = w.heap.size) w1 ((w1.setCell ⟨w.heap.size, 0, none⟩ (.int .i64 (wrap64 (fr - n)))).setCell ⟨w.heap.size, 10, none⟩ (.int .i64 (wrap64 (se + n)))) := (((Keep.refl (fun k => k = w.heap.size) w1).at_ 0 (.int .i64 (wrap64 (fr - n)))).at_ 10 (.int .i64 (wrap64 (se + n))))
      generalize ((w1.setCell ⟨w.heap.size, 0, none⟩ (.int .i64 (wrap64 (fr - n)))).setCell ⟨w.heap.size, 10, none⟩ (.int .i64 (wrap64 (se + n)))) = WA at kA ⊢
      have hbrA := hbr1.kept kA (by omega)
      have hbE := fill11 hbrA (.int .i64 (wrap64 (fr - n))) (.int .i64 he) (.int .i64 pi) (.int .i64 sa) (.int .i64 re) (.int .i64 rt) (.int .i64 cn) (.int .i64 cm) (.int .i64 sh) (.int .i64 sc) (.int .i64 (wrap64 (se + n)))
      have kE : Keep (fun k => k = w.heap.size + 1) WA (((((((((((WA.setCell ⟨(w.heap.size + 1), 0, none⟩ (.int .i64 (wrap64 (fr - n)))).setCell ⟨(w.heap.size + 1), 1, none⟩ (.int .i64 he)).setCell ⟨(w.heap.size + 1), 2, none⟩ (.int .i64 pi)).setCell ⟨(w.heap.size + 1), 3, none⟩ (.int .i64 sa)).setCell ⟨(w.heap.size + 1), 4, none⟩ (.int .i64 re)).setCell ⟨(w.heap.size + 1), 5, none⟩ (.int .i64 rt)).setCell ⟨(w.heap.size + 1), 6, none⟩ (.int .i64 cn)).setCell ⟨(w.heap.size + 1), 7, none⟩ (.int .i64 cm)).setCell ⟨(w.heap.size + 1), 8, none⟩ (.int .i64 sh)).setCell ⟨(w.heap.size + 1), 9, none⟩ (.int .i64 sc)).setCell ⟨(w.heap.size + 1), 10, none⟩ (.int .i64 (wrap64 (se + n)))) := ((((((((((((Keep.refl (fun k => k = w.heap.size + 1) WA).at_ 0 (.int .i64 (wrap64 (fr - n)))).at_ 1 (.int .i64 he)).at_ 2 (.int .i64 pi)).at_ 3 (.int .i64 sa)).at_ 4 (.int .i64 re)).at_ 5 (.int .i64 rt)).at_ 6 (.int .i64 cn)).at_ 7 (.int .i64 cm)).at_ 8 (.int .i64 sh)).at_ 9 (.int .i64 sc)).at_ 10 (.int .i64 (wrap64 (se + n))))
      generalize (((((((((((WA.setCell ⟨w.heap.size + 1, 0, none⟩ (.int .i64 (wrap64 (fr - n)))).setCell ⟨w.heap.size + 1, 1, none⟩ (.int .i64 he)).setCell ⟨w.heap.size + 1, 2, none⟩ (.int .i64 pi)).setCell ⟨w.heap.size + 1, 3, none⟩ (.int .i64 sa)).setCell ⟨w.heap.size + 1, 4, none⟩ (.int .i64 re)).setCell ⟨w.heap.size + 1, 5, none⟩ (.int .i64 rt)).setCell ⟨w.heap.size + 1, 6, none⟩ (.int .i64 cn)).setCell ⟨w.heap.size + 1, 7, none⟩ (.int .i64 cm)).setCell ⟨w.heap.size + 1, 8, none⟩ (.int .i64 sh)).setCell ⟨w.heap.size + 1, 9, none⟩ (.int .i64 sc)).setCell ⟨w.heap.size + 1, 10, none⟩ (.int .i64 (wrap64 (se + n)))) = WE at hbE kE ⊢
      have hltE := hbE.lt
      have hneE : w.heap.size + 1 ≠ WE.heap.size := by omega
      obtain ⟨j0, j1, j2, j3, j4, j5, j6, j7, j8, j9, j10⟩ := rowS hbE
      refine bodyPost_ret (v := .agg #[.int .i64 (wrap64 (fr - n)), .int .i64 he, .int .i64 pi, .int .i64 sa, .int .i64 re, .int .i64 rt, .int .i64 cn, .int .i64 cm, .int .i64 sh, .int .i64 sc, .int .i64 (wrap64 (se + n))]) (by simp [results, Tryz.results67, go_sem, hltE, hneE, j0, j1, j2, j3, j4, j5, j6, j7, j8, j9, j10]) rfl ⟨rfl, ?_⟩
      have hbA := hb1.trans (kA.below (B := w.heap.size) hb1.size (fun i hi e => by omega))
      exact (hbA.trans (kE.below (B := w.heap.size) hbA.size (fun i hi e => by omega))).alloc (Nat.le_trans hbA.size kE.size) _
    · rw [show doneA 11 n fr he pi sa re rt cn cm sh sc se = #[.int .i64 (wrap64 (fr + n)), .int .i64 (he), .int .i64 (pi), .int .i64 (sa), .int .i64 (re), .int .i64 (rt), .int .i64 (cn), .int .i64 (wrap64 (cm + n)), .int .i64 (sh), .int .i64 (sc), .int .i64 (se)] from rfl]
      go_enter Tryz.func67, Tryz.ntmps67
      go_wp2_with fail
      refine (change_any w.heap.size 11 _).mono ?_
      rintro e w1 ⟨rfl, hx1⟩
      have hb1 := hb0.trans (hx1.mono hb0.size)
      have hbg1 := hbg.kept (Keep.of_below hx1) (fun h => absurd hbg.lt (Nat.not_lt.2 h))
      have hbr1 := hbr.kept (Keep.of_below hx1) (fun h => absurd hbr.lt (Nat.not_lt.2 h))
      have hlg := hbg1.lt
      have hlr := hbr1.lt
      have hng : w.heap.size ≠ w1.heap.size := by omega
      have hnr : w.heap.size + 1 ≠ w1.heap.size := by omega
      obtain ⟨c0, c1, c2, c3, c4, c5, c6, c7, c8, c9, c10⟩ := rowS hbg1
      obtain ⟨d0, d1, d2, d3, d4, d5, d6, d7, d8, d9, d10⟩ := rowS hbr1
      have hfg := fun i => hbg1.frozen i
      have hfr := fun i => hbr1.frozen i
      rw [show chgV w.heap.size 11 = .agg #[.pointer none, .pointer (some ⟨w.heap.size, 0, none⟩), .pointer (some ⟨w.heap.size, 7, none⟩)] from rfl]
      go_wp2
      clear c0 c1 c2 c3 c4 c5 c6 c7 c8 c9 c10 d0 d1 d2 d3 d4 d5 d6 d7 d8 d9 d10 hfg hfr
      have kA : Keep (fun k => k = w.heap.size) w1 ((w1.setCell ⟨w.heap.size, 0, none⟩ (.int .i64 (wrap64 (fr + n)))).setCell ⟨w.heap.size, 7, none⟩ (.int .i64 (wrap64 (cm + n)))) := (((Keep.refl (fun k => k = w.heap.size) w1).at_ 0 (.int .i64 (wrap64 (fr + n)))).at_ 7 (.int .i64 (wrap64 (cm + n))))
      generalize ((w1.setCell ⟨w.heap.size, 0, none⟩ (.int .i64 (wrap64 (fr + n)))).setCell ⟨w.heap.size, 7, none⟩ (.int .i64 (wrap64 (cm + n)))) = WA at kA ⊢
      have hbrA := hbr1.kept kA (by omega)
      have hbE := fill11 hbrA (.int .i64 (wrap64 (fr + n))) (.int .i64 he) (.int .i64 pi) (.int .i64 sa) (.int .i64 re) (.int .i64 rt) (.int .i64 cn) (.int .i64 (wrap64 (cm + n))) (.int .i64 sh) (.int .i64 sc) (.int .i64 se)
      have kE : Keep (fun k => k = w.heap.size + 1) WA (((((((((((WA.setCell ⟨(w.heap.size + 1), 0, none⟩ (.int .i64 (wrap64 (fr + n)))).setCell ⟨(w.heap.size + 1), 1, none⟩ (.int .i64 he)).setCell ⟨(w.heap.size + 1), 2, none⟩ (.int .i64 pi)).setCell ⟨(w.heap.size + 1), 3, none⟩ (.int .i64 sa)).setCell ⟨(w.heap.size + 1), 4, none⟩ (.int .i64 re)).setCell ⟨(w.heap.size + 1), 5, none⟩ (.int .i64 rt)).setCell ⟨(w.heap.size + 1), 6, none⟩ (.int .i64 cn)).setCell ⟨(w.heap.size + 1), 7, none⟩ (.int .i64 (wrap64 (cm + n)))).setCell ⟨(w.heap.size + 1), 8, none⟩ (.int .i64 sh)).setCell ⟨(w.heap.size + 1), 9, none⟩ (.int .i64 sc)).setCell ⟨(w.heap.size + 1), 10, none⟩ (.int .i64 se)) := ((((((((((((Keep.refl (fun k => k = w.heap.size + 1) WA).at_ 0 (.int .i64 (wrap64 (fr + n)))).at_ 1 (.int .i64 he)).at_ 2 (.int .i64 pi)).at_ 3 (.int .i64 sa)).at_ 4 (.int .i64 re)).at_ 5 (.int .i64 rt)).at_ 6 (.int .i64 cn)).at_ 7 (.int .i64 (wrap64 (cm + n)))).at_ 8 (.int .i64 sh)).at_ 9 (.int .i64 sc)).at_ 10 (.int .i64 se))
      generalize (((((((((((WA.setCell ⟨w.heap.size + 1, 0, none⟩ (.int .i64 (wrap64 (fr + n)))).setCell ⟨w.heap.size + 1, 1, none⟩ (.int .i64 he)).setCell ⟨w.heap.size + 1, 2, none⟩ (.int .i64 pi)).setCell ⟨w.heap.size + 1, 3, none⟩ (.int .i64 sa)).setCell ⟨w.heap.size + 1, 4, none⟩ (.int .i64 re)).setCell ⟨w.heap.size + 1, 5, none⟩ (.int .i64 rt)).setCell ⟨w.heap.size + 1, 6, none⟩ (.int .i64 cn)).setCell ⟨w.heap.size + 1, 7, none⟩ (.int .i64 (wrap64 (cm + n)))).setCell ⟨w.heap.size + 1, 8, none⟩ (.int .i64 sh)).setCell ⟨w.heap.size + 1, 9, none⟩ (.int .i64 sc)).setCell ⟨w.heap.size + 1, 10, none⟩ (.int .i64 se)) = WE at hbE kE ⊢
      have hltE := hbE.lt
      have hneE : w.heap.size + 1 ≠ WE.heap.size := by omega
      obtain ⟨j0, j1, j2, j3, j4, j5, j6, j7, j8, j9, j10⟩ := rowS hbE
      refine bodyPost_ret (v := .agg #[.int .i64 (wrap64 (fr + n)), .int .i64 he, .int .i64 pi, .int .i64 sa, .int .i64 re, .int .i64 rt, .int .i64 cn, .int .i64 (wrap64 (cm + n)), .int .i64 sh, .int .i64 sc, .int .i64 se]) (by simp [results, Tryz.results67, go_sem, hltE, hneE, j0, j1, j2, j3, j4, j5, j6, j7, j8, j9, j10]) rfl ⟨rfl, ?_⟩
      have hbA := hb1.trans (kA.below (B := w.heap.size) hb1.size (fun i hi e => by omega))
      exact (hbA.trans (kE.below (B := w.heap.size) hbA.size (fun i hi e => by omega))).alloc (Nat.le_trans hbA.size kE.size) _
  · have hD : doneA k n fr he pi sa re rt cn cm sh sc se = #[.int .i64 fr, .int .i64 he, .int .i64 pi, .int .i64 sa, .int .i64 re, .int .i64 rt, .int .i64 cn, .int .i64 cm, .int .i64 sh, .int .i64 sc, .int .i64 se] := by
      unfold doneA
      repeat rw [if_neg (by omega)]
    rw [hD]
    go_enter Tryz.func67, Tryz.ntmps67
    go_wp2_with fail
    refine (change_any w.heap.size k _).mono ?_
    rintro e w1 ⟨rfl, hx1⟩
    have hb1 := hb0.trans (hx1.mono hb0.size)
    have hbg1 := hbg.kept (Keep.of_below hx1) (fun h => absurd hbg.lt (Nat.not_lt.2 h))
    have hbr1 := hbr.kept (Keep.of_below hx1) (fun h => absurd hbr.lt (Nat.not_lt.2 h))
    have hlg := hbg1.lt
    have hlr := hbr1.lt
    have hng : w.heap.size ≠ w1.heap.size := by omega
    have hnr : w.heap.size + 1 ≠ w1.heap.size := by omega
    obtain ⟨c0, c1, c2, c3, c4, c5, c6, c7, c8, c9, c10⟩ := rowS hbg1
    obtain ⟨d0, d1, d2, d3, d4, d5, d6, d7, d8, d9, d10⟩ := rowS hbr1
    have hfg := fun i => hbg1.frozen i
    have hfr := fun i => hbr1.frozen i
    rw [show chgV w.heap.size k = .agg #[.pointer none, .pointer none, .pointer none] from by unfold chgV; rw [chg_none h]; rfl]
    go_wp2
    clear c0 c1 c2 c3 c4 c5 c6 c7 c8 c9 c10 d0 d1 d2 d3 d4 d5 d6 d7 d8 d9 d10 hfg hfr
    have kA : Keep (fun k => k = w.heap.size) w1 w1 := (Keep.refl (fun k => k = w.heap.size) w1)
    obtain ⟨WA, hWA⟩ : ∃ W, w1 = W := ⟨_, rfl⟩
    subst hWA
    have hWx := kA
    have hbrA := hbr1.kept kA (by omega)
    have hbE := fill11 hbrA (.int .i64 fr) (.int .i64 he) (.int .i64 pi) (.int .i64 sa) (.int .i64 re) (.int .i64 rt) (.int .i64 cn) (.int .i64 cm) (.int .i64 sh) (.int .i64 sc) (.int .i64 se)
    have kE : Keep (fun k => k = w.heap.size + 1) w1 (((((((((((w1.setCell ⟨(w.heap.size + 1), 0, none⟩ (.int .i64 fr)).setCell ⟨(w.heap.size + 1), 1, none⟩ (.int .i64 he)).setCell ⟨(w.heap.size + 1), 2, none⟩ (.int .i64 pi)).setCell ⟨(w.heap.size + 1), 3, none⟩ (.int .i64 sa)).setCell ⟨(w.heap.size + 1), 4, none⟩ (.int .i64 re)).setCell ⟨(w.heap.size + 1), 5, none⟩ (.int .i64 rt)).setCell ⟨(w.heap.size + 1), 6, none⟩ (.int .i64 cn)).setCell ⟨(w.heap.size + 1), 7, none⟩ (.int .i64 cm)).setCell ⟨(w.heap.size + 1), 8, none⟩ (.int .i64 sh)).setCell ⟨(w.heap.size + 1), 9, none⟩ (.int .i64 sc)).setCell ⟨(w.heap.size + 1), 10, none⟩ (.int .i64 se)) := ((((((((((((Keep.refl (fun k => k = w.heap.size + 1) w1).at_ 0 (.int .i64 fr)).at_ 1 (.int .i64 he)).at_ 2 (.int .i64 pi)).at_ 3 (.int .i64 sa)).at_ 4 (.int .i64 re)).at_ 5 (.int .i64 rt)).at_ 6 (.int .i64 cn)).at_ 7 (.int .i64 cm)).at_ 8 (.int .i64 sh)).at_ 9 (.int .i64 sc)).at_ 10 (.int .i64 se))
    generalize (((((((((((w1.setCell ⟨w.heap.size + 1, 0, none⟩ (.int .i64 fr)).setCell ⟨w.heap.size + 1, 1, none⟩ (.int .i64 he)).setCell ⟨w.heap.size + 1, 2, none⟩ (.int .i64 pi)).setCell ⟨w.heap.size + 1, 3, none⟩ (.int .i64 sa)).setCell ⟨w.heap.size + 1, 4, none⟩ (.int .i64 re)).setCell ⟨w.heap.size + 1, 5, none⟩ (.int .i64 rt)).setCell ⟨w.heap.size + 1, 6, none⟩ (.int .i64 cn)).setCell ⟨w.heap.size + 1, 7, none⟩ (.int .i64 cm)).setCell ⟨w.heap.size + 1, 8, none⟩ (.int .i64 sh)).setCell ⟨w.heap.size + 1, 9, none⟩ (.int .i64 sc)).setCell ⟨w.heap.size + 1, 10, none⟩ (.int .i64 se)) = WE at hbE kE ⊢
    have hltE := hbE.lt
    have hneE : w.heap.size + 1 ≠ WE.heap.size := by omega
    obtain ⟨j0, j1, j2, j3, j4, j5, j6, j7, j8, j9, j10⟩ := rowS hbE
    refine bodyPost_ret (v := .agg #[.int .i64 fr, .int .i64 he, .int .i64 pi, .int .i64 sa, .int .i64 re, .int .i64 rt, .int .i64 cn, .int .i64 cm, .int .i64 sh, .int .i64 sc, .int .i64 se]) (by simp [results, Tryz.results67, go_sem, hltE, hneE, j0, j1, j2, j3, j4, j5, j6, j7, j8, j9, j10]) rfl ⟨rfl, ?_⟩
    have hbA := hb1.trans (kA.below (B := w.heap.size) hb1.size (fun i hi e => by omega))
    exact (hbA.trans (kE.below (B := w.heap.size) hbA.size (fun i hi e => by omega))).alloc (Nat.le_trans hbA.size kE.size) _
end
end Go.Proofs.YtfpcnenohidfpaaGreat
