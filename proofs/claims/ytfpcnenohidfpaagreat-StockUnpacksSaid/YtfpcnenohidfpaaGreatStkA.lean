/- Is there such a kind, and does it take from a level? No condition. -/
import Derived.Test.YtfpcnenohidfpaaGreatSmB
namespace Go.Proofs.YtfpcnenohidfpaaGreat
open Go.RowKit Go.Maps Go.Shelf
set_option linter.unusedVariables false
set_option linter.unusedSimpArgs false

def knownK (k : Int) : Bool := decide (1 ≤ k) && decide (k ≤ 11)
def takesK (k : Int) : Bool := (chg k).1.isSome
set_option maxRecDepth 100000 in
set_option maxHeartbeats 6400000 in
theorem about_any (k : Int) (w : World) : Calls Tryz.prog 49 #[.int .i64 k] w fun e w' => e = .returned (.tuple #[.bool (knownK k), .bool (takesK k)]) ∧ Below w.heap.size w w' := by
  have hb0 := (Below.refl w.heap.size w).alloc (Nat.le_refl _) (.cells #[.int .i64 0, .int .i64 0, .int .i64 0, .int .i64 0, .int .i64 0, .int .i64 0, .int .i64 0, .int .i64 0, .int .i64 0, .int .i64 0, .int .i64 0] 44)
  by_cases h : 1 ≤ k ∧ k ≤ 11
  · rcases doKinds h with rfl | rfl | rfl | rfl | rfl | rfl | rfl | rfl | rfl | rfl | rfl
    · skip
      go_enter Tryz.func49, Tryz.ntmps49
      go_wp2_with fail
      refine (change_any w.heap.size 1 _).mono ?_
      rintro e w1 ⟨rfl, hx1⟩
      have hb1 := hb0.trans (hx1.mono hb0.size)
      rw [show chgV w.heap.size 1 = .agg #[.pointer none, .pointer (some ⟨w.heap.size, 0, none⟩), .pointer (some ⟨w.heap.size, 4, none⟩)] from rfl]
      have hbc := Blk.new w1 123 #[.pointer none, .pointer (some ⟨w.heap.size, 0, none⟩), .pointer (some ⟨w.heap.size, 4, none⟩)]
      have hb2 := Below.drew (hb1.alloc hb1.size (.cells #[.pointer none, .pointer (some ⟨w.heap.size, 0, none⟩), .pointer (some ⟨w.heap.size, 4, none⟩)] 123))
      go_wp2_with fail
      refine wp_region_held_drew (S := (fun w' => w'.cell? ⟨w1.heap.size, 0, none⟩ = some (.pointer none) ∧ w'.cell? ⟨w1.heap.size, 1, none⟩ = some (.pointer (some ⟨w.heap.size, 0, none⟩)) ∧ w'.cell? ⟨w1.heap.size, 2, none⟩ = some (.pointer (some ⟨w.heap.size, 4, none⟩)))) (by kernel_rfl) ⟨hbc.cell 0, hbc.cell 1, hbc.cell 2⟩ (fun hHeld => ?_)
      refine wpAnyH_take (i := 0) (oi := ?oi0K1) (v := ?v0K1) ?hi0K1 (by kernel_rfl) (by kernel_rfl) (by kernel_rfl) ?hq0K1 (Or.inl ⟨?hw0K1, ?hy0K1⟩) (by assumption) ?rest0K1
      case hi0K1 => (simp only [List.getElem?_toArray, List.getElem?_cons_succ, List.getElem?_cons_zero]; rfl)
      case hq0K1 => exact fun _ _ _ h => h
      case hw0K1 => rfl
      case hy0K1 => (intro w hSw; (try dsimp only at hSw); go_simp <;> with_reducible rfl)
      try simp only [Act.put, List.setIfInBounds_toArray, List.set_cons_zero, List.set_cons_succ]
      refine wpAnyH_take (i := 1) (oi := ?oi1K1) (v := ?v1K1) ?hi1K1 (by kernel_rfl) (by kernel_rfl) (by kernel_rfl) ?hq1K1 (Or.inl ⟨?hw1K1, ?hy1K1⟩) (by assumption) ?rest1K1
      case hi1K1 => (simp only [List.getElem?_toArray, List.getElem?_cons_succ, List.getElem?_cons_zero]; rfl)
      case hq1K1 => exact fun _ _ _ h => h
      case hw1K1 => rfl
      case hy1K1 => (intro w hSw; (try dsimp only at hSw); go_simp <;> with_reducible rfl)
      try simp only [Act.put, List.setIfInBounds_toArray, List.set_cons_zero, List.set_cons_succ]
      refine wpAnyH_take (i := 2) (oi := ?oi2K1) (v := ?v2K1) ?hi2K1 (by kernel_rfl) (by kernel_rfl) (by kernel_rfl) ?hq2K1 (Or.inl ⟨?hw2K1, ?hy2K1⟩) (by assumption) ?rest2K1
      case hi2K1 => (simp only [List.getElem?_toArray, List.getElem?_cons_succ, List.getElem?_cons_zero]; rfl)
      case hq2K1 => exact fun _ _ _ h => h
      case hw2K1 => rfl
      case hy2K1 => (intro w hSw; (try dsimp only at hSw); go_simp <;> with_reducible rfl)
      try simp only [Act.put, List.setIfInBounds_toArray, List.set_cons_zero, List.set_cons_succ]
      refine wpAnyH_take (i := 3) (oi := ?oi3K1) (v := ?v3K1) ?hi3K1 (by kernel_rfl) (by kernel_rfl) (by kernel_rfl) ?hq3K1 (Or.inl ⟨?hw3K1, ?hy3K1⟩) (by assumption) ?rest3K1
      case hi3K1 => (simp only [List.getElem?_toArray, List.getElem?_cons_succ, List.getElem?_cons_zero]; rfl)
      case hq3K1 => exact fun _ _ _ h => h
      case hw3K1 => rfl
      case hy3K1 => (intro w hSw; (try dsimp only at hSw); go_simp <;> with_reducible rfl)
      try simp only [Act.put, List.setIfInBounds_toArray, List.set_cons_zero, List.set_cons_succ]
      refine wpAnyH_take (i := 4) (oi := ?oi4K1) (v := ?v4K1) ?hi4K1 (by kernel_rfl) (by kernel_rfl) (by kernel_rfl) ?hq4K1 (Or.inl ⟨?hw4K1, ?hy4K1⟩) (by assumption) ?rest4K1
      case hi4K1 => (simp only [List.getElem?_toArray, List.getElem?_cons_succ, List.getElem?_cons_zero]; rfl)
      case hq4K1 => exact fun _ _ _ h => h
      case hw4K1 => rfl
      case hy4K1 => (intro w hSw; (try dsimp only at hSw); go_simp <;> with_reducible rfl)
      try simp only [Act.put, List.setIfInBounds_toArray, List.set_cons_zero, List.set_cons_succ]
      refine wpAnyH_take (i := 5) (oi := ?oi5K1) (v := ?v5K1) ?hi5K1 (by kernel_rfl) (by kernel_rfl) (by kernel_rfl) ?hq5K1 (Or.inl ⟨?hw5K1, ?hy5K1⟩) (by assumption) ?rest5K1
      case hi5K1 => (simp only [List.getElem?_toArray, List.getElem?_cons_succ, List.getElem?_cons_zero]; rfl)
      case hq5K1 => exact fun _ _ _ h => h
      case hw5K1 => rfl
      case hy5K1 => (intro w hSw; (try dsimp only at hSw); go_simp <;> with_reducible rfl)
      try simp only [Act.put, List.setIfInBounds_toArray, List.set_cons_zero, List.set_cons_succ]
      refine wpAnyH_take (i := 6) (oi := ?oi6K1) (v := ?v6K1) ?hi6K1 (by kernel_rfl) (by kernel_rfl) (by kernel_rfl) ?hq6K1 (Or.inl ⟨?hw6K1, ?hy6K1⟩) (by assumption) ?rest6K1
      case hi6K1 => (simp only [List.getElem?_toArray, List.getElem?_cons_succ, List.getElem?_cons_zero]; rfl)
      case hq6K1 => exact fun _ _ _ h => h
      case hw6K1 => rfl
      case hy6K1 => (intro w hSw; (try dsimp only at hSw); go_simp <;> with_reducible rfl)
      try simp only [Act.put, List.setIfInBounds_toArray, List.set_cons_zero, List.set_cons_succ]
      refine wpAnyH_take (i := 7) (oi := ?oi7K1) (v := ?v7K1) ?hi7K1 (by kernel_rfl) (by kernel_rfl) (by kernel_rfl) ?hq7K1 (Or.inl ⟨?hw7K1, ?hy7K1⟩) (by assumption) ?rest7K1
      case hi7K1 => (simp only [List.getElem?_toArray, List.getElem?_cons_succ, List.getElem?_cons_zero]; rfl)
      case hq7K1 => exact fun _ _ _ h => h
      case hw7K1 => rfl
      case hy7K1 => (intro w hSw; (try dsimp only at hSw); go_simp <;> with_reducible rfl)
      try simp only [Act.put, List.setIfInBounds_toArray, List.set_cons_zero, List.set_cons_succ]
      refine wpAnyH_take (i := 8) (oi := ?oi8K1) (v := ?v8K1) ?hi8K1 (by kernel_rfl) (by kernel_rfl) (by kernel_rfl) ?hq8K1 (Or.inl ⟨?hw8K1, ?hy8K1⟩) (by assumption) ?rest8K1
      case hi8K1 => (simp only [List.getElem?_toArray, List.getElem?_cons_succ, List.getElem?_cons_zero]; rfl)
      case hq8K1 => exact fun _ _ _ h => h
      case hw8K1 => rfl
      case hy8K1 => (intro w hSw; (try dsimp only at hSw); go_simp <;> with_reducible rfl)
      try simp only [Act.put, List.setIfInBounds_toArray, List.set_cons_zero, List.set_cons_succ]
      refine wpAnyH_take (i := 9) (oi := ?oi9K1) (v := ?v9K1) ?hi9K1 (by kernel_rfl) (by kernel_rfl) (by kernel_rfl) ?hq9K1 (Or.inl ⟨?hw9K1, ?hy9K1⟩) (by assumption) ?rest9K1
      case hi9K1 => (simp only [List.getElem?_toArray, List.getElem?_cons_succ, List.getElem?_cons_zero]; rfl)
      case hq9K1 => exact fun _ _ _ h => h
      case hw9K1 => rfl
      case hy9K1 => (intro w hSw; (try dsimp only at hSw); go_simp <;> with_reducible rfl)
      try simp only [Act.put, List.setIfInBounds_toArray, List.set_cons_zero, List.set_cons_succ]
      refine wpAnyH_take (i := 10) (oi := ?oi10K1) (v := ?v10K1) ?hi10K1 (by kernel_rfl) (by kernel_rfl) (by kernel_rfl) ?hq10K1 (Or.inl ⟨?hw10K1, ?hy10K1⟩) (by assumption) ?rest10K1
      case hi10K1 => (simp only [List.getElem?_toArray, List.getElem?_cons_succ, List.getElem?_cons_zero]; rfl)
      case hq10K1 => exact fun _ _ _ h => h
      case hw10K1 => rfl
      case hy10K1 => (intro w hSw; (try dsimp only at hSw); go_simp <;> with_reducible rfl)
      try simp only [Act.put, List.setIfInBounds_toArray, List.set_cons_zero, List.set_cons_succ]
      refine wpAnyH_take (i := 11) (oi := ?oi11K1) (v := ?v11K1) ?hi11K1 (by kernel_rfl) (by kernel_rfl) (by kernel_rfl) ?hq11K1 (Or.inl ⟨?hw11K1, ?hy11K1⟩) (by assumption) ?rest11K1
      case hi11K1 => (simp only [List.getElem?_toArray, List.getElem?_cons_succ, List.getElem?_cons_zero]; rfl)
      case hq11K1 => exact fun _ _ _ h => h
      case hw11K1 => rfl
      case hy11K1 => (intro w hSw; (try dsimp only at hSw); go_simp <;> with_reducible rfl)
      try simp only [Act.put, List.setIfInBounds_toArray, List.set_cons_zero, List.set_cons_succ]
      refine wpAnyH_take (i := 12) (oi := ?oi12K1) (v := ?v12K1) ?hi12K1 (by kernel_rfl) (by kernel_rfl) (by kernel_rfl) ?hq12K1 (Or.inl ⟨?hw12K1, ?hy12K1⟩) (by assumption) ?rest12K1
      case hi12K1 => (simp only [List.getElem?_toArray, List.getElem?_cons_succ, List.getElem?_cons_zero]; rfl)
      case hq12K1 => exact fun _ _ _ h => h
      case hw12K1 => rfl
      case hy12K1 => (intro w hSw; (try dsimp only at hSw); go_simp <;> with_reducible rfl)
      try simp only [Act.put, List.setIfInBounds_toArray, List.set_cons_zero, List.set_cons_succ]
      refine wpAnyH_done (by kernel_rfl) ?_ _
      go_wp2
      go_ret2
      exact ⟨rfl, hb2⟩
    · skip
      go_enter Tryz.func49, Tryz.ntmps49
      go_wp2_with fail
      refine (change_any w.heap.size 2 _).mono ?_
      rintro e w1 ⟨rfl, hx1⟩
      have hb1 := hb0.trans (hx1.mono hb0.size)
      rw [show chgV w.heap.size 2 = .agg #[.pointer (some ⟨w.heap.size, 0, none⟩), .pointer (some ⟨w.heap.size, 1, none⟩), .pointer none] from rfl]
      have hbc := Blk.new w1 123 #[.pointer (some ⟨w.heap.size, 0, none⟩), .pointer (some ⟨w.heap.size, 1, none⟩), .pointer none]
      have hb2 := Below.drew (hb1.alloc hb1.size (.cells #[.pointer (some ⟨w.heap.size, 0, none⟩), .pointer (some ⟨w.heap.size, 1, none⟩), .pointer none] 123))
      go_wp2_with fail
      refine wp_region_held_drew (S := (fun w' => w'.cell? ⟨w1.heap.size, 0, none⟩ = some (.pointer (some ⟨w.heap.size, 0, none⟩)) ∧ w'.cell? ⟨w1.heap.size, 1, none⟩ = some (.pointer (some ⟨w.heap.size, 1, none⟩)) ∧ w'.cell? ⟨w1.heap.size, 2, none⟩ = some (.pointer none))) (by kernel_rfl) ⟨hbc.cell 0, hbc.cell 1, hbc.cell 2⟩ (fun hHeld => ?_)
      refine wpAnyH_take (i := 0) (oi := ?oi0K2) (v := ?v0K2) ?hi0K2 (by kernel_rfl) (by kernel_rfl) (by kernel_rfl) ?hq0K2 (Or.inl ⟨?hw0K2, ?hy0K2⟩) (by assumption) ?rest0K2
      case hi0K2 => (simp only [List.getElem?_toArray, List.getElem?_cons_succ, List.getElem?_cons_zero]; rfl)
      case hq0K2 => exact fun _ _ _ h => h
      case hw0K2 => rfl
      case hy0K2 => (intro w hSw; (try dsimp only at hSw); go_simp <;> with_reducible rfl)
      try simp only [Act.put, List.setIfInBounds_toArray, List.set_cons_zero, List.set_cons_succ]
      refine wpAnyH_take (i := 1) (oi := ?oi1K2) (v := ?v1K2) ?hi1K2 (by kernel_rfl) (by kernel_rfl) (by kernel_rfl) ?hq1K2 (Or.inl ⟨?hw1K2, ?hy1K2⟩) (by assumption) ?rest1K2
      case hi1K2 => (simp only [List.getElem?_toArray, List.getElem?_cons_succ, List.getElem?_cons_zero]; rfl)
      case hq1K2 => exact fun _ _ _ h => h
      case hw1K2 => rfl
      case hy1K2 => (intro w hSw; (try dsimp only at hSw); go_simp <;> with_reducible rfl)
      try simp only [Act.put, List.setIfInBounds_toArray, List.set_cons_zero, List.set_cons_succ]
      refine wpAnyH_take (i := 2) (oi := ?oi2K2) (v := ?v2K2) ?hi2K2 (by kernel_rfl) (by kernel_rfl) (by kernel_rfl) ?hq2K2 (Or.inl ⟨?hw2K2, ?hy2K2⟩) (by assumption) ?rest2K2
      case hi2K2 => (simp only [List.getElem?_toArray, List.getElem?_cons_succ, List.getElem?_cons_zero]; rfl)
      case hq2K2 => exact fun _ _ _ h => h
      case hw2K2 => rfl
      case hy2K2 => (intro w hSw; (try dsimp only at hSw); go_simp <;> with_reducible rfl)
      try simp only [Act.put, List.setIfInBounds_toArray, List.set_cons_zero, List.set_cons_succ]
      refine wpAnyH_take (i := 3) (oi := ?oi3K2) (v := ?v3K2) ?hi3K2 (by kernel_rfl) (by kernel_rfl) (by kernel_rfl) ?hq3K2 (Or.inl ⟨?hw3K2, ?hy3K2⟩) (by assumption) ?rest3K2
      case hi3K2 => (simp only [List.getElem?_toArray, List.getElem?_cons_succ, List.getElem?_cons_zero]; rfl)
      case hq3K2 => exact fun _ _ _ h => h
      case hw3K2 => rfl
      case hy3K2 => (intro w hSw; (try dsimp only at hSw); go_simp <;> with_reducible rfl)
      try simp only [Act.put, List.setIfInBounds_toArray, List.set_cons_zero, List.set_cons_succ]
      refine wpAnyH_take (i := 4) (oi := ?oi4K2) (v := undef) ?hi4K2 (by kernel_rfl) (by kernel_rfl) (by kernel_rfl) ?hq4K2 (Or.inr ⟨?hw4K2, rfl⟩) (by assumption) ?rest4K2
      case hi4K2 => (simp only [List.getElem?_toArray, List.getElem?_cons_succ, List.getElem?_cons_zero]; rfl)
      case hq4K2 => exact fun _ _ _ h => h
      case hw4K2 => rfl
      try simp only [Act.put, List.setIfInBounds_toArray, List.set_cons_zero, List.set_cons_succ]
      refine wpAnyH_take (i := 5) (oi := ?oi5K2) (v := undef) ?hi5K2 (by kernel_rfl) (by kernel_rfl) (by kernel_rfl) ?hq5K2 (Or.inr ⟨?hw5K2, rfl⟩) (by assumption) ?rest5K2
      case hi5K2 => (simp only [List.getElem?_toArray, List.getElem?_cons_succ, List.getElem?_cons_zero]; rfl)
      case hq5K2 => exact fun _ _ _ h => h
      case hw5K2 => rfl
      try simp only [Act.put, List.setIfInBounds_toArray, List.set_cons_zero, List.set_cons_succ]
      refine wpAnyH_take (i := 6) (oi := ?oi6K2) (v := undef) ?hi6K2 (by kernel_rfl) (by kernel_rfl) (by kernel_rfl) ?hq6K2 (Or.inr ⟨?hw6K2, rfl⟩) (by assumption) ?rest6K2
      case hi6K2 => (simp only [List.getElem?_toArray, List.getElem?_cons_succ, List.getElem?_cons_zero]; rfl)
      case hq6K2 => exact fun _ _ _ h => h
      case hw6K2 => rfl
      try simp only [Act.put, List.setIfInBounds_toArray, List.set_cons_zero, List.set_cons_succ]
      refine wpAnyH_take (i := 7) (oi := ?oi7K2) (v := ?v7K2) ?hi7K2 (by kernel_rfl) (by kernel_rfl) (by kernel_rfl) ?hq7K2 (Or.inl ⟨?hw7K2, ?hy7K2⟩) (by assumption) ?rest7K2
      case hi7K2 => (simp only [List.getElem?_toArray, List.getElem?_cons_succ, List.getElem?_cons_zero]; rfl)
      case hq7K2 => exact fun _ _ _ h => h
      case hw7K2 => rfl
      case hy7K2 => (intro w hSw; (try dsimp only at hSw); go_simp <;> with_reducible rfl)
      try simp only [Act.put, List.setIfInBounds_toArray, List.set_cons_zero, List.set_cons_succ]
      refine wpAnyH_take (i := 8) (oi := ?oi8K2) (v := ?v8K2) ?hi8K2 (by kernel_rfl) (by kernel_rfl) (by kernel_rfl) ?hq8K2 (Or.inl ⟨?hw8K2, ?hy8K2⟩) (by assumption) ?rest8K2
      case hi8K2 => (simp only [List.getElem?_toArray, List.getElem?_cons_succ, List.getElem?_cons_zero]; rfl)
      case hq8K2 => exact fun _ _ _ h => h
      case hw8K2 => rfl
      case hy8K2 => (intro w hSw; (try dsimp only at hSw); go_simp <;> with_reducible rfl)
      try simp only [Act.put, List.setIfInBounds_toArray, List.set_cons_zero, List.set_cons_succ]
      refine wpAnyH_take (i := 9) (oi := ?oi9K2) (v := ?v9K2) ?hi9K2 (by kernel_rfl) (by kernel_rfl) (by kernel_rfl) ?hq9K2 (Or.inl ⟨?hw9K2, ?hy9K2⟩) (by assumption) ?rest9K2
      case hi9K2 => (simp only [List.getElem?_toArray, List.getElem?_cons_succ, List.getElem?_cons_zero]; rfl)
      case hq9K2 => exact fun _ _ _ h => h
      case hw9K2 => rfl
      case hy9K2 => (intro w hSw; (try dsimp only at hSw); go_simp <;> with_reducible rfl)
      try simp only [Act.put, List.setIfInBounds_toArray, List.set_cons_zero, List.set_cons_succ]
      refine wpAnyH_take (i := 10) (oi := ?oi10K2) (v := ?v10K2) ?hi10K2 (by kernel_rfl) (by kernel_rfl) (by kernel_rfl) ?hq10K2 (Or.inl ⟨?hw10K2, ?hy10K2⟩) (by assumption) ?rest10K2
      case hi10K2 => (simp only [List.getElem?_toArray, List.getElem?_cons_succ, List.getElem?_cons_zero]; rfl)
      case hq10K2 => exact fun _ _ _ h => h
      case hw10K2 => rfl
      case hy10K2 => (intro w hSw; (try dsimp only at hSw); go_simp <;> with_reducible rfl)
      try simp only [Act.put, List.setIfInBounds_toArray, List.set_cons_zero, List.set_cons_succ]
      refine wpAnyH_take (i := 11) (oi := ?oi11K2) (v := ?v11K2) ?hi11K2 (by kernel_rfl) (by kernel_rfl) (by kernel_rfl) ?hq11K2 (Or.inl ⟨?hw11K2, ?hy11K2⟩) (by assumption) ?rest11K2
      case hi11K2 => (simp only [List.getElem?_toArray, List.getElem?_cons_succ, List.getElem?_cons_zero]; rfl)
      case hq11K2 => exact fun _ _ _ h => h
      case hw11K2 => rfl
      case hy11K2 => (intro w hSw; (try dsimp only at hSw); go_simp <;> with_reducible rfl)
      try simp only [Act.put, List.setIfInBounds_toArray, List.set_cons_zero, List.set_cons_succ]
      refine wpAnyH_take (i := 12) (oi := ?oi12K2) (v := ?v12K2) ?hi12K2 (by kernel_rfl) (by kernel_rfl) (by kernel_rfl) ?hq12K2 (Or.inl ⟨?hw12K2, ?hy12K2⟩) (by assumption) ?rest12K2
      case hi12K2 => (simp only [List.getElem?_toArray, List.getElem?_cons_succ, List.getElem?_cons_zero]; rfl)
      case hq12K2 => exact fun _ _ _ h => h
      case hw12K2 => rfl
      case hy12K2 => (intro w hSw; (try dsimp only at hSw); go_simp <;> with_reducible rfl)
      try simp only [Act.put, List.setIfInBounds_toArray, List.set_cons_zero, List.set_cons_succ]
      refine wpAnyH_done (by kernel_rfl) ?_ _
      go_wp2
      go_ret2
      exact ⟨rfl, hb2⟩
    · skip
      go_enter Tryz.func49, Tryz.ntmps49
      go_wp2_with fail
      refine (change_any w.heap.size 3 _).mono ?_
      rintro e w1 ⟨rfl, hx1⟩
      have hb1 := hb0.trans (hx1.mono hb0.size)
      rw [show chgV w.heap.size 3 = .agg #[.pointer (some ⟨w.heap.size, 1, none⟩), .pointer (some ⟨w.heap.size, 0, none⟩), .pointer none] from rfl]
      have hbc := Blk.new w1 123 #[.pointer (some ⟨w.heap.size, 1, none⟩), .pointer (some ⟨w.heap.size, 0, none⟩), .pointer none]
      have hb2 := Below.drew (hb1.alloc hb1.size (.cells #[.pointer (some ⟨w.heap.size, 1, none⟩), .pointer (some ⟨w.heap.size, 0, none⟩), .pointer none] 123))
      go_wp2_with fail
      refine wp_region_held_drew (S := (fun w' => w'.cell? ⟨w1.heap.size, 0, none⟩ = some (.pointer (some ⟨w.heap.size, 1, none⟩)) ∧ w'.cell? ⟨w1.heap.size, 1, none⟩ = some (.pointer (some ⟨w.heap.size, 0, none⟩)) ∧ w'.cell? ⟨w1.heap.size, 2, none⟩ = some (.pointer none))) (by kernel_rfl) ⟨hbc.cell 0, hbc.cell 1, hbc.cell 2⟩ (fun hHeld => ?_)
      refine wpAnyH_take (i := 0) (oi := ?oi0K3) (v := ?v0K3) ?hi0K3 (by kernel_rfl) (by kernel_rfl) (by kernel_rfl) ?hq0K3 (Or.inl ⟨?hw0K3, ?hy0K3⟩) (by assumption) ?rest0K3
      case hi0K3 => (simp only [List.getElem?_toArray, List.getElem?_cons_succ, List.getElem?_cons_zero]; rfl)
      case hq0K3 => exact fun _ _ _ h => h
      case hw0K3 => rfl
      case hy0K3 => (intro w hSw; (try dsimp only at hSw); go_simp <;> with_reducible rfl)
      try simp only [Act.put, List.setIfInBounds_toArray, List.set_cons_zero, List.set_cons_succ]
      refine wpAnyH_take (i := 1) (oi := ?oi1K3) (v := ?v1K3) ?hi1K3 (by kernel_rfl) (by kernel_rfl) (by kernel_rfl) ?hq1K3 (Or.inl ⟨?hw1K3, ?hy1K3⟩) (by assumption) ?rest1K3
      case hi1K3 => (simp only [List.getElem?_toArray, List.getElem?_cons_succ, List.getElem?_cons_zero]; rfl)
      case hq1K3 => exact fun _ _ _ h => h
      case hw1K3 => rfl
      case hy1K3 => (intro w hSw; (try dsimp only at hSw); go_simp <;> with_reducible rfl)
      try simp only [Act.put, List.setIfInBounds_toArray, List.set_cons_zero, List.set_cons_succ]
      refine wpAnyH_take (i := 2) (oi := ?oi2K3) (v := ?v2K3) ?hi2K3 (by kernel_rfl) (by kernel_rfl) (by kernel_rfl) ?hq2K3 (Or.inl ⟨?hw2K3, ?hy2K3⟩) (by assumption) ?rest2K3
      case hi2K3 => (simp only [List.getElem?_toArray, List.getElem?_cons_succ, List.getElem?_cons_zero]; rfl)
      case hq2K3 => exact fun _ _ _ h => h
      case hw2K3 => rfl
      case hy2K3 => (intro w hSw; (try dsimp only at hSw); go_simp <;> with_reducible rfl)
      try simp only [Act.put, List.setIfInBounds_toArray, List.set_cons_zero, List.set_cons_succ]
      refine wpAnyH_take (i := 3) (oi := ?oi3K3) (v := ?v3K3) ?hi3K3 (by kernel_rfl) (by kernel_rfl) (by kernel_rfl) ?hq3K3 (Or.inl ⟨?hw3K3, ?hy3K3⟩) (by assumption) ?rest3K3
      case hi3K3 => (simp only [List.getElem?_toArray, List.getElem?_cons_succ, List.getElem?_cons_zero]; rfl)
      case hq3K3 => exact fun _ _ _ h => h
      case hw3K3 => rfl
      case hy3K3 => (intro w hSw; (try dsimp only at hSw); go_simp <;> with_reducible rfl)
      try simp only [Act.put, List.setIfInBounds_toArray, List.set_cons_zero, List.set_cons_succ]
      refine wpAnyH_take (i := 4) (oi := ?oi4K3) (v := undef) ?hi4K3 (by kernel_rfl) (by kernel_rfl) (by kernel_rfl) ?hq4K3 (Or.inr ⟨?hw4K3, rfl⟩) (by assumption) ?rest4K3
      case hi4K3 => (simp only [List.getElem?_toArray, List.getElem?_cons_succ, List.getElem?_cons_zero]; rfl)
      case hq4K3 => exact fun _ _ _ h => h
      case hw4K3 => rfl
      try simp only [Act.put, List.setIfInBounds_toArray, List.set_cons_zero, List.set_cons_succ]
      refine wpAnyH_take (i := 5) (oi := ?oi5K3) (v := undef) ?hi5K3 (by kernel_rfl) (by kernel_rfl) (by kernel_rfl) ?hq5K3 (Or.inr ⟨?hw5K3, rfl⟩) (by assumption) ?rest5K3
      case hi5K3 => (simp only [List.getElem?_toArray, List.getElem?_cons_succ, List.getElem?_cons_zero]; rfl)
      case hq5K3 => exact fun _ _ _ h => h
      case hw5K3 => rfl
      try simp only [Act.put, List.setIfInBounds_toArray, List.set_cons_zero, List.set_cons_succ]
      refine wpAnyH_take (i := 6) (oi := ?oi6K3) (v := undef) ?hi6K3 (by kernel_rfl) (by kernel_rfl) (by kernel_rfl) ?hq6K3 (Or.inr ⟨?hw6K3, rfl⟩) (by assumption) ?rest6K3
      case hi6K3 => (simp only [List.getElem?_toArray, List.getElem?_cons_succ, List.getElem?_cons_zero]; rfl)
      case hq6K3 => exact fun _ _ _ h => h
      case hw6K3 => rfl
      try simp only [Act.put, List.setIfInBounds_toArray, List.set_cons_zero, List.set_cons_succ]
      refine wpAnyH_take (i := 7) (oi := ?oi7K3) (v := ?v7K3) ?hi7K3 (by kernel_rfl) (by kernel_rfl) (by kernel_rfl) ?hq7K3 (Or.inl ⟨?hw7K3, ?hy7K3⟩) (by assumption) ?rest7K3
      case hi7K3 => (simp only [List.getElem?_toArray, List.getElem?_cons_succ, List.getElem?_cons_zero]; rfl)
      case hq7K3 => exact fun _ _ _ h => h
      case hw7K3 => rfl
      case hy7K3 => (intro w hSw; (try dsimp only at hSw); go_simp <;> with_reducible rfl)
      try simp only [Act.put, List.setIfInBounds_toArray, List.set_cons_zero, List.set_cons_succ]
      refine wpAnyH_take (i := 8) (oi := ?oi8K3) (v := ?v8K3) ?hi8K3 (by kernel_rfl) (by kernel_rfl) (by kernel_rfl) ?hq8K3 (Or.inl ⟨?hw8K3, ?hy8K3⟩) (by assumption) ?rest8K3
      case hi8K3 => (simp only [List.getElem?_toArray, List.getElem?_cons_succ, List.getElem?_cons_zero]; rfl)
      case hq8K3 => exact fun _ _ _ h => h
      case hw8K3 => rfl
      case hy8K3 => (intro w hSw; (try dsimp only at hSw); go_simp <;> with_reducible rfl)
      try simp only [Act.put, List.setIfInBounds_toArray, List.set_cons_zero, List.set_cons_succ]
      refine wpAnyH_take (i := 9) (oi := ?oi9K3) (v := ?v9K3) ?hi9K3 (by kernel_rfl) (by kernel_rfl) (by kernel_rfl) ?hq9K3 (Or.inl ⟨?hw9K3, ?hy9K3⟩) (by assumption) ?rest9K3
      case hi9K3 => (simp only [List.getElem?_toArray, List.getElem?_cons_succ, List.getElem?_cons_zero]; rfl)
      case hq9K3 => exact fun _ _ _ h => h
      case hw9K3 => rfl
      case hy9K3 => (intro w hSw; (try dsimp only at hSw); go_simp <;> with_reducible rfl)
      try simp only [Act.put, List.setIfInBounds_toArray, List.set_cons_zero, List.set_cons_succ]
      refine wpAnyH_take (i := 10) (oi := ?oi10K3) (v := ?v10K3) ?hi10K3 (by kernel_rfl) (by kernel_rfl) (by kernel_rfl) ?hq10K3 (Or.inl ⟨?hw10K3, ?hy10K3⟩) (by assumption) ?rest10K3
      case hi10K3 => (simp only [List.getElem?_toArray, List.getElem?_cons_succ, List.getElem?_cons_zero]; rfl)
      case hq10K3 => exact fun _ _ _ h => h
      case hw10K3 => rfl
      case hy10K3 => (intro w hSw; (try dsimp only at hSw); go_simp <;> with_reducible rfl)
      try simp only [Act.put, List.setIfInBounds_toArray, List.set_cons_zero, List.set_cons_succ]
      refine wpAnyH_take (i := 11) (oi := ?oi11K3) (v := ?v11K3) ?hi11K3 (by kernel_rfl) (by kernel_rfl) (by kernel_rfl) ?hq11K3 (Or.inl ⟨?hw11K3, ?hy11K3⟩) (by assumption) ?rest11K3
      case hi11K3 => (simp only [List.getElem?_toArray, List.getElem?_cons_succ, List.getElem?_cons_zero]; rfl)
      case hq11K3 => exact fun _ _ _ h => h
      case hw11K3 => rfl
      case hy11K3 => (intro w hSw; (try dsimp only at hSw); go_simp <;> with_reducible rfl)
      try simp only [Act.put, List.setIfInBounds_toArray, List.set_cons_zero, List.set_cons_succ]
      refine wpAnyH_take (i := 12) (oi := ?oi12K3) (v := ?v12K3) ?hi12K3 (by kernel_rfl) (by kernel_rfl) (by kernel_rfl) ?hq12K3 (Or.inl ⟨?hw12K3, ?hy12K3⟩) (by assumption) ?rest12K3
      case hi12K3 => (simp only [List.getElem?_toArray, List.getElem?_cons_succ, List.getElem?_cons_zero]; rfl)
      case hq12K3 => exact fun _ _ _ h => h
      case hw12K3 => rfl
      case hy12K3 => (intro w hSw; (try dsimp only at hSw); go_simp <;> with_reducible rfl)
      try simp only [Act.put, List.setIfInBounds_toArray, List.set_cons_zero, List.set_cons_succ]
      refine wpAnyH_done (by kernel_rfl) ?_ _
      go_wp2
      go_ret2
      exact ⟨rfl, hb2⟩
    · skip
      go_enter Tryz.func49, Tryz.ntmps49
      go_wp2_with fail
      refine (change_any w.heap.size 4 _).mono ?_
      rintro e w1 ⟨rfl, hx1⟩
      have hb1 := hb0.trans (hx1.mono hb0.size)
      rw [show chgV w.heap.size 4 = .agg #[.pointer (some ⟨w.heap.size, 1, none⟩), .pointer (some ⟨w.heap.size, 2, none⟩), .pointer none] from rfl]
      have hbc := Blk.new w1 123 #[.pointer (some ⟨w.heap.size, 1, none⟩), .pointer (some ⟨w.heap.size, 2, none⟩), .pointer none]
      have hb2 := Below.drew (hb1.alloc hb1.size (.cells #[.pointer (some ⟨w.heap.size, 1, none⟩), .pointer (some ⟨w.heap.size, 2, none⟩), .pointer none] 123))
      go_wp2_with fail
      refine wp_region_held_drew (S := (fun w' => w'.cell? ⟨w1.heap.size, 0, none⟩ = some (.pointer (some ⟨w.heap.size, 1, none⟩)) ∧ w'.cell? ⟨w1.heap.size, 1, none⟩ = some (.pointer (some ⟨w.heap.size, 2, none⟩)) ∧ w'.cell? ⟨w1.heap.size, 2, none⟩ = some (.pointer none))) (by kernel_rfl) ⟨hbc.cell 0, hbc.cell 1, hbc.cell 2⟩ (fun hHeld => ?_)
      refine wpAnyH_take (i := 0) (oi := ?oi0K4) (v := ?v0K4) ?hi0K4 (by kernel_rfl) (by kernel_rfl) (by kernel_rfl) ?hq0K4 (Or.inl ⟨?hw0K4, ?hy0K4⟩) (by assumption) ?rest0K4
      case hi0K4 => (simp only [List.getElem?_toArray, List.getElem?_cons_succ, List.getElem?_cons_zero]; rfl)
      case hq0K4 => exact fun _ _ _ h => h
      case hw0K4 => rfl
      case hy0K4 => (intro w hSw; (try dsimp only at hSw); go_simp <;> with_reducible rfl)
      try simp only [Act.put, List.setIfInBounds_toArray, List.set_cons_zero, List.set_cons_succ]
      refine wpAnyH_take (i := 1) (oi := ?oi1K4) (v := ?v1K4) ?hi1K4 (by kernel_rfl) (by kernel_rfl) (by kernel_rfl) ?hq1K4 (Or.inl ⟨?hw1K4, ?hy1K4⟩) (by assumption) ?rest1K4
      case hi1K4 => (simp only [List.getElem?_toArray, List.getElem?_cons_succ, List.getElem?_cons_zero]; rfl)
      case hq1K4 => exact fun _ _ _ h => h
      case hw1K4 => rfl
      case hy1K4 => (intro w hSw; (try dsimp only at hSw); go_simp <;> with_reducible rfl)
      try simp only [Act.put, List.setIfInBounds_toArray, List.set_cons_zero, List.set_cons_succ]
      refine wpAnyH_take (i := 2) (oi := ?oi2K4) (v := ?v2K4) ?hi2K4 (by kernel_rfl) (by kernel_rfl) (by kernel_rfl) ?hq2K4 (Or.inl ⟨?hw2K4, ?hy2K4⟩) (by assumption) ?rest2K4
      case hi2K4 => (simp only [List.getElem?_toArray, List.getElem?_cons_succ, List.getElem?_cons_zero]; rfl)
      case hq2K4 => exact fun _ _ _ h => h
      case hw2K4 => rfl
      case hy2K4 => (intro w hSw; (try dsimp only at hSw); go_simp <;> with_reducible rfl)
      try simp only [Act.put, List.setIfInBounds_toArray, List.set_cons_zero, List.set_cons_succ]
      refine wpAnyH_take (i := 3) (oi := ?oi3K4) (v := ?v3K4) ?hi3K4 (by kernel_rfl) (by kernel_rfl) (by kernel_rfl) ?hq3K4 (Or.inl ⟨?hw3K4, ?hy3K4⟩) (by assumption) ?rest3K4
      case hi3K4 => (simp only [List.getElem?_toArray, List.getElem?_cons_succ, List.getElem?_cons_zero]; rfl)
      case hq3K4 => exact fun _ _ _ h => h
      case hw3K4 => rfl
      case hy3K4 => (intro w hSw; (try dsimp only at hSw); go_simp <;> with_reducible rfl)
      try simp only [Act.put, List.setIfInBounds_toArray, List.set_cons_zero, List.set_cons_succ]
      refine wpAnyH_take (i := 4) (oi := ?oi4K4) (v := undef) ?hi4K4 (by kernel_rfl) (by kernel_rfl) (by kernel_rfl) ?hq4K4 (Or.inr ⟨?hw4K4, rfl⟩) (by assumption) ?rest4K4
      case hi4K4 => (simp only [List.getElem?_toArray, List.getElem?_cons_succ, List.getElem?_cons_zero]; rfl)
      case hq4K4 => exact fun _ _ _ h => h
      case hw4K4 => rfl
      try simp only [Act.put, List.setIfInBounds_toArray, List.set_cons_zero, List.set_cons_succ]
      refine wpAnyH_take (i := 5) (oi := ?oi5K4) (v := undef) ?hi5K4 (by kernel_rfl) (by kernel_rfl) (by kernel_rfl) ?hq5K4 (Or.inr ⟨?hw5K4, rfl⟩) (by assumption) ?rest5K4
      case hi5K4 => (simp only [List.getElem?_toArray, List.getElem?_cons_succ, List.getElem?_cons_zero]; rfl)
      case hq5K4 => exact fun _ _ _ h => h
      case hw5K4 => rfl
      try simp only [Act.put, List.setIfInBounds_toArray, List.set_cons_zero, List.set_cons_succ]
      refine wpAnyH_take (i := 6) (oi := ?oi6K4) (v := undef) ?hi6K4 (by kernel_rfl) (by kernel_rfl) (by kernel_rfl) ?hq6K4 (Or.inr ⟨?hw6K4, rfl⟩) (by assumption) ?rest6K4
      case hi6K4 => (simp only [List.getElem?_toArray, List.getElem?_cons_succ, List.getElem?_cons_zero]; rfl)
      case hq6K4 => exact fun _ _ _ h => h
      case hw6K4 => rfl
      try simp only [Act.put, List.setIfInBounds_toArray, List.set_cons_zero, List.set_cons_succ]
      refine wpAnyH_take (i := 7) (oi := ?oi7K4) (v := ?v7K4) ?hi7K4 (by kernel_rfl) (by kernel_rfl) (by kernel_rfl) ?hq7K4 (Or.inl ⟨?hw7K4, ?hy7K4⟩) (by assumption) ?rest7K4
      case hi7K4 => (simp only [List.getElem?_toArray, List.getElem?_cons_succ, List.getElem?_cons_zero]; rfl)
      case hq7K4 => exact fun _ _ _ h => h
      case hw7K4 => rfl
      case hy7K4 => (intro w hSw; (try dsimp only at hSw); go_simp <;> with_reducible rfl)
      try simp only [Act.put, List.setIfInBounds_toArray, List.set_cons_zero, List.set_cons_succ]
      refine wpAnyH_take (i := 8) (oi := ?oi8K4) (v := ?v8K4) ?hi8K4 (by kernel_rfl) (by kernel_rfl) (by kernel_rfl) ?hq8K4 (Or.inl ⟨?hw8K4, ?hy8K4⟩) (by assumption) ?rest8K4
      case hi8K4 => (simp only [List.getElem?_toArray, List.getElem?_cons_succ, List.getElem?_cons_zero]; rfl)
      case hq8K4 => exact fun _ _ _ h => h
      case hw8K4 => rfl
      case hy8K4 => (intro w hSw; (try dsimp only at hSw); go_simp <;> with_reducible rfl)
      try simp only [Act.put, List.setIfInBounds_toArray, List.set_cons_zero, List.set_cons_succ]
      refine wpAnyH_take (i := 9) (oi := ?oi9K4) (v := ?v9K4) ?hi9K4 (by kernel_rfl) (by kernel_rfl) (by kernel_rfl) ?hq9K4 (Or.inl ⟨?hw9K4, ?hy9K4⟩) (by assumption) ?rest9K4
      case hi9K4 => (simp only [List.getElem?_toArray, List.getElem?_cons_succ, List.getElem?_cons_zero]; rfl)
      case hq9K4 => exact fun _ _ _ h => h
      case hw9K4 => rfl
      case hy9K4 => (intro w hSw; (try dsimp only at hSw); go_simp <;> with_reducible rfl)
      try simp only [Act.put, List.setIfInBounds_toArray, List.set_cons_zero, List.set_cons_succ]
      refine wpAnyH_take (i := 10) (oi := ?oi10K4) (v := ?v10K4) ?hi10K4 (by kernel_rfl) (by kernel_rfl) (by kernel_rfl) ?hq10K4 (Or.inl ⟨?hw10K4, ?hy10K4⟩) (by assumption) ?rest10K4
      case hi10K4 => (simp only [List.getElem?_toArray, List.getElem?_cons_succ, List.getElem?_cons_zero]; rfl)
      case hq10K4 => exact fun _ _ _ h => h
      case hw10K4 => rfl
      case hy10K4 => (intro w hSw; (try dsimp only at hSw); go_simp <;> with_reducible rfl)
      try simp only [Act.put, List.setIfInBounds_toArray, List.set_cons_zero, List.set_cons_succ]
      refine wpAnyH_take (i := 11) (oi := ?oi11K4) (v := ?v11K4) ?hi11K4 (by kernel_rfl) (by kernel_rfl) (by kernel_rfl) ?hq11K4 (Or.inl ⟨?hw11K4, ?hy11K4⟩) (by assumption) ?rest11K4
      case hi11K4 => (simp only [List.getElem?_toArray, List.getElem?_cons_succ, List.getElem?_cons_zero]; rfl)
      case hq11K4 => exact fun _ _ _ h => h
      case hw11K4 => rfl
      case hy11K4 => (intro w hSw; (try dsimp only at hSw); go_simp <;> with_reducible rfl)
      try simp only [Act.put, List.setIfInBounds_toArray, List.set_cons_zero, List.set_cons_succ]
      refine wpAnyH_take (i := 12) (oi := ?oi12K4) (v := ?v12K4) ?hi12K4 (by kernel_rfl) (by kernel_rfl) (by kernel_rfl) ?hq12K4 (Or.inl ⟨?hw12K4, ?hy12K4⟩) (by assumption) ?rest12K4
      case hi12K4 => (simp only [List.getElem?_toArray, List.getElem?_cons_succ, List.getElem?_cons_zero]; rfl)
      case hq12K4 => exact fun _ _ _ h => h
      case hw12K4 => rfl
      case hy12K4 => (intro w hSw; (try dsimp only at hSw); go_simp <;> with_reducible rfl)
      try simp only [Act.put, List.setIfInBounds_toArray, List.set_cons_zero, List.set_cons_succ]
      refine wpAnyH_done (by kernel_rfl) ?_ _
      go_wp2
      go_ret2
      exact ⟨rfl, hb2⟩
    · skip
      go_enter Tryz.func49, Tryz.ntmps49
      go_wp2_with fail
      refine (change_any w.heap.size 5 _).mono ?_
      rintro e w1 ⟨rfl, hx1⟩
      have hb1 := hb0.trans (hx1.mono hb0.size)
      rw [show chgV w.heap.size 5 = .agg #[.pointer (some ⟨w.heap.size, 2, none⟩), .pointer (some ⟨w.heap.size, 1, none⟩), .pointer none] from rfl]
      have hbc := Blk.new w1 123 #[.pointer (some ⟨w.heap.size, 2, none⟩), .pointer (some ⟨w.heap.size, 1, none⟩), .pointer none]
      have hb2 := Below.drew (hb1.alloc hb1.size (.cells #[.pointer (some ⟨w.heap.size, 2, none⟩), .pointer (some ⟨w.heap.size, 1, none⟩), .pointer none] 123))
      go_wp2_with fail
      refine wp_region_held_drew (S := (fun w' => w'.cell? ⟨w1.heap.size, 0, none⟩ = some (.pointer (some ⟨w.heap.size, 2, none⟩)) ∧ w'.cell? ⟨w1.heap.size, 1, none⟩ = some (.pointer (some ⟨w.heap.size, 1, none⟩)) ∧ w'.cell? ⟨w1.heap.size, 2, none⟩ = some (.pointer none))) (by kernel_rfl) ⟨hbc.cell 0, hbc.cell 1, hbc.cell 2⟩ (fun hHeld => ?_)
      refine wpAnyH_take (i := 0) (oi := ?oi0K5) (v := ?v0K5) ?hi0K5 (by kernel_rfl) (by kernel_rfl) (by kernel_rfl) ?hq0K5 (Or.inl ⟨?hw0K5, ?hy0K5⟩) (by assumption) ?rest0K5
      case hi0K5 => (simp only [List.getElem?_toArray, List.getElem?_cons_succ, List.getElem?_cons_zero]; rfl)
      case hq0K5 => exact fun _ _ _ h => h
      case hw0K5 => rfl
      case hy0K5 => (intro w hSw; (try dsimp only at hSw); go_simp <;> with_reducible rfl)
      try simp only [Act.put, List.setIfInBounds_toArray, List.set_cons_zero, List.set_cons_succ]
      refine wpAnyH_take (i := 1) (oi := ?oi1K5) (v := ?v1K5) ?hi1K5 (by kernel_rfl) (by kernel_rfl) (by kernel_rfl) ?hq1K5 (Or.inl ⟨?hw1K5, ?hy1K5⟩) (by assumption) ?rest1K5
      case hi1K5 => (simp only [List.getElem?_toArray, List.getElem?_cons_succ, List.getElem?_cons_zero]; rfl)
      case hq1K5 => exact fun _ _ _ h => h
      case hw1K5 => rfl
      case hy1K5 => (intro w hSw; (try dsimp only at hSw); go_simp <;> with_reducible rfl)
      try simp only [Act.put, List.setIfInBounds_toArray, List.set_cons_zero, List.set_cons_succ]
      refine wpAnyH_take (i := 2) (oi := ?oi2K5) (v := ?v2K5) ?hi2K5 (by kernel_rfl) (by kernel_rfl) (by kernel_rfl) ?hq2K5 (Or.inl ⟨?hw2K5, ?hy2K5⟩) (by assumption) ?rest2K5
      case hi2K5 => (simp only [List.getElem?_toArray, List.getElem?_cons_succ, List.getElem?_cons_zero]; rfl)
      case hq2K5 => exact fun _ _ _ h => h
      case hw2K5 => rfl
      case hy2K5 => (intro w hSw; (try dsimp only at hSw); go_simp <;> with_reducible rfl)
      try simp only [Act.put, List.setIfInBounds_toArray, List.set_cons_zero, List.set_cons_succ]
      refine wpAnyH_take (i := 3) (oi := ?oi3K5) (v := ?v3K5) ?hi3K5 (by kernel_rfl) (by kernel_rfl) (by kernel_rfl) ?hq3K5 (Or.inl ⟨?hw3K5, ?hy3K5⟩) (by assumption) ?rest3K5
      case hi3K5 => (simp only [List.getElem?_toArray, List.getElem?_cons_succ, List.getElem?_cons_zero]; rfl)
      case hq3K5 => exact fun _ _ _ h => h
      case hw3K5 => rfl
      case hy3K5 => (intro w hSw; (try dsimp only at hSw); go_simp <;> with_reducible rfl)
      try simp only [Act.put, List.setIfInBounds_toArray, List.set_cons_zero, List.set_cons_succ]
      refine wpAnyH_take (i := 4) (oi := ?oi4K5) (v := undef) ?hi4K5 (by kernel_rfl) (by kernel_rfl) (by kernel_rfl) ?hq4K5 (Or.inr ⟨?hw4K5, rfl⟩) (by assumption) ?rest4K5
      case hi4K5 => (simp only [List.getElem?_toArray, List.getElem?_cons_succ, List.getElem?_cons_zero]; rfl)
      case hq4K5 => exact fun _ _ _ h => h
      case hw4K5 => rfl
      try simp only [Act.put, List.setIfInBounds_toArray, List.set_cons_zero, List.set_cons_succ]
      refine wpAnyH_take (i := 5) (oi := ?oi5K5) (v := undef) ?hi5K5 (by kernel_rfl) (by kernel_rfl) (by kernel_rfl) ?hq5K5 (Or.inr ⟨?hw5K5, rfl⟩) (by assumption) ?rest5K5
      case hi5K5 => (simp only [List.getElem?_toArray, List.getElem?_cons_succ, List.getElem?_cons_zero]; rfl)
      case hq5K5 => exact fun _ _ _ h => h
      case hw5K5 => rfl
      try simp only [Act.put, List.setIfInBounds_toArray, List.set_cons_zero, List.set_cons_succ]
      refine wpAnyH_take (i := 6) (oi := ?oi6K5) (v := undef) ?hi6K5 (by kernel_rfl) (by kernel_rfl) (by kernel_rfl) ?hq6K5 (Or.inr ⟨?hw6K5, rfl⟩) (by assumption) ?rest6K5
      case hi6K5 => (simp only [List.getElem?_toArray, List.getElem?_cons_succ, List.getElem?_cons_zero]; rfl)
      case hq6K5 => exact fun _ _ _ h => h
      case hw6K5 => rfl
      try simp only [Act.put, List.setIfInBounds_toArray, List.set_cons_zero, List.set_cons_succ]
      refine wpAnyH_take (i := 7) (oi := ?oi7K5) (v := ?v7K5) ?hi7K5 (by kernel_rfl) (by kernel_rfl) (by kernel_rfl) ?hq7K5 (Or.inl ⟨?hw7K5, ?hy7K5⟩) (by assumption) ?rest7K5
      case hi7K5 => (simp only [List.getElem?_toArray, List.getElem?_cons_succ, List.getElem?_cons_zero]; rfl)
      case hq7K5 => exact fun _ _ _ h => h
      case hw7K5 => rfl
      case hy7K5 => (intro w hSw; (try dsimp only at hSw); go_simp <;> with_reducible rfl)
      try simp only [Act.put, List.setIfInBounds_toArray, List.set_cons_zero, List.set_cons_succ]
      refine wpAnyH_take (i := 8) (oi := ?oi8K5) (v := ?v8K5) ?hi8K5 (by kernel_rfl) (by kernel_rfl) (by kernel_rfl) ?hq8K5 (Or.inl ⟨?hw8K5, ?hy8K5⟩) (by assumption) ?rest8K5
      case hi8K5 => (simp only [List.getElem?_toArray, List.getElem?_cons_succ, List.getElem?_cons_zero]; rfl)
      case hq8K5 => exact fun _ _ _ h => h
      case hw8K5 => rfl
      case hy8K5 => (intro w hSw; (try dsimp only at hSw); go_simp <;> with_reducible rfl)
      try simp only [Act.put, List.setIfInBounds_toArray, List.set_cons_zero, List.set_cons_succ]
      refine wpAnyH_take (i := 9) (oi := ?oi9K5) (v := ?v9K5) ?hi9K5 (by kernel_rfl) (by kernel_rfl) (by kernel_rfl) ?hq9K5 (Or.inl ⟨?hw9K5, ?hy9K5⟩) (by assumption) ?rest9K5
      case hi9K5 => (simp only [List.getElem?_toArray, List.getElem?_cons_succ, List.getElem?_cons_zero]; rfl)
      case hq9K5 => exact fun _ _ _ h => h
      case hw9K5 => rfl
      case hy9K5 => (intro w hSw; (try dsimp only at hSw); go_simp <;> with_reducible rfl)
      try simp only [Act.put, List.setIfInBounds_toArray, List.set_cons_zero, List.set_cons_succ]
      refine wpAnyH_take (i := 10) (oi := ?oi10K5) (v := ?v10K5) ?hi10K5 (by kernel_rfl) (by kernel_rfl) (by kernel_rfl) ?hq10K5 (Or.inl ⟨?hw10K5, ?hy10K5⟩) (by assumption) ?rest10K5
      case hi10K5 => (simp only [List.getElem?_toArray, List.getElem?_cons_succ, List.getElem?_cons_zero]; rfl)
      case hq10K5 => exact fun _ _ _ h => h
      case hw10K5 => rfl
      case hy10K5 => (intro w hSw; (try dsimp only at hSw); go_simp <;> with_reducible rfl)
      try simp only [Act.put, List.setIfInBounds_toArray, List.set_cons_zero, List.set_cons_succ]
      refine wpAnyH_take (i := 11) (oi := ?oi11K5) (v := ?v11K5) ?hi11K5 (by kernel_rfl) (by kernel_rfl) (by kernel_rfl) ?hq11K5 (Or.inl ⟨?hw11K5, ?hy11K5⟩) (by assumption) ?rest11K5
      case hi11K5 => (simp only [List.getElem?_toArray, List.getElem?_cons_succ, List.getElem?_cons_zero]; rfl)
      case hq11K5 => exact fun _ _ _ h => h
      case hw11K5 => rfl
      case hy11K5 => (intro w hSw; (try dsimp only at hSw); go_simp <;> with_reducible rfl)
      try simp only [Act.put, List.setIfInBounds_toArray, List.set_cons_zero, List.set_cons_succ]
      refine wpAnyH_take (i := 12) (oi := ?oi12K5) (v := ?v12K5) ?hi12K5 (by kernel_rfl) (by kernel_rfl) (by kernel_rfl) ?hq12K5 (Or.inl ⟨?hw12K5, ?hy12K5⟩) (by assumption) ?rest12K5
      case hi12K5 => (simp only [List.getElem?_toArray, List.getElem?_cons_succ, List.getElem?_cons_zero]; rfl)
      case hq12K5 => exact fun _ _ _ h => h
      case hw12K5 => rfl
      case hy12K5 => (intro w hSw; (try dsimp only at hSw); go_simp <;> with_reducible rfl)
      try simp only [Act.put, List.setIfInBounds_toArray, List.set_cons_zero, List.set_cons_succ]
      refine wpAnyH_done (by kernel_rfl) ?_ _
      go_wp2
      go_ret2
      exact ⟨rfl, hb2⟩
    · skip
      go_enter Tryz.func49, Tryz.ntmps49
      go_wp2_with fail
      refine (change_any w.heap.size 6 _).mono ?_
      rintro e w1 ⟨rfl, hx1⟩
      have hb1 := hb0.trans (hx1.mono hb0.size)
      rw [show chgV w.heap.size 6 = .agg #[.pointer (some ⟨w.heap.size, 2, none⟩), .pointer none, .pointer (some ⟨w.heap.size, 8, none⟩)] from rfl]
      have hbc := Blk.new w1 123 #[.pointer (some ⟨w.heap.size, 2, none⟩), .pointer none, .pointer (some ⟨w.heap.size, 8, none⟩)]
      have hb2 := Below.drew (hb1.alloc hb1.size (.cells #[.pointer (some ⟨w.heap.size, 2, none⟩), .pointer none, .pointer (some ⟨w.heap.size, 8, none⟩)] 123))
      go_wp2_with fail
      refine wp_region_held_drew (S := (fun w' => w'.cell? ⟨w1.heap.size, 0, none⟩ = some (.pointer (some ⟨w.heap.size, 2, none⟩)) ∧ w'.cell? ⟨w1.heap.size, 1, none⟩ = some (.pointer none) ∧ w'.cell? ⟨w1.heap.size, 2, none⟩ = some (.pointer (some ⟨w.heap.size, 8, none⟩)))) (by kernel_rfl) ⟨hbc.cell 0, hbc.cell 1, hbc.cell 2⟩ (fun hHeld => ?_)
      refine wpAnyH_take (i := 0) (oi := ?oi0K6) (v := ?v0K6) ?hi0K6 (by kernel_rfl) (by kernel_rfl) (by kernel_rfl) ?hq0K6 (Or.inl ⟨?hw0K6, ?hy0K6⟩) (by assumption) ?rest0K6
      case hi0K6 => (simp only [List.getElem?_toArray, List.getElem?_cons_succ, List.getElem?_cons_zero]; rfl)
      case hq0K6 => exact fun _ _ _ h => h
      case hw0K6 => rfl
      case hy0K6 => (intro w hSw; (try dsimp only at hSw); go_simp <;> with_reducible rfl)
      try simp only [Act.put, List.setIfInBounds_toArray, List.set_cons_zero, List.set_cons_succ]
      refine wpAnyH_take (i := 1) (oi := ?oi1K6) (v := ?v1K6) ?hi1K6 (by kernel_rfl) (by kernel_rfl) (by kernel_rfl) ?hq1K6 (Or.inl ⟨?hw1K6, ?hy1K6⟩) (by assumption) ?rest1K6
      case hi1K6 => (simp only [List.getElem?_toArray, List.getElem?_cons_succ, List.getElem?_cons_zero]; rfl)
      case hq1K6 => exact fun _ _ _ h => h
      case hw1K6 => rfl
      case hy1K6 => (intro w hSw; (try dsimp only at hSw); go_simp <;> with_reducible rfl)
      try simp only [Act.put, List.setIfInBounds_toArray, List.set_cons_zero, List.set_cons_succ]
      refine wpAnyH_take (i := 2) (oi := ?oi2K6) (v := ?v2K6) ?hi2K6 (by kernel_rfl) (by kernel_rfl) (by kernel_rfl) ?hq2K6 (Or.inl ⟨?hw2K6, ?hy2K6⟩) (by assumption) ?rest2K6
      case hi2K6 => (simp only [List.getElem?_toArray, List.getElem?_cons_succ, List.getElem?_cons_zero]; rfl)
      case hq2K6 => exact fun _ _ _ h => h
      case hw2K6 => rfl
      case hy2K6 => (intro w hSw; (try dsimp only at hSw); go_simp <;> with_reducible rfl)
      try simp only [Act.put, List.setIfInBounds_toArray, List.set_cons_zero, List.set_cons_succ]
      refine wpAnyH_take (i := 3) (oi := ?oi3K6) (v := ?v3K6) ?hi3K6 (by kernel_rfl) (by kernel_rfl) (by kernel_rfl) ?hq3K6 (Or.inl ⟨?hw3K6, ?hy3K6⟩) (by assumption) ?rest3K6
      case hi3K6 => (simp only [List.getElem?_toArray, List.getElem?_cons_succ, List.getElem?_cons_zero]; rfl)
      case hq3K6 => exact fun _ _ _ h => h
      case hw3K6 => rfl
      case hy3K6 => (intro w hSw; (try dsimp only at hSw); go_simp <;> with_reducible rfl)
      try simp only [Act.put, List.setIfInBounds_toArray, List.set_cons_zero, List.set_cons_succ]
      refine wpAnyH_take (i := 4) (oi := ?oi4K6) (v := undef) ?hi4K6 (by kernel_rfl) (by kernel_rfl) (by kernel_rfl) ?hq4K6 (Or.inr ⟨?hw4K6, rfl⟩) (by assumption) ?rest4K6
      case hi4K6 => (simp only [List.getElem?_toArray, List.getElem?_cons_succ, List.getElem?_cons_zero]; rfl)
      case hq4K6 => exact fun _ _ _ h => h
      case hw4K6 => rfl
      try simp only [Act.put, List.setIfInBounds_toArray, List.set_cons_zero, List.set_cons_succ]
      refine wpAnyH_take (i := 5) (oi := ?oi5K6) (v := undef) ?hi5K6 (by kernel_rfl) (by kernel_rfl) (by kernel_rfl) ?hq5K6 (Or.inr ⟨?hw5K6, rfl⟩) (by assumption) ?rest5K6
      case hi5K6 => (simp only [List.getElem?_toArray, List.getElem?_cons_succ, List.getElem?_cons_zero]; rfl)
      case hq5K6 => exact fun _ _ _ h => h
      case hw5K6 => rfl
      try simp only [Act.put, List.setIfInBounds_toArray, List.set_cons_zero, List.set_cons_succ]
      refine wpAnyH_take (i := 6) (oi := ?oi6K6) (v := undef) ?hi6K6 (by kernel_rfl) (by kernel_rfl) (by kernel_rfl) ?hq6K6 (Or.inr ⟨?hw6K6, rfl⟩) (by assumption) ?rest6K6
      case hi6K6 => (simp only [List.getElem?_toArray, List.getElem?_cons_succ, List.getElem?_cons_zero]; rfl)
      case hq6K6 => exact fun _ _ _ h => h
      case hw6K6 => rfl
      try simp only [Act.put, List.setIfInBounds_toArray, List.set_cons_zero, List.set_cons_succ]
      refine wpAnyH_take (i := 7) (oi := ?oi7K6) (v := ?v7K6) ?hi7K6 (by kernel_rfl) (by kernel_rfl) (by kernel_rfl) ?hq7K6 (Or.inl ⟨?hw7K6, ?hy7K6⟩) (by assumption) ?rest7K6
      case hi7K6 => (simp only [List.getElem?_toArray, List.getElem?_cons_succ, List.getElem?_cons_zero]; rfl)
      case hq7K6 => exact fun _ _ _ h => h
      case hw7K6 => rfl
      case hy7K6 => (intro w hSw; (try dsimp only at hSw); go_simp <;> with_reducible rfl)
      try simp only [Act.put, List.setIfInBounds_toArray, List.set_cons_zero, List.set_cons_succ]
      refine wpAnyH_take (i := 8) (oi := ?oi8K6) (v := ?v8K6) ?hi8K6 (by kernel_rfl) (by kernel_rfl) (by kernel_rfl) ?hq8K6 (Or.inl ⟨?hw8K6, ?hy8K6⟩) (by assumption) ?rest8K6
      case hi8K6 => (simp only [List.getElem?_toArray, List.getElem?_cons_succ, List.getElem?_cons_zero]; rfl)
      case hq8K6 => exact fun _ _ _ h => h
      case hw8K6 => rfl
      case hy8K6 => (intro w hSw; (try dsimp only at hSw); go_simp <;> with_reducible rfl)
      try simp only [Act.put, List.setIfInBounds_toArray, List.set_cons_zero, List.set_cons_succ]
      refine wpAnyH_take (i := 9) (oi := ?oi9K6) (v := ?v9K6) ?hi9K6 (by kernel_rfl) (by kernel_rfl) (by kernel_rfl) ?hq9K6 (Or.inl ⟨?hw9K6, ?hy9K6⟩) (by assumption) ?rest9K6
      case hi9K6 => (simp only [List.getElem?_toArray, List.getElem?_cons_succ, List.getElem?_cons_zero]; rfl)
      case hq9K6 => exact fun _ _ _ h => h
      case hw9K6 => rfl
      case hy9K6 => (intro w hSw; (try dsimp only at hSw); go_simp <;> with_reducible rfl)
      try simp only [Act.put, List.setIfInBounds_toArray, List.set_cons_zero, List.set_cons_succ]
      refine wpAnyH_take (i := 10) (oi := ?oi10K6) (v := ?v10K6) ?hi10K6 (by kernel_rfl) (by kernel_rfl) (by kernel_rfl) ?hq10K6 (Or.inl ⟨?hw10K6, ?hy10K6⟩) (by assumption) ?rest10K6
      case hi10K6 => (simp only [List.getElem?_toArray, List.getElem?_cons_succ, List.getElem?_cons_zero]; rfl)
      case hq10K6 => exact fun _ _ _ h => h
      case hw10K6 => rfl
      case hy10K6 => (intro w hSw; (try dsimp only at hSw); go_simp <;> with_reducible rfl)
      try simp only [Act.put, List.setIfInBounds_toArray, List.set_cons_zero, List.set_cons_succ]
      refine wpAnyH_take (i := 11) (oi := ?oi11K6) (v := ?v11K6) ?hi11K6 (by kernel_rfl) (by kernel_rfl) (by kernel_rfl) ?hq11K6 (Or.inl ⟨?hw11K6, ?hy11K6⟩) (by assumption) ?rest11K6
      case hi11K6 => (simp only [List.getElem?_toArray, List.getElem?_cons_succ, List.getElem?_cons_zero]; rfl)
      case hq11K6 => exact fun _ _ _ h => h
      case hw11K6 => rfl
      case hy11K6 => (intro w hSw; (try dsimp only at hSw); go_simp <;> with_reducible rfl)
      try simp only [Act.put, List.setIfInBounds_toArray, List.set_cons_zero, List.set_cons_succ]
      refine wpAnyH_take (i := 12) (oi := ?oi12K6) (v := ?v12K6) ?hi12K6 (by kernel_rfl) (by kernel_rfl) (by kernel_rfl) ?hq12K6 (Or.inl ⟨?hw12K6, ?hy12K6⟩) (by assumption) ?rest12K6
      case hi12K6 => (simp only [List.getElem?_toArray, List.getElem?_cons_succ, List.getElem?_cons_zero]; rfl)
      case hq12K6 => exact fun _ _ _ h => h
      case hw12K6 => rfl
      case hy12K6 => (intro w hSw; (try dsimp only at hSw); go_simp <;> with_reducible rfl)
      try simp only [Act.put, List.setIfInBounds_toArray, List.set_cons_zero, List.set_cons_succ]
      refine wpAnyH_done (by kernel_rfl) ?_ _
      go_wp2
      go_ret2
      exact ⟨rfl, hb2⟩
    · skip
      go_enter Tryz.func49, Tryz.ntmps49
      go_wp2_with fail
      refine (change_any w.heap.size 7 _).mono ?_
      rintro e w1 ⟨rfl, hx1⟩
      have hb1 := hb0.trans (hx1.mono hb0.size)
      rw [show chgV w.heap.size 7 = .agg #[.pointer none, .pointer (some ⟨w.heap.size, 3, none⟩), .pointer (some ⟨w.heap.size, 5, none⟩)] from rfl]
      have hbc := Blk.new w1 123 #[.pointer none, .pointer (some ⟨w.heap.size, 3, none⟩), .pointer (some ⟨w.heap.size, 5, none⟩)]
      have hb2 := Below.drew (hb1.alloc hb1.size (.cells #[.pointer none, .pointer (some ⟨w.heap.size, 3, none⟩), .pointer (some ⟨w.heap.size, 5, none⟩)] 123))
      go_wp2_with fail
      refine wp_region_held_drew (S := (fun w' => w'.cell? ⟨w1.heap.size, 0, none⟩ = some (.pointer none) ∧ w'.cell? ⟨w1.heap.size, 1, none⟩ = some (.pointer (some ⟨w.heap.size, 3, none⟩)) ∧ w'.cell? ⟨w1.heap.size, 2, none⟩ = some (.pointer (some ⟨w.heap.size, 5, none⟩)))) (by kernel_rfl) ⟨hbc.cell 0, hbc.cell 1, hbc.cell 2⟩ (fun hHeld => ?_)
      refine wpAnyH_take (i := 0) (oi := ?oi0K7) (v := ?v0K7) ?hi0K7 (by kernel_rfl) (by kernel_rfl) (by kernel_rfl) ?hq0K7 (Or.inl ⟨?hw0K7, ?hy0K7⟩) (by assumption) ?rest0K7
      case hi0K7 => (simp only [List.getElem?_toArray, List.getElem?_cons_succ, List.getElem?_cons_zero]; rfl)
      case hq0K7 => exact fun _ _ _ h => h
      case hw0K7 => rfl
      case hy0K7 => (intro w hSw; (try dsimp only at hSw); go_simp <;> with_reducible rfl)
      try simp only [Act.put, List.setIfInBounds_toArray, List.set_cons_zero, List.set_cons_succ]
      refine wpAnyH_take (i := 1) (oi := ?oi1K7) (v := ?v1K7) ?hi1K7 (by kernel_rfl) (by kernel_rfl) (by kernel_rfl) ?hq1K7 (Or.inl ⟨?hw1K7, ?hy1K7⟩) (by assumption) ?rest1K7
      case hi1K7 => (simp only [List.getElem?_toArray, List.getElem?_cons_succ, List.getElem?_cons_zero]; rfl)
      case hq1K7 => exact fun _ _ _ h => h
      case hw1K7 => rfl
      case hy1K7 => (intro w hSw; (try dsimp only at hSw); go_simp <;> with_reducible rfl)
      try simp only [Act.put, List.setIfInBounds_toArray, List.set_cons_zero, List.set_cons_succ]
      refine wpAnyH_take (i := 2) (oi := ?oi2K7) (v := ?v2K7) ?hi2K7 (by kernel_rfl) (by kernel_rfl) (by kernel_rfl) ?hq2K7 (Or.inl ⟨?hw2K7, ?hy2K7⟩) (by assumption) ?rest2K7
      case hi2K7 => (simp only [List.getElem?_toArray, List.getElem?_cons_succ, List.getElem?_cons_zero]; rfl)
      case hq2K7 => exact fun _ _ _ h => h
      case hw2K7 => rfl
      case hy2K7 => (intro w hSw; (try dsimp only at hSw); go_simp <;> with_reducible rfl)
      try simp only [Act.put, List.setIfInBounds_toArray, List.set_cons_zero, List.set_cons_succ]
      refine wpAnyH_take (i := 3) (oi := ?oi3K7) (v := ?v3K7) ?hi3K7 (by kernel_rfl) (by kernel_rfl) (by kernel_rfl) ?hq3K7 (Or.inl ⟨?hw3K7, ?hy3K7⟩) (by assumption) ?rest3K7
      case hi3K7 => (simp only [List.getElem?_toArray, List.getElem?_cons_succ, List.getElem?_cons_zero]; rfl)
      case hq3K7 => exact fun _ _ _ h => h
      case hw3K7 => rfl
      case hy3K7 => (intro w hSw; (try dsimp only at hSw); go_simp <;> with_reducible rfl)
      try simp only [Act.put, List.setIfInBounds_toArray, List.set_cons_zero, List.set_cons_succ]
      refine wpAnyH_take (i := 4) (oi := ?oi4K7) (v := ?v4K7) ?hi4K7 (by kernel_rfl) (by kernel_rfl) (by kernel_rfl) ?hq4K7 (Or.inl ⟨?hw4K7, ?hy4K7⟩) (by assumption) ?rest4K7
      case hi4K7 => (simp only [List.getElem?_toArray, List.getElem?_cons_succ, List.getElem?_cons_zero]; rfl)
      case hq4K7 => exact fun _ _ _ h => h
      case hw4K7 => rfl
      case hy4K7 => (intro w hSw; (try dsimp only at hSw); go_simp <;> with_reducible rfl)
      try simp only [Act.put, List.setIfInBounds_toArray, List.set_cons_zero, List.set_cons_succ]
      refine wpAnyH_take (i := 5) (oi := ?oi5K7) (v := ?v5K7) ?hi5K7 (by kernel_rfl) (by kernel_rfl) (by kernel_rfl) ?hq5K7 (Or.inl ⟨?hw5K7, ?hy5K7⟩) (by assumption) ?rest5K7
      case hi5K7 => (simp only [List.getElem?_toArray, List.getElem?_cons_succ, List.getElem?_cons_zero]; rfl)
      case hq5K7 => exact fun _ _ _ h => h
      case hw5K7 => rfl
      case hy5K7 => (intro w hSw; (try dsimp only at hSw); go_simp <;> with_reducible rfl)
      try simp only [Act.put, List.setIfInBounds_toArray, List.set_cons_zero, List.set_cons_succ]
      refine wpAnyH_take (i := 6) (oi := ?oi6K7) (v := ?v6K7) ?hi6K7 (by kernel_rfl) (by kernel_rfl) (by kernel_rfl) ?hq6K7 (Or.inl ⟨?hw6K7, ?hy6K7⟩) (by assumption) ?rest6K7
      case hi6K7 => (simp only [List.getElem?_toArray, List.getElem?_cons_succ, List.getElem?_cons_zero]; rfl)
      case hq6K7 => exact fun _ _ _ h => h
      case hw6K7 => rfl
      case hy6K7 => (intro w hSw; (try dsimp only at hSw); go_simp <;> with_reducible rfl)
      try simp only [Act.put, List.setIfInBounds_toArray, List.set_cons_zero, List.set_cons_succ]
      refine wpAnyH_take (i := 7) (oi := ?oi7K7) (v := ?v7K7) ?hi7K7 (by kernel_rfl) (by kernel_rfl) (by kernel_rfl) ?hq7K7 (Or.inl ⟨?hw7K7, ?hy7K7⟩) (by assumption) ?rest7K7
      case hi7K7 => (simp only [List.getElem?_toArray, List.getElem?_cons_succ, List.getElem?_cons_zero]; rfl)
      case hq7K7 => exact fun _ _ _ h => h
      case hw7K7 => rfl
      case hy7K7 => (intro w hSw; (try dsimp only at hSw); go_simp <;> with_reducible rfl)
      try simp only [Act.put, List.setIfInBounds_toArray, List.set_cons_zero, List.set_cons_succ]
      refine wpAnyH_take (i := 8) (oi := ?oi8K7) (v := ?v8K7) ?hi8K7 (by kernel_rfl) (by kernel_rfl) (by kernel_rfl) ?hq8K7 (Or.inl ⟨?hw8K7, ?hy8K7⟩) (by assumption) ?rest8K7
      case hi8K7 => (simp only [List.getElem?_toArray, List.getElem?_cons_succ, List.getElem?_cons_zero]; rfl)
      case hq8K7 => exact fun _ _ _ h => h
      case hw8K7 => rfl
      case hy8K7 => (intro w hSw; (try dsimp only at hSw); go_simp <;> with_reducible rfl)
      try simp only [Act.put, List.setIfInBounds_toArray, List.set_cons_zero, List.set_cons_succ]
      refine wpAnyH_take (i := 9) (oi := ?oi9K7) (v := ?v9K7) ?hi9K7 (by kernel_rfl) (by kernel_rfl) (by kernel_rfl) ?hq9K7 (Or.inl ⟨?hw9K7, ?hy9K7⟩) (by assumption) ?rest9K7
      case hi9K7 => (simp only [List.getElem?_toArray, List.getElem?_cons_succ, List.getElem?_cons_zero]; rfl)
      case hq9K7 => exact fun _ _ _ h => h
      case hw9K7 => rfl
      case hy9K7 => (intro w hSw; (try dsimp only at hSw); go_simp <;> with_reducible rfl)
      try simp only [Act.put, List.setIfInBounds_toArray, List.set_cons_zero, List.set_cons_succ]
      refine wpAnyH_take (i := 10) (oi := ?oi10K7) (v := ?v10K7) ?hi10K7 (by kernel_rfl) (by kernel_rfl) (by kernel_rfl) ?hq10K7 (Or.inl ⟨?hw10K7, ?hy10K7⟩) (by assumption) ?rest10K7
      case hi10K7 => (simp only [List.getElem?_toArray, List.getElem?_cons_succ, List.getElem?_cons_zero]; rfl)
      case hq10K7 => exact fun _ _ _ h => h
      case hw10K7 => rfl
      case hy10K7 => (intro w hSw; (try dsimp only at hSw); go_simp <;> with_reducible rfl)
      try simp only [Act.put, List.setIfInBounds_toArray, List.set_cons_zero, List.set_cons_succ]
      refine wpAnyH_take (i := 11) (oi := ?oi11K7) (v := ?v11K7) ?hi11K7 (by kernel_rfl) (by kernel_rfl) (by kernel_rfl) ?hq11K7 (Or.inl ⟨?hw11K7, ?hy11K7⟩) (by assumption) ?rest11K7
      case hi11K7 => (simp only [List.getElem?_toArray, List.getElem?_cons_succ, List.getElem?_cons_zero]; rfl)
      case hq11K7 => exact fun _ _ _ h => h
      case hw11K7 => rfl
      case hy11K7 => (intro w hSw; (try dsimp only at hSw); go_simp <;> with_reducible rfl)
      try simp only [Act.put, List.setIfInBounds_toArray, List.set_cons_zero, List.set_cons_succ]
      refine wpAnyH_take (i := 12) (oi := ?oi12K7) (v := ?v12K7) ?hi12K7 (by kernel_rfl) (by kernel_rfl) (by kernel_rfl) ?hq12K7 (Or.inl ⟨?hw12K7, ?hy12K7⟩) (by assumption) ?rest12K7
      case hi12K7 => (simp only [List.getElem?_toArray, List.getElem?_cons_succ, List.getElem?_cons_zero]; rfl)
      case hq12K7 => exact fun _ _ _ h => h
      case hw12K7 => rfl
      case hy12K7 => (intro w hSw; (try dsimp only at hSw); go_simp <;> with_reducible rfl)
      try simp only [Act.put, List.setIfInBounds_toArray, List.set_cons_zero, List.set_cons_succ]
      refine wpAnyH_done (by kernel_rfl) ?_ _
      go_wp2
      go_ret2
      exact ⟨rfl, hb2⟩
    · skip
      go_enter Tryz.func49, Tryz.ntmps49
      go_wp2_with fail
      refine (change_any w.heap.size 8 _).mono ?_
      rintro e w1 ⟨rfl, hx1⟩
      have hb1 := hb0.trans (hx1.mono hb0.size)
      rw [show chgV w.heap.size 8 = .agg #[.pointer (some ⟨w.heap.size, 3, none⟩), .pointer (some ⟨w.heap.size, 0, none⟩), .pointer none] from rfl]
      have hbc := Blk.new w1 123 #[.pointer (some ⟨w.heap.size, 3, none⟩), .pointer (some ⟨w.heap.size, 0, none⟩), .pointer none]
      have hb2 := Below.drew (hb1.alloc hb1.size (.cells #[.pointer (some ⟨w.heap.size, 3, none⟩), .pointer (some ⟨w.heap.size, 0, none⟩), .pointer none] 123))
      go_wp2_with fail
      refine wp_region_held_drew (S := (fun w' => w'.cell? ⟨w1.heap.size, 0, none⟩ = some (.pointer (some ⟨w.heap.size, 3, none⟩)) ∧ w'.cell? ⟨w1.heap.size, 1, none⟩ = some (.pointer (some ⟨w.heap.size, 0, none⟩)) ∧ w'.cell? ⟨w1.heap.size, 2, none⟩ = some (.pointer none))) (by kernel_rfl) ⟨hbc.cell 0, hbc.cell 1, hbc.cell 2⟩ (fun hHeld => ?_)
      refine wpAnyH_take (i := 0) (oi := ?oi0K8) (v := ?v0K8) ?hi0K8 (by kernel_rfl) (by kernel_rfl) (by kernel_rfl) ?hq0K8 (Or.inl ⟨?hw0K8, ?hy0K8⟩) (by assumption) ?rest0K8
      case hi0K8 => (simp only [List.getElem?_toArray, List.getElem?_cons_succ, List.getElem?_cons_zero]; rfl)
      case hq0K8 => exact fun _ _ _ h => h
      case hw0K8 => rfl
      case hy0K8 => (intro w hSw; (try dsimp only at hSw); go_simp <;> with_reducible rfl)
      try simp only [Act.put, List.setIfInBounds_toArray, List.set_cons_zero, List.set_cons_succ]
      refine wpAnyH_take (i := 1) (oi := ?oi1K8) (v := ?v1K8) ?hi1K8 (by kernel_rfl) (by kernel_rfl) (by kernel_rfl) ?hq1K8 (Or.inl ⟨?hw1K8, ?hy1K8⟩) (by assumption) ?rest1K8
      case hi1K8 => (simp only [List.getElem?_toArray, List.getElem?_cons_succ, List.getElem?_cons_zero]; rfl)
      case hq1K8 => exact fun _ _ _ h => h
      case hw1K8 => rfl
      case hy1K8 => (intro w hSw; (try dsimp only at hSw); go_simp <;> with_reducible rfl)
      try simp only [Act.put, List.setIfInBounds_toArray, List.set_cons_zero, List.set_cons_succ]
      refine wpAnyH_take (i := 2) (oi := ?oi2K8) (v := ?v2K8) ?hi2K8 (by kernel_rfl) (by kernel_rfl) (by kernel_rfl) ?hq2K8 (Or.inl ⟨?hw2K8, ?hy2K8⟩) (by assumption) ?rest2K8
      case hi2K8 => (simp only [List.getElem?_toArray, List.getElem?_cons_succ, List.getElem?_cons_zero]; rfl)
      case hq2K8 => exact fun _ _ _ h => h
      case hw2K8 => rfl
      case hy2K8 => (intro w hSw; (try dsimp only at hSw); go_simp <;> with_reducible rfl)
      try simp only [Act.put, List.setIfInBounds_toArray, List.set_cons_zero, List.set_cons_succ]
      refine wpAnyH_take (i := 3) (oi := ?oi3K8) (v := ?v3K8) ?hi3K8 (by kernel_rfl) (by kernel_rfl) (by kernel_rfl) ?hq3K8 (Or.inl ⟨?hw3K8, ?hy3K8⟩) (by assumption) ?rest3K8
      case hi3K8 => (simp only [List.getElem?_toArray, List.getElem?_cons_succ, List.getElem?_cons_zero]; rfl)
      case hq3K8 => exact fun _ _ _ h => h
      case hw3K8 => rfl
      case hy3K8 => (intro w hSw; (try dsimp only at hSw); go_simp <;> with_reducible rfl)
      try simp only [Act.put, List.setIfInBounds_toArray, List.set_cons_zero, List.set_cons_succ]
      refine wpAnyH_take (i := 4) (oi := ?oi4K8) (v := undef) ?hi4K8 (by kernel_rfl) (by kernel_rfl) (by kernel_rfl) ?hq4K8 (Or.inr ⟨?hw4K8, rfl⟩) (by assumption) ?rest4K8
      case hi4K8 => (simp only [List.getElem?_toArray, List.getElem?_cons_succ, List.getElem?_cons_zero]; rfl)
      case hq4K8 => exact fun _ _ _ h => h
      case hw4K8 => rfl
      try simp only [Act.put, List.setIfInBounds_toArray, List.set_cons_zero, List.set_cons_succ]
      refine wpAnyH_take (i := 5) (oi := ?oi5K8) (v := undef) ?hi5K8 (by kernel_rfl) (by kernel_rfl) (by kernel_rfl) ?hq5K8 (Or.inr ⟨?hw5K8, rfl⟩) (by assumption) ?rest5K8
      case hi5K8 => (simp only [List.getElem?_toArray, List.getElem?_cons_succ, List.getElem?_cons_zero]; rfl)
      case hq5K8 => exact fun _ _ _ h => h
      case hw5K8 => rfl
      try simp only [Act.put, List.setIfInBounds_toArray, List.set_cons_zero, List.set_cons_succ]
      refine wpAnyH_take (i := 6) (oi := ?oi6K8) (v := undef) ?hi6K8 (by kernel_rfl) (by kernel_rfl) (by kernel_rfl) ?hq6K8 (Or.inr ⟨?hw6K8, rfl⟩) (by assumption) ?rest6K8
      case hi6K8 => (simp only [List.getElem?_toArray, List.getElem?_cons_succ, List.getElem?_cons_zero]; rfl)
      case hq6K8 => exact fun _ _ _ h => h
      case hw6K8 => rfl
      try simp only [Act.put, List.setIfInBounds_toArray, List.set_cons_zero, List.set_cons_succ]
      refine wpAnyH_take (i := 7) (oi := ?oi7K8) (v := ?v7K8) ?hi7K8 (by kernel_rfl) (by kernel_rfl) (by kernel_rfl) ?hq7K8 (Or.inl ⟨?hw7K8, ?hy7K8⟩) (by assumption) ?rest7K8
      case hi7K8 => (simp only [List.getElem?_toArray, List.getElem?_cons_succ, List.getElem?_cons_zero]; rfl)
      case hq7K8 => exact fun _ _ _ h => h
      case hw7K8 => rfl
      case hy7K8 => (intro w hSw; (try dsimp only at hSw); go_simp <;> with_reducible rfl)
      try simp only [Act.put, List.setIfInBounds_toArray, List.set_cons_zero, List.set_cons_succ]
      refine wpAnyH_take (i := 8) (oi := ?oi8K8) (v := ?v8K8) ?hi8K8 (by kernel_rfl) (by kernel_rfl) (by kernel_rfl) ?hq8K8 (Or.inl ⟨?hw8K8, ?hy8K8⟩) (by assumption) ?rest8K8
      case hi8K8 => (simp only [List.getElem?_toArray, List.getElem?_cons_succ, List.getElem?_cons_zero]; rfl)
      case hq8K8 => exact fun _ _ _ h => h
      case hw8K8 => rfl
      case hy8K8 => (intro w hSw; (try dsimp only at hSw); go_simp <;> with_reducible rfl)
      try simp only [Act.put, List.setIfInBounds_toArray, List.set_cons_zero, List.set_cons_succ]
      refine wpAnyH_take (i := 9) (oi := ?oi9K8) (v := ?v9K8) ?hi9K8 (by kernel_rfl) (by kernel_rfl) (by kernel_rfl) ?hq9K8 (Or.inl ⟨?hw9K8, ?hy9K8⟩) (by assumption) ?rest9K8
      case hi9K8 => (simp only [List.getElem?_toArray, List.getElem?_cons_succ, List.getElem?_cons_zero]; rfl)
      case hq9K8 => exact fun _ _ _ h => h
      case hw9K8 => rfl
      case hy9K8 => (intro w hSw; (try dsimp only at hSw); go_simp <;> with_reducible rfl)
      try simp only [Act.put, List.setIfInBounds_toArray, List.set_cons_zero, List.set_cons_succ]
      refine wpAnyH_take (i := 10) (oi := ?oi10K8) (v := ?v10K8) ?hi10K8 (by kernel_rfl) (by kernel_rfl) (by kernel_rfl) ?hq10K8 (Or.inl ⟨?hw10K8, ?hy10K8⟩) (by assumption) ?rest10K8
      case hi10K8 => (simp only [List.getElem?_toArray, List.getElem?_cons_succ, List.getElem?_cons_zero]; rfl)
      case hq10K8 => exact fun _ _ _ h => h
      case hw10K8 => rfl
      case hy10K8 => (intro w hSw; (try dsimp only at hSw); go_simp <;> with_reducible rfl)
      try simp only [Act.put, List.setIfInBounds_toArray, List.set_cons_zero, List.set_cons_succ]
      refine wpAnyH_take (i := 11) (oi := ?oi11K8) (v := ?v11K8) ?hi11K8 (by kernel_rfl) (by kernel_rfl) (by kernel_rfl) ?hq11K8 (Or.inl ⟨?hw11K8, ?hy11K8⟩) (by assumption) ?rest11K8
      case hi11K8 => (simp only [List.getElem?_toArray, List.getElem?_cons_succ, List.getElem?_cons_zero]; rfl)
      case hq11K8 => exact fun _ _ _ h => h
      case hw11K8 => rfl
      case hy11K8 => (intro w hSw; (try dsimp only at hSw); go_simp <;> with_reducible rfl)
      try simp only [Act.put, List.setIfInBounds_toArray, List.set_cons_zero, List.set_cons_succ]
      refine wpAnyH_take (i := 12) (oi := ?oi12K8) (v := ?v12K8) ?hi12K8 (by kernel_rfl) (by kernel_rfl) (by kernel_rfl) ?hq12K8 (Or.inl ⟨?hw12K8, ?hy12K8⟩) (by assumption) ?rest12K8
      case hi12K8 => (simp only [List.getElem?_toArray, List.getElem?_cons_succ, List.getElem?_cons_zero]; rfl)
      case hq12K8 => exact fun _ _ _ h => h
      case hw12K8 => rfl
      case hy12K8 => (intro w hSw; (try dsimp only at hSw); go_simp <;> with_reducible rfl)
      try simp only [Act.put, List.setIfInBounds_toArray, List.set_cons_zero, List.set_cons_succ]
      refine wpAnyH_done (by kernel_rfl) ?_ _
      go_wp2
      go_ret2
      exact ⟨rfl, hb2⟩
    · skip
      go_enter Tryz.func49, Tryz.ntmps49
      go_wp2_with fail
      refine (change_any w.heap.size 9 _).mono ?_
      rintro e w1 ⟨rfl, hx1⟩
      have hb1 := hb0.trans (hx1.mono hb0.size)
      rw [show chgV w.heap.size 9 = .agg #[.pointer (some ⟨w.heap.size, 3, none⟩), .pointer none, .pointer (some ⟨w.heap.size, 9, none⟩)] from rfl]
      have hbc := Blk.new w1 123 #[.pointer (some ⟨w.heap.size, 3, none⟩), .pointer none, .pointer (some ⟨w.heap.size, 9, none⟩)]
      have hb2 := Below.drew (hb1.alloc hb1.size (.cells #[.pointer (some ⟨w.heap.size, 3, none⟩), .pointer none, .pointer (some ⟨w.heap.size, 9, none⟩)] 123))
      go_wp2_with fail
      refine wp_region_held_drew (S := (fun w' => w'.cell? ⟨w1.heap.size, 0, none⟩ = some (.pointer (some ⟨w.heap.size, 3, none⟩)) ∧ w'.cell? ⟨w1.heap.size, 1, none⟩ = some (.pointer none) ∧ w'.cell? ⟨w1.heap.size, 2, none⟩ = some (.pointer (some ⟨w.heap.size, 9, none⟩)))) (by kernel_rfl) ⟨hbc.cell 0, hbc.cell 1, hbc.cell 2⟩ (fun hHeld => ?_)
      refine wpAnyH_take (i := 0) (oi := ?oi0K9) (v := ?v0K9) ?hi0K9 (by kernel_rfl) (by kernel_rfl) (by kernel_rfl) ?hq0K9 (Or.inl ⟨?hw0K9, ?hy0K9⟩) (by assumption) ?rest0K9
      case hi0K9 => (simp only [List.getElem?_toArray, List.getElem?_cons_succ, List.getElem?_cons_zero]; rfl)
      case hq0K9 => exact fun _ _ _ h => h
      case hw0K9 => rfl
      case hy0K9 => (intro w hSw; (try dsimp only at hSw); go_simp <;> with_reducible rfl)
      try simp only [Act.put, List.setIfInBounds_toArray, List.set_cons_zero, List.set_cons_succ]
      refine wpAnyH_take (i := 1) (oi := ?oi1K9) (v := ?v1K9) ?hi1K9 (by kernel_rfl) (by kernel_rfl) (by kernel_rfl) ?hq1K9 (Or.inl ⟨?hw1K9, ?hy1K9⟩) (by assumption) ?rest1K9
      case hi1K9 => (simp only [List.getElem?_toArray, List.getElem?_cons_succ, List.getElem?_cons_zero]; rfl)
      case hq1K9 => exact fun _ _ _ h => h
      case hw1K9 => rfl
      case hy1K9 => (intro w hSw; (try dsimp only at hSw); go_simp <;> with_reducible rfl)
      try simp only [Act.put, List.setIfInBounds_toArray, List.set_cons_zero, List.set_cons_succ]
      refine wpAnyH_take (i := 2) (oi := ?oi2K9) (v := ?v2K9) ?hi2K9 (by kernel_rfl) (by kernel_rfl) (by kernel_rfl) ?hq2K9 (Or.inl ⟨?hw2K9, ?hy2K9⟩) (by assumption) ?rest2K9
      case hi2K9 => (simp only [List.getElem?_toArray, List.getElem?_cons_succ, List.getElem?_cons_zero]; rfl)
      case hq2K9 => exact fun _ _ _ h => h
      case hw2K9 => rfl
      case hy2K9 => (intro w hSw; (try dsimp only at hSw); go_simp <;> with_reducible rfl)
      try simp only [Act.put, List.setIfInBounds_toArray, List.set_cons_zero, List.set_cons_succ]
      refine wpAnyH_take (i := 3) (oi := ?oi3K9) (v := ?v3K9) ?hi3K9 (by kernel_rfl) (by kernel_rfl) (by kernel_rfl) ?hq3K9 (Or.inl ⟨?hw3K9, ?hy3K9⟩) (by assumption) ?rest3K9
      case hi3K9 => (simp only [List.getElem?_toArray, List.getElem?_cons_succ, List.getElem?_cons_zero]; rfl)
      case hq3K9 => exact fun _ _ _ h => h
      case hw3K9 => rfl
      case hy3K9 => (intro w hSw; (try dsimp only at hSw); go_simp <;> with_reducible rfl)
      try simp only [Act.put, List.setIfInBounds_toArray, List.set_cons_zero, List.set_cons_succ]
      refine wpAnyH_take (i := 4) (oi := ?oi4K9) (v := undef) ?hi4K9 (by kernel_rfl) (by kernel_rfl) (by kernel_rfl) ?hq4K9 (Or.inr ⟨?hw4K9, rfl⟩) (by assumption) ?rest4K9
      case hi4K9 => (simp only [List.getElem?_toArray, List.getElem?_cons_succ, List.getElem?_cons_zero]; rfl)
      case hq4K9 => exact fun _ _ _ h => h
      case hw4K9 => rfl
      try simp only [Act.put, List.setIfInBounds_toArray, List.set_cons_zero, List.set_cons_succ]
      refine wpAnyH_take (i := 5) (oi := ?oi5K9) (v := undef) ?hi5K9 (by kernel_rfl) (by kernel_rfl) (by kernel_rfl) ?hq5K9 (Or.inr ⟨?hw5K9, rfl⟩) (by assumption) ?rest5K9
      case hi5K9 => (simp only [List.getElem?_toArray, List.getElem?_cons_succ, List.getElem?_cons_zero]; rfl)
      case hq5K9 => exact fun _ _ _ h => h
      case hw5K9 => rfl
      try simp only [Act.put, List.setIfInBounds_toArray, List.set_cons_zero, List.set_cons_succ]
      refine wpAnyH_take (i := 6) (oi := ?oi6K9) (v := undef) ?hi6K9 (by kernel_rfl) (by kernel_rfl) (by kernel_rfl) ?hq6K9 (Or.inr ⟨?hw6K9, rfl⟩) (by assumption) ?rest6K9
      case hi6K9 => (simp only [List.getElem?_toArray, List.getElem?_cons_succ, List.getElem?_cons_zero]; rfl)
      case hq6K9 => exact fun _ _ _ h => h
      case hw6K9 => rfl
      try simp only [Act.put, List.setIfInBounds_toArray, List.set_cons_zero, List.set_cons_succ]
      refine wpAnyH_take (i := 7) (oi := ?oi7K9) (v := ?v7K9) ?hi7K9 (by kernel_rfl) (by kernel_rfl) (by kernel_rfl) ?hq7K9 (Or.inl ⟨?hw7K9, ?hy7K9⟩) (by assumption) ?rest7K9
      case hi7K9 => (simp only [List.getElem?_toArray, List.getElem?_cons_succ, List.getElem?_cons_zero]; rfl)
      case hq7K9 => exact fun _ _ _ h => h
      case hw7K9 => rfl
      case hy7K9 => (intro w hSw; (try dsimp only at hSw); go_simp <;> with_reducible rfl)
      try simp only [Act.put, List.setIfInBounds_toArray, List.set_cons_zero, List.set_cons_succ]
      refine wpAnyH_take (i := 8) (oi := ?oi8K9) (v := ?v8K9) ?hi8K9 (by kernel_rfl) (by kernel_rfl) (by kernel_rfl) ?hq8K9 (Or.inl ⟨?hw8K9, ?hy8K9⟩) (by assumption) ?rest8K9
      case hi8K9 => (simp only [List.getElem?_toArray, List.getElem?_cons_succ, List.getElem?_cons_zero]; rfl)
      case hq8K9 => exact fun _ _ _ h => h
      case hw8K9 => rfl
      case hy8K9 => (intro w hSw; (try dsimp only at hSw); go_simp <;> with_reducible rfl)
      try simp only [Act.put, List.setIfInBounds_toArray, List.set_cons_zero, List.set_cons_succ]
      refine wpAnyH_take (i := 9) (oi := ?oi9K9) (v := ?v9K9) ?hi9K9 (by kernel_rfl) (by kernel_rfl) (by kernel_rfl) ?hq9K9 (Or.inl ⟨?hw9K9, ?hy9K9⟩) (by assumption) ?rest9K9
      case hi9K9 => (simp only [List.getElem?_toArray, List.getElem?_cons_succ, List.getElem?_cons_zero]; rfl)
      case hq9K9 => exact fun _ _ _ h => h
      case hw9K9 => rfl
      case hy9K9 => (intro w hSw; (try dsimp only at hSw); go_simp <;> with_reducible rfl)
      try simp only [Act.put, List.setIfInBounds_toArray, List.set_cons_zero, List.set_cons_succ]
      refine wpAnyH_take (i := 10) (oi := ?oi10K9) (v := ?v10K9) ?hi10K9 (by kernel_rfl) (by kernel_rfl) (by kernel_rfl) ?hq10K9 (Or.inl ⟨?hw10K9, ?hy10K9⟩) (by assumption) ?rest10K9
      case hi10K9 => (simp only [List.getElem?_toArray, List.getElem?_cons_succ, List.getElem?_cons_zero]; rfl)
      case hq10K9 => exact fun _ _ _ h => h
      case hw10K9 => rfl
      case hy10K9 => (intro w hSw; (try dsimp only at hSw); go_simp <;> with_reducible rfl)
      try simp only [Act.put, List.setIfInBounds_toArray, List.set_cons_zero, List.set_cons_succ]
      refine wpAnyH_take (i := 11) (oi := ?oi11K9) (v := ?v11K9) ?hi11K9 (by kernel_rfl) (by kernel_rfl) (by kernel_rfl) ?hq11K9 (Or.inl ⟨?hw11K9, ?hy11K9⟩) (by assumption) ?rest11K9
      case hi11K9 => (simp only [List.getElem?_toArray, List.getElem?_cons_succ, List.getElem?_cons_zero]; rfl)
      case hq11K9 => exact fun _ _ _ h => h
      case hw11K9 => rfl
      case hy11K9 => (intro w hSw; (try dsimp only at hSw); go_simp <;> with_reducible rfl)
      try simp only [Act.put, List.setIfInBounds_toArray, List.set_cons_zero, List.set_cons_succ]
      refine wpAnyH_take (i := 12) (oi := ?oi12K9) (v := ?v12K9) ?hi12K9 (by kernel_rfl) (by kernel_rfl) (by kernel_rfl) ?hq12K9 (Or.inl ⟨?hw12K9, ?hy12K9⟩) (by assumption) ?rest12K9
      case hi12K9 => (simp only [List.getElem?_toArray, List.getElem?_cons_succ, List.getElem?_cons_zero]; rfl)
      case hq12K9 => exact fun _ _ _ h => h
      case hw12K9 => rfl
      case hy12K9 => (intro w hSw; (try dsimp only at hSw); go_simp <;> with_reducible rfl)
      try simp only [Act.put, List.setIfInBounds_toArray, List.set_cons_zero, List.set_cons_succ]
      refine wpAnyH_done (by kernel_rfl) ?_ _
      go_wp2
      go_ret2
      exact ⟨rfl, hb2⟩
    · skip
      go_enter Tryz.func49, Tryz.ntmps49
      go_wp2_with fail
      refine (change_any w.heap.size 10 _).mono ?_
      rintro e w1 ⟨rfl, hx1⟩
      have hb1 := hb0.trans (hx1.mono hb0.size)
      rw [show chgV w.heap.size 10 = .agg #[.pointer (some ⟨w.heap.size, 0, none⟩), .pointer none, .pointer (some ⟨w.heap.size, 10, none⟩)] from rfl]
      have hbc := Blk.new w1 123 #[.pointer (some ⟨w.heap.size, 0, none⟩), .pointer none, .pointer (some ⟨w.heap.size, 10, none⟩)]
      have hb2 := Below.drew (hb1.alloc hb1.size (.cells #[.pointer (some ⟨w.heap.size, 0, none⟩), .pointer none, .pointer (some ⟨w.heap.size, 10, none⟩)] 123))
      go_wp2_with fail
      refine wp_region_held_drew (S := (fun w' => w'.cell? ⟨w1.heap.size, 0, none⟩ = some (.pointer (some ⟨w.heap.size, 0, none⟩)) ∧ w'.cell? ⟨w1.heap.size, 1, none⟩ = some (.pointer none) ∧ w'.cell? ⟨w1.heap.size, 2, none⟩ = some (.pointer (some ⟨w.heap.size, 10, none⟩)))) (by kernel_rfl) ⟨hbc.cell 0, hbc.cell 1, hbc.cell 2⟩ (fun hHeld => ?_)
      refine wpAnyH_take (i := 0) (oi := ?oi0K10) (v := ?v0K10) ?hi0K10 (by kernel_rfl) (by kernel_rfl) (by kernel_rfl) ?hq0K10 (Or.inl ⟨?hw0K10, ?hy0K10⟩) (by assumption) ?rest0K10
      case hi0K10 => (simp only [List.getElem?_toArray, List.getElem?_cons_succ, List.getElem?_cons_zero]; rfl)
      case hq0K10 => exact fun _ _ _ h => h
      case hw0K10 => rfl
      case hy0K10 => (intro w hSw; (try dsimp only at hSw); go_simp <;> with_reducible rfl)
      try simp only [Act.put, List.setIfInBounds_toArray, List.set_cons_zero, List.set_cons_succ]
      refine wpAnyH_take (i := 1) (oi := ?oi1K10) (v := ?v1K10) ?hi1K10 (by kernel_rfl) (by kernel_rfl) (by kernel_rfl) ?hq1K10 (Or.inl ⟨?hw1K10, ?hy1K10⟩) (by assumption) ?rest1K10
      case hi1K10 => (simp only [List.getElem?_toArray, List.getElem?_cons_succ, List.getElem?_cons_zero]; rfl)
      case hq1K10 => exact fun _ _ _ h => h
      case hw1K10 => rfl
      case hy1K10 => (intro w hSw; (try dsimp only at hSw); go_simp <;> with_reducible rfl)
      try simp only [Act.put, List.setIfInBounds_toArray, List.set_cons_zero, List.set_cons_succ]
      refine wpAnyH_take (i := 2) (oi := ?oi2K10) (v := ?v2K10) ?hi2K10 (by kernel_rfl) (by kernel_rfl) (by kernel_rfl) ?hq2K10 (Or.inl ⟨?hw2K10, ?hy2K10⟩) (by assumption) ?rest2K10
      case hi2K10 => (simp only [List.getElem?_toArray, List.getElem?_cons_succ, List.getElem?_cons_zero]; rfl)
      case hq2K10 => exact fun _ _ _ h => h
      case hw2K10 => rfl
      case hy2K10 => (intro w hSw; (try dsimp only at hSw); go_simp <;> with_reducible rfl)
      try simp only [Act.put, List.setIfInBounds_toArray, List.set_cons_zero, List.set_cons_succ]
      refine wpAnyH_take (i := 3) (oi := ?oi3K10) (v := ?v3K10) ?hi3K10 (by kernel_rfl) (by kernel_rfl) (by kernel_rfl) ?hq3K10 (Or.inl ⟨?hw3K10, ?hy3K10⟩) (by assumption) ?rest3K10
      case hi3K10 => (simp only [List.getElem?_toArray, List.getElem?_cons_succ, List.getElem?_cons_zero]; rfl)
      case hq3K10 => exact fun _ _ _ h => h
      case hw3K10 => rfl
      case hy3K10 => (intro w hSw; (try dsimp only at hSw); go_simp <;> with_reducible rfl)
      try simp only [Act.put, List.setIfInBounds_toArray, List.set_cons_zero, List.set_cons_succ]
      refine wpAnyH_take (i := 4) (oi := ?oi4K10) (v := undef) ?hi4K10 (by kernel_rfl) (by kernel_rfl) (by kernel_rfl) ?hq4K10 (Or.inr ⟨?hw4K10, rfl⟩) (by assumption) ?rest4K10
      case hi4K10 => (simp only [List.getElem?_toArray, List.getElem?_cons_succ, List.getElem?_cons_zero]; rfl)
      case hq4K10 => exact fun _ _ _ h => h
      case hw4K10 => rfl
      try simp only [Act.put, List.setIfInBounds_toArray, List.set_cons_zero, List.set_cons_succ]
      refine wpAnyH_take (i := 5) (oi := ?oi5K10) (v := undef) ?hi5K10 (by kernel_rfl) (by kernel_rfl) (by kernel_rfl) ?hq5K10 (Or.inr ⟨?hw5K10, rfl⟩) (by assumption) ?rest5K10
      case hi5K10 => (simp only [List.getElem?_toArray, List.getElem?_cons_succ, List.getElem?_cons_zero]; rfl)
      case hq5K10 => exact fun _ _ _ h => h
      case hw5K10 => rfl
      try simp only [Act.put, List.setIfInBounds_toArray, List.set_cons_zero, List.set_cons_succ]
      refine wpAnyH_take (i := 6) (oi := ?oi6K10) (v := undef) ?hi6K10 (by kernel_rfl) (by kernel_rfl) (by kernel_rfl) ?hq6K10 (Or.inr ⟨?hw6K10, rfl⟩) (by assumption) ?rest6K10
      case hi6K10 => (simp only [List.getElem?_toArray, List.getElem?_cons_succ, List.getElem?_cons_zero]; rfl)
      case hq6K10 => exact fun _ _ _ h => h
      case hw6K10 => rfl
      try simp only [Act.put, List.setIfInBounds_toArray, List.set_cons_zero, List.set_cons_succ]
      refine wpAnyH_take (i := 7) (oi := ?oi7K10) (v := ?v7K10) ?hi7K10 (by kernel_rfl) (by kernel_rfl) (by kernel_rfl) ?hq7K10 (Or.inl ⟨?hw7K10, ?hy7K10⟩) (by assumption) ?rest7K10
      case hi7K10 => (simp only [List.getElem?_toArray, List.getElem?_cons_succ, List.getElem?_cons_zero]; rfl)
      case hq7K10 => exact fun _ _ _ h => h
      case hw7K10 => rfl
      case hy7K10 => (intro w hSw; (try dsimp only at hSw); go_simp <;> with_reducible rfl)
      try simp only [Act.put, List.setIfInBounds_toArray, List.set_cons_zero, List.set_cons_succ]
      refine wpAnyH_take (i := 8) (oi := ?oi8K10) (v := ?v8K10) ?hi8K10 (by kernel_rfl) (by kernel_rfl) (by kernel_rfl) ?hq8K10 (Or.inl ⟨?hw8K10, ?hy8K10⟩) (by assumption) ?rest8K10
      case hi8K10 => (simp only [List.getElem?_toArray, List.getElem?_cons_succ, List.getElem?_cons_zero]; rfl)
      case hq8K10 => exact fun _ _ _ h => h
      case hw8K10 => rfl
      case hy8K10 => (intro w hSw; (try dsimp only at hSw); go_simp <;> with_reducible rfl)
      try simp only [Act.put, List.setIfInBounds_toArray, List.set_cons_zero, List.set_cons_succ]
      refine wpAnyH_take (i := 9) (oi := ?oi9K10) (v := ?v9K10) ?hi9K10 (by kernel_rfl) (by kernel_rfl) (by kernel_rfl) ?hq9K10 (Or.inl ⟨?hw9K10, ?hy9K10⟩) (by assumption) ?rest9K10
      case hi9K10 => (simp only [List.getElem?_toArray, List.getElem?_cons_succ, List.getElem?_cons_zero]; rfl)
      case hq9K10 => exact fun _ _ _ h => h
      case hw9K10 => rfl
      case hy9K10 => (intro w hSw; (try dsimp only at hSw); go_simp <;> with_reducible rfl)
      try simp only [Act.put, List.setIfInBounds_toArray, List.set_cons_zero, List.set_cons_succ]
      refine wpAnyH_take (i := 10) (oi := ?oi10K10) (v := ?v10K10) ?hi10K10 (by kernel_rfl) (by kernel_rfl) (by kernel_rfl) ?hq10K10 (Or.inl ⟨?hw10K10, ?hy10K10⟩) (by assumption) ?rest10K10
      case hi10K10 => (simp only [List.getElem?_toArray, List.getElem?_cons_succ, List.getElem?_cons_zero]; rfl)
      case hq10K10 => exact fun _ _ _ h => h
      case hw10K10 => rfl
      case hy10K10 => (intro w hSw; (try dsimp only at hSw); go_simp <;> with_reducible rfl)
      try simp only [Act.put, List.setIfInBounds_toArray, List.set_cons_zero, List.set_cons_succ]
      refine wpAnyH_take (i := 11) (oi := ?oi11K10) (v := ?v11K10) ?hi11K10 (by kernel_rfl) (by kernel_rfl) (by kernel_rfl) ?hq11K10 (Or.inl ⟨?hw11K10, ?hy11K10⟩) (by assumption) ?rest11K10
      case hi11K10 => (simp only [List.getElem?_toArray, List.getElem?_cons_succ, List.getElem?_cons_zero]; rfl)
      case hq11K10 => exact fun _ _ _ h => h
      case hw11K10 => rfl
      case hy11K10 => (intro w hSw; (try dsimp only at hSw); go_simp <;> with_reducible rfl)
      try simp only [Act.put, List.setIfInBounds_toArray, List.set_cons_zero, List.set_cons_succ]
      refine wpAnyH_take (i := 12) (oi := ?oi12K10) (v := ?v12K10) ?hi12K10 (by kernel_rfl) (by kernel_rfl) (by kernel_rfl) ?hq12K10 (Or.inl ⟨?hw12K10, ?hy12K10⟩) (by assumption) ?rest12K10
      case hi12K10 => (simp only [List.getElem?_toArray, List.getElem?_cons_succ, List.getElem?_cons_zero]; rfl)
      case hq12K10 => exact fun _ _ _ h => h
      case hw12K10 => rfl
      case hy12K10 => (intro w hSw; (try dsimp only at hSw); go_simp <;> with_reducible rfl)
      try simp only [Act.put, List.setIfInBounds_toArray, List.set_cons_zero, List.set_cons_succ]
      refine wpAnyH_done (by kernel_rfl) ?_ _
      go_wp2
      go_ret2
      exact ⟨rfl, hb2⟩
    · skip
      go_enter Tryz.func49, Tryz.ntmps49
      go_wp2_with fail
      refine (change_any w.heap.size 11 _).mono ?_
      rintro e w1 ⟨rfl, hx1⟩
      have hb1 := hb0.trans (hx1.mono hb0.size)
      rw [show chgV w.heap.size 11 = .agg #[.pointer none, .pointer (some ⟨w.heap.size, 0, none⟩), .pointer (some ⟨w.heap.size, 7, none⟩)] from rfl]
      have hbc := Blk.new w1 123 #[.pointer none, .pointer (some ⟨w.heap.size, 0, none⟩), .pointer (some ⟨w.heap.size, 7, none⟩)]
      have hb2 := Below.drew (hb1.alloc hb1.size (.cells #[.pointer none, .pointer (some ⟨w.heap.size, 0, none⟩), .pointer (some ⟨w.heap.size, 7, none⟩)] 123))
      go_wp2_with fail
      refine wp_region_held_drew (S := (fun w' => w'.cell? ⟨w1.heap.size, 0, none⟩ = some (.pointer none) ∧ w'.cell? ⟨w1.heap.size, 1, none⟩ = some (.pointer (some ⟨w.heap.size, 0, none⟩)) ∧ w'.cell? ⟨w1.heap.size, 2, none⟩ = some (.pointer (some ⟨w.heap.size, 7, none⟩)))) (by kernel_rfl) ⟨hbc.cell 0, hbc.cell 1, hbc.cell 2⟩ (fun hHeld => ?_)
      refine wpAnyH_take (i := 0) (oi := ?oi0K11) (v := ?v0K11) ?hi0K11 (by kernel_rfl) (by kernel_rfl) (by kernel_rfl) ?hq0K11 (Or.inl ⟨?hw0K11, ?hy0K11⟩) (by assumption) ?rest0K11
      case hi0K11 => (simp only [List.getElem?_toArray, List.getElem?_cons_succ, List.getElem?_cons_zero]; rfl)
      case hq0K11 => exact fun _ _ _ h => h
      case hw0K11 => rfl
      case hy0K11 => (intro w hSw; (try dsimp only at hSw); go_simp <;> with_reducible rfl)
      try simp only [Act.put, List.setIfInBounds_toArray, List.set_cons_zero, List.set_cons_succ]
      refine wpAnyH_take (i := 1) (oi := ?oi1K11) (v := ?v1K11) ?hi1K11 (by kernel_rfl) (by kernel_rfl) (by kernel_rfl) ?hq1K11 (Or.inl ⟨?hw1K11, ?hy1K11⟩) (by assumption) ?rest1K11
      case hi1K11 => (simp only [List.getElem?_toArray, List.getElem?_cons_succ, List.getElem?_cons_zero]; rfl)
      case hq1K11 => exact fun _ _ _ h => h
      case hw1K11 => rfl
      case hy1K11 => (intro w hSw; (try dsimp only at hSw); go_simp <;> with_reducible rfl)
      try simp only [Act.put, List.setIfInBounds_toArray, List.set_cons_zero, List.set_cons_succ]
      refine wpAnyH_take (i := 2) (oi := ?oi2K11) (v := ?v2K11) ?hi2K11 (by kernel_rfl) (by kernel_rfl) (by kernel_rfl) ?hq2K11 (Or.inl ⟨?hw2K11, ?hy2K11⟩) (by assumption) ?rest2K11
      case hi2K11 => (simp only [List.getElem?_toArray, List.getElem?_cons_succ, List.getElem?_cons_zero]; rfl)
      case hq2K11 => exact fun _ _ _ h => h
      case hw2K11 => rfl
      case hy2K11 => (intro w hSw; (try dsimp only at hSw); go_simp <;> with_reducible rfl)
      try simp only [Act.put, List.setIfInBounds_toArray, List.set_cons_zero, List.set_cons_succ]
      refine wpAnyH_take (i := 3) (oi := ?oi3K11) (v := ?v3K11) ?hi3K11 (by kernel_rfl) (by kernel_rfl) (by kernel_rfl) ?hq3K11 (Or.inl ⟨?hw3K11, ?hy3K11⟩) (by assumption) ?rest3K11
      case hi3K11 => (simp only [List.getElem?_toArray, List.getElem?_cons_succ, List.getElem?_cons_zero]; rfl)
      case hq3K11 => exact fun _ _ _ h => h
      case hw3K11 => rfl
      case hy3K11 => (intro w hSw; (try dsimp only at hSw); go_simp <;> with_reducible rfl)
      try simp only [Act.put, List.setIfInBounds_toArray, List.set_cons_zero, List.set_cons_succ]
      refine wpAnyH_take (i := 4) (oi := ?oi4K11) (v := ?v4K11) ?hi4K11 (by kernel_rfl) (by kernel_rfl) (by kernel_rfl) ?hq4K11 (Or.inl ⟨?hw4K11, ?hy4K11⟩) (by assumption) ?rest4K11
      case hi4K11 => (simp only [List.getElem?_toArray, List.getElem?_cons_succ, List.getElem?_cons_zero]; rfl)
      case hq4K11 => exact fun _ _ _ h => h
      case hw4K11 => rfl
      case hy4K11 => (intro w hSw; (try dsimp only at hSw); go_simp <;> with_reducible rfl)
      try simp only [Act.put, List.setIfInBounds_toArray, List.set_cons_zero, List.set_cons_succ]
      refine wpAnyH_take (i := 5) (oi := ?oi5K11) (v := ?v5K11) ?hi5K11 (by kernel_rfl) (by kernel_rfl) (by kernel_rfl) ?hq5K11 (Or.inl ⟨?hw5K11, ?hy5K11⟩) (by assumption) ?rest5K11
      case hi5K11 => (simp only [List.getElem?_toArray, List.getElem?_cons_succ, List.getElem?_cons_zero]; rfl)
      case hq5K11 => exact fun _ _ _ h => h
      case hw5K11 => rfl
      case hy5K11 => (intro w hSw; (try dsimp only at hSw); go_simp <;> with_reducible rfl)
      try simp only [Act.put, List.setIfInBounds_toArray, List.set_cons_zero, List.set_cons_succ]
      refine wpAnyH_take (i := 6) (oi := ?oi6K11) (v := ?v6K11) ?hi6K11 (by kernel_rfl) (by kernel_rfl) (by kernel_rfl) ?hq6K11 (Or.inl ⟨?hw6K11, ?hy6K11⟩) (by assumption) ?rest6K11
      case hi6K11 => (simp only [List.getElem?_toArray, List.getElem?_cons_succ, List.getElem?_cons_zero]; rfl)
      case hq6K11 => exact fun _ _ _ h => h
      case hw6K11 => rfl
      case hy6K11 => (intro w hSw; (try dsimp only at hSw); go_simp <;> with_reducible rfl)
      try simp only [Act.put, List.setIfInBounds_toArray, List.set_cons_zero, List.set_cons_succ]
      refine wpAnyH_take (i := 7) (oi := ?oi7K11) (v := ?v7K11) ?hi7K11 (by kernel_rfl) (by kernel_rfl) (by kernel_rfl) ?hq7K11 (Or.inl ⟨?hw7K11, ?hy7K11⟩) (by assumption) ?rest7K11
      case hi7K11 => (simp only [List.getElem?_toArray, List.getElem?_cons_succ, List.getElem?_cons_zero]; rfl)
      case hq7K11 => exact fun _ _ _ h => h
      case hw7K11 => rfl
      case hy7K11 => (intro w hSw; (try dsimp only at hSw); go_simp <;> with_reducible rfl)
      try simp only [Act.put, List.setIfInBounds_toArray, List.set_cons_zero, List.set_cons_succ]
      refine wpAnyH_take (i := 8) (oi := ?oi8K11) (v := ?v8K11) ?hi8K11 (by kernel_rfl) (by kernel_rfl) (by kernel_rfl) ?hq8K11 (Or.inl ⟨?hw8K11, ?hy8K11⟩) (by assumption) ?rest8K11
      case hi8K11 => (simp only [List.getElem?_toArray, List.getElem?_cons_succ, List.getElem?_cons_zero]; rfl)
      case hq8K11 => exact fun _ _ _ h => h
      case hw8K11 => rfl
      case hy8K11 => (intro w hSw; (try dsimp only at hSw); go_simp <;> with_reducible rfl)
      try simp only [Act.put, List.setIfInBounds_toArray, List.set_cons_zero, List.set_cons_succ]
      refine wpAnyH_take (i := 9) (oi := ?oi9K11) (v := ?v9K11) ?hi9K11 (by kernel_rfl) (by kernel_rfl) (by kernel_rfl) ?hq9K11 (Or.inl ⟨?hw9K11, ?hy9K11⟩) (by assumption) ?rest9K11
      case hi9K11 => (simp only [List.getElem?_toArray, List.getElem?_cons_succ, List.getElem?_cons_zero]; rfl)
      case hq9K11 => exact fun _ _ _ h => h
      case hw9K11 => rfl
      case hy9K11 => (intro w hSw; (try dsimp only at hSw); go_simp <;> with_reducible rfl)
      try simp only [Act.put, List.setIfInBounds_toArray, List.set_cons_zero, List.set_cons_succ]
      refine wpAnyH_take (i := 10) (oi := ?oi10K11) (v := ?v10K11) ?hi10K11 (by kernel_rfl) (by kernel_rfl) (by kernel_rfl) ?hq10K11 (Or.inl ⟨?hw10K11, ?hy10K11⟩) (by assumption) ?rest10K11
      case hi10K11 => (simp only [List.getElem?_toArray, List.getElem?_cons_succ, List.getElem?_cons_zero]; rfl)
      case hq10K11 => exact fun _ _ _ h => h
      case hw10K11 => rfl
      case hy10K11 => (intro w hSw; (try dsimp only at hSw); go_simp <;> with_reducible rfl)
      try simp only [Act.put, List.setIfInBounds_toArray, List.set_cons_zero, List.set_cons_succ]
      refine wpAnyH_take (i := 11) (oi := ?oi11K11) (v := ?v11K11) ?hi11K11 (by kernel_rfl) (by kernel_rfl) (by kernel_rfl) ?hq11K11 (Or.inl ⟨?hw11K11, ?hy11K11⟩) (by assumption) ?rest11K11
      case hi11K11 => (simp only [List.getElem?_toArray, List.getElem?_cons_succ, List.getElem?_cons_zero]; rfl)
      case hq11K11 => exact fun _ _ _ h => h
      case hw11K11 => rfl
      case hy11K11 => (intro w hSw; (try dsimp only at hSw); go_simp <;> with_reducible rfl)
      try simp only [Act.put, List.setIfInBounds_toArray, List.set_cons_zero, List.set_cons_succ]
      refine wpAnyH_take (i := 12) (oi := ?oi12K11) (v := ?v12K11) ?hi12K11 (by kernel_rfl) (by kernel_rfl) (by kernel_rfl) ?hq12K11 (Or.inl ⟨?hw12K11, ?hy12K11⟩) (by assumption) ?rest12K11
      case hi12K11 => (simp only [List.getElem?_toArray, List.getElem?_cons_succ, List.getElem?_cons_zero]; rfl)
      case hq12K11 => exact fun _ _ _ h => h
      case hw12K11 => rfl
      case hy12K11 => (intro w hSw; (try dsimp only at hSw); go_simp <;> with_reducible rfl)
      try simp only [Act.put, List.setIfInBounds_toArray, List.set_cons_zero, List.set_cons_succ]
      refine wpAnyH_done (by kernel_rfl) ?_ _
      go_wp2
      go_ret2
      exact ⟨rfl, hb2⟩
  · have hK : knownK k = false := by simp [knownK]; omega
    have hT : takesK k = false := by unfold takesK; rw [chg_none h]; rfl
    go_enter Tryz.func49, Tryz.ntmps49
    go_wp2_with fail
    refine (change_any w.heap.size k _).mono ?_
    rintro e w1 ⟨rfl, hx1⟩
    have hb1 := hb0.trans (hx1.mono hb0.size)
    rw [show chgV w.heap.size k = .agg #[.pointer none, .pointer none, .pointer none] from by unfold chgV; rw [chg_none h]; rfl]
    have hbc := Blk.new w1 123 #[.pointer none, .pointer none, .pointer none]
    have hb2 := Below.drew (hb1.alloc hb1.size (.cells #[.pointer none, .pointer none, .pointer none] 123))
    go_wp2_with fail
    refine wp_region_held_drew (S := (fun w' => w'.cell? ⟨w1.heap.size, 0, none⟩ = some (.pointer none) ∧ w'.cell? ⟨w1.heap.size, 1, none⟩ = some (.pointer none) ∧ w'.cell? ⟨w1.heap.size, 2, none⟩ = some (.pointer none))) (by kernel_rfl) ⟨hbc.cell 0, hbc.cell 1, hbc.cell 2⟩ (fun hHeld => ?_)
    refine wpAnyH_take (i := 0) (oi := ?oi0K0) (v := ?v0K0) ?hi0K0 (by kernel_rfl) (by kernel_rfl) (by kernel_rfl) ?hq0K0 (Or.inl ⟨?hw0K0, ?hy0K0⟩) (by assumption) ?rest0K0
    case hi0K0 => (simp only [List.getElem?_toArray, List.getElem?_cons_succ, List.getElem?_cons_zero]; rfl)
    case hq0K0 => exact fun _ _ _ h => h
    case hw0K0 => rfl
    case hy0K0 => (intro w hSw; (try dsimp only at hSw); go_simp <;> with_reducible rfl)
    try simp only [Act.put, List.setIfInBounds_toArray, List.set_cons_zero, List.set_cons_succ]
    refine wpAnyH_take (i := 1) (oi := ?oi1K0) (v := ?v1K0) ?hi1K0 (by kernel_rfl) (by kernel_rfl) (by kernel_rfl) ?hq1K0 (Or.inl ⟨?hw1K0, ?hy1K0⟩) (by assumption) ?rest1K0
    case hi1K0 => (simp only [List.getElem?_toArray, List.getElem?_cons_succ, List.getElem?_cons_zero]; rfl)
    case hq1K0 => exact fun _ _ _ h => h
    case hw1K0 => rfl
    case hy1K0 => (intro w hSw; (try dsimp only at hSw); go_simp <;> with_reducible rfl)
    try simp only [Act.put, List.setIfInBounds_toArray, List.set_cons_zero, List.set_cons_succ]
    refine wpAnyH_take (i := 2) (oi := ?oi2K0) (v := ?v2K0) ?hi2K0 (by kernel_rfl) (by kernel_rfl) (by kernel_rfl) ?hq2K0 (Or.inl ⟨?hw2K0, ?hy2K0⟩) (by assumption) ?rest2K0
    case hi2K0 => (simp only [List.getElem?_toArray, List.getElem?_cons_succ, List.getElem?_cons_zero]; rfl)
    case hq2K0 => exact fun _ _ _ h => h
    case hw2K0 => rfl
    case hy2K0 => (intro w hSw; (try dsimp only at hSw); go_simp <;> with_reducible rfl)
    try simp only [Act.put, List.setIfInBounds_toArray, List.set_cons_zero, List.set_cons_succ]
    refine wpAnyH_take (i := 3) (oi := ?oi3K0) (v := ?v3K0) ?hi3K0 (by kernel_rfl) (by kernel_rfl) (by kernel_rfl) ?hq3K0 (Or.inl ⟨?hw3K0, ?hy3K0⟩) (by assumption) ?rest3K0
    case hi3K0 => (simp only [List.getElem?_toArray, List.getElem?_cons_succ, List.getElem?_cons_zero]; rfl)
    case hq3K0 => exact fun _ _ _ h => h
    case hw3K0 => rfl
    case hy3K0 => (intro w hSw; (try dsimp only at hSw); go_simp <;> with_reducible rfl)
    try simp only [Act.put, List.setIfInBounds_toArray, List.set_cons_zero, List.set_cons_succ]
    refine wpAnyH_take (i := 4) (oi := ?oi4K0) (v := ?v4K0) ?hi4K0 (by kernel_rfl) (by kernel_rfl) (by kernel_rfl) ?hq4K0 (Or.inl ⟨?hw4K0, ?hy4K0⟩) (by assumption) ?rest4K0
    case hi4K0 => (simp only [List.getElem?_toArray, List.getElem?_cons_succ, List.getElem?_cons_zero]; rfl)
    case hq4K0 => exact fun _ _ _ h => h
    case hw4K0 => rfl
    case hy4K0 => (intro w hSw; (try dsimp only at hSw); go_simp <;> with_reducible rfl)
    try simp only [Act.put, List.setIfInBounds_toArray, List.set_cons_zero, List.set_cons_succ]
    refine wpAnyH_take (i := 5) (oi := ?oi5K0) (v := ?v5K0) ?hi5K0 (by kernel_rfl) (by kernel_rfl) (by kernel_rfl) ?hq5K0 (Or.inl ⟨?hw5K0, ?hy5K0⟩) (by assumption) ?rest5K0
    case hi5K0 => (simp only [List.getElem?_toArray, List.getElem?_cons_succ, List.getElem?_cons_zero]; rfl)
    case hq5K0 => exact fun _ _ _ h => h
    case hw5K0 => rfl
    case hy5K0 => (intro w hSw; (try dsimp only at hSw); go_simp <;> with_reducible rfl)
    try simp only [Act.put, List.setIfInBounds_toArray, List.set_cons_zero, List.set_cons_succ]
    refine wpAnyH_take (i := 6) (oi := ?oi6K0) (v := ?v6K0) ?hi6K0 (by kernel_rfl) (by kernel_rfl) (by kernel_rfl) ?hq6K0 (Or.inl ⟨?hw6K0, ?hy6K0⟩) (by assumption) ?rest6K0
    case hi6K0 => (simp only [List.getElem?_toArray, List.getElem?_cons_succ, List.getElem?_cons_zero]; rfl)
    case hq6K0 => exact fun _ _ _ h => h
    case hw6K0 => rfl
    case hy6K0 => (intro w hSw; (try dsimp only at hSw); go_simp <;> with_reducible rfl)
    try simp only [Act.put, List.setIfInBounds_toArray, List.set_cons_zero, List.set_cons_succ]
    refine wpAnyH_take (i := 7) (oi := ?oi7K0) (v := ?v7K0) ?hi7K0 (by kernel_rfl) (by kernel_rfl) (by kernel_rfl) ?hq7K0 (Or.inl ⟨?hw7K0, ?hy7K0⟩) (by assumption) ?rest7K0
    case hi7K0 => (simp only [List.getElem?_toArray, List.getElem?_cons_succ, List.getElem?_cons_zero]; rfl)
    case hq7K0 => exact fun _ _ _ h => h
    case hw7K0 => rfl
    case hy7K0 => (intro w hSw; (try dsimp only at hSw); go_simp <;> with_reducible rfl)
    try simp only [Act.put, List.setIfInBounds_toArray, List.set_cons_zero, List.set_cons_succ]
    refine wpAnyH_take (i := 8) (oi := ?oi8K0) (v := ?v8K0) ?hi8K0 (by kernel_rfl) (by kernel_rfl) (by kernel_rfl) ?hq8K0 (Or.inl ⟨?hw8K0, ?hy8K0⟩) (by assumption) ?rest8K0
    case hi8K0 => (simp only [List.getElem?_toArray, List.getElem?_cons_succ, List.getElem?_cons_zero]; rfl)
    case hq8K0 => exact fun _ _ _ h => h
    case hw8K0 => rfl
    case hy8K0 => (intro w hSw; (try dsimp only at hSw); go_simp <;> with_reducible rfl)
    try simp only [Act.put, List.setIfInBounds_toArray, List.set_cons_zero, List.set_cons_succ]
    refine wpAnyH_take (i := 9) (oi := ?oi9K0) (v := ?v9K0) ?hi9K0 (by kernel_rfl) (by kernel_rfl) (by kernel_rfl) ?hq9K0 (Or.inl ⟨?hw9K0, ?hy9K0⟩) (by assumption) ?rest9K0
    case hi9K0 => (simp only [List.getElem?_toArray, List.getElem?_cons_succ, List.getElem?_cons_zero]; rfl)
    case hq9K0 => exact fun _ _ _ h => h
    case hw9K0 => rfl
    case hy9K0 => (intro w hSw; (try dsimp only at hSw); go_simp <;> with_reducible rfl)
    try simp only [Act.put, List.setIfInBounds_toArray, List.set_cons_zero, List.set_cons_succ]
    refine wpAnyH_take (i := 10) (oi := ?oi10K0) (v := ?v10K0) ?hi10K0 (by kernel_rfl) (by kernel_rfl) (by kernel_rfl) ?hq10K0 (Or.inl ⟨?hw10K0, ?hy10K0⟩) (by assumption) ?rest10K0
    case hi10K0 => (simp only [List.getElem?_toArray, List.getElem?_cons_succ, List.getElem?_cons_zero]; rfl)
    case hq10K0 => exact fun _ _ _ h => h
    case hw10K0 => rfl
    case hy10K0 => (intro w hSw; (try dsimp only at hSw); go_simp <;> with_reducible rfl)
    try simp only [Act.put, List.setIfInBounds_toArray, List.set_cons_zero, List.set_cons_succ]
    refine wpAnyH_take (i := 11) (oi := ?oi11K0) (v := ?v11K0) ?hi11K0 (by kernel_rfl) (by kernel_rfl) (by kernel_rfl) ?hq11K0 (Or.inl ⟨?hw11K0, ?hy11K0⟩) (by assumption) ?rest11K0
    case hi11K0 => (simp only [List.getElem?_toArray, List.getElem?_cons_succ, List.getElem?_cons_zero]; rfl)
    case hq11K0 => exact fun _ _ _ h => h
    case hw11K0 => rfl
    case hy11K0 => (intro w hSw; (try dsimp only at hSw); go_simp <;> with_reducible rfl)
    try simp only [Act.put, List.setIfInBounds_toArray, List.set_cons_zero, List.set_cons_succ]
    refine wpAnyH_take (i := 12) (oi := ?oi12K0) (v := ?v12K0) ?hi12K0 (by kernel_rfl) (by kernel_rfl) (by kernel_rfl) ?hq12K0 (Or.inl ⟨?hw12K0, ?hy12K0⟩) (by assumption) ?rest12K0
    case hi12K0 => (simp only [List.getElem?_toArray, List.getElem?_cons_succ, List.getElem?_cons_zero]; rfl)
    case hq12K0 => exact fun _ _ _ h => h
    case hw12K0 => rfl
    case hy12K0 => (intro w hSw; (try dsimp only at hSw); go_simp <;> with_reducible rfl)
    try simp only [Act.put, List.setIfInBounds_toArray, List.set_cons_zero, List.set_cons_succ]
    refine wpAnyH_done (by kernel_rfl) ?_ _
    go_wp2
    go_ret2
    exact ⟨by rw [hK, hT]; rfl, hb2⟩
end Go.Proofs.YtfpcnenohidfpaaGreat
