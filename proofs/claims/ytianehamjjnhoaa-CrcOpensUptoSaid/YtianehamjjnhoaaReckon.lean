/- The table's words, and the contract of reckon. No condition. -/
import Derived.Test.YtianehamjjnhoaaStep
import Derived.Test.YtianehamjjnhoaaOnceParts
import Derived.Laws.NewBlocks
import Derived.Deep.RegionHeld3
import Derived.IntWalk
namespace Go.Proofs.Ytianehamjjnhoaa
open Go.RowKit
set_option linter.unusedVariables false

/-- Block g is a table: done d, lock m, steps f. -/
def TB (w : World) (g : Nat) (d m : Int) (f : Nat → Nat) : Prop :=
  ∃ cs, Blk w g 62 cs ∧ cs[0]? = some (.int .u32 d) ∧ cs[1]? = some (.int .i32 m) ∧ ∀ j, j < 256 → cs[3 + j]? = some (.int .u32 (f j : Int))
section
variable {w w' : World} {g : Nat} {d m : Int} {f : Nat → Nat}
theorem TB.lt (h : TB w g d m f) : g < w.heap.size := h.choose_spec.1.lt
theorem TB.done (h : TB w g d m f) : w.cell? ⟨g, 0, none⟩ = some (.int .u32 d) := by
  obtain ⟨cs, hb, h0, _, _⟩ := h
  rw [hb.cell]; exact h0
theorem TB.lock (h : TB w g d m f) : w.cell? ⟨g, 1, none⟩ = some (.int .i32 m) := by
  obtain ⟨cs, hb, _, h1, _⟩ := h
  rw [hb.cell]; exact h1
theorem TB.at_ (h : TB w g d m f) {j : Nat} (hj : j < 256) : w.cell? ⟨g, 3 + j, none⟩ = some (.int .u32 (f j : Int)) := by
  obtain ⟨cs, hb, _, _, hs⟩ := h
  rw [hb.cell]; exact hs j hj
theorem TB.frozen (h : TB w g d m f) (i : Nat) : w.frozen? ⟨g, i, none⟩ = false := by
  obtain ⟨cs, hb, _⟩ := h
  exact hb.frozen i
theorem TB.kept {S : Nat → Prop} (h : TB w g d m f) (k : Keep S w w') (hg : ¬ S g) : TB w' g d m f := by
  obtain ⟨cs, hb, hr⟩ := h
  exact ⟨cs, hb.kept k hg, hr⟩
theorem TB.alloc (h : TB w g d m f) (o : Obj) : TB (w.alloc o) g d m f := h.kept ((Keep.refl (fun _ => False) w).alloc o) id
theorem TB.drew (h : TB w g d m f) : TB w.drew g d m f := h
theorem TB.drewN (h : TB w g d m f) (k : Nat) : TB (w.drewN k) g d m f := h
theorem TB.set_eq {f' : Nat → Nat} (h : TB w g d m f) (hf : ∀ j, f' j = f j) : TB w g d m f' := by
  rw [show f' = f from funext hf]; exact h
theorem TB.set_done (h : TB w g d m f) (d' : Int) : TB (w.setCell ⟨g, 0, none⟩ (.int .u32 d')) g d' m f := by
  obtain ⟨cs, hb, h0, h1, hs⟩ := h
  refine ⟨_, hb.set_ 0 _, ?_, ?_, fun j hj => ?_⟩
  · obtain ⟨hl, _⟩ := Array.getElem?_eq_some_iff.1 h0
    simp [hl]
  · rw [Array.getElem?_setIfInBounds, if_neg (by omega)]; exact h1
  · rw [Array.getElem?_setIfInBounds, if_neg (by omega)]; exact hs j hj
theorem TB.set_lock (h : TB w g d m f) (m' : Int) : TB (w.setCell ⟨g, 1, none⟩ (.int .i32 m')) g d m' f := by
  obtain ⟨cs, hb, h0, h1, hs⟩ := h
  refine ⟨_, hb.set_ 1 _, ?_, ?_, fun j hj => ?_⟩
  · rw [Array.getElem?_setIfInBounds, if_neg (by omega)]; exact h0
  · obtain ⟨hl, _⟩ := Array.getElem?_eq_some_iff.1 h1
    simp [hl]
  · rw [Array.getElem?_setIfInBounds, if_neg (by omega)]; exact hs j hj
theorem TB.set_at (h : TB w g d m f) {k : Nat} (hk : k < 256) (x : Nat) (f' : Nat → Nat) (hf : ∀ j, f' j = if j = k then x else f j) : TB (w.setCell ⟨g, 3 + k, none⟩ (.int .u32 (x : Int))) g d m f' := by
  obtain ⟨cs, hb, h0, h1, hs⟩ := h
  refine ⟨_, hb.set_ (3 + k) _, ?_, ?_, fun j hj => ?_⟩
  · rw [Array.getElem?_setIfInBounds, if_neg (by omega)]; exact h0
  · rw [Array.getElem?_setIfInBounds, if_neg (by omega)]; exact h1
  · rw [hf j]
    by_cases e : j = k
    · subst e
      obtain ⟨hl, _⟩ := Array.getElem?_eq_some_iff.1 (hs j hj)
      simp [hl]
    · rw [Array.getElem?_setIfInBounds, if_neg (by omega), if_neg e]; exact hs j hj
end

/-- Steps filled up to k. -/
def upTo (k : Nat) (f : Nat → Nat) (j : Nat) : Nat := if j < k then step 0 j else f j

set_option maxRecDepth 100000 in
set_option maxHeartbeats 1600000 in
theorem reckon_any (g : Nat) (d m : Int) (f : Nat → Nat) (w : World) (ht : TB w g d m f) :
    Calls Try.prog 36 #[.pointer (some ⟨g, 0, none⟩)] w fun e w' => e = .returned (.tuple #[]) ∧ Keep (fun k => k = g) w w' ∧ TB w' g d m (upTo 256 f) := by
  go_enter Try.func36, Try.ntmps36
  go_wp2_with fail
  go_loopw [3] (fun i wr => ∃ k : Nat, k ≤ 256 ∧ i = .int .i64 (k : Int) ∧ TB wr g d m (upTo k f) ∧ Keep (fun k => k = g) w wr) (fun i _ => 256 - (intOf i).toNat)
  case atStart => exact ⟨0, by omega, rfl, ht.set_eq fun j => by simp [upTo], Keep.refl _ _⟩
  case round =>
    obtain ⟨k, hk, rfl, hT, hK⟩ := hrel
    by_cases hlt : k < 256
    · go_wp2_with fail
      have hst : ∀ w, Calls Try.prog 16 #[.int .u32 0, .int .u8 (k : Int)] w fun e w' => e = .returned (.int .u32 (step 0 k : Int)) ∧ w = w' := fun w => step_any 0 k w (by omega) (by omega)
      have hu8 := IntWalk.u8_in (k : Int) ⟨by omega, by omega⟩
      have hcl := hT.at_ hlt
      have hfr := hT.frozen (3 + k)
      have hTn := hT.set_at hlt (step 0 k) (upTo (k + 1) f) (fun j => by simp only [upTo]; by_cases e : j = k <;> by_cases e2 : j < k <;> simp [e, e2] <;> omega)
      --REG
      refine wp_region_held_drew (S := (fun w' => ∃ f', TB w' g d m f')) (by kernel_rfl) ⟨_, hT.drew⟩ (fun hHeld => ?_)
      refine wpAnyH_take (i := 0) (oi := ?oi0) (v := ?v0) ?hi0 (by kernel_rfl) (by kernel_rfl) (by kernel_rfl) ?hq0 (Or.inl ⟨?hw0, ?hy0⟩) (by assumption) ?rest0
      case hi0 => (simp only [List.getElem?_toArray, List.getElem?_cons_zero]; rfl)
      case hq0 => exact fun _ _ _ h => h
      case hw0 => rfl
      case hy0 => (intro w hSw; (try dsimp only at hSw); go_simp <;> with_reducible rfl)
      try simp only [Act.put, List.setIfInBounds_toArray, List.set_cons_zero, List.set_cons_succ]
      refine wpAnyH_take (i := 1) (oi := ?oi1) (v := ?v1) ?hi1 (by kernel_rfl) (by kernel_rfl) (by kernel_rfl) ?hq1 (Or.inl ⟨?hw1, ?hy1⟩) (by assumption) ?rest1
      case hi1 => (simp only [List.getElem?_toArray, List.getElem?_cons_succ, List.getElem?_cons_zero]; rfl)
      case hq1 => exact fun _ _ _ h => h
      case hw1 => rfl
      case hy1 => (intro w hSw; (try dsimp only at hSw); go_simp <;> with_reducible rfl)
      try simp only [Act.put, List.setIfInBounds_toArray, List.set_cons_zero, List.set_cons_succ]
      refine wpAnyH_take (i := 2) (oi := ?oi2) (v := ?v2) ?hi2 (by kernel_rfl) (by kernel_rfl) (by kernel_rfl) ?hq2 (Or.inl ⟨?hw2, ?hy2⟩) (by assumption) ?rest2
      case hi2 => (simp only [List.getElem?_toArray, List.getElem?_cons_succ, List.getElem?_cons_zero]; rfl)
      case hq2 => exact fun _ _ _ h => h
      case hw2 => rfl
      case hy2 => (intro w hSw; (try dsimp only at hSw); go_simp <;> with_reducible rfl)
      try simp only [Act.put, List.setIfInBounds_toArray, List.set_cons_zero, List.set_cons_succ]
      refine wpAnyH_take (i := 3) (oi := ?oi3) (v := ?v3) ?hi3 (by kernel_rfl) (by kernel_rfl) (by kernel_rfl) ?hq3 (Or.inl ⟨?hw3, ?hy3⟩) (by assumption) ?rest3
      case hi3 => (simp only [List.getElem?_toArray, List.getElem?_cons_succ, List.getElem?_cons_zero]; rfl)
      case hq3 => exact fun _ _ _ h => h
      case hw3 => rfl
      case hy3 => (intro w hSw; (try dsimp only at hSw); go_simp <;> with_reducible rfl)
      try simp only [Act.put, List.setIfInBounds_toArray, List.set_cons_zero, List.set_cons_succ]
      refine wpAnyH_take (i := 5) (oi := ?oi5) (v := ?v5) ?hi5 (by kernel_rfl) (by kernel_rfl) (by kernel_rfl) ?hq5 (Or.inl ⟨?hw5, ?hy5⟩) (by assumption) ?rest5
      case hi5 => (simp only [List.getElem?_toArray, List.getElem?_cons_succ, List.getElem?_cons_zero]; rfl)
      case hq5 => exact fun _ _ _ h => h
      case hw5 => rfl
      case hy5 => (intro w hSw; (try dsimp only at hSw); go_simp <;> with_reducible rfl)
      try simp only [Act.put, List.setIfInBounds_toArray, List.set_cons_zero, List.set_cons_succ]
      refine wpAnyH_take (i := 6) (oi := ?oi6) (v := ?v6) ?hi6 (by kernel_rfl) (by kernel_rfl) (by kernel_rfl) ?hq6 (Or.inl ⟨?hw6, ?hy6⟩) (by assumption) ?rest6
      case hi6 => (simp only [List.getElem?_toArray, List.getElem?_cons_succ, List.getElem?_cons_zero]; rfl)
      case hq6 => exact fun _ _ _ h => h
      case hw6 => rfl
      case hy6 => (intro w hSw; (try dsimp only at hSw); go_simp <;> with_reducible rfl)
      try simp only [Act.put, List.setIfInBounds_toArray, List.set_cons_zero, List.set_cons_succ]
      refine wpAnyH_ready (rs := [4]) (by kernel_rfl) (by simp) ?_
      refine AllReadyH.cons (o := ?o4) ?hi4 (fun K hK => ?st4) AllReadyH.nil
      case hi4 => (simp only [List.getElem?_toArray, List.getElem?_cons_succ, List.getElem?_cons_zero]; rfl)
      go_simp
      refine (hst _).mono ?_
      rintro e w6 ⟨rfl, rfl⟩
      refine hK.out _ _ ⟨_, hT.drew⟩ (fun hHeld2 => ?_)
      clear hK K hHeld
      have hHeld := hHeld2
      clear hHeld2
      try simp only [Act.put, List.setIfInBounds_toArray, List.set_cons_zero, List.set_cons_succ]
      refine wpAnyH_take (i := 7) (oi := ?oi7) (v := ?v7) ?hi7 (by kernel_rfl) (by kernel_rfl) (by kernel_rfl) ?hq7 (Or.inl ⟨?hw7, ?hy7⟩) (by assumption) ?rest7
      case hi7 => (simp only [List.getElem?_toArray, List.getElem?_cons_succ, List.getElem?_cons_zero]; rfl)
      case hq7 => exact fun _ _ _ h => h
      case hw7 => rfl
      case hy7 => (intro w hSw; (try dsimp only at hSw); go_simp <;> with_reducible rfl)
      try simp only [Act.put, List.setIfInBounds_toArray, List.set_cons_zero, List.set_cons_succ]
      refine wpAnyH_ready (rs := [8]) (by kernel_rfl) (by simp) ?_
      refine AllReadyH.cons (o := ?o8) ?hi8 (fun K hK => ?st8) AllReadyH.nil
      case hi8 => (simp only [List.getElem?_toArray, List.getElem?_cons_succ, List.getElem?_cons_zero]; rfl)
      go_simp
      refine hK.out _ _ ⟨_, hTn.drew⟩ (fun hHeld2 => ?_)
      clear hK K hHeld
      have hHeld := hHeld2
      clear hHeld2
      try simp only [Act.put, List.setIfInBounds_toArray, List.set_cons_zero, List.set_cons_succ]
      refine wpAnyH_done (by kernel_rfl) ?_ _
      --END
      go_wp2
      go_roundw
      case rel => exact ⟨k + 1, by omega, by go_num, hTn.drew, (hK.setCell (p := ⟨g, 3 + k, none⟩) (fun _ => rfl) _).drew⟩
      case measure => simp [intOf]; omega
    · obtain rfl : k = 256 := by omega
      go_wp2
      go_end0
      exact ⟨rfl, hK, hT⟩
end Go.Proofs.Ytianehamjjnhoaa
