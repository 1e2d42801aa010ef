/- Parts: bytes cut into parts. No condition but the bound of its own list. -/
import Derived.Test.YtebgoaiinjmbiaaRows2
namespace Go.Proofs.Ytebgoaiinjmbiaa
open Go.RowKit
set_option linter.unusedVariables false
set_option linter.unusedSimpArgs false

/-- The first k parts of m bytes each. -/
def partsL (l : List UInt8) (m k : Nat) : List (List UInt8) := (List.range k).map fun i => (l.drop (i * m)).take m
theorem partsL_len (l : List UInt8) (m k : Nat) : (partsL l m k).length = k := by simp [partsL]
theorem partsL_succ (l : List UInt8) (m k : Nat) : partsL l m (k + 1) = partsL l m k ++ [(l.drop (k * m)).take m] := by simp [partsL, List.range_succ]

def PartsPost (l : List UInt8) (m : Nat) (w : World) (e : Ending) (w' : World) : Prop :=
  ∃ v k, e = .returned v ∧ l.length ≤ k * m ∧ (0 < k → (k - 1) * m < l.length) ∧ LB w.heap.size w' v (partsL l m k) ∧ Keep (fun _ => False) w w'

set_option maxRecDepth 100000 in
set_option maxHeartbeats 3200000 in
theorem parts_any (A : Option Addr) (n c : Nat) (l : List UInt8) (m : Nat) (w : World) (hr : RB w A n l) (hnc : n ≤ c) (hn : n ≤ 1048576) (hc : c ≤ 9223372036854775807) (hm : 1 ≤ m) (hm2 : m ≤ 9223372036854775807) :
    Calls Try.prog 11 #[.slice A n c, .int .i64 (m : Int)] w (PartsPost l m w) := by
  have HL := Lib.hid hr.1
  go_enter Try.func11, Try.ntmps11
  go_wp2_with fail
  --LOOP
  go_loopw [0, 5] (fun b u wr => ∃ k n' c' : Nat, ∃ A', b = .slice A' n' c' ∧ n' ≤ c' ∧ c' ≤ 9223372036854775807 ∧ n' ≤ n ∧ RB w A' n' (l.drop (k * m)) ∧ (0 < k → (k - 1) * m < n) ∧ k + n' ≤ n ∧ LB w.heap.size wr u (partsL l m k) ∧ Keep (fun _ => False) w wr)
    (fun b _ _ => match b with | .slice _ q _ => q | _ => 0)
  case atStart => exact ⟨0, n, c, A, rfl, hnc, hc, by omega, by simpa using hr, fun h => by omega, by omega, by simpa [partsL] using LB.nil _ _, Keep.refl _ _⟩
  case round =>
    obtain ⟨k, n', c', A', rfl, hnc', hc', hnn, hr', hlast, hkn, hL, hKp⟩ := hrel
    by_cases h0 : 0 < n'
    · obtain ⟨z, hz⟩ : ∃ z, z = min m n' := ⟨_, rfl⟩
      have hzi : (if (m : Int) ≤ (n' : Int) then (m : Int) else (n' : Int)) = (z : Int) := by split <;> omega
      have hzm : min (m : Int) (n' : Int) = (z : Int) := by omega
      have hz1 : 1 ≤ z := by omega
      have hz2 : z ≤ n' := by omega
      have hx1 := fun W : World => run_to W A' n' c' (z : Int) (by omega) (by omega)
      have hx2 := fun W : World => run_from W A' n' c' (z : Int) (by omega) (by omega)
      simp only [Int.toNat_natCast] at hx1 hx2
      have hrz := hr'.take z hz2
      have hlz : (l.drop (k * m)).take z = (l.drop (k * m)).take m := by
        have hd := hr'.1
        by_cases h : m ≤ n'
        · rw [show z = m by omega]
        · rw [List.take_of_length_le (by omega), List.take_of_length_le (by omega)]
      rw [hlz] at hrz
      have hfr := fun (W : World) (hk : Keep (fun _ => False) w W) => fresh_any A' z c' _ W (hrz.kept hk fun _ _ => id) (by omega)
      have HZ := Lib.hid hz
      have HLZ := Lib.hid hlz
      clear hz hlz
      obtain ⟨NN, HN⟩ : ∃ N, Hid (((l.drop (k * m)).take m).length = N) := ⟨_, Lib.hid rfl⟩
      go_wp2_with fail
      --REG
      refine wp_region_held_drew (S := (fun _ => True)) (by kernel_rfl) trivial (fun hHeld => ?_)
      refine wpAnyH_take (i := 0) (oi := ?oi0) (v := ?v0) ?hi0 (by kernel_rfl) (by kernel_rfl) (by kernel_rfl) ?hq0 (Or.inl ⟨?hw0, ?hy0⟩) (by assumption) ?rest0
      case hi0 => (simp only [List.getElem?_toArray, List.getElem?_cons_succ, List.getElem?_cons_zero]; rfl)
      case hq0 => exact fun _ _ _ h => h
      case hw0 => rfl
      case hy0 => (intro w hSw; (try dsimp only at hSw); go_simp <;> with_reducible rfl)
      try simp only [Act.put, List.setIfInBounds_toArray, List.set_cons_zero, List.set_cons_succ]
      refine wpAnyH_take (i := 1) (oi := ?oi1) (v := ?v1) ?hi1 (by kernel_rfl) (by kernel_rfl) (by kernel_rfl) ?hq1 (Or.inl ⟨?hw1, ?hy1⟩) (by assumption) ?rest1
      case hi1 => (simp only [List.getElem?_toArray, List.getElem?_cons_succ, List.getElem?_cons_zero]; rfl)
      case hq1 => exact fun _ _ _ h => h
      case hw1 => rfl
      case hy1 => (intro w hSw; (try dsimp only at hSw); go_simp <;> with_reducible rfl)
      try simp only [Act.put, List.setIfInBounds_toArray, List.set_cons_zero, List.set_cons_succ]
      refine wpAnyH_take (i := 2) (oi := ?oi2) (v := ?v2) ?hi2 (by kernel_rfl) (by kernel_rfl) (by kernel_rfl) ?hq2 (Or.inl ⟨?hw2, ?hy2⟩) (by assumption) ?rest2
      case hi2 => (simp only [List.getElem?_toArray, List.getElem?_cons_succ, List.getElem?_cons_zero]; rfl)
      case hq2 => exact fun _ _ _ h => h
      case hw2 => rfl
      case hy2 => (intro w hSw; (try dsimp only at hSw); go_simp <;> with_reducible rfl)
      try simp only [Act.put, List.setIfInBounds_toArray, List.set_cons_zero, List.set_cons_succ]
      refine wpAnyH_take (i := 3) (oi := ?oi3) (v := ?v3) ?hi3 (by kernel_rfl) (by kernel_rfl) (by kernel_rfl) ?hq3 (Or.inl ⟨?hw3, ?hy3⟩) (by assumption) ?rest3
      case hi3 => (simp only [List.getElem?_toArray, List.getElem?_cons_succ, List.getElem?_cons_zero]; rfl)
      case hq3 => exact fun _ _ _ h => h
      case hw3 => rfl
      case hy3 => (intro w hSw; (try dsimp only at hSw); go_simp <;> with_reducible rfl)
      try simp only [Act.put, List.setIfInBounds_toArray, List.set_cons_zero, List.set_cons_succ]
      refine wpAnyH_take (i := 7) (oi := ?oi7) (v := ?v7) ?hi7 (by kernel_rfl) (by kernel_rfl) (by kernel_rfl) ?hq7 (Or.inl ⟨?hw7, ?hy7⟩) (by assumption) ?rest7
      case hi7 => (simp only [List.getElem?_toArray, List.getElem?_cons_succ, List.getElem?_cons_zero]; rfl)
      case hq7 => exact fun _ _ _ h => h
      case hw7 => rfl
      case hy7 => (intro w hSw; (try dsimp only at hSw); go_simp <;> with_reducible rfl)
      try simp only [Act.put, List.setIfInBounds_toArray, List.set_cons_zero, List.set_cons_succ]
      refine wpAnyH_take (i := 8) (oi := ?oi8) (v := ?v8) ?hi8 (by kernel_rfl) (by kernel_rfl) (by kernel_rfl) ?hq8 (Or.inl ⟨?hw8, ?hy8⟩) (by assumption) ?rest8
      case hi8 => (simp only [List.getElem?_toArray, List.getElem?_cons_succ, List.getElem?_cons_zero]; rfl)
      case hq8 => exact fun _ _ _ h => h
      case hw8 => rfl
      case hy8 => (intro w hSw; (try dsimp only at hSw); go_simp <;> with_reducible rfl)
      try simp only [Act.put, List.setIfInBounds_toArray, List.set_cons_zero, List.set_cons_succ]
      refine wpAnyH_take (i := 9) (oi := ?oi9) (v := ?v9) ?hi9 (by kernel_rfl) (by kernel_rfl) (by kernel_rfl) ?hq9 (Or.inl ⟨?hw9, ?hy9⟩) (by assumption) ?rest9
      case hi9 => (simp only [List.getElem?_toArray, List.getElem?_cons_succ, List.getElem?_cons_zero]; rfl)
      case hq9 => exact fun _ _ _ h => h
      case hw9 => rfl
      case hy9 => (intro w hSw; (try dsimp only at hSw); go_simp <;> with_reducible rfl)
      try simp only [Act.put, List.setIfInBounds_toArray, List.set_cons_zero, List.set_cons_succ]
      refine wpAnyH_ready (rs := [4]) (by kernel_rfl) (by simp) ?_
      refine AllReadyH.cons (o := ?o4) ?hi4 (fun K hK => ?st4) AllReadyH.nil
      case hi4 => (simp only [List.getElem?_toArray, List.getElem?_cons_succ, List.getElem?_cons_zero]; rfl)
      go_simp
      refine (hfr _ hKp.drew).mono ?_
      rintro e w3 ⟨v3, rfl, hg3⟩
      obtain ⟨A3, c3, rfl, hl3, hm3, hr3, had3⟩ := hg3.own.formN (N := NN) HN.out
      have hK3 : Keep (fun _ => False) w w3 := hKp.drew.trans hg3.keep (fun i hi h => by simp [Value.ownBlock] at h)
      have hL3 : LB w.heap.size w3 u5 (partsL l m k) := (hL.kept ((Keep.refl (fun _ => False) wr).drew) (fun _ _ _ h => h)).kept hg3.keep (fun _ _ _ h => by simp [Value.ownBlock] at h)
      have ho3 := hg3.own.mono (base' := w.heap.size) hKp.size
      have hoc := ho3.one_cell
      clear hg3 hr3 had3
      refine hK.out _ _ trivial (fun hHeld2 => ?_)
      clear hK K hHeld
      have hHeld := hHeld2
      clear hHeld2
      try simp only [Act.put, List.setIfInBounds_toArray, List.set_cons_zero, List.set_cons_succ]
      refine wpAnyH_ready (rs := [5]) (by kernel_rfl) (by simp) ?_
      refine AllReadyH.cons (o := ?o5) ?hi5 (fun K hK => ?st5) AllReadyH.nil
      case hi5 => (simp only [List.getElem?_toArray, List.getElem?_cons_succ, List.getElem?_cons_zero]; rfl)
      go_simp
      refine hK.out _ _ trivial (fun hHeld2 => ?_)
      clear hK K hHeld
      have hHeld := hHeld2
      clear hHeld2
      try simp only [Act.put, List.setIfInBounds_toArray, List.set_cons_zero, List.set_cons_succ]
      refine wpAnyH_ready (rs := [6]) (by kernel_rfl) (by simp) ?_
      refine AllReadyH.cons (o := ?o6) ?hi6 (fun K hK => ?st6) AllReadyH.nil
      case hi6 => (simp only [List.getElem?_toArray, List.getElem?_cons_succ, List.getElem?_cons_zero]; rfl)
      --APP
      rw [if_pos (by rfl)]
      refine wp_app_one (.tmp 16) (.tmp 21) rfl w.heap.size u5 (.slice A3 NN c3) ((l.drop (k * m)).take m) (partsL l m k) rfl (hL3.alloc_ _) ⟨w3.heap.size, 0, none⟩ rfl (by go_simp) (ho3.alloc _) hoc (by rw [partsL_len]; omega) (by simp; have := hK3.size; omega) ?_
      intro v4 w4 hL4 hk4
      refine hK.out _ _ trivial (fun hHeld2 => ?_)
      clear hK K hHeld
      have hHeld := hHeld2
      clear hHeld2
      try simp only [Act.put, List.setIfInBounds_toArray, List.set_cons_zero, List.set_cons_succ]
      refine wpAnyH_take (i := 10) (oi := ?oi10) (v := ?v10) ?hi10 (by kernel_rfl) (by kernel_rfl) (by kernel_rfl) ?hq10 (Or.inl ⟨?hw10, ?hy10⟩) (by assumption) ?rest10
      case hi10 => (simp only [List.getElem?_toArray, List.getElem?_cons_succ, List.getElem?_cons_zero]; rfl)
      case hq10 => exact fun _ _ _ h => h
      case hw10 => rfl
      case hy10 => (intro w hSw; (try dsimp only at hSw); go_simp <;> with_reducible rfl)
      try simp only [Act.put, List.setIfInBounds_toArray, List.set_cons_zero, List.set_cons_succ]
      refine wpAnyH_take (i := 11) (oi := ?oi11) (v := ?v11) ?hi11 (by kernel_rfl) (by kernel_rfl) (by kernel_rfl) ?hq11 (Or.inl ⟨?hw11, ?hy11⟩) (by assumption) ?rest11
      case hi11 => (simp only [List.getElem?_toArray, List.getElem?_cons_succ, List.getElem?_cons_zero]; rfl)
      case hq11 => exact fun _ _ _ h => h
      case hw11 => rfl
      case hy11 => (intro w hSw; (try dsimp only at hSw); go_simp <;> with_reducible rfl)
      try simp only [Act.put, List.setIfInBounds_toArray, List.set_cons_zero, List.set_cons_succ]
      refine wpAnyH_done (by kernel_rfl) ?_ _
      --END
      go_wp2_with fail
      have hK4 := (hK3.alloc (.cells #[.slice A3 NN c3] 23)).trans hk4 (fun i hi h => by have := (hL3.lt i h).1; omega)
      have hrest : RB w (subA A' c' z) (n' - z) (l.drop ((k + 1) * m)) := by
        have h1 := hr'.sub z hz2 hnc'
        have h2 : (l.drop (k * m)).drop z = l.drop ((k + 1) * m) := by
          have hd := hr'.1
          rw [List.length_drop] at hd
          rw [List.drop_drop, Nat.succ_mul]
          by_cases h : m ≤ n'
          · rw [show z = m by have := HZ.out; omega]
          · rw [List.drop_eq_nil_of_le (by rw [HL.out] at hd ⊢; have := HZ.out; omega), List.drop_eq_nil_of_le (by rw [HL.out] at hd ⊢; omega)]
        rwa [h2] at h1
      have hl2 : 0 < k + 1 → (k + 1 - 1) * m < n := fun _ => by
        have hd := hr'.1
        rw [List.length_drop, HL.out] at hd
        rw [Nat.add_sub_cancel]
        omega
      rw [← partsL_succ] at hL4
      go_roundw
      case rel => exact ⟨k + 1, n' - z, c' - z, _, rfl, by omega, by omega, by omega, hrest, hl2, by omega, hL4, hK4⟩
      case measure => simp; omega
    · obtain rfl : n' = 0 := by omega
      go_wp2_with fail
      go_ret
      refine ⟨u5, k, rfl, ?_, by rw [HL.out]; exact hlast, hL, hKp⟩
      have hd := hr'.1
      rw [List.length_drop] at hd
      omega
end Go.Proofs.Ytebgoaiinjmbiaa
