/- Of one good; what both have, the rest: as the document has them. No condition but that the lists are ones of memory. -/
import Derived.Test.YtkofaobdpmbcaaaROf
namespace Go.Proofs.Ytkofaobdpmbcaaa
open Go.RowKit Go.Maps Go.Shelf Go.Sort
set_option linter.unusedVariables false
set_option linter.unusedSimpArgs false

/-- Of each what is above 0. -/
def posL (f : It → Int) (l : List It) : List It := l.filterMap fun x => if 0 < f x then some (x.1, f x) else none
theorem posL_take {l : List It} {k : Nat} {x : It} (f : It → Int) (hx : l[k]? = some x) : posL f (l.take (k + 1)) = if 0 < f x then posL f (l.take k) ++ [(x.1, f x)] else posL f (l.take k) := by
  unfold posL
  rw [List.take_add_one, hx, List.filterMap_append]
  by_cases h : 0 < f x <;> simp [h]
theorem posL_len (f : It → Int) (l : List It) : (posL f l).length ≤ l.length := List.length_filterMap_le _ _

set_option maxRecDepth 100000 in
set_option maxHeartbeats 3200000 in
theorem both_meet (A A' : Option Addr) (n c n' c' : Nat) (la lb : List It) (w : World) (hla : IL w A n la) (hlb0 : IL w A' n' lb) (hn : n * 24 ≤ 140737488355328) (hn' : n' ≤ 9223372036854775807) :
    Calls Try.prog 27 #[.slice A n c, .slice A' n' c', .int .i64 1] w fun e w' => ∃ v, e = .returned v ∧ OI w.heap.size w' v (posL (fun x : It => min x.2 (ofL lb x.1)) la) ∧ Below w.heap.size w w' := by
  have hlen := hla.len
  generalize hF : (fun x : It => min x.2 (ofL lb x.1)) = f
  go_enter Try.func27, Try.ntmps27
  go_wp2
  go_loopw [7, 8, 9, 10, 11] (fun v i u9 u10 u11 wr => ∃ k : Nat, i = .int .i64 (k : Int) ∧ k ≤ n ∧ OI w.heap.size wr v (posL f (la.take k)) ∧ Below w.heap.size w wr) (fun _ i _ _ _ _ => n - (intOf i).toNat)
  case atStart => exact ⟨0, by go_num, by omega, OI.nil _ _, Below.refl _ _⟩
  case round =>
    obtain ⟨k, rfl, hk, hO, hbw⟩ := hrel
    by_cases hlt : k < n
    · have hlz : (k : Int) < (n : Int) := by omega
      have hlb := hlb0.below hbw
      obtain ⟨b, off, ⟨s1, q1⟩, rfl, hx, c0, c1⟩ := (hla.below hbw).place hlt
      dsimp only at c0 c1
      have hzr := hbw.size
      have hlen2 := posL_len f (la.take k)
      rw [List.length_take] at hlen2
      have htk := posL_take f hx
      dsimp only at htk
      have hf0 : f (s1, q1) = min q1 (ofL lb s1) := by rw [← hF]
      obtain ⟨y, hy⟩ : ∃ y, ofL lb s1 = y := ⟨_, rfl⟩
      rw [hy] at hf0
      clear hF
      by_cases hyx : y < q1
      · have hyd : decide (y < q1) = true := decide_eq_true hyx
        have hf : f (s1, q1) = y := by rw [hf0]; omega
        clear hyx hf0
        by_cases hpos : 0 < y
        · have htk2 : posL f (la.take (k + 1)) = posL f (la.take k) ++ [(s1, y)] := by rw [htk, hf, if_pos hpos]
          have hpd : decide (0 < y) = true := decide_eq_true hpos
          clear hpos htk hf
          go_wp2
          refine wp_region_held_drew (S := (fun w' => w'.cell? ⟨b, off + k * 2, none⟩ = some (.string ⟨s1.toArray⟩) ∧ w'.cell? ⟨b, off + k * 2 + 1, none⟩ = some (.int .i64 q1))) (by kernel_rfl) ⟨c0, c1⟩ (fun hHeld => ?_)
          refine wpAnyH_take (i := 0) (oi := ?oi0A) (v := ?v0A) ?hi0A (by kernel_rfl) (by kernel_rfl) (by kernel_rfl) ?hq0A (Or.inl ⟨?hw0A, ?hy0A⟩) (by assumption) ?rest0A
          case hi0A => (simp only [List.getElem?_toArray, List.getElem?_cons_succ, List.getElem?_cons_zero]; rfl)
          case hq0A => exact fun _ _ _ h => h
          case hw0A => rfl
          case hy0A => (intro w hSw; (try dsimp only at hSw); go_simp <;> with_reducible rfl)
          try simp only [Act.put, List.setIfInBounds_toArray, List.set_cons_zero, List.set_cons_succ]
          refine wpAnyH_take (i := 1) (oi := ?oi1A) (v := ?v1A) ?hi1A (by kernel_rfl) (by kernel_rfl) (by kernel_rfl) ?hq1A (Or.inl ⟨?hw1A, ?hy1A⟩) (by assumption) ?rest1A
          case hi1A => (simp only [List.getElem?_toArray, List.getElem?_cons_succ, List.getElem?_cons_zero]; rfl)
          case hq1A => exact fun _ _ _ h => h
          case hw1A => rfl
          case hy1A => (intro w hSw; (try dsimp only at hSw); go_simp <;> with_reducible rfl)
          try simp only [Act.put, List.setIfInBounds_toArray, List.set_cons_zero, List.set_cons_succ]
          refine wpAnyH_take (i := 2) (oi := ?oi2A) (v := ?v2A) ?hi2A (by kernel_rfl) (by kernel_rfl) (by kernel_rfl) ?hq2A (Or.inl ⟨?hw2A, ?hy2A⟩) (by assumption) ?rest2A
          case hi2A => (simp only [List.getElem?_toArray, List.getElem?_cons_succ, List.getElem?_cons_zero]; rfl)
          case hq2A => exact fun _ _ _ h => h
          case hw2A => rfl
          case hy2A => (intro w hSw; (try dsimp only at hSw); go_simp <;> with_reducible rfl)
          try simp only [Act.put, List.setIfInBounds_toArray, List.set_cons_zero, List.set_cons_succ]
          refine wpAnyH_take (i := 3) (oi := ?oi3A) (v := ?v3A) ?hi3A (by kernel_rfl) (by kernel_rfl) (by kernel_rfl) ?hq3A (Or.inl ⟨?hw3A, ?hy3A⟩) (by assumption) ?rest3A
          case hi3A => (simp only [List.getElem?_toArray, List.getElem?_cons_succ, List.getElem?_cons_zero]; rfl)
          case hq3A => exact fun _ _ _ h => h
          case hw3A => rfl
          case hy3A => (intro w hSw; (try dsimp only at hSw); go_simp <;> with_reducible rfl)
          try simp only [Act.put, List.setIfInBounds_toArray, List.set_cons_zero, List.set_cons_succ]
          refine wpAnyH_take (i := 4) (oi := ?oi4A) (v := ?v4A) ?hi4A (by kernel_rfl) (by kernel_rfl) (by kernel_rfl) ?hq4A (Or.inl ⟨?hw4A, ?hy4A⟩) (by assumption) ?rest4A
          case hi4A => (simp only [List.getElem?_toArray, List.getElem?_cons_succ, List.getElem?_cons_zero]; rfl)
          case hq4A => exact fun _ _ _ h => h
          case hw4A => rfl
          case hy4A => (intro w hSw; (try dsimp only at hSw); go_simp <;> with_reducible rfl)
          try simp only [Act.put, List.setIfInBounds_toArray, List.set_cons_zero, List.set_cons_succ]
          refine wpAnyH_take (i := 5) (oi := ?oi5A) (v := ?v5A) ?hi5A (by kernel_rfl) (by kernel_rfl) (by kernel_rfl) ?hq5A (Or.inl ⟨?hw5A, ?hy5A⟩) (by assumption) ?rest5A
          case hi5A => (simp only [List.getElem?_toArray, List.getElem?_cons_succ, List.getElem?_cons_zero]; rfl)
          case hq5A => exact fun _ _ _ h => h
          case hw5A => rfl
          case hy5A => (intro w hSw; (try dsimp only at hSw); go_simp <;> with_reducible rfl)
          try simp only [Act.put, List.setIfInBounds_toArray, List.set_cons_zero, List.set_cons_succ]
          refine wpAnyH_take (i := 6) (oi := ?oi6A) (v := ?v6A) ?hi6A (by kernel_rfl) (by kernel_rfl) (by kernel_rfl) ?hq6A (Or.inl ⟨?hw6A, ?hy6A⟩) (by assumption) ?rest6A
          case hi6A => (simp only [List.getElem?_toArray, List.getElem?_cons_succ, List.getElem?_cons_zero]; rfl)
          case hq6A => exact fun _ _ _ h => h
          case hw6A => rfl
          case hy6A => (intro w hSw; (try dsimp only at hSw); go_simp <;> with_reducible rfl)
          try simp only [Act.put, List.setIfInBounds_toArray, List.set_cons_zero, List.set_cons_succ]
          refine wpAnyH_take (i := 7) (oi := ?oi7A) (v := ?v7A) ?hi7A (by kernel_rfl) (by kernel_rfl) (by kernel_rfl) ?hq7A (Or.inl ⟨?hw7A, ?hy7A⟩) (by assumption) ?rest7A
          case hi7A => (simp only [List.getElem?_toArray, List.getElem?_cons_succ, List.getElem?_cons_zero]; rfl)
          case hq7A => exact fun _ _ _ h => h
          case hw7A => rfl
          case hy7A => (intro w hSw; (try dsimp only at hSw); go_simp <;> with_reducible rfl)
          try simp only [Act.put, List.setIfInBounds_toArray, List.set_cons_zero, List.set_cons_succ]
          refine wpAnyH_take (i := 8) (oi := ?oi8A) (v := ?v8A) ?hi8A (by kernel_rfl) (by kernel_rfl) (by kernel_rfl) ?hq8A (Or.inl ⟨?hw8A, ?hy8A⟩) (by assumption) ?rest8A
          case hi8A => (simp only [List.getElem?_toArray, List.getElem?_cons_succ, List.getElem?_cons_zero]; rfl)
          case hq8A => exact fun _ _ _ h => h
          case hw8A => rfl
          case hy8A => (intro w hSw; (try dsimp only at hSw); go_simp <;> with_reducible rfl)
          try simp only [Act.put, List.setIfInBounds_toArray, List.set_cons_zero, List.set_cons_succ]
          refine wpAnyH_take (i := 9) (oi := ?oi9A) (v := ?v9A) ?hi9A (by kernel_rfl) (by kernel_rfl) (by kernel_rfl) ?hq9A (Or.inl ⟨?hw9A, ?hy9A⟩) (by assumption) ?rest9A
          case hi9A => (simp only [List.getElem?_toArray, List.getElem?_cons_succ, List.getElem?_cons_zero]; rfl)
          case hq9A => exact fun _ _ _ h => h
          case hw9A => rfl
          case hy9A => (intro w hSw; (try dsimp only at hSw); go_simp <;> with_reducible rfl)
          try simp only [Act.put, List.setIfInBounds_toArray, List.set_cons_zero, List.set_cons_succ]
          refine wpAnyH_take (i := 10) (oi := ?oi10A) (v := ?v10A) ?hi10A (by kernel_rfl) (by kernel_rfl) (by kernel_rfl) ?hq10A (Or.inl ⟨?hw10A, ?hy10A⟩) (by assumption) ?rest10A
          case hi10A => (simp only [List.getElem?_toArray, List.getElem?_cons_succ, List.getElem?_cons_zero]; rfl)
          case hq10A => exact fun _ _ _ h => h
          case hw10A => rfl
          case hy10A => (intro w hSw; (try dsimp only at hSw); go_simp <;> with_reducible rfl)
          try simp only [Act.put, List.setIfInBounds_toArray, List.set_cons_zero, List.set_cons_succ]
          refine wpAnyH_ready (rs := [11]) (by kernel_rfl) (by simp) ?_
          refine AllReadyH.cons (o := ?o11A) ?hi11A (fun K hK => ?st11A) AllReadyH.nil
          case hi11A => (simp only [List.getElem?_toArray, List.getElem?_cons_succ, List.getElem?_cons_zero]; rfl)
          go_simp
          refine (refof_any A' n' c' lb s1 _ (hlb.drew) hn').mono ?_
          rintro e w5 ⟨rfl, rfl⟩
          rw [hy]
          go_wp2_with fail
          refine hK.out _ _ ⟨c0, c1⟩ (fun hHeld2 => ?_)
          clear hK K hHeld
          have hHeld := hHeld2
          clear hHeld2
          try simp only [Act.put, List.setIfInBounds_toArray, List.set_cons_zero, List.set_cons_succ]
          refine wpAnyH_take (i := 12) (oi := ?oi12A) (v := ?v12A) ?hi12A (by kernel_rfl) (by kernel_rfl) (by kernel_rfl) ?hq12A (Or.inl ⟨?hw12A, ?hy12A⟩) (by assumption) ?rest12A
          case hi12A => (simp only [List.getElem?_toArray, List.getElem?_cons_succ, List.getElem?_cons_zero]; rfl)
          case hq12A => exact fun _ _ _ h => h
          case hw12A => rfl
          case hy12A => (intro w hSw; (try dsimp only at hSw); go_simp <;> with_reducible rfl)
          try simp only [Act.put, List.setIfInBounds_toArray, List.set_cons_zero, List.set_cons_succ]
          refine wpAnyH_take (i := 13) (oi := ?oi13A) (v := ?v13A) ?hi13A (by kernel_rfl) (by kernel_rfl) (by kernel_rfl) ?hq13A (Or.inl ⟨?hw13A, ?hy13A⟩) (by assumption) ?rest13A
          case hi13A => (simp only [List.getElem?_toArray, List.getElem?_cons_succ, List.getElem?_cons_zero]; rfl)
          case hq13A => exact fun _ _ _ h => h
          case hw13A => rfl
          case hy13A => (intro w hSw; (try dsimp only at hSw); go_simp <;> with_reducible rfl)
          try simp only [Act.put, List.setIfInBounds_toArray, List.set_cons_zero, List.set_cons_succ]
          refine wpAnyH_done (by kernel_rfl) ?_ _
          go_wp2_with (at_builtin; refine wpAppI rfl _ _ rfl w.heap.size _ _ rfl (hO.drew.alloc _) _ 1 1 [(s1, y)] rfl (IL.one wr.drew s1 y _) (fun h => by cases h) (by omega) (by simp; omega) ?_; rintro v' w3 hO3 hk3 hl3)
          go_roundw
          case measure => simp [intOf]; omega
          case rel =>
            have hk3' := ((Keep.refl (fun j => u7.ownBlock = some j) wr.drew).alloc (.cells #[.string ⟨s1.toArray⟩, .int .i64 y] 40)).trans hk3 (fun _ _ h => h)
            have hbw3 := hbw.drew.trans (hk3'.below hbw.size (fun j hj e => by have := (hO.lt j e).1; omega))
            exact ⟨k + 1, by go_num, by omega, by rw [htk2]; exact hO3, hbw3⟩
        · have htk2 : posL f (la.take (k + 1)) = posL f (la.take k) := by rw [htk, hf, if_neg hpos]
          have hpd : decide (0 < y) = false := decide_eq_false hpos
          clear hpos htk hf
          go_wp2
          refine wp_region_held_drew (S := (fun w' => w'.cell? ⟨b, off + k * 2, none⟩ = some (.string ⟨s1.toArray⟩) ∧ w'.cell? ⟨b, off + k * 2 + 1, none⟩ = some (.int .i64 q1))) (by kernel_rfl) ⟨c0, c1⟩ (fun hHeld => ?_)
          refine wpAnyH_take (i := 0) (oi := ?oi0B) (v := ?v0B) ?hi0B (by kernel_rfl) (by kernel_rfl) (by kernel_rfl) ?hq0B (Or.inl ⟨?hw0B, ?hy0B⟩) (by assumption) ?rest0B
          case hi0B => (simp only [List.getElem?_toArray, List.getElem?_cons_succ, List.getElem?_cons_zero]; rfl)
          case hq0B => exact fun _ _ _ h => h
          case hw0B => rfl
          case hy0B => (intro w hSw; (try dsimp only at hSw); go_simp <;> with_reducible rfl)
          try simp only [Act.put, List.setIfInBounds_toArray, List.set_cons_zero, List.set_cons_succ]
          refine wpAnyH_take (i := 1) (oi := ?oi1B) (v := ?v1B) ?hi1B (by kernel_rfl) (by kernel_rfl) (by kernel_rfl) ?hq1B (Or.inl ⟨?hw1B, ?hy1B⟩) (by assumption) ?rest1B
          case hi1B => (simp only [List.getElem?_toArray, List.getElem?_cons_succ, List.getElem?_cons_zero]; rfl)
          case hq1B => exact fun _ _ _ h => h
          case hw1B => rfl
          case hy1B => (intro w hSw; (try dsimp only at hSw); go_simp <;> with_reducible rfl)
          try simp only [Act.put, List.setIfInBounds_toArray, List.set_cons_zero, List.set_cons_succ]
          refine wpAnyH_take (i := 2) (oi := ?oi2B) (v := ?v2B) ?hi2B (by kernel_rfl) (by kernel_rfl) (by kernel_rfl) ?hq2B (Or.inl ⟨?hw2B, ?hy2B⟩) (by assumption) ?rest2B
          case hi2B => (simp only [List.getElem?_toArray, List.getElem?_cons_succ, List.getElem?_cons_zero]; rfl)
          case hq2B => exact fun _ _ _ h => h
          case hw2B => rfl
          case hy2B => (intro w hSw; (try dsimp only at hSw); go_simp <;> with_reducible rfl)
          try simp only [Act.put, List.setIfInBounds_toArray, List.set_cons_zero, List.set_cons_succ]
          refine wpAnyH_take (i := 3) (oi := ?oi3B) (v := ?v3B) ?hi3B (by kernel_rfl) (by kernel_rfl) (by kernel_rfl) ?hq3B (Or.inl ⟨?hw3B, ?hy3B⟩) (by assumption) ?rest3B
          case hi3B => (simp only [List.getElem?_toArray, List.getElem?_cons_succ, List.getElem?_cons_zero]; rfl)
          case hq3B => exact fun _ _ _ h => h
          case hw3B => rfl
          case hy3B => (intro w hSw; (try dsimp only at hSw); go_simp <;> with_reducible rfl)
          try simp only [Act.put, List.setIfInBounds_toArray, List.set_cons_zero, List.set_cons_succ]
          refine wpAnyH_take (i := 4) (oi := ?oi4B) (v := ?v4B) ?hi4B (by kernel_rfl) (by kernel_rfl) (by kernel_rfl) ?hq4B (Or.inl ⟨?hw4B, ?hy4B⟩) (by assumption) ?rest4B
          case hi4B => (simp only [List.getElem?_toArray, List.getElem?_cons_succ, List.getElem?_cons_zero]; rfl)
          case hq4B => exact fun _ _ _ h => h
          case hw4B => rfl
          case hy4B => (intro w hSw; (try dsimp only at hSw); go_simp <;> with_reducible rfl)
          try simp only [Act.put, List.setIfInBounds_toArray, List.set_cons_zero, List.set_cons_succ]
          refine wpAnyH_take (i := 5) (oi := ?oi5B) (v := ?v5B) ?hi5B (by kernel_rfl) (by kernel_rfl) (by kernel_rfl) ?hq5B (Or.inl ⟨?hw5B, ?hy5B⟩) (by assumption) ?rest5B
          case hi5B => (simp only [List.getElem?_toArray, List.getElem?_cons_succ, List.getElem?_cons_zero]; rfl)
          case hq5B => exact fun _ _ _ h => h
          case hw5B => rfl
          case hy5B => (intro w hSw; (try dsimp only at hSw); go_simp <;> with_reducible rfl)
          try simp only [Act.put, List.setIfInBounds_toArray, List.set_cons_zero, List.set_cons_succ]
          refine wpAnyH_take (i := 6) (oi := ?oi6B) (v := ?v6B) ?hi6B (by kernel_rfl) (by kernel_rfl) (by kernel_rfl) ?hq6B (Or.inl ⟨?hw6B, ?hy6B⟩) (by assumption) ?rest6B
          case hi6B => (simp only [List.getElem?_toArray, List.getElem?_cons_succ, List.getElem?_cons_zero]; rfl)
          case hq6B => exact fun _ _ _ h => h
          case hw6B => rfl
          case hy6B => (intro w hSw; (try dsimp only at hSw); go_simp <;> with_reducible rfl)
          try simp only [Act.put, List.setIfInBounds_toArray, List.set_cons_zero, List.set_cons_succ]
          refine wpAnyH_take (i := 7) (oi := ?oi7B) (v := ?v7B) ?hi7B (by kernel_rfl) (by kernel_rfl) (by kernel_rfl) ?hq7B (Or.inl ⟨?hw7B, ?hy7B⟩) (by assumption) ?rest7B
          case hi7B => (simp only [List.getElem?_toArray, List.getElem?_cons_succ, List.getElem?_cons_zero]; rfl)
          case hq7B => exact fun _ _ _ h => h
          case hw7B => rfl
          case hy7B => (intro w hSw; (try dsimp only at hSw); go_simp <;> with_reducible rfl)
          try simp only [Act.put, List.setIfInBounds_toArray, List.set_cons_zero, List.set_cons_succ]
          refine wpAnyH_take (i := 8) (oi := ?oi8B) (v := ?v8B) ?hi8B (by kernel_rfl) (by kernel_rfl) (by kernel_rfl) ?hq8B (Or.inl ⟨?hw8B, ?hy8B⟩) (by assumption) ?rest8B
          case hi8B => (simp only [List.getElem?_toArray, List.getElem?_cons_succ, List.getElem?_cons_zero]; rfl)
          case hq8B => exact fun _ _ _ h => h
          case hw8B => rfl
          case hy8B => (intro w hSw; (try dsimp only at hSw); go_simp <;> with_reducible rfl)
          try simp only [Act.put, List.setIfInBounds_toArray, List.set_cons_zero, List.set_cons_succ]
          refine wpAnyH_take (i := 9) (oi := ?oi9B) (v := ?v9B) ?hi9B (by kernel_rfl) (by kernel_rfl) (by kernel_rfl) ?hq9B (Or.inl ⟨?hw9B, ?hy9B⟩) (by assumption) ?rest9B
          case hi9B => (simp only [List.getElem?_toArray, List.getElem?_cons_succ, List.getElem?_cons_zero]; rfl)
          case hq9B => exact fun _ _ _ h => h
          case hw9B => rfl
          case hy9B => (intro w hSw; (try dsimp only at hSw); go_simp <;> with_reducible rfl)
          try simp only [Act.put, List.setIfInBounds_toArray, List.set_cons_zero, List.set_cons_succ]
          refine wpAnyH_take (i := 10) (oi := ?oi10B) (v := ?v10B) ?hi10B (by kernel_rfl) (by kernel_rfl) (by kernel_rfl) ?hq10B (Or.inl ⟨?hw10B, ?hy10B⟩) (by assumption) ?rest10B
          case hi10B => (simp only [List.getElem?_toArray, List.getElem?_cons_succ, List.getElem?_cons_zero]; rfl)
          case hq10B => exact fun _ _ _ h => h
          case hw10B => rfl
          case hy10B => (intro w hSw; (try dsimp only at hSw); go_simp <;> with_reducible rfl)
          try simp only [Act.put, List.setIfInBounds_toArray, List.set_cons_zero, List.set_cons_succ]
          refine wpAnyH_ready (rs := [11]) (by kernel_rfl) (by simp) ?_
          refine AllReadyH.cons (o := ?o11B) ?hi11B (fun K hK => ?st11B) AllReadyH.nil
          case hi11B => (simp only [List.getElem?_toArray, List.getElem?_cons_succ, List.getElem?_cons_zero]; rfl)
          go_simp
          refine (refof_any A' n' c' lb s1 _ (hlb.drew) hn').mono ?_
          rintro e w5 ⟨rfl, rfl⟩
          rw [hy]
          go_wp2_with fail
          refine hK.out _ _ ⟨c0, c1⟩ (fun hHeld2 => ?_)
          clear hK K hHeld
          have hHeld := hHeld2
          clear hHeld2
          try simp only [Act.put, List.setIfInBounds_toArray, List.set_cons_zero, List.set_cons_succ]
          refine wpAnyH_take (i := 12) (oi := ?oi12B) (v := ?v12B) ?hi12B (by kernel_rfl) (by kernel_rfl) (by kernel_rfl) ?hq12B (Or.inl ⟨?hw12B, ?hy12B⟩) (by assumption) ?rest12B
          case hi12B => (simp only [List.getElem?_toArray, List.getElem?_cons_succ, List.getElem?_cons_zero]; rfl)
          case hq12B => exact fun _ _ _ h => h
          case hw12B => rfl
          case hy12B => (intro w hSw; (try dsimp only at hSw); go_simp <;> with_reducible rfl)
          try simp only [Act.put, List.setIfInBounds_toArray, List.set_cons_zero, List.set_cons_succ]
          refine wpAnyH_take (i := 13) (oi := ?oi13B) (v := ?v13B) ?hi13B (by kernel_rfl) (by kernel_rfl) (by kernel_rfl) ?hq13B (Or.inl ⟨?hw13B, ?hy13B⟩) (by assumption) ?rest13B
          case hi13B => (simp only [List.getElem?_toArray, List.getElem?_cons_succ, List.getElem?_cons_zero]; rfl)
          case hq13B => exact fun _ _ _ h => h
          case hw13B => rfl
          case hy13B => (intro w hSw; (try dsimp only at hSw); go_simp <;> with_reducible rfl)
          try simp only [Act.put, List.setIfInBounds_toArray, List.set_cons_zero, List.set_cons_succ]
          refine wpAnyH_done (by kernel_rfl) ?_ _
          go_wp2
          go_roundw
          case measure => simp [intOf]; omega
          case rel => exact ⟨k + 1, by go_num, by omega, by rw [htk2]; exact hO.drew, hbw.drew⟩
      · have hyd : decide (y < q1) = false := decide_eq_false hyx
        have hf : f (s1, q1) = q1 := by rw [hf0]; omega
        clear hyx hf0
        by_cases hpos : 0 < q1
        · have htk2 : posL f (la.take (k + 1)) = posL f (la.take k) ++ [(s1, q1)] := by rw [htk, hf, if_pos hpos]
          have hpd : decide (0 < q1) = true := decide_eq_true hpos
          clear hpos htk hf
          go_wp2
          refine wp_region_held_drew (S := (fun w' => w'.cell? ⟨b, off + k * 2, none⟩ = some (.string ⟨s1.toArray⟩) ∧ w'.cell? ⟨b, off + k * 2 + 1, none⟩ = some (.int .i64 q1))) (by kernel_rfl) ⟨c0, c1⟩ (fun hHeld => ?_)
          refine wpAnyH_take (i := 0) (oi := ?oi0C) (v := ?v0C) ?hi0C (by kernel_rfl) (by kernel_rfl) (by kernel_rfl) ?hq0C (Or.inl ⟨?hw0C, ?hy0C⟩) (by assumption) ?rest0C
          case hi0C => (simp only [List.getElem?_toArray, List.getElem?_cons_succ, List.getElem?_cons_zero]; rfl)
          case hq0C => exact fun _ _ _ h => h
          case hw0C => rfl
          case hy0C => (intro w hSw; (try dsimp only at hSw); go_simp <;> with_reducible rfl)
          try simp only [Act.put, List.setIfInBounds_toArray, List.set_cons_zero, List.set_cons_succ]
          refine wpAnyH_take (i := 1) (oi := ?oi1C) (v := ?v1C) ?hi1C (by kernel_rfl) (by kernel_rfl) (by kernel_rfl) ?hq1C (Or.inl ⟨?hw1C, ?hy1C⟩) (by assumption) ?rest1C
          case hi1C => (simp only [List.getElem?_toArray, List.getElem?_cons_succ, List.getElem?_cons_zero]; rfl)
          case hq1C => exact fun _ _ _ h => h
          case hw1C => rfl
          case hy1C => (intro w hSw; (try dsimp only at hSw); go_simp <;> with_reducible rfl)
          try simp only [Act.put, List.setIfInBounds_toArray, List.set_cons_zero, List.set_cons_succ]
          refine wpAnyH_take (i := 2) (oi := ?oi2C) (v := ?v2C) ?hi2C (by kernel_rfl) (by kernel_rfl) (by kernel_rfl) ?hq2C (Or.inl ⟨?hw2C, ?hy2C⟩) (by assumption) ?rest2C
          case hi2C => (simp only [List.getElem?_toArray, List.getElem?_cons_succ, List.getElem?_cons_zero]; rfl)
          case hq2C => exact fun _ _ _ h => h
          case hw2C => rfl
          case hy2C => (intro w hSw; (try dsimp only at hSw); go_simp <;> with_reducible rfl)
          try simp only [Act.put, List.setIfInBounds_toArray, List.set_cons_zero, List.set_cons_succ]
          refine wpAnyH_take (i := 3) (oi := ?oi3C) (v := ?v3C) ?hi3C (by kernel_rfl) (by kernel_rfl) (by kernel_rfl) ?hq3C (Or.inl ⟨?hw3C, ?hy3C⟩) (by assumption) ?rest3C
          case hi3C => (simp only [List.getElem?_toArray, List.getElem?_cons_succ, List.getElem?_cons_zero]; rfl)
          case hq3C => exact fun _ _ _ h => h
          case hw3C => rfl
          case hy3C => (intro w hSw; (try dsimp only at hSw); go_simp <;> with_reducible rfl)
          try simp only [Act.put, List.setIfInBounds_toArray, List.set_cons_zero, List.set_cons_succ]
          refine wpAnyH_take (i := 4) (oi := ?oi4C) (v := ?v4C) ?hi4C (by kernel_rfl) (by kernel_rfl) (by kernel_rfl) ?hq4C (Or.inl ⟨?hw4C, ?hy4C⟩) (by assumption) ?rest4C
          case hi4C => (simp only [List.getElem?_toArray, List.getElem?_cons_succ, List.getElem?_cons_zero]; rfl)
          case hq4C => exact fun _ _ _ h => h
          case hw4C => rfl
          case hy4C => (intro w hSw; (try dsimp only at hSw); go_simp <;> with_reducible rfl)
          try simp only [Act.put, List.setIfInBounds_toArray, List.set_cons_zero, List.set_cons_succ]
          refine wpAnyH_take (i := 5) (oi := ?oi5C) (v := ?v5C) ?hi5C (by kernel_rfl) (by kernel_rfl) (by kernel_rfl) ?hq5C (Or.inl ⟨?hw5C, ?hy5C⟩) (by assumption) ?rest5C
          case hi5C => (simp only [List.getElem?_toArray, List.getElem?_cons_succ, List.getElem?_cons_zero]; rfl)
          case hq5C => exact fun _ _ _ h => h
          case hw5C => rfl
          case hy5C => (intro w hSw; (try dsimp only at hSw); go_simp <;> with_reducible rfl)
          try simp only [Act.put, List.setIfInBounds_toArray, List.set_cons_zero, List.set_cons_succ]
          refine wpAnyH_take (i := 6) (oi := ?oi6C) (v := ?v6C) ?hi6C (by kernel_rfl) (by kernel_rfl) (by kernel_rfl) ?hq6C (Or.inl ⟨?hw6C, ?hy6C⟩) (by assumption) ?rest6C
          case hi6C => (simp only [List.getElem?_toArray, List.getElem?_cons_succ, List.getElem?_cons_zero]; rfl)
          case hq6C => exact fun _ _ _ h => h
          case hw6C => rfl
          case hy6C => (intro w hSw; (try dsimp only at hSw); go_simp <;> with_reducible rfl)
          try simp only [Act.put, List.setIfInBounds_toArray, List.set_cons_zero, List.set_cons_succ]
          refine wpAnyH_take (i := 7) (oi := ?oi7C) (v := ?v7C) ?hi7C (by kernel_rfl) (by kernel_rfl) (by kernel_rfl) ?hq7C (Or.inl ⟨?hw7C, ?hy7C⟩) (by assumption) ?rest7C
          case hi7C => (simp only [List.getElem?_toArray, List.getElem?_cons_succ, List.getElem?_cons_zero]; rfl)
          case hq7C => exact fun _ _ _ h => h
          case hw7C => rfl
          case hy7C => (intro w hSw; (try dsimp only at hSw); go_simp <;> with_reducible rfl)
          try simp only [Act.put, List.setIfInBounds_toArray, List.set_cons_zero, List.set_cons_succ]
          refine wpAnyH_take (i := 8) (oi := ?oi8C) (v := ?v8C) ?hi8C (by kernel_rfl) (by kernel_rfl) (by kernel_rfl) ?hq8C (Or.inl ⟨?hw8C, ?hy8C⟩) (by assumption) ?rest8C
          case hi8C => (simp only [List.getElem?_toArray, List.getElem?_cons_succ, List.getElem?_cons_zero]; rfl)
          case hq8C => exact fun _ _ _ h => h
          case hw8C => rfl
          case hy8C => (intro w hSw; (try dsimp only at hSw); go_simp <;> with_reducible rfl)
          try simp only [Act.put, List.setIfInBounds_toArray, List.set_cons_zero, List.set_cons_succ]
          refine wpAnyH_take (i := 9) (oi := ?oi9C) (v := ?v9C) ?hi9C (by kernel_rfl) (by kernel_rfl) (by kernel_rfl) ?hq9C (Or.inl ⟨?hw9C, ?hy9C⟩) (by assumption) ?rest9C
          case hi9C => (simp only [List.getElem?_toArray, List.getElem?_cons_succ, List.getElem?_cons_zero]; rfl)
          case hq9C => exact fun _ _ _ h => h
          case hw9C => rfl
          case hy9C => (intro w hSw; (try dsimp only at hSw); go_simp <;> with_reducible rfl)
          try simp only [Act.put, List.setIfInBounds_toArray, List.set_cons_zero, List.set_cons_succ]
          refine wpAnyH_take (i := 10) (oi := ?oi10C) (v := ?v10C) ?hi10C (by kernel_rfl) (by kernel_rfl) (by kernel_rfl) ?hq10C (Or.inl ⟨?hw10C, ?hy10C⟩) (by assumption) ?rest10C
          case hi10C => (simp only [List.getElem?_toArray, List.getElem?_cons_succ, List.getElem?_cons_zero]; rfl)
          case hq10C => exact fun _ _ _ h => h
          case hw10C => rfl
          case hy10C => (intro w hSw; (try dsimp only at hSw); go_simp <;> with_reducible rfl)
          try simp only [Act.put, List.setIfInBounds_toArray, List.set_cons_zero, List.set_cons_succ]
          refine wpAnyH_ready (rs := [11]) (by kernel_rfl) (by simp) ?_
          refine AllReadyH.cons (o := ?o11C) ?hi11C (fun K hK => ?st11C) AllReadyH.nil
          case hi11C => (simp only [List.getElem?_toArray, List.getElem?_cons_succ, List.getElem?_cons_zero]; rfl)
          go_simp
          refine (refof_any A' n' c' lb s1 _ (hlb.drew) hn').mono ?_
          rintro e w5 ⟨rfl, rfl⟩
          rw [hy]
          go_wp2_with fail
          refine hK.out _ _ ⟨c0, c1⟩ (fun hHeld2 => ?_)
          clear hK K hHeld
          have hHeld := hHeld2
          clear hHeld2
          try simp only [Act.put, List.setIfInBounds_toArray, List.set_cons_zero, List.set_cons_succ]
          refine wpAnyH_take (i := 12) (oi := ?oi12C) (v := ?v12C) ?hi12C (by kernel_rfl) (by kernel_rfl) (by kernel_rfl) ?hq12C (Or.inl ⟨?hw12C, ?hy12C⟩) (by assumption) ?rest12C
          case hi12C => (simp only [List.getElem?_toArray, List.getElem?_cons_succ, List.getElem?_cons_zero]; rfl)
          case hq12C => exact fun _ _ _ h => h
          case hw12C => rfl
          case hy12C => (intro w hSw; (try dsimp only at hSw); go_simp <;> with_reducible rfl)
          try simp only [Act.put, List.setIfInBounds_toArray, List.set_cons_zero, List.set_cons_succ]
          refine wpAnyH_take (i := 13) (oi := ?oi13C) (v := ?v13C) ?hi13C (by kernel_rfl) (by kernel_rfl) (by kernel_rfl) ?hq13C (Or.inl ⟨?hw13C, ?hy13C⟩) (by assumption) ?rest13C
          case hi13C => (simp only [List.getElem?_toArray, List.getElem?_cons_succ, List.getElem?_cons_zero]; rfl)
          case hq13C => exact fun _ _ _ h => h
          case hw13C => rfl
          case hy13C => (intro w hSw; (try dsimp only at hSw); go_simp <;> with_reducible rfl)
          try simp only [Act.put, List.setIfInBounds_toArray, List.set_cons_zero, List.set_cons_succ]
          refine wpAnyH_done (by kernel_rfl) ?_ _
          go_wp2_with (at_builtin; refine wpAppI rfl _ _ rfl w.heap.size _ _ rfl (hO.drew.alloc _) _ 1 1 [(s1, q1)] rfl (IL.one wr.drew s1 q1 _) (fun h => by cases h) (by omega) (by simp; omega) ?_; rintro v' w3 hO3 hk3 hl3)
          go_roundw
          case measure => simp [intOf]; omega
          case rel =>
            have hk3' := ((Keep.refl (fun j => u7.ownBlock = some j) wr.drew).alloc (.cells #[.string ⟨s1.toArray⟩, .int .i64 q1] 40)).trans hk3 (fun _ _ h => h)
            have hbw3 := hbw.drew.trans (hk3'.below hbw.size (fun j hj e => by have := (hO.lt j e).1; omega))
            exact ⟨k + 1, by go_num, by omega, by rw [htk2]; exact hO3, hbw3⟩
        · have htk2 : posL f (la.take (k + 1)) = posL f (la.take k) := by rw [htk, hf, if_neg hpos]
          have hpd : decide (0 < q1) = false := decide_eq_false hpos
          clear hpos htk hf
          go_wp2
          refine wp_region_held_drew (S := (fun w' => w'.cell? ⟨b, off + k * 2, none⟩ = some (.string ⟨s1.toArray⟩) ∧ w'.cell? ⟨b, off + k * 2 + 1, none⟩ = some (.int .i64 q1))) (by kernel_rfl) ⟨c0, c1⟩ (fun hHeld => ?_)
          refine wpAnyH_take (i := 0) (oi := ?oi0D) (v := ?v0D) ?hi0D (by kernel_rfl) (by kernel_rfl) (by kernel_rfl) ?hq0D (Or.inl ⟨?hw0D, ?hy0D⟩) (by assumption) ?rest0D
          case hi0D => (simp only [List.getElem?_toArray, List.getElem?_cons_succ, List.getElem?_cons_zero]; rfl)
          case hq0D => exact fun _ _ _ h => h
          case hw0D => rfl
          case hy0D => (intro w hSw; (try dsimp only at hSw); go_simp <;> with_reducible rfl)
          try simp only [Act.put, List.setIfInBounds_toArray, List.set_cons_zero, List.set_cons_succ]
          refine wpAnyH_take (i := 1) (oi := ?oi1D) (v := ?v1D) ?hi1D (by kernel_rfl) (by kernel_rfl) (by kernel_rfl) ?hq1D (Or.inl ⟨?hw1D, ?hy1D⟩) (by assumption) ?rest1D
          case hi1D => (simp only [List.getElem?_toArray, List.getElem?_cons_succ, List.getElem?_cons_zero]; rfl)
          case hq1D => exact fun _ _ _ h => h
          case hw1D => rfl
          case hy1D => (intro w hSw; (try dsimp only at hSw); go_simp <;> with_reducible rfl)
          try simp only [Act.put, List.setIfInBounds_toArray, List.set_cons_zero, List.set_cons_succ]
          refine wpAnyH_take (i := 2) (oi := ?oi2D) (v := ?v2D) ?hi2D (by kernel_rfl) (by kernel_rfl) (by kernel_rfl) ?hq2D (Or.inl ⟨?hw2D, ?hy2D⟩) (by assumption) ?rest2D
          case hi2D => (simp only [List.getElem?_toArray, List.getElem?_cons_succ, List.getElem?_cons_zero]; rfl)
          case hq2D => exact fun _ _ _ h => h
          case hw2D => rfl
          case hy2D => (intro w hSw; (try dsimp only at hSw); go_simp <;> with_reducible rfl)
          try simp only [Act.put, List.setIfInBounds_toArray, List.set_cons_zero, List.set_cons_succ]
          refine wpAnyH_take (i := 3) (oi := ?oi3D) (v := ?v3D) ?hi3D (by kernel_rfl) (by kernel_rfl) (by kernel_rfl) ?hq3D (Or.inl ⟨?hw3D, ?hy3D⟩) (by assumption) ?rest3D
          case hi3D => (simp only [List.getElem?_toArray, List.getElem?_cons_succ, List.getElem?_cons_zero]; rfl)
          case hq3D => exact fun _ _ _ h => h
          case hw3D => rfl
          case hy3D => (intro w hSw; (try dsimp only at hSw); go_simp <;> with_reducible rfl)
          try simp only [Act.put, List.setIfInBounds_toArray, List.set_cons_zero, List.set_cons_succ]
          refine wpAnyH_take (i := 4) (oi := ?oi4D) (v := ?v4D) ?hi4D (by kernel_rfl) (by kernel_rfl) (by kernel_rfl) ?hq4D (Or.inl ⟨?hw4D, ?hy4D⟩) (by assumption) ?rest4D
          case hi4D => (simp only [List.getElem?_toArray, List.getElem?_cons_succ, List.getElem?_cons_zero]; rfl)
          case hq4D => exact fun _ _ _ h => h
          case hw4D => rfl
          case hy4D => (intro w hSw; (try dsimp only at hSw); go_simp <;> with_reducible rfl)
          try simp only [Act.put, List.setIfInBounds_toArray, List.set_cons_zero, List.set_cons_succ]
          refine wpAnyH_take (i := 5) (oi := ?oi5D) (v := ?v5D) ?hi5D (by kernel_rfl) (by kernel_rfl) (by kernel_rfl) ?hq5D (Or.inl ⟨?hw5D, ?hy5D⟩) (by assumption) ?rest5D
          case hi5D => (simp only [List.getElem?_toArray, List.getElem?_cons_succ, List.getElem?_cons_zero]; rfl)
          case hq5D => exact fun _ _ _ h => h
          case hw5D => rfl
          case hy5D => (intro w hSw; (try dsimp only at hSw); go_simp <;> with_reducible rfl)
          try simp only [Act.put, List.setIfInBounds_toArray, List.set_cons_zero, List.set_cons_succ]
          refine wpAnyH_take (i := 6) (oi := ?oi6D) (v := ?v6D) ?hi6D (by kernel_rfl) (by kernel_rfl) (by kernel_rfl) ?hq6D (Or.inl ⟨?hw6D, ?hy6D⟩) (by assumption) ?rest6D
          case hi6D => (simp only [List.getElem?_toArray, List.getElem?_cons_succ, List.getElem?_cons_zero]; rfl)
          case hq6D => exact fun _ _ _ h => h
          case hw6D => rfl
          case hy6D => (intro w hSw; (try dsimp only at hSw); go_simp <;> with_reducible rfl)
          try simp only [Act.put, List.setIfInBounds_toArray, List.set_cons_zero, List.set_cons_succ]
          refine wpAnyH_take (i := 7) (oi := ?oi7D) (v := ?v7D) ?hi7D (by kernel_rfl) (by kernel_rfl) (by kernel_rfl) ?hq7D (Or.inl ⟨?hw7D, ?hy7D⟩) (by assumption) ?rest7D
          case hi7D => (simp only [List.getElem?_toArray, List.getElem?_cons_succ, List.getElem?_cons_zero]; rfl)
          case hq7D => exact fun _ _ _ h => h
          case hw7D => rfl
          case hy7D => (intro w hSw; (try dsimp only at hSw); go_simp <;> with_reducible rfl)
          try simp only [Act.put, List.setIfInBounds_toArray, List.set_cons_zero, List.set_cons_succ]
          refine wpAnyH_take (i := 8) (oi := ?oi8D) (v := ?v8D) ?hi8D (by kernel_rfl) (by kernel_rfl) (by kernel_rfl) ?hq8D (Or.inl ⟨?hw8D, ?hy8D⟩) (by assumption) ?rest8D
          case hi8D => (simp only [List.getElem?_toArray, List.getElem?_cons_succ, List.getElem?_cons_zero]; rfl)
          case hq8D => exact fun _ _ _ h => h
          case hw8D => rfl
          case hy8D => (intro w hSw; (try dsimp only at hSw); go_simp <;> with_reducible rfl)
          try simp only [Act.put, List.setIfInBounds_toArray, List.set_cons_zero, List.set_cons_succ]
          refine wpAnyH_take (i := 9) (oi := ?oi9D) (v := ?v9D) ?hi9D (by kernel_rfl) (by kernel_rfl) (by kernel_rfl) ?hq9D (Or.inl ⟨?hw9D, ?hy9D⟩) (by assumption) ?rest9D
          case hi9D => (simp only [List.getElem?_toArray, List.getElem?_cons_succ, List.getElem?_cons_zero]; rfl)
          case hq9D => exact fun _ _ _ h => h
          case hw9D => rfl
          case hy9D => (intro w hSw; (try dsimp only at hSw); go_simp <;> with_reducible rfl)
          try simp only [Act.put, List.setIfInBounds_toArray, List.set_cons_zero, List.set_cons_succ]
          refine wpAnyH_take (i := 10) (oi := ?oi10D) (v := ?v10D) ?hi10D (by kernel_rfl) (by kernel_rfl) (by kernel_rfl) ?hq10D (Or.inl ⟨?hw10D, ?hy10D⟩) (by assumption) ?rest10D
          case hi10D => (simp only [List.getElem?_toArray, List.getElem?_cons_succ, List.getElem?_cons_zero]; rfl)
          case hq10D => exact fun _ _ _ h => h
          case hw10D => rfl
          case hy10D => (intro w hSw; (try dsimp only at hSw); go_simp <;> with_reducible rfl)
          try simp only [Act.put, List.setIfInBounds_toArray, List.set_cons_zero, List.set_cons_succ]
          refine wpAnyH_ready (rs := [11]) (by kernel_rfl) (by simp) ?_
          refine AllReadyH.cons (o := ?o11D) ?hi11D (fun K hK => ?st11D) AllReadyH.nil
          case hi11D => (simp only [List.getElem?_toArray, List.getElem?_cons_succ, List.getElem?_cons_zero]; rfl)
          go_simp
          refine (refof_any A' n' c' lb s1 _ (hlb.drew) hn').mono ?_
          rintro e w5 ⟨rfl, rfl⟩
          rw [hy]
          go_wp2_with fail
          refine hK.out _ _ ⟨c0, c1⟩ (fun hHeld2 => ?_)
          clear hK K hHeld
          have hHeld := hHeld2
          clear hHeld2
          try simp only [Act.put, List.setIfInBounds_toArray, List.set_cons_zero, List.set_cons_succ]
          refine wpAnyH_take (i := 12) (oi := ?oi12D) (v := ?v12D) ?hi12D (by kernel_rfl) (by kernel_rfl) (by kernel_rfl) ?hq12D (Or.inl ⟨?hw12D, ?hy12D⟩) (by assumption) ?rest12D
          case hi12D => (simp only [List.getElem?_toArray, List.getElem?_cons_succ, List.getElem?_cons_zero]; rfl)
          case hq12D => exact fun _ _ _ h => h
          case hw12D => rfl
          case hy12D => (intro w hSw; (try dsimp only at hSw); go_simp <;> with_reducible rfl)
          try simp only [Act.put, List.setIfInBounds_toArray, List.set_cons_zero, List.set_cons_succ]
          refine wpAnyH_take (i := 13) (oi := ?oi13D) (v := ?v13D) ?hi13D (by kernel_rfl) (by kernel_rfl) (by kernel_rfl) ?hq13D (Or.inl ⟨?hw13D, ?hy13D⟩) (by assumption) ?rest13D
          case hi13D => (simp only [List.getElem?_toArray, List.getElem?_cons_succ, List.getElem?_cons_zero]; rfl)
          case hq13D => exact fun _ _ _ h => h
          case hw13D => rfl
          case hy13D => (intro w hSw; (try dsimp only at hSw); go_simp <;> with_reducible rfl)
          try simp only [Act.put, List.setIfInBounds_toArray, List.set_cons_zero, List.set_cons_succ]
          refine wpAnyH_done (by kernel_rfl) ?_ _
          go_wp2
          go_roundw
          case measure => simp [intOf]; omega
          case rel => exact ⟨k + 1, by go_num, by omega, by rw [htk2]; exact hO.drew, hbw.drew⟩
    · have hlz : ¬ (k : Int) < (n : Int) := by omega
      rw [List.take_of_length_le (by omega)] at hO
      go_wp2
      go_ret
      exact ⟨_, rfl, hO, hbw⟩

set_option maxRecDepth 100000 in
set_option maxHeartbeats 3200000 in
theorem both_rest (A A' : Option Addr) (n c n' c' : Nat) (la lb : List It) (w : World) (hla : IL w A n la) (hlb0 : IL w A' n' lb) (hn : n * 24 ≤ 140737488355328) (hn' : n' ≤ 9223372036854775807) :
    Calls Try.prog 27 #[.slice A n c, .slice A' n' c', .int .i64 2] w fun e w' => ∃ v, e = .returned v ∧ OI w.heap.size w' v (posL (fun x : It => wrap64 (x.2 - ofL lb x.1)) la) ∧ Below w.heap.size w w' := by
  have hlen := hla.len
  generalize hF : (fun x : It => wrap64 (x.2 - ofL lb x.1)) = f
  go_enter Try.func27, Try.ntmps27
  go_wp2
  go_loopw [7, 8, 9, 10, 11] (fun v i u9 u10 u11 wr => ∃ k : Nat, i = .int .i64 (k : Int) ∧ k ≤ n ∧ OI w.heap.size wr v (posL f (la.take k)) ∧ Below w.heap.size w wr) (fun _ i _ _ _ _ => n - (intOf i).toNat)
  case atStart => exact ⟨0, by go_num, by omega, OI.nil _ _, Below.refl _ _⟩
  case round =>
    obtain ⟨k, rfl, hk, hO, hbw⟩ := hrel
    by_cases hlt : k < n
    · have hlz : (k : Int) < (n : Int) := by omega
      have hlb := hlb0.below hbw
      obtain ⟨b, off, ⟨s1, q1⟩, rfl, hx, c0, c1⟩ := (hla.below hbw).place hlt
      dsimp only at c0 c1
      have hzr := hbw.size
      have hlen2 := posL_len f (la.take k)
      rw [List.length_take] at hlen2
      have htk := posL_take f hx
      dsimp only at htk
      have hf0 : f (s1, q1) = wrap64 (q1 - ofL lb s1) := by rw [← hF]
      obtain ⟨y, hy⟩ : ∃ y, ofL lb s1 = y := ⟨_, rfl⟩
      rw [hy] at hf0
      clear hF
      obtain ⟨z, hz⟩ : ∃ z, wrap64 (q1 - y) = z := ⟨_, rfl⟩
      have hf : f (s1, q1) = z := by rw [hf0]; exact hz
      have hz2 : IntKind.i64.wrap (q1 - y) = z := by rw [IntKind.wrap_i64, ← hz, wrap64]
      clear hf0
      by_cases hpos : 0 < z
      · have htk2 : posL f (la.take (k + 1)) = posL f (la.take k) ++ [(s1, z)] := by rw [htk, hf, if_pos hpos]
        have hpd : decide (0 < z) = true := decide_eq_true hpos
        clear hpos htk hf
        go_wp2
        refine wp_region_held_drew (S := (fun w' => w'.cell? ⟨b, off + k * 2, none⟩ = some (.string ⟨s1.toArray⟩) ∧ w'.cell? ⟨b, off + k * 2 + 1, none⟩ = some (.int .i64 q1))) (by kernel_rfl) ⟨c0, c1⟩ (fun hHeld => ?_)
        refine wpAnyH_take (i := 0) (oi := ?oi0A) (v := ?v0A) ?hi0A (by kernel_rfl) (by kernel_rfl) (by kernel_rfl) ?hq0A (Or.inl ⟨?hw0A, ?hy0A⟩) (by assumption) ?rest0A
        case hi0A => (simp only [List.getElem?_toArray, List.getElem?_cons_succ, List.getElem?_cons_zero]; rfl)
        case hq0A => exact fun _ _ _ h => h
        case hw0A => rfl
        case hy0A => (intro w hSw; (try dsimp only at hSw); go_simp <;> with_reducible rfl)
        try simp only [Act.put, List.setIfInBounds_toArray, List.set_cons_zero, List.set_cons_succ]
        refine wpAnyH_take (i := 1) (oi := ?oi1A) (v := ?v1A) ?hi1A (by kernel_rfl) (by kernel_rfl) (by kernel_rfl) ?hq1A (Or.inl ⟨?hw1A, ?hy1A⟩) (by assumption) ?rest1A
        case hi1A => (simp only [List.getElem?_toArray, List.getElem?_cons_succ, List.getElem?_cons_zero]; rfl)
        case hq1A => exact fun _ _ _ h => h
        case hw1A => rfl
        case hy1A => (intro w hSw; (try dsimp only at hSw); go_simp <;> with_reducible rfl)
        try simp only [Act.put, List.setIfInBounds_toArray, List.set_cons_zero, List.set_cons_succ]
        refine wpAnyH_take (i := 2) (oi := ?oi2A) (v := ?v2A) ?hi2A (by kernel_rfl) (by kernel_rfl) (by kernel_rfl) ?hq2A (Or.inl ⟨?hw2A, ?hy2A⟩) (by assumption) ?rest2A
        case hi2A => (simp only [List.getElem?_toArray, List.getElem?_cons_succ, List.getElem?_cons_zero]; rfl)
        case hq2A => exact fun _ _ _ h => h
        case hw2A => rfl
        case hy2A => (intro w hSw; (try dsimp only at hSw); go_simp <;> with_reducible rfl)
        try simp only [Act.put, List.setIfInBounds_toArray, List.set_cons_zero, List.set_cons_succ]
        refine wpAnyH_take (i := 3) (oi := ?oi3A) (v := ?v3A) ?hi3A (by kernel_rfl) (by kernel_rfl) (by kernel_rfl) ?hq3A (Or.inl ⟨?hw3A, ?hy3A⟩) (by assumption) ?rest3A
        case hi3A => (simp only [List.getElem?_toArray, List.getElem?_cons_succ, List.getElem?_cons_zero]; rfl)
        case hq3A => exact fun _ _ _ h => h
        case hw3A => rfl
        case hy3A => (intro w hSw; (try dsimp only at hSw); go_simp <;> with_reducible rfl)
        try simp only [Act.put, List.setIfInBounds_toArray, List.set_cons_zero, List.set_cons_succ]
        refine wpAnyH_take (i := 4) (oi := ?oi4A) (v := ?v4A) ?hi4A (by kernel_rfl) (by kernel_rfl) (by kernel_rfl) ?hq4A (Or.inl ⟨?hw4A, ?hy4A⟩) (by assumption) ?rest4A
        case hi4A => (simp only [List.getElem?_toArray, List.getElem?_cons_succ, List.getElem?_cons_zero]; rfl)
        case hq4A => exact fun _ _ _ h => h
        case hw4A => rfl
        case hy4A => (intro w hSw; (try dsimp only at hSw); go_simp <;> with_reducible rfl)
        try simp only [Act.put, List.setIfInBounds_toArray, List.set_cons_zero, List.set_cons_succ]
        refine wpAnyH_take (i := 5) (oi := ?oi5A) (v := ?v5A) ?hi5A (by kernel_rfl) (by kernel_rfl) (by kernel_rfl) ?hq5A (Or.inl ⟨?hw5A, ?hy5A⟩) (by assumption) ?rest5A
        case hi5A => (simp only [List.getElem?_toArray, List.getElem?_cons_succ, List.getElem?_cons_zero]; rfl)
        case hq5A => exact fun _ _ _ h => h
        case hw5A => rfl
        case hy5A => (intro w hSw; (try dsimp only at hSw); go_simp <;> with_reducible rfl)
        try simp only [Act.put, List.setIfInBounds_toArray, List.set_cons_zero, List.set_cons_succ]
        refine wpAnyH_take (i := 6) (oi := ?oi6A) (v := ?v6A) ?hi6A (by kernel_rfl) (by kernel_rfl) (by kernel_rfl) ?hq6A (Or.inl ⟨?hw6A, ?hy6A⟩) (by assumption) ?rest6A
        case hi6A => (simp only [List.getElem?_toArray, List.getElem?_cons_succ, List.getElem?_cons_zero]; rfl)
        case hq6A => exact fun _ _ _ h => h
        case hw6A => rfl
        case hy6A => (intro w hSw; (try dsimp only at hSw); go_simp <;> with_reducible rfl)
        try simp only [Act.put, List.setIfInBounds_toArray, List.set_cons_zero, List.set_cons_succ]
        refine wpAnyH_take (i := 7) (oi := ?oi7A) (v := ?v7A) ?hi7A (by kernel_rfl) (by kernel_rfl) (by kernel_rfl) ?hq7A (Or.inl ⟨?hw7A, ?hy7A⟩) (by assumption) ?rest7A
        case hi7A => (simp only [List.getElem?_toArray, List.getElem?_cons_succ, List.getElem?_cons_zero]; rfl)
        case hq7A => exact fun _ _ _ h => h
        case hw7A => rfl
        case hy7A => (intro w hSw; (try dsimp only at hSw); go_simp <;> with_reducible rfl)
        try simp only [Act.put, List.setIfInBounds_toArray, List.set_cons_zero, List.set_cons_succ]
        refine wpAnyH_take (i := 8) (oi := ?oi8A) (v := ?v8A) ?hi8A (by kernel_rfl) (by kernel_rfl) (by kernel_rfl) ?hq8A (Or.inl ⟨?hw8A, ?hy8A⟩) (by assumption) ?rest8A
        case hi8A => (simp only [List.getElem?_toArray, List.getElem?_cons_succ, List.getElem?_cons_zero]; rfl)
        case hq8A => exact fun _ _ _ h => h
        case hw8A => rfl
        case hy8A => (intro w hSw; (try dsimp only at hSw); go_simp <;> with_reducible rfl)
        try simp only [Act.put, List.setIfInBounds_toArray, List.set_cons_zero, List.set_cons_succ]
        refine wpAnyH_take (i := 9) (oi := ?oi9A) (v := ?v9A) ?hi9A (by kernel_rfl) (by kernel_rfl) (by kernel_rfl) ?hq9A (Or.inl ⟨?hw9A, ?hy9A⟩) (by assumption) ?rest9A
        case hi9A => (simp only [List.getElem?_toArray, List.getElem?_cons_succ, List.getElem?_cons_zero]; rfl)
        case hq9A => exact fun _ _ _ h => h
        case hw9A => rfl
        case hy9A => (intro w hSw; (try dsimp only at hSw); go_simp <;> with_reducible rfl)
        try simp only [Act.put, List.setIfInBounds_toArray, List.set_cons_zero, List.set_cons_succ]
        refine wpAnyH_take (i := 10) (oi := ?oi10A) (v := ?v10A) ?hi10A (by kernel_rfl) (by kernel_rfl) (by kernel_rfl) ?hq10A (Or.inl ⟨?hw10A, ?hy10A⟩) (by assumption) ?rest10A
        case hi10A => (simp only [List.getElem?_toArray, List.getElem?_cons_succ, List.getElem?_cons_zero]; rfl)
        case hq10A => exact fun _ _ _ h => h
        case hw10A => rfl
        case hy10A => (intro w hSw; (try dsimp only at hSw); go_simp <;> with_reducible rfl)
        try simp only [Act.put, List.setIfInBounds_toArray, List.set_cons_zero, List.set_cons_succ]
        refine wpAnyH_ready (rs := [11]) (by kernel_rfl) (by simp) ?_
        refine AllReadyH.cons (o := ?o11A) ?hi11A (fun K hK => ?st11A) AllReadyH.nil
        case hi11A => (simp only [List.getElem?_toArray, List.getElem?_cons_succ, List.getElem?_cons_zero]; rfl)
        go_simp
        refine (refof_any A' n' c' lb s1 _ (hlb.drew) hn').mono ?_
        rintro e w5 ⟨rfl, rfl⟩
        rw [hy]
        go_wp2_with fail
        refine hK.out _ _ ⟨c0, c1⟩ (fun hHeld2 => ?_)
        clear hK K hHeld
        have hHeld := hHeld2
        clear hHeld2
        try simp only [Act.put, List.setIfInBounds_toArray, List.set_cons_zero, List.set_cons_succ]
        refine wpAnyH_take (i := 12) (oi := ?oi12A) (v := ?v12A) ?hi12A (by kernel_rfl) (by kernel_rfl) (by kernel_rfl) ?hq12A (Or.inl ⟨?hw12A, ?hy12A⟩) (by assumption) ?rest12A
        case hi12A => (simp only [List.getElem?_toArray, List.getElem?_cons_succ, List.getElem?_cons_zero]; rfl)
        case hq12A => exact fun _ _ _ h => h
        case hw12A => rfl
        case hy12A => (intro w hSw; (try dsimp only at hSw); go_simp <;> with_reducible rfl)
        try simp only [Act.put, List.setIfInBounds_toArray, List.set_cons_zero, List.set_cons_succ]
        refine wpAnyH_take (i := 13) (oi := ?oi13A) (v := ?v13A) ?hi13A (by kernel_rfl) (by kernel_rfl) (by kernel_rfl) ?hq13A (Or.inl ⟨?hw13A, ?hy13A⟩) (by assumption) ?rest13A
        case hi13A => (simp only [List.getElem?_toArray, List.getElem?_cons_succ, List.getElem?_cons_zero]; rfl)
        case hq13A => exact fun _ _ _ h => h
        case hw13A => rfl
        case hy13A => (intro w hSw; (try dsimp only at hSw); go_simp <;> with_reducible rfl)
        try simp only [Act.put, List.setIfInBounds_toArray, List.set_cons_zero, List.set_cons_succ]
        refine wpAnyH_done (by kernel_rfl) ?_ _
        go_wp2_with (at_builtin; refine wpAppI rfl _ _ rfl w.heap.size _ _ rfl (hO.drew.alloc _) _ 1 1 [(s1, z)] rfl (IL.one wr.drew s1 z _) (fun h => by cases h) (by omega) (by simp; omega) ?_; rintro v' w3 hO3 hk3 hl3)
        go_roundw
        case measure => simp [intOf]; omega
        case rel =>
          have hk3' := ((Keep.refl (fun j => u7.ownBlock = some j) wr.drew).alloc (.cells #[.string ⟨s1.toArray⟩, .int .i64 z] 40)).trans hk3 (fun _ _ h => h)
          have hbw3 := hbw.drew.trans (hk3'.below hbw.size (fun j hj e => by have := (hO.lt j e).1; omega))
          exact ⟨k + 1, by go_num, by omega, by rw [htk2]; exact hO3, hbw3⟩
      · have htk2 : posL f (la.take (k + 1)) = posL f (la.take k) := by rw [htk, hf, if_neg hpos]
        have hpd : decide (0 < z) = false := decide_eq_false hpos
        clear hpos htk hf
        go_wp2
        refine wp_region_held_drew (S := (fun w' => w'.cell? ⟨b, off + k * 2, none⟩ = some (.string ⟨s1.toArray⟩) ∧ w'.cell? ⟨b, off + k * 2 + 1, none⟩ = some (.int .i64 q1))) (by kernel_rfl) ⟨c0, c1⟩ (fun hHeld => ?_)
        refine wpAnyH_take (i := 0) (oi := ?oi0B) (v := ?v0B) ?hi0B (by kernel_rfl) (by kernel_rfl) (by kernel_rfl) ?hq0B (Or.inl ⟨?hw0B, ?hy0B⟩) (by assumption) ?rest0B
        case hi0B => (simp only [List.getElem?_toArray, List.getElem?_cons_succ, List.getElem?_cons_zero]; rfl)
        case hq0B => exact fun _ _ _ h => h
        case hw0B => rfl
        case hy0B => (intro w hSw; (try dsimp only at hSw); go_simp <;> with_reducible rfl)
        try simp only [Act.put, List.setIfInBounds_toArray, List.set_cons_zero, List.set_cons_succ]
        refine wpAnyH_take (i := 1) (oi := ?oi1B) (v := ?v1B) ?hi1B (by kernel_rfl) (by kernel_rfl) (by kernel_rfl) ?hq1B (Or.inl ⟨?hw1B, ?hy1B⟩) (by assumption) ?rest1B
        case hi1B => (simp only [List.getElem?_toArray, List.getElem?_cons_succ, List.getElem?_cons_zero]; rfl)
        case hq1B => exact fun _ _ _ h => h
        case hw1B => rfl
        case hy1B => (intro w hSw; (try dsimp only at hSw); go_simp <;> with_reducible rfl)
        try simp only [Act.put, List.setIfInBounds_toArray, List.set_cons_zero, List.set_cons_succ]
        refine wpAnyH_take (i := 2) (oi := ?oi2B) (v := ?v2B) ?hi2B (by kernel_rfl) (by kernel_rfl) (by kernel_rfl) ?hq2B (Or.inl ⟨?hw2B, ?hy2B⟩) (by assumption) ?rest2B
        case hi2B => (simp only [List.getElem?_toArray, List.getElem?_cons_succ, List.getElem?_cons_zero]; rfl)
        case hq2B => exact fun _ _ _ h => h
        case hw2B => rfl
        case hy2B => (intro w hSw; (try dsimp only at hSw); go_simp <;> with_reducible rfl)
        try simp only [Act.put, List.setIfInBounds_toArray, List.set_cons_zero, List.set_cons_succ]
        refine wpAnyH_take (i := 3) (oi := ?oi3B) (v := ?v3B) ?hi3B (by kernel_rfl) (by kernel_rfl) (by kernel_rfl) ?hq3B (Or.inl ⟨?hw3B, ?hy3B⟩) (by assumption) ?rest3B
        case hi3B => (simp only [List.getElem?_toArray, List.getElem?_cons_succ, List.getElem?_cons_zero]; rfl)
        case hq3B => exact fun _ _ _ h => h
        case hw3B => rfl
        case hy3B => (intro w hSw; (try dsimp only at hSw); go_simp <;> with_reducible rfl)
        try simp only [Act.put, List.setIfInBounds_toArray, List.set_cons_zero, List.set_cons_succ]
        refine wpAnyH_take (i := 4) (oi := ?oi4B) (v := ?v4B) ?hi4B (by kernel_rfl) (by kernel_rfl) (by kernel_rfl) ?hq4B (Or.inl ⟨?hw4B, ?hy4B⟩) (by assumption) ?rest4B
        case hi4B => (simp only [List.getElem?_toArray, List.getElem?_cons_succ, List.getElem?_cons_zero]; rfl)
        case hq4B => exact fun _ _ _ h => h
        case hw4B => rfl
        case hy4B => (intro w hSw; (try dsimp only at hSw); go_simp <;> with_reducible rfl)
        try simp only [Act.put, List.setIfInBounds_toArray, List.set_cons_zero, List.set_cons_succ]
        refine wpAnyH_take (i := 5) (oi := ?oi5B) (v := ?v5B) ?hi5B (by kernel_rfl) (by kernel_rfl) (by kernel_rfl) ?hq5B (Or.inl ⟨?hw5B, ?hy5B⟩) (by assumption) ?rest5B
        case hi5B => (simp only [List.getElem?_toArray, List.getElem?_cons_succ, List.getElem?_cons_zero]; rfl)
        case hq5B => exact fun _ _ _ h => h
        case hw5B => rfl
        case hy5B => (intro w hSw; (try dsimp only at hSw); go_simp <;> with_reducible rfl)
        try simp only [Act.put, List.setIfInBounds_toArray, List.set_cons_zero, List.set_cons_succ]
        refine wpAnyH_take (i := 6) (oi := ?oi6B) (v := ?v6B) ?hi6B (by kernel_rfl) (by kernel_rfl) (by kernel_rfl) ?hq6B (Or.inl ⟨?hw6B, ?hy6B⟩) (by assumption) ?rest6B
        case hi6B => (simp only [List.getElem?_toArray, List.getElem?_cons_succ, List.getElem?_cons_zero]; rfl)
        case hq6B => exact fun _ _ _ h => h
        case hw6B => rfl
        case hy6B => (intro w hSw; (try dsimp only at hSw); go_simp <;> with_reducible rfl)
        try simp only [Act.put, List.setIfInBounds_toArray, List.set_cons_zero, List.set_cons_succ]
        refine wpAnyH_take (i := 7) (oi := ?oi7B) (v := ?v7B) ?hi7B (by kernel_rfl) (by kernel_rfl) (by kernel_rfl) ?hq7B (Or.inl ⟨?hw7B, ?hy7B⟩) (by assumption) ?rest7B
        case hi7B => (simp only [List.getElem?_toArray, List.getElem?_cons_succ, List.getElem?_cons_zero]; rfl)
        case hq7B => exact fun _ _ _ h => h
        case hw7B => rfl
        case hy7B => (intro w hSw; (try dsimp only at hSw); go_simp <;> with_reducible rfl)
        try simp only [Act.put, List.setIfInBounds_toArray, List.set_cons_zero, List.set_cons_succ]
        refine wpAnyH_take (i := 8) (oi := ?oi8B) (v := ?v8B) ?hi8B (by kernel_rfl) (by kernel_rfl) (by kernel_rfl) ?hq8B (Or.inl ⟨?hw8B, ?hy8B⟩) (by assumption) ?rest8B
        case hi8B => (simp only [List.getElem?_toArray, List.getElem?_cons_succ, List.getElem?_cons_zero]; rfl)
        case hq8B => exact fun _ _ _ h => h
        case hw8B => rfl
        case hy8B => (intro w hSw; (try dsimp only at hSw); go_simp <;> with_reducible rfl)
        try simp only [Act.put, List.setIfInBounds_toArray, List.set_cons_zero, List.set_cons_succ]
        refine wpAnyH_take (i := 9) (oi := ?oi9B) (v := ?v9B) ?hi9B (by kernel_rfl) (by kernel_rfl) (by kernel_rfl) ?hq9B (Or.inl ⟨?hw9B, ?hy9B⟩) (by assumption) ?rest9B
        case hi9B => (simp only [List.getElem?_toArray, List.getElem?_cons_succ, List.getElem?_cons_zero]; rfl)
        case hq9B => exact fun _ _ _ h => h
        case hw9B => rfl
        case hy9B => (intro w hSw; (try dsimp only at hSw); go_simp <;> with_reducible rfl)
        try simp only [Act.put, List.setIfInBounds_toArray, List.set_cons_zero, List.set_cons_succ]
        refine wpAnyH_take (i := 10) (oi := ?oi10B) (v := ?v10B) ?hi10B (by kernel_rfl) (by kernel_rfl) (by kernel_rfl) ?hq10B (Or.inl ⟨?hw10B, ?hy10B⟩) (by assumption) ?rest10B
        case hi10B => (simp only [List.getElem?_toArray, List.getElem?_cons_succ, List.getElem?_cons_zero]; rfl)
        case hq10B => exact fun _ _ _ h => h
        case hw10B => rfl
        case hy10B => (intro w hSw; (try dsimp only at hSw); go_simp <;> with_reducible rfl)
        try simp only [Act.put, List.setIfInBounds_toArray, List.set_cons_zero, List.set_cons_succ]
        refine wpAnyH_ready (rs := [11]) (by kernel_rfl) (by simp) ?_
        refine AllReadyH.cons (o := ?o11B) ?hi11B (fun K hK => ?st11B) AllReadyH.nil
        case hi11B => (simp only [List.getElem?_toArray, List.getElem?_cons_succ, List.getElem?_cons_zero]; rfl)
        go_simp
        refine (refof_any A' n' c' lb s1 _ (hlb.drew) hn').mono ?_
        rintro e w5 ⟨rfl, rfl⟩
        rw [hy]
        go_wp2_with fail
        refine hK.out _ _ ⟨c0, c1⟩ (fun hHeld2 => ?_)
        clear hK K hHeld
        have hHeld := hHeld2
        clear hHeld2
        try simp only [Act.put, List.setIfInBounds_toArray, List.set_cons_zero, List.set_cons_succ]
        refine wpAnyH_take (i := 12) (oi := ?oi12B) (v := ?v12B) ?hi12B (by kernel_rfl) (by kernel_rfl) (by kernel_rfl) ?hq12B (Or.inl ⟨?hw12B, ?hy12B⟩) (by assumption) ?rest12B
        case hi12B => (simp only [List.getElem?_toArray, List.getElem?_cons_succ, List.getElem?_cons_zero]; rfl)
        case hq12B => exact fun _ _ _ h => h
        case hw12B => rfl
        case hy12B => (intro w hSw; (try dsimp only at hSw); go_simp <;> with_reducible rfl)
        try simp only [Act.put, List.setIfInBounds_toArray, List.set_cons_zero, List.set_cons_succ]
        refine wpAnyH_take (i := 13) (oi := ?oi13B) (v := ?v13B) ?hi13B (by kernel_rfl) (by kernel_rfl) (by kernel_rfl) ?hq13B (Or.inl ⟨?hw13B, ?hy13B⟩) (by assumption) ?rest13B
        case hi13B => (simp only [List.getElem?_toArray, List.getElem?_cons_succ, List.getElem?_cons_zero]; rfl)
        case hq13B => exact fun _ _ _ h => h
        case hw13B => rfl
        case hy13B => (intro w hSw; (try dsimp only at hSw); go_simp <;> with_reducible rfl)
        try simp only [Act.put, List.setIfInBounds_toArray, List.set_cons_zero, List.set_cons_succ]
        refine wpAnyH_done (by kernel_rfl) ?_ _
        go_wp2
        go_roundw
        case measure => simp [intOf]; omega
        case rel => exact ⟨k + 1, by go_num, by omega, by rw [htk2]; exact hO.drew, hbw.drew⟩
    · have hlz : ¬ (k : Int) < (n : Int) := by omega
      rw [List.take_of_length_le (by omega)] at hO
      go_wp2
      go_ret
      exact ⟨_, rfl, hO, hbw⟩
end Go.Proofs.Ytkofaobdpmbcaaa
