/- May a list be, as the document has it. No condition but that the list is one of memory. -/
import Derived.Test.YtjjghhhhalendaaGreatSame6
namespace Go.Proofs.YtjjghhhhalendaaGreat
open Go.RowKit Go.Maps Go.Shelf Go.Sort
set_option linter.unusedVariables false
set_option linter.unusedSimpArgs false

theorem take_last {l : List It} {p : Nat} {x : It} (h : l[p]? = some x) : ((l.take (p + 1)).getLast?.map (·.1)).getD [] = x.1 := by
  rw [List.take_add_one, h]
  simp
theorem may_step {l : List It} {k : Nat} {x : It} {last : List UInt8} (hx : l[k]? = some x) (hm : mayFrom [] (l.take k) = true) (hl : ((l.take k).getLast?.map (·.1)).getD [] = last) : mayFrom [] (l.take (k + 1)) = okAt last x := by
  rw [List.take_add_one, hx]
  simp only [Option.toList]
  rw [mayFrom_snoc, hm, hl]
  simp
theorem may_bad {l : List It} {k : Nat} (h : mayFrom [] (l.take k) = false) : mayL l = false := by
  unfold mayL
  rw [mayFrom_not (List.take_prefix _ _) h]
  simp
theorem gOK_pos {s : List UInt8} (h : gOK s = true) : ¬ s ≤ [] := by
  cases s with
  | nil => simp [gOK] at h
  | cons a s => exact fun h => by simpa using (List.not_lt.2 h) (by simp)

set_option maxRecDepth 100000 in
set_option maxHeartbeats 6400000 in
theorem refmay_any (A : Option Addr) (n c : Nat) (l : List It) (w : World) (hl : IL w A n l) (hn : n ≤ 9223372036854775807) (hs : ∀ x ∈ l, x.1.length ≤ 9223372036854775807) :
    Calls Tryz.prog 28 #[.slice A n c] w fun e w' => e = .returned (.bool (mayL l)) ∧ ∃ q, w' = w.drewN q := by
  have hlen := hl.len
  go_enter Tryz.func28, Tryz.ntmps28
  go_wp2
  go_loopw [3] (fun i wr => ∃ k q : Nat, i = .int .i64 (k : Int) ∧ k ≤ n ∧ wr = w.drewN q ∧ mayFrom [] (l.take k) = true) (fun i _ => n - (intOf i).toNat)
  case atStart => exact ⟨0, 0, by go_num, by omega, rfl, rfl⟩
  case round =>
    obtain ⟨k, q, rfl, hk, rfl, htk⟩ := hrel
    by_cases hlt : k < n
    · have hlz : (k : Int) < (n : Int) := by omega
      obtain ⟨b, off, ⟨s1, q1⟩, rfl, hx, c0, c1⟩ := (hl.drewN q).place hlt
      have hs1 : s1.length ≤ 9223372036854775807 := hs (s1, q1) (List.mem_of_getElem? hx)
      dsimp only at c0 c1
      obtain ⟨last, hlast⟩ : ∃ last, ((l.take k).getLast?.map (·.1)).getD [] = last := ⟨_, rfl⟩
      have hsn := may_step hx htk hlast
      have hno : okAt last (s1, q1) = false → mayL l = false := fun e => may_bad (k := k + 1) (hsn.trans e)
      cases hg : gOK s1 with
      | false =>
        have hbad : okAt last (s1, q1) = false := by simp [okAt, hg]
        go_wp2
        refine wp_region_held_drew (S := (fun w' => w'.cell? ⟨b, off + k * 2, none⟩ = some (.string ⟨s1.toArray⟩) ∧ w'.cell? ⟨b, off + k * 2 + 1, none⟩ = some (.int .i64 q1))) (by kernel_rfl) ⟨c0, c1⟩ (fun hHeld => ?_)
        refine wpAnyH_take (i := 0) (oi := ?oi0A) (v := ?v0A) ?hi0A (by kernel_rfl) (by kernel_rfl) (by kernel_rfl) ?hq0A (Or.inl ⟨?hw0A, ?hy0A⟩) (by assumption) ?rest0A
        case hi0A => (simp only [List.getElem?_toArray, List.getElem?_cons_succ, List.getElem?_cons_zero]; rfl)
        case hq0A => exact fun _ _ _ h => h
        case hw0A => rfl
        case hy0A => (intro w hSw; (try dsimp only at hSw); go_simp <;> with_reducible rfl)
        try simp only [Act.put, List.setIfInBounds_toArray, List.set_cons_zero, List.set_cons_succ]
        refine wpAnyH_take (i := 1) (oi := ?oi1A) (v := ?v1A) ?hi1A (by kernel_rfl) (by kernel_rfl) (by kernel_rfl) ?hq1A (Or.inl ⟨?hw1A, ?hy1A⟩) (by assumption) ?rest1A
        case hi1A => (simp only [List.getElem?_toArray, List.getElem?_cons_succ, List.getElem?_cons_zero]; rfl)
        case hq1A => exact fun _ _ _ h => h
        case hw1A => rfl
        case hy1A => (intro w hSw; (try dsimp only at hSw); go_simp <;> with_reducible rfl)
        try simp only [Act.put, List.setIfInBounds_toArray, List.set_cons_zero, List.set_cons_succ]
        refine wpAnyH_take (i := 2) (oi := ?oi2A) (v := ?v2A) ?hi2A (by kernel_rfl) (by kernel_rfl) (by kernel_rfl) ?hq2A (Or.inl ⟨?hw2A, ?hy2A⟩) (by assumption) ?rest2A
        case hi2A => (simp only [List.getElem?_toArray, List.getElem?_cons_succ, List.getElem?_cons_zero]; rfl)
        case hq2A => exact fun _ _ _ h => h
        case hw2A => rfl
        case hy2A => (intro w hSw; (try dsimp only at hSw); go_simp <;> with_reducible rfl)
        try simp only [Act.put, List.setIfInBounds_toArray, List.set_cons_zero, List.set_cons_succ]
        refine wpAnyH_take (i := 3) (oi := ?oi3A) (v := ?v3A) ?hi3A (by kernel_rfl) (by kernel_rfl) (by kernel_rfl) ?hq3A (Or.inl ⟨?hw3A, ?hy3A⟩) (by assumption) ?rest3A
        case hi3A => (simp only [List.getElem?_toArray, List.getElem?_cons_succ, List.getElem?_cons_zero]; rfl)
        case hq3A => exact fun _ _ _ h => h
        case hw3A => rfl
        case hy3A => (intro w hSw; (try dsimp only at hSw); go_simp <;> with_reducible rfl)
        try simp only [Act.put, List.setIfInBounds_toArray, List.set_cons_zero, List.set_cons_succ]
        refine wpAnyH_take (i := 4) (oi := ?oi4A) (v := ?v4A) ?hi4A (by kernel_rfl) (by kernel_rfl) (by kernel_rfl) ?hq4A (Or.inl ⟨?hw4A, ?hy4A⟩) (by assumption) ?rest4A
        case hi4A => (simp only [List.getElem?_toArray, List.getElem?_cons_succ, List.getElem?_cons_zero]; rfl)
        case hq4A => exact fun _ _ _ h => h
        case hw4A => rfl
        case hy4A => (intro w hSw; (try dsimp only at hSw); go_simp <;> with_reducible rfl)
        try simp only [Act.put, List.setIfInBounds_toArray, List.set_cons_zero, List.set_cons_succ]
        refine wpAnyH_ready (rs := [5]) (by kernel_rfl) (by simp) ?_
        refine AllReadyH.cons (o := ?o5A) ?hi5A (fun K hK => ?st5A) AllReadyH.nil
        case hi5A => (simp only [List.getElem?_toArray, List.getElem?_cons_succ, List.getElem?_cons_zero]; rfl)
        go_simp
        refine (refgood_any s1 _ hs1).mono ?_
        rintro e w5 ⟨rfl, rfl⟩
        rw [hg]
        go_wp2_with fail
        refine hK.out _ _ ⟨c0, c1⟩ (fun hHeld2 => ?_)
        clear hK K hHeld
        have hHeld := hHeld2
        clear hHeld2
        try simp only [Act.put, List.setIfInBounds_toArray, List.set_cons_zero, List.set_cons_succ]
        refine wpAnyH_take (i := 6) (oi := ?oi6A) (v := ?v6A) ?hi6A (by kernel_rfl) (by kernel_rfl) (by kernel_rfl) ?hq6A (Or.inl ⟨?hw6A, ?hy6A⟩) (by assumption) ?rest6A
        case hi6A => (simp only [List.getElem?_toArray, List.getElem?_cons_succ, List.getElem?_cons_zero]; rfl)
        case hq6A => exact fun _ _ _ h => h
        case hw6A => rfl
        case hy6A => (intro w hSw; (try dsimp only at hSw); go_simp <;> with_reducible rfl)
        try simp only [Act.put, List.setIfInBounds_toArray, List.set_cons_zero, List.set_cons_succ]
        refine wpAnyH_take (i := 7) (oi := ?oi7A) (v := ?v7A) ?hi7A (by kernel_rfl) (by kernel_rfl) (by kernel_rfl) ?hq7A (Or.inl ⟨?hw7A, ?hy7A⟩) (by assumption) ?rest7A
        case hi7A => (simp only [List.getElem?_toArray, List.getElem?_cons_succ, List.getElem?_cons_zero]; rfl)
        case hq7A => exact fun _ _ _ h => h
        case hw7A => rfl
        case hy7A => (intro w hSw; (try dsimp only at hSw); go_simp <;> with_reducible rfl)
        try simp only [Act.put, List.setIfInBounds_toArray, List.set_cons_zero, List.set_cons_succ]
        refine wpAnyH_take (i := 8) (oi := ?oi8A) (v := undef) ?hi8A (by kernel_rfl) (by kernel_rfl) (by kernel_rfl) ?hq8A (Or.inr ⟨?hw8A, rfl⟩) (by assumption) ?rest8A
        case hi8A => (simp only [List.getElem?_toArray, List.getElem?_cons_succ, List.getElem?_cons_zero]; rfl)
        case hq8A => exact fun _ _ _ h => h
        case hw8A => rfl
        try simp only [Act.put, List.setIfInBounds_toArray, List.set_cons_zero, List.set_cons_succ]
        refine wpAnyH_take (i := 9) (oi := ?oi9A) (v := undef) ?hi9A (by kernel_rfl) (by kernel_rfl) (by kernel_rfl) ?hq9A (Or.inr ⟨?hw9A, rfl⟩) (by assumption) ?rest9A
        case hi9A => (simp only [List.getElem?_toArray, List.getElem?_cons_succ, List.getElem?_cons_zero]; rfl)
        case hq9A => exact fun _ _ _ h => h
        case hw9A => rfl
        try simp only [Act.put, List.setIfInBounds_toArray, List.set_cons_zero, List.set_cons_succ]
        refine wpAnyH_take (i := 10) (oi := ?oi10A) (v := undef) ?hi10A (by kernel_rfl) (by kernel_rfl) (by kernel_rfl) ?hq10A (Or.inr ⟨?hw10A, rfl⟩) (by assumption) ?rest10A
        case hi10A => (simp only [List.getElem?_toArray, List.getElem?_cons_succ, List.getElem?_cons_zero]; rfl)
        case hq10A => exact fun _ _ _ h => h
        case hw10A => rfl
        try simp only [Act.put, List.setIfInBounds_toArray, List.set_cons_zero, List.set_cons_succ]
        refine wpAnyH_take (i := 11) (oi := ?oi11A) (v := undef) ?hi11A (by kernel_rfl) (by kernel_rfl) (by kernel_rfl) ?hq11A (Or.inr ⟨?hw11A, rfl⟩) (by assumption) ?rest11A
        case hi11A => (simp only [List.getElem?_toArray, List.getElem?_cons_succ, List.getElem?_cons_zero]; rfl)
        case hq11A => exact fun _ _ _ h => h
        case hw11A => rfl
        try simp only [Act.put, List.setIfInBounds_toArray, List.set_cons_zero, List.set_cons_succ]
        refine wpAnyH_take (i := 12) (oi := ?oi12A) (v := undef) ?hi12A (by kernel_rfl) (by kernel_rfl) (by kernel_rfl) ?hq12A (Or.inr ⟨?hw12A, rfl⟩) (by assumption) ?rest12A
        case hi12A => (simp only [List.getElem?_toArray, List.getElem?_cons_succ, List.getElem?_cons_zero]; rfl)
        case hq12A => exact fun _ _ _ h => h
        case hw12A => rfl
        try simp only [Act.put, List.setIfInBounds_toArray, List.set_cons_zero, List.set_cons_succ]
        refine wpAnyH_take (i := 13) (oi := ?oi13A) (v := undef) ?hi13A (by kernel_rfl) (by kernel_rfl) (by kernel_rfl) ?hq13A (Or.inr ⟨?hw13A, rfl⟩) (by assumption) ?rest13A
        case hi13A => (simp only [List.getElem?_toArray, List.getElem?_cons_succ, List.getElem?_cons_zero]; rfl)
        case hq13A => exact fun _ _ _ h => h
        case hw13A => rfl
        try simp only [Act.put, List.setIfInBounds_toArray, List.set_cons_zero, List.set_cons_succ]
        refine wpAnyH_take (i := 14) (oi := ?oi14A) (v := ?v14A) ?hi14A (by kernel_rfl) (by kernel_rfl) (by kernel_rfl) ?hq14A (Or.inl ⟨?hw14A, ?hy14A⟩) (by assumption) ?rest14A
        case hi14A => (simp only [List.getElem?_toArray, List.getElem?_cons_succ, List.getElem?_cons_zero]; rfl)
        case hq14A => exact fun _ _ _ h => h
        case hw14A => rfl
        case hy14A => (intro w hSw; (try dsimp only at hSw); go_simp <;> with_reducible rfl)
        try simp only [Act.put, List.setIfInBounds_toArray, List.set_cons_zero, List.set_cons_succ]
        refine wpAnyH_take (i := 15) (oi := ?oi15A) (v := ?v15A) ?hi15A (by kernel_rfl) (by kernel_rfl) (by kernel_rfl) ?hq15A (Or.inl ⟨?hw15A, ?hy15A⟩) (by assumption) ?rest15A
        case hi15A => (simp only [List.getElem?_toArray, List.getElem?_cons_succ, List.getElem?_cons_zero]; rfl)
        case hq15A => exact fun _ _ _ h => h
        case hw15A => rfl
        case hy15A => (intro w hSw; (try dsimp only at hSw); go_simp <;> with_reducible rfl)
        try simp only [Act.put, List.setIfInBounds_toArray, List.set_cons_zero, List.set_cons_succ]
        refine wpAnyH_take (i := 16) (oi := ?oi16A) (v := undef) ?hi16A (by kernel_rfl) (by kernel_rfl) (by kernel_rfl) ?hq16A (Or.inr ⟨?hw16A, rfl⟩) (by assumption) ?rest16A
        case hi16A => (simp only [List.getElem?_toArray, List.getElem?_cons_succ, List.getElem?_cons_zero]; rfl)
        case hq16A => exact fun _ _ _ h => h
        case hw16A => rfl
        try simp only [Act.put, List.setIfInBounds_toArray, List.set_cons_zero, List.set_cons_succ]
        refine wpAnyH_take (i := 17) (oi := ?oi17A) (v := undef) ?hi17A (by kernel_rfl) (by kernel_rfl) (by kernel_rfl) ?hq17A (Or.inr ⟨?hw17A, rfl⟩) (by assumption) ?rest17A
        case hi17A => (simp only [List.getElem?_toArray, List.getElem?_cons_succ, List.getElem?_cons_zero]; rfl)
        case hq17A => exact fun _ _ _ h => h
        case hw17A => rfl
        try simp only [Act.put, List.setIfInBounds_toArray, List.set_cons_zero, List.set_cons_succ]
        refine wpAnyH_take (i := 18) (oi := ?oi18A) (v := undef) ?hi18A (by kernel_rfl) (by kernel_rfl) (by kernel_rfl) ?hq18A (Or.inr ⟨?hw18A, rfl⟩) (by assumption) ?rest18A
        case hi18A => (simp only [List.getElem?_toArray, List.getElem?_cons_succ, List.getElem?_cons_zero]; rfl)
        case hq18A => exact fun _ _ _ h => h
        case hw18A => rfl
        try simp only [Act.put, List.setIfInBounds_toArray, List.set_cons_zero, List.set_cons_succ]
        refine wpAnyH_take (i := 19) (oi := ?oi19A) (v := undef) ?hi19A (by kernel_rfl) (by kernel_rfl) (by kernel_rfl) ?hq19A (Or.inr ⟨?hw19A, rfl⟩) (by assumption) ?rest19A
        case hi19A => (simp only [List.getElem?_toArray, List.getElem?_cons_succ, List.getElem?_cons_zero]; rfl)
        case hq19A => exact fun _ _ _ h => h
        case hw19A => rfl
        try simp only [Act.put, List.setIfInBounds_toArray, List.set_cons_zero, List.set_cons_succ]
        refine wpAnyH_take (i := 20) (oi := ?oi20A) (v := undef) ?hi20A (by kernel_rfl) (by kernel_rfl) (by kernel_rfl) ?hq20A (Or.inr ⟨?hw20A, rfl⟩) (by assumption) ?rest20A
        case hi20A => (simp only [List.getElem?_toArray, List.getElem?_cons_succ, List.getElem?_cons_zero]; rfl)
        case hq20A => exact fun _ _ _ h => h
        case hw20A => rfl
        try simp only [Act.put, List.setIfInBounds_toArray, List.set_cons_zero, List.set_cons_succ]
        refine wpAnyH_take (i := 21) (oi := ?oi21A) (v := undef) ?hi21A (by kernel_rfl) (by kernel_rfl) (by kernel_rfl) ?hq21A (Or.inr ⟨?hw21A, rfl⟩) (by assumption) ?rest21A
        case hi21A => (simp only [List.getElem?_toArray, List.getElem?_cons_succ, List.getElem?_cons_zero]; rfl)
        case hq21A => exact fun _ _ _ h => h
        case hw21A => rfl
        try simp only [Act.put, List.setIfInBounds_toArray, List.set_cons_zero, List.set_cons_succ]
        refine wpAnyH_take (i := 22) (oi := ?oi22A) (v := undef) ?hi22A (by kernel_rfl) (by kernel_rfl) (by kernel_rfl) ?hq22A (Or.inr ⟨?hw22A, rfl⟩) (by assumption) ?rest22A
        case hi22A => (simp only [List.getElem?_toArray, List.getElem?_cons_succ, List.getElem?_cons_zero]; rfl)
        case hq22A => exact fun _ _ _ h => h
        case hw22A => rfl
        try simp only [Act.put, List.setIfInBounds_toArray, List.set_cons_zero, List.set_cons_succ]
        refine wpAnyH_take (i := 23) (oi := ?oi23A) (v := ?v23A) ?hi23A (by kernel_rfl) (by kernel_rfl) (by kernel_rfl) ?hq23A (Or.inl ⟨?hw23A, ?hy23A⟩) (by assumption) ?rest23A
        case hi23A => (simp only [List.getElem?_toArray, List.getElem?_cons_succ, List.getElem?_cons_zero]; rfl)
        case hq23A => exact fun _ _ _ h => h
        case hw23A => rfl
        case hy23A => (intro w hSw; (try dsimp only at hSw); go_simp <;> with_reducible rfl)
        try simp only [Act.put, List.setIfInBounds_toArray, List.set_cons_zero, List.set_cons_succ]
        refine wpAnyH_take (i := 24) (oi := ?oi24A) (v := ?v24A) ?hi24A (by kernel_rfl) (by kernel_rfl) (by kernel_rfl) ?hq24A (Or.inl ⟨?hw24A, ?hy24A⟩) (by assumption) ?rest24A
        case hi24A => (simp only [List.getElem?_toArray, List.getElem?_cons_succ, List.getElem?_cons_zero]; rfl)
        case hq24A => exact fun _ _ _ h => h
        case hw24A => rfl
        case hy24A => (intro w hSw; (try dsimp only at hSw); go_simp <;> with_reducible rfl)
        try simp only [Act.put, List.setIfInBounds_toArray, List.set_cons_zero, List.set_cons_succ]
        refine wpAnyH_take (i := 25) (oi := ?oi25A) (v := undef) ?hi25A (by kernel_rfl) (by kernel_rfl) (by kernel_rfl) ?hq25A (Or.inr ⟨?hw25A, rfl⟩) (by assumption) ?rest25A
        case hi25A => (simp only [List.getElem?_toArray, List.getElem?_cons_succ, List.getElem?_cons_zero]; rfl)
        case hq25A => exact fun _ _ _ h => h
        case hw25A => rfl
        try simp only [Act.put, List.setIfInBounds_toArray, List.set_cons_zero, List.set_cons_succ]
        refine wpAnyH_take (i := 26) (oi := ?oi26A) (v := undef) ?hi26A (by kernel_rfl) (by kernel_rfl) (by kernel_rfl) ?hq26A (Or.inr ⟨?hw26A, rfl⟩) (by assumption) ?rest26A
        case hi26A => (simp only [List.getElem?_toArray, List.getElem?_cons_succ, List.getElem?_cons_zero]; rfl)
        case hq26A => exact fun _ _ _ h => h
        case hw26A => rfl
        try simp only [Act.put, List.setIfInBounds_toArray, List.set_cons_zero, List.set_cons_succ]
        refine wpAnyH_take (i := 27) (oi := ?oi27A) (v := undef) ?hi27A (by kernel_rfl) (by kernel_rfl) (by kernel_rfl) ?hq27A (Or.inr ⟨?hw27A, rfl⟩) (by assumption) ?rest27A
        case hi27A => (simp only [List.getElem?_toArray, List.getElem?_cons_succ, List.getElem?_cons_zero]; rfl)
        case hq27A => exact fun _ _ _ h => h
        case hw27A => rfl
        try simp only [Act.put, List.setIfInBounds_toArray, List.set_cons_zero, List.set_cons_succ]
        refine wpAnyH_take (i := 28) (oi := ?oi28A) (v := undef) ?hi28A (by kernel_rfl) (by kernel_rfl) (by kernel_rfl) ?hq28A (Or.inr ⟨?hw28A, rfl⟩) (by assumption) ?rest28A
        case hi28A => (simp only [List.getElem?_toArray, List.getElem?_cons_succ, List.getElem?_cons_zero]; rfl)
        case hq28A => exact fun _ _ _ h => h
        case hw28A => rfl
        try simp only [Act.put, List.setIfInBounds_toArray, List.set_cons_zero, List.set_cons_succ]
        refine wpAnyH_take (i := 29) (oi := ?oi29A) (v := undef) ?hi29A (by kernel_rfl) (by kernel_rfl) (by kernel_rfl) ?hq29A (Or.inr ⟨?hw29A, rfl⟩) (by assumption) ?rest29A
        case hi29A => (simp only [List.getElem?_toArray, List.getElem?_cons_succ, List.getElem?_cons_zero]; rfl)
        case hq29A => exact fun _ _ _ h => h
        case hw29A => rfl
        try simp only [Act.put, List.setIfInBounds_toArray, List.set_cons_zero, List.set_cons_succ]
        refine wpAnyH_take (i := 30) (oi := ?oi30A) (v := undef) ?hi30A (by kernel_rfl) (by kernel_rfl) (by kernel_rfl) ?hq30A (Or.inr ⟨?hw30A, rfl⟩) (by assumption) ?rest30A
        case hi30A => (simp only [List.getElem?_toArray, List.getElem?_cons_succ, List.getElem?_cons_zero]; rfl)
        case hq30A => exact fun _ _ _ h => h
        case hw30A => rfl
        try simp only [Act.put, List.setIfInBounds_toArray, List.set_cons_zero, List.set_cons_succ]
        refine wpAnyH_take (i := 31) (oi := ?oi31A) (v := undef) ?hi31A (by kernel_rfl) (by kernel_rfl) (by kernel_rfl) ?hq31A (Or.inr ⟨?hw31A, rfl⟩) (by assumption) ?rest31A
        case hi31A => (simp only [List.getElem?_toArray, List.getElem?_cons_succ, List.getElem?_cons_zero]; rfl)
        case hq31A => exact fun _ _ _ h => h
        case hw31A => rfl
        try simp only [Act.put, List.setIfInBounds_toArray, List.set_cons_zero, List.set_cons_succ]
        refine wpAnyH_take (i := 32) (oi := ?oi32A) (v := undef) ?hi32A (by kernel_rfl) (by kernel_rfl) (by kernel_rfl) ?hq32A (Or.inr ⟨?hw32A, rfl⟩) (by assumption) ?rest32A
        case hi32A => (simp only [List.getElem?_toArray, List.getElem?_cons_succ, List.getElem?_cons_zero]; rfl)
        case hq32A => exact fun _ _ _ h => h
        case hw32A => rfl
        try simp only [Act.put, List.setIfInBounds_toArray, List.set_cons_zero, List.set_cons_succ]
        refine wpAnyH_take (i := 33) (oi := ?oi33A) (v := undef) ?hi33A (by kernel_rfl) (by kernel_rfl) (by kernel_rfl) ?hq33A (Or.inr ⟨?hw33A, rfl⟩) (by assumption) ?rest33A
        case hi33A => (simp only [List.getElem?_toArray, List.getElem?_cons_succ, List.getElem?_cons_zero]; rfl)
        case hq33A => exact fun _ _ _ h => h
        case hw33A => rfl
        try simp only [Act.put, List.setIfInBounds_toArray, List.set_cons_zero, List.set_cons_succ]
        refine wpAnyH_take (i := 34) (oi := ?oi34A) (v := undef) ?hi34A (by kernel_rfl) (by kernel_rfl) (by kernel_rfl) ?hq34A (Or.inr ⟨?hw34A, rfl⟩) (by assumption) ?rest34A
        case hi34A => (simp only [List.getElem?_toArray, List.getElem?_cons_succ, List.getElem?_cons_zero]; rfl)
        case hq34A => exact fun _ _ _ h => h
        case hw34A => rfl
        try simp only [Act.put, List.setIfInBounds_toArray, List.set_cons_zero, List.set_cons_succ]
        refine wpAnyH_take (i := 35) (oi := ?oi35A) (v := undef) ?hi35A (by kernel_rfl) (by kernel_rfl) (by kernel_rfl) ?hq35A (Or.inr ⟨?hw35A, rfl⟩) (by assumption) ?rest35A
        case hi35A => (simp only [List.getElem?_toArray, List.getElem?_cons_succ, List.getElem?_cons_zero]; rfl)
        case hq35A => exact fun _ _ _ h => h
        case hw35A => rfl
        try simp only [Act.put, List.setIfInBounds_toArray, List.set_cons_zero, List.set_cons_succ]
        refine wpAnyH_take (i := 36) (oi := ?oi36A) (v := undef) ?hi36A (by kernel_rfl) (by kernel_rfl) (by kernel_rfl) ?hq36A (Or.inr ⟨?hw36A, rfl⟩) (by assumption) ?rest36A
        case hi36A => (simp only [List.getElem?_toArray, List.getElem?_cons_succ, List.getElem?_cons_zero]; rfl)
        case hq36A => exact fun _ _ _ h => h
        case hw36A => rfl
        try simp only [Act.put, List.setIfInBounds_toArray, List.set_cons_zero, List.set_cons_succ]
        refine wpAnyH_take (i := 37) (oi := ?oi37A) (v := undef) ?hi37A (by kernel_rfl) (by kernel_rfl) (by kernel_rfl) ?hq37A (Or.inr ⟨?hw37A, rfl⟩) (by assumption) ?rest37A
        case hi37A => (simp only [List.getElem?_toArray, List.getElem?_cons_succ, List.getElem?_cons_zero]; rfl)
        case hq37A => exact fun _ _ _ h => h
        case hw37A => rfl
        try simp only [Act.put, List.setIfInBounds_toArray, List.set_cons_zero, List.set_cons_succ]
        refine wpAnyH_take (i := 38) (oi := ?oi38A) (v := undef) ?hi38A (by kernel_rfl) (by kernel_rfl) (by kernel_rfl) ?hq38A (Or.inr ⟨?hw38A, rfl⟩) (by assumption) ?rest38A
        case hi38A => (simp only [List.getElem?_toArray, List.getElem?_cons_succ, List.getElem?_cons_zero]; rfl)
        case hq38A => exact fun _ _ _ h => h
        case hw38A => rfl
        try simp only [Act.put, List.setIfInBounds_toArray, List.set_cons_zero, List.set_cons_succ]
        refine wpAnyH_take (i := 39) (oi := ?oi39A) (v := undef) ?hi39A (by kernel_rfl) (by kernel_rfl) (by kernel_rfl) ?hq39A (Or.inr ⟨?hw39A, rfl⟩) (by assumption) ?rest39A
        case hi39A => (simp only [List.getElem?_toArray, List.getElem?_cons_succ, List.getElem?_cons_zero]; rfl)
        case hq39A => exact fun _ _ _ h => h
        case hw39A => rfl
        try simp only [Act.put, List.setIfInBounds_toArray, List.set_cons_zero, List.set_cons_succ]
        refine wpAnyH_take (i := 40) (oi := ?oi40A) (v := undef) ?hi40A (by kernel_rfl) (by kernel_rfl) (by kernel_rfl) ?hq40A (Or.inr ⟨?hw40A, rfl⟩) (by assumption) ?rest40A
        case hi40A => (simp only [List.getElem?_toArray, List.getElem?_cons_succ, List.getElem?_cons_zero]; rfl)
        case hq40A => exact fun _ _ _ h => h
        case hw40A => rfl
        try simp only [Act.put, List.setIfInBounds_toArray, List.set_cons_zero, List.set_cons_succ]
        refine wpAnyH_take (i := 41) (oi := ?oi41A) (v := ?v41A) ?hi41A (by kernel_rfl) (by kernel_rfl) (by kernel_rfl) ?hq41A (Or.inl ⟨?hw41A, ?hy41A⟩) (by assumption) ?rest41A
        case hi41A => (simp only [List.getElem?_toArray, List.getElem?_cons_succ, List.getElem?_cons_zero]; rfl)
        case hq41A => exact fun _ _ _ h => h
        case hw41A => rfl
        case hy41A => (intro w hSw; (try dsimp only at hSw); go_simp <;> with_reducible rfl)
        try simp only [Act.put, List.setIfInBounds_toArray, List.set_cons_zero, List.set_cons_succ]
        refine wpAnyH_done (by kernel_rfl) ?_ _
        go_wp2
        go_ret
        exact ⟨by rw [hno hbad]; rfl, q + 1, rfl⟩
      | true =>
        have hnl := gOK_pos hg
        by_cases hq : q1 < 1
        · have hbad : okAt last (s1, q1) = false := by
            by_cases h0 : q1 = 0
            · simp [okAt, h0]
            · have : cMay q1 = false := (cMay_not q1).2 (by omega)
              simp [okAt, this]
          go_wp2
          refine wp_region_held_drew (S := (fun w' => w'.cell? ⟨b, off + k * 2, none⟩ = some (.string ⟨s1.toArray⟩) ∧ w'.cell? ⟨b, off + k * 2 + 1, none⟩ = some (.int .i64 q1))) (by kernel_rfl) ⟨c0, c1⟩ (fun hHeld => ?_)
          refine wpAnyH_take (i := 0) (oi := ?oi0B) (v := ?v0B) ?hi0B (by kernel_rfl) (by kernel_rfl) (by kernel_rfl) ?hq0B (Or.inl ⟨?hw0B, ?hy0B⟩) (by assumption) ?rest0B
          case hi0B => (simp only [List.getElem?_toArray, List.getElem?_cons_succ, List.getElem?_cons_zero]; rfl)
          case hq0B => exact fun _ _ _ h => h
          case hw0B => rfl
          case hy0B => (intro w hSw; (try dsimp only at hSw); go_simp <;> with_reducible rfl)
          try simp only [Act.put, List.setIfInBounds_toArray, List.set_cons_zero, List.set_cons_succ]
          refine wpAnyH_take (i := 1) (oi := ?oi1B) (v := ?v1B) ?hi1B (by kernel_rfl) (by kernel_rfl) (by kernel_rfl) ?hq1B (Or.inl ⟨?hw1B, ?hy1B⟩) (by assumption) ?rest1B
          case hi1B => (simp only [List.getElem?_toArray, List.getElem?_cons_succ, List.getElem?_cons_zero]; rfl)
          case hq1B => exact fun _ _ _ h => h
          case hw1B => rfl
          case hy1B => (intro w hSw; (try dsimp only at hSw); go_simp <;> with_reducible rfl)
          try simp only [Act.put, List.setIfInBounds_toArray, List.set_cons_zero, List.set_cons_succ]
          refine wpAnyH_take (i := 2) (oi := ?oi2B) (v := ?v2B) ?hi2B (by kernel_rfl) (by kernel_rfl) (by kernel_rfl) ?hq2B (Or.inl ⟨?hw2B, ?hy2B⟩) (by assumption) ?rest2B
          case hi2B => (simp only [List.getElem?_toArray, List.getElem?_cons_succ, List.getElem?_cons_zero]; rfl)
          case hq2B => exact fun _ _ _ h => h
          case hw2B => rfl
          case hy2B => (intro w hSw; (try dsimp only at hSw); go_simp <;> with_reducible rfl)
          try simp only [Act.put, List.setIfInBounds_toArray, List.set_cons_zero, List.set_cons_succ]
          refine wpAnyH_take (i := 3) (oi := ?oi3B) (v := ?v3B) ?hi3B (by kernel_rfl) (by kernel_rfl) (by kernel_rfl) ?hq3B (Or.inl ⟨?hw3B, ?hy3B⟩) (by assumption) ?rest3B
          case hi3B => (simp only [List.getElem?_toArray, List.getElem?_cons_succ, List.getElem?_cons_zero]; rfl)
          case hq3B => exact fun _ _ _ h => h
          case hw3B => rfl
          case hy3B => (intro w hSw; (try dsimp only at hSw); go_simp <;> with_reducible rfl)
          try simp only [Act.put, List.setIfInBounds_toArray, List.set_cons_zero, List.set_cons_succ]
          refine wpAnyH_take (i := 4) (oi := ?oi4B) (v := ?v4B) ?hi4B (by kernel_rfl) (by kernel_rfl) (by kernel_rfl) ?hq4B (Or.inl ⟨?hw4B, ?hy4B⟩) (by assumption) ?rest4B
          case hi4B => (simp only [List.getElem?_toArray, List.getElem?_cons_succ, List.getElem?_cons_zero]; rfl)
          case hq4B => exact fun _ _ _ h => h
          case hw4B => rfl
          case hy4B => (intro w hSw; (try dsimp only at hSw); go_simp <;> with_reducible rfl)
          try simp only [Act.put, List.setIfInBounds_toArray, List.set_cons_zero, List.set_cons_succ]
          refine wpAnyH_ready (rs := [5]) (by kernel_rfl) (by simp) ?_
          refine AllReadyH.cons (o := ?o5B) ?hi5B (fun K hK => ?st5B) AllReadyH.nil
          case hi5B => (simp only [List.getElem?_toArray, List.getElem?_cons_succ, List.getElem?_cons_zero]; rfl)
          go_simp
          refine (refgood_any s1 _ hs1).mono ?_
          rintro e w5 ⟨rfl, rfl⟩
          rw [hg]
          go_wp2_with fail
          refine hK.out _ _ ⟨c0, c1⟩ (fun hHeld2 => ?_)
          clear hK K hHeld
          have hHeld := hHeld2
          clear hHeld2
          try simp only [Act.put, List.setIfInBounds_toArray, List.set_cons_zero, List.set_cons_succ]
          refine wpAnyH_take (i := 6) (oi := ?oi6B) (v := ?v6B) ?hi6B (by kernel_rfl) (by kernel_rfl) (by kernel_rfl) ?hq6B (Or.inl ⟨?hw6B, ?hy6B⟩) (by assumption) ?rest6B
          case hi6B => (simp only [List.getElem?_toArray, List.getElem?_cons_succ, List.getElem?_cons_zero]; rfl)
          case hq6B => exact fun _ _ _ h => h
          case hw6B => rfl
          case hy6B => (intro w hSw; (try dsimp only at hSw); go_simp <;> with_reducible rfl)
          try simp only [Act.put, List.setIfInBounds_toArray, List.set_cons_zero, List.set_cons_succ]
          refine wpAnyH_take (i := 7) (oi := ?oi7B) (v := ?v7B) ?hi7B (by kernel_rfl) (by kernel_rfl) (by kernel_rfl) ?hq7B (Or.inl ⟨?hw7B, ?hy7B⟩) (by assumption) ?rest7B
          case hi7B => (simp only [List.getElem?_toArray, List.getElem?_cons_succ, List.getElem?_cons_zero]; rfl)
          case hq7B => exact fun _ _ _ h => h
          case hw7B => rfl
          case hy7B => (intro w hSw; (try dsimp only at hSw); go_simp <;> with_reducible rfl)
          try simp only [Act.put, List.setIfInBounds_toArray, List.set_cons_zero, List.set_cons_succ]
          refine wpAnyH_take (i := 8) (oi := ?oi8B) (v := ?v8B) ?hi8B (by kernel_rfl) (by kernel_rfl) (by kernel_rfl) ?hq8B (Or.inl ⟨?hw8B, ?hy8B⟩) (by assumption) ?rest8B
          case hi8B => (simp only [List.getElem?_toArray, List.getElem?_cons_succ, List.getElem?_cons_zero]; rfl)
          case hq8B => exact fun _ _ _ h => h
          case hw8B => rfl
          case hy8B => (intro w hSw; (try dsimp only at hSw); go_simp <;> with_reducible rfl)
          try simp only [Act.put, List.setIfInBounds_toArray, List.set_cons_zero, List.set_cons_succ]
          refine wpAnyH_take (i := 9) (oi := ?oi9B) (v := ?v9B) ?hi9B (by kernel_rfl) (by kernel_rfl) (by kernel_rfl) ?hq9B (Or.inl ⟨?hw9B, ?hy9B⟩) (by assumption) ?rest9B
          case hi9B => (simp only [List.getElem?_toArray, List.getElem?_cons_succ, List.getElem?_cons_zero]; rfl)
          case hq9B => exact fun _ _ _ h => h
          case hw9B => rfl
          case hy9B => (intro w hSw; (try dsimp only at hSw); go_simp <;> with_reducible rfl)
          try simp only [Act.put, List.setIfInBounds_toArray, List.set_cons_zero, List.set_cons_succ]
          refine wpAnyH_take (i := 10) (oi := ?oi10B) (v := ?v10B) ?hi10B (by kernel_rfl) (by kernel_rfl) (by kernel_rfl) ?hq10B (Or.inl ⟨?hw10B, ?hy10B⟩) (by assumption) ?rest10B
          case hi10B => (simp only [List.getElem?_toArray, List.getElem?_cons_succ, List.getElem?_cons_zero]; rfl)
          case hq10B => exact fun _ _ _ h => h
          case hw10B => rfl
          case hy10B => (intro w hSw; (try dsimp only at hSw); go_simp <;> with_reducible rfl)
          try simp only [Act.put, List.setIfInBounds_toArray, List.set_cons_zero, List.set_cons_succ]
          refine wpAnyH_take (i := 11) (oi := ?oi11B) (v := ?v11B) ?hi11B (by kernel_rfl) (by kernel_rfl) (by kernel_rfl) ?hq11B (Or.inl ⟨?hw11B, ?hy11B⟩) (by assumption) ?rest11B
          case hi11B => (simp only [List.getElem?_toArray, List.getElem?_cons_succ, List.getElem?_cons_zero]; rfl)
          case hq11B => exact fun _ _ _ h => h
          case hw11B => rfl
          case hy11B => (intro w hSw; (try dsimp only at hSw); go_simp <;> with_reducible rfl)
          try simp only [Act.put, List.setIfInBounds_toArray, List.set_cons_zero, List.set_cons_succ]
          refine wpAnyH_take (i := 12) (oi := ?oi12B) (v := ?v12B) ?hi12B (by kernel_rfl) (by kernel_rfl) (by kernel_rfl) ?hq12B (Or.inl ⟨?hw12B, ?hy12B⟩) (by assumption) ?rest12B
          case hi12B => (simp only [List.getElem?_toArray, List.getElem?_cons_succ, List.getElem?_cons_zero]; rfl)
          case hq12B => exact fun _ _ _ h => h
          case hw12B => rfl
          case hy12B => (intro w hSw; (try dsimp only at hSw); go_simp <;> with_reducible rfl)
          try simp only [Act.put, List.setIfInBounds_toArray, List.set_cons_zero, List.set_cons_succ]
          refine wpAnyH_take (i := 13) (oi := ?oi13B) (v := ?v13B) ?hi13B (by kernel_rfl) (by kernel_rfl) (by kernel_rfl) ?hq13B (Or.inl ⟨?hw13B, ?hy13B⟩) (by assumption) ?rest13B
          case hi13B => (simp only [List.getElem?_toArray, List.getElem?_cons_succ, List.getElem?_cons_zero]; rfl)
          case hq13B => exact fun _ _ _ h => h
          case hw13B => rfl
          case hy13B => (intro w hSw; (try dsimp only at hSw); go_simp <;> with_reducible rfl)
          try simp only [Act.put, List.setIfInBounds_toArray, List.set_cons_zero, List.set_cons_succ]
          refine wpAnyH_take (i := 14) (oi := ?oi14B) (v := ?v14B) ?hi14B (by kernel_rfl) (by kernel_rfl) (by kernel_rfl) ?hq14B (Or.inl ⟨?hw14B, ?hy14B⟩) (by assumption) ?rest14B
          case hi14B => (simp only [List.getElem?_toArray, List.getElem?_cons_succ, List.getElem?_cons_zero]; rfl)
          case hq14B => exact fun _ _ _ h => h
          case hw14B => rfl
          case hy14B => (intro w hSw; (try dsimp only at hSw); go_simp <;> with_reducible rfl)
          try simp only [Act.put, List.setIfInBounds_toArray, List.set_cons_zero, List.set_cons_succ]
          refine wpAnyH_take (i := 15) (oi := ?oi15B) (v := ?v15B) ?hi15B (by kernel_rfl) (by kernel_rfl) (by kernel_rfl) ?hq15B (Or.inl ⟨?hw15B, ?hy15B⟩) (by assumption) ?rest15B
          case hi15B => (simp only [List.getElem?_toArray, List.getElem?_cons_succ, List.getElem?_cons_zero]; rfl)
          case hq15B => exact fun _ _ _ h => h
          case hw15B => rfl
          case hy15B => (intro w hSw; (try dsimp only at hSw); go_simp <;> with_reducible rfl)
          try simp only [Act.put, List.setIfInBounds_toArray, List.set_cons_zero, List.set_cons_succ]
          refine wpAnyH_take (i := 16) (oi := ?oi16B) (v := undef) ?hi16B (by kernel_rfl) (by kernel_rfl) (by kernel_rfl) ?hq16B (Or.inr ⟨?hw16B, rfl⟩) (by assumption) ?rest16B
          case hi16B => (simp only [List.getElem?_toArray, List.getElem?_cons_succ, List.getElem?_cons_zero]; rfl)
          case hq16B => exact fun _ _ _ h => h
          case hw16B => rfl
          try simp only [Act.put, List.setIfInBounds_toArray, List.set_cons_zero, List.set_cons_succ]
          refine wpAnyH_take (i := 17) (oi := ?oi17B) (v := undef) ?hi17B (by kernel_rfl) (by kernel_rfl) (by kernel_rfl) ?hq17B (Or.inr ⟨?hw17B, rfl⟩) (by assumption) ?rest17B
          case hi17B => (simp only [List.getElem?_toArray, List.getElem?_cons_succ, List.getElem?_cons_zero]; rfl)
          case hq17B => exact fun _ _ _ h => h
          case hw17B => rfl
          try simp only [Act.put, List.setIfInBounds_toArray, List.set_cons_zero, List.set_cons_succ]
          refine wpAnyH_take (i := 18) (oi := ?oi18B) (v := undef) ?hi18B (by kernel_rfl) (by kernel_rfl) (by kernel_rfl) ?hq18B (Or.inr ⟨?hw18B, rfl⟩) (by assumption) ?rest18B
          case hi18B => (simp only [List.getElem?_toArray, List.getElem?_cons_succ, List.getElem?_cons_zero]; rfl)
          case hq18B => exact fun _ _ _ h => h
          case hw18B => rfl
          try simp only [Act.put, List.setIfInBounds_toArray, List.set_cons_zero, List.set_cons_succ]
          refine wpAnyH_take (i := 19) (oi := ?oi19B) (v := undef) ?hi19B (by kernel_rfl) (by kernel_rfl) (by kernel_rfl) ?hq19B (Or.inr ⟨?hw19B, rfl⟩) (by assumption) ?rest19B
          case hi19B => (simp only [List.getElem?_toArray, List.getElem?_cons_succ, List.getElem?_cons_zero]; rfl)
          case hq19B => exact fun _ _ _ h => h
          case hw19B => rfl
          try simp only [Act.put, List.setIfInBounds_toArray, List.set_cons_zero, List.set_cons_succ]
          refine wpAnyH_take (i := 20) (oi := ?oi20B) (v := undef) ?hi20B (by kernel_rfl) (by kernel_rfl) (by kernel_rfl) ?hq20B (Or.inr ⟨?hw20B, rfl⟩) (by assumption) ?rest20B
          case hi20B => (simp only [List.getElem?_toArray, List.getElem?_cons_succ, List.getElem?_cons_zero]; rfl)
          case hq20B => exact fun _ _ _ h => h
          case hw20B => rfl
          try simp only [Act.put, List.setIfInBounds_toArray, List.set_cons_zero, List.set_cons_succ]
          refine wpAnyH_take (i := 21) (oi := ?oi21B) (v := undef) ?hi21B (by kernel_rfl) (by kernel_rfl) (by kernel_rfl) ?hq21B (Or.inr ⟨?hw21B, rfl⟩) (by assumption) ?rest21B
          case hi21B => (simp only [List.getElem?_toArray, List.getElem?_cons_succ, List.getElem?_cons_zero]; rfl)
          case hq21B => exact fun _ _ _ h => h
          case hw21B => rfl
          try simp only [Act.put, List.setIfInBounds_toArray, List.set_cons_zero, List.set_cons_succ]
          refine wpAnyH_take (i := 22) (oi := ?oi22B) (v := undef) ?hi22B (by kernel_rfl) (by kernel_rfl) (by kernel_rfl) ?hq22B (Or.inr ⟨?hw22B, rfl⟩) (by assumption) ?rest22B
          case hi22B => (simp only [List.getElem?_toArray, List.getElem?_cons_succ, List.getElem?_cons_zero]; rfl)
          case hq22B => exact fun _ _ _ h => h
          case hw22B => rfl
          try simp only [Act.put, List.setIfInBounds_toArray, List.set_cons_zero, List.set_cons_succ]
          refine wpAnyH_take (i := 23) (oi := ?oi23B) (v := ?v23B) ?hi23B (by kernel_rfl) (by kernel_rfl) (by kernel_rfl) ?hq23B (Or.inl ⟨?hw23B, ?hy23B⟩) (by assumption) ?rest23B
          case hi23B => (simp only [List.getElem?_toArray, List.getElem?_cons_succ, List.getElem?_cons_zero]; rfl)
          case hq23B => exact fun _ _ _ h => h
          case hw23B => rfl
          case hy23B => (intro w hSw; (try dsimp only at hSw); go_simp <;> with_reducible rfl)
          try simp only [Act.put, List.setIfInBounds_toArray, List.set_cons_zero, List.set_cons_succ]
          refine wpAnyH_take (i := 24) (oi := ?oi24B) (v := ?v24B) ?hi24B (by kernel_rfl) (by kernel_rfl) (by kernel_rfl) ?hq24B (Or.inl ⟨?hw24B, ?hy24B⟩) (by assumption) ?rest24B
          case hi24B => (simp only [List.getElem?_toArray, List.getElem?_cons_succ, List.getElem?_cons_zero]; rfl)
          case hq24B => exact fun _ _ _ h => h
          case hw24B => rfl
          case hy24B => (intro w hSw; (try dsimp only at hSw); go_simp <;> with_reducible rfl)
          try simp only [Act.put, List.setIfInBounds_toArray, List.set_cons_zero, List.set_cons_succ]
          refine wpAnyH_take (i := 25) (oi := ?oi25B) (v := undef) ?hi25B (by kernel_rfl) (by kernel_rfl) (by kernel_rfl) ?hq25B (Or.inr ⟨?hw25B, rfl⟩) (by assumption) ?rest25B
          case hi25B => (simp only [List.getElem?_toArray, List.getElem?_cons_succ, List.getElem?_cons_zero]; rfl)
          case hq25B => exact fun _ _ _ h => h
          case hw25B => rfl
          try simp only [Act.put, List.setIfInBounds_toArray, List.set_cons_zero, List.set_cons_succ]
          refine wpAnyH_take (i := 26) (oi := ?oi26B) (v := undef) ?hi26B (by kernel_rfl) (by kernel_rfl) (by kernel_rfl) ?hq26B (Or.inr ⟨?hw26B, rfl⟩) (by assumption) ?rest26B
          case hi26B => (simp only [List.getElem?_toArray, List.getElem?_cons_succ, List.getElem?_cons_zero]; rfl)
          case hq26B => exact fun _ _ _ h => h
          case hw26B => rfl
          try simp only [Act.put, List.setIfInBounds_toArray, List.set_cons_zero, List.set_cons_succ]
          refine wpAnyH_take (i := 27) (oi := ?oi27B) (v := undef) ?hi27B (by kernel_rfl) (by kernel_rfl) (by kernel_rfl) ?hq27B (Or.inr ⟨?hw27B, rfl⟩) (by assumption) ?rest27B
          case hi27B => (simp only [List.getElem?_toArray, List.getElem?_cons_succ, List.getElem?_cons_zero]; rfl)
          case hq27B => exact fun _ _ _ h => h
          case hw27B => rfl
          try simp only [Act.put, List.setIfInBounds_toArray, List.set_cons_zero, List.set_cons_succ]
          refine wpAnyH_take (i := 28) (oi := ?oi28B) (v := undef) ?hi28B (by kernel_rfl) (by kernel_rfl) (by kernel_rfl) ?hq28B (Or.inr ⟨?hw28B, rfl⟩) (by assumption) ?rest28B
          case hi28B => (simp only [List.getElem?_toArray, List.getElem?_cons_succ, List.getElem?_cons_zero]; rfl)
          case hq28B => exact fun _ _ _ h => h
          case hw28B => rfl
          try simp only [Act.put, List.setIfInBounds_toArray, List.set_cons_zero, List.set_cons_succ]
          refine wpAnyH_take (i := 29) (oi := ?oi29B) (v := undef) ?hi29B (by kernel_rfl) (by kernel_rfl) (by kernel_rfl) ?hq29B (Or.inr ⟨?hw29B, rfl⟩) (by assumption) ?rest29B
          case hi29B => (simp only [List.getElem?_toArray, List.getElem?_cons_succ, List.getElem?_cons_zero]; rfl)
          case hq29B => exact fun _ _ _ h => h
          case hw29B => rfl
          try simp only [Act.put, List.setIfInBounds_toArray, List.set_cons_zero, List.set_cons_succ]
          refine wpAnyH_take (i := 30) (oi := ?oi30B) (v := undef) ?hi30B (by kernel_rfl) (by kernel_rfl) (by kernel_rfl) ?hq30B (Or.inr ⟨?hw30B, rfl⟩) (by assumption) ?rest30B
          case hi30B => (simp only [List.getElem?_toArray, List.getElem?_cons_succ, List.getElem?_cons_zero]; rfl)
          case hq30B => exact fun _ _ _ h => h
          case hw30B => rfl
          try simp only [Act.put, List.setIfInBounds_toArray, List.set_cons_zero, List.set_cons_succ]
          refine wpAnyH_take (i := 31) (oi := ?oi31B) (v := undef) ?hi31B (by kernel_rfl) (by kernel_rfl) (by kernel_rfl) ?hq31B (Or.inr ⟨?hw31B, rfl⟩) (by assumption) ?rest31B
          case hi31B => (simp only [List.getElem?_toArray, List.getElem?_cons_succ, List.getElem?_cons_zero]; rfl)
          case hq31B => exact fun _ _ _ h => h
          case hw31B => rfl
          try simp only [Act.put, List.setIfInBounds_toArray, List.set_cons_zero, List.set_cons_succ]
          refine wpAnyH_take (i := 32) (oi := ?oi32B) (v := undef) ?hi32B (by kernel_rfl) (by kernel_rfl) (by kernel_rfl) ?hq32B (Or.inr ⟨?hw32B, rfl⟩) (by assumption) ?rest32B
          case hi32B => (simp only [List.getElem?_toArray, List.getElem?_cons_succ, List.getElem?_cons_zero]; rfl)
          case hq32B => exact fun _ _ _ h => h
          case hw32B => rfl
          try simp only [Act.put, List.setIfInBounds_toArray, List.set_cons_zero, List.set_cons_succ]
          refine wpAnyH_take (i := 33) (oi := ?oi33B) (v := undef) ?hi33B (by kernel_rfl) (by kernel_rfl) (by kernel_rfl) ?hq33B (Or.inr ⟨?hw33B, rfl⟩) (by assumption) ?rest33B
          case hi33B => (simp only [List.getElem?_toArray, List.getElem?_cons_succ, List.getElem?_cons_zero]; rfl)
          case hq33B => exact fun _ _ _ h => h
          case hw33B => rfl
          try simp only [Act.put, List.setIfInBounds_toArray, List.set_cons_zero, List.set_cons_succ]
          refine wpAnyH_take (i := 34) (oi := ?oi34B) (v := undef) ?hi34B (by kernel_rfl) (by kernel_rfl) (by kernel_rfl) ?hq34B (Or.inr ⟨?hw34B, rfl⟩) (by assumption) ?rest34B
          case hi34B => (simp only [List.getElem?_toArray, List.getElem?_cons_succ, List.getElem?_cons_zero]; rfl)
          case hq34B => exact fun _ _ _ h => h
          case hw34B => rfl
          try simp only [Act.put, List.setIfInBounds_toArray, List.set_cons_zero, List.set_cons_succ]
          refine wpAnyH_take (i := 35) (oi := ?oi35B) (v := undef) ?hi35B (by kernel_rfl) (by kernel_rfl) (by kernel_rfl) ?hq35B (Or.inr ⟨?hw35B, rfl⟩) (by assumption) ?rest35B
          case hi35B => (simp only [List.getElem?_toArray, List.getElem?_cons_succ, List.getElem?_cons_zero]; rfl)
          case hq35B => exact fun _ _ _ h => h
          case hw35B => rfl
          try simp only [Act.put, List.setIfInBounds_toArray, List.set_cons_zero, List.set_cons_succ]
          refine wpAnyH_take (i := 36) (oi := ?oi36B) (v := undef) ?hi36B (by kernel_rfl) (by kernel_rfl) (by kernel_rfl) ?hq36B (Or.inr ⟨?hw36B, rfl⟩) (by assumption) ?rest36B
          case hi36B => (simp only [List.getElem?_toArray, List.getElem?_cons_succ, List.getElem?_cons_zero]; rfl)
          case hq36B => exact fun _ _ _ h => h
          case hw36B => rfl
          try simp only [Act.put, List.setIfInBounds_toArray, List.set_cons_zero, List.set_cons_succ]
          refine wpAnyH_take (i := 37) (oi := ?oi37B) (v := undef) ?hi37B (by kernel_rfl) (by kernel_rfl) (by kernel_rfl) ?hq37B (Or.inr ⟨?hw37B, rfl⟩) (by assumption) ?rest37B
          case hi37B => (simp only [List.getElem?_toArray, List.getElem?_cons_succ, List.getElem?_cons_zero]; rfl)
          case hq37B => exact fun _ _ _ h => h
          case hw37B => rfl
          try simp only [Act.put, List.setIfInBounds_toArray, List.set_cons_zero, List.set_cons_succ]
          refine wpAnyH_take (i := 38) (oi := ?oi38B) (v := undef) ?hi38B (by kernel_rfl) (by kernel_rfl) (by kernel_rfl) ?hq38B (Or.inr ⟨?hw38B, rfl⟩) (by assumption) ?rest38B
          case hi38B => (simp only [List.getElem?_toArray, List.getElem?_cons_succ, List.getElem?_cons_zero]; rfl)
          case hq38B => exact fun _ _ _ h => h
          case hw38B => rfl
          try simp only [Act.put, List.setIfInBounds_toArray, List.set_cons_zero, List.set_cons_succ]
          refine wpAnyH_take (i := 39) (oi := ?oi39B) (v := undef) ?hi39B (by kernel_rfl) (by kernel_rfl) (by kernel_rfl) ?hq39B (Or.inr ⟨?hw39B, rfl⟩) (by assumption) ?rest39B
          case hi39B => (simp only [List.getElem?_toArray, List.getElem?_cons_succ, List.getElem?_cons_zero]; rfl)
          case hq39B => exact fun _ _ _ h => h
          case hw39B => rfl
          try simp only [Act.put, List.setIfInBounds_toArray, List.set_cons_zero, List.set_cons_succ]
          refine wpAnyH_take (i := 40) (oi := ?oi40B) (v := undef) ?hi40B (by kernel_rfl) (by kernel_rfl) (by kernel_rfl) ?hq40B (Or.inr ⟨?hw40B, rfl⟩) (by assumption) ?rest40B
          case hi40B => (simp only [List.getElem?_toArray, List.getElem?_cons_succ, List.getElem?_cons_zero]; rfl)
          case hq40B => exact fun _ _ _ h => h
          case hw40B => rfl
          try simp only [Act.put, List.setIfInBounds_toArray, List.set_cons_zero, List.set_cons_succ]
          refine wpAnyH_take (i := 41) (oi := ?oi41B) (v := ?v41B) ?hi41B (by kernel_rfl) (by kernel_rfl) (by kernel_rfl) ?hq41B (Or.inl ⟨?hw41B, ?hy41B⟩) (by assumption) ?rest41B
          case hi41B => (simp only [List.getElem?_toArray, List.getElem?_cons_succ, List.getElem?_cons_zero]; rfl)
          case hq41B => exact fun _ _ _ h => h
          case hw41B => rfl
          case hy41B => (intro w hSw; (try dsimp only at hSw); go_simp <;> with_reducible rfl)
          try simp only [Act.put, List.setIfInBounds_toArray, List.set_cons_zero, List.set_cons_succ]
          refine wpAnyH_done (by kernel_rfl) ?_ _
          go_wp2
          go_ret
          exact ⟨by rw [hno hbad]; rfl, q + 1, rfl⟩
        · have h0 : ¬ q1 = 0 := by omega
          have hqd : decide (q1 < 1) = false := decide_eq_false hq
          cases hc : cMay q1 with
          | false =>
            have hbad : okAt last (s1, q1) = false := by simp [okAt, hc]
            clear hq h0
            go_wp2
            refine wp_region_held_drew (S := (fun w' => w'.cell? ⟨b, off + k * 2, none⟩ = some (.string ⟨s1.toArray⟩) ∧ w'.cell? ⟨b, off + k * 2 + 1, none⟩ = some (.int .i64 q1))) (by kernel_rfl) ⟨c0, c1⟩ (fun hHeld => ?_)
            refine wpAnyH_take (i := 0) (oi := ?oi0C) (v := ?v0C) ?hi0C (by kernel_rfl) (by kernel_rfl) (by kernel_rfl) ?hq0C (Or.inl ⟨?hw0C, ?hy0C⟩) (by assumption) ?rest0C
            case hi0C => (simp only [List.getElem?_toArray, List.getElem?_cons_succ, List.getElem?_cons_zero]; rfl)
            case hq0C => exact fun _ _ _ h => h
            case hw0C => rfl
            case hy0C => (intro w hSw; (try dsimp only at hSw); go_simp <;> with_reducible rfl)
            try simp only [Act.put, List.setIfInBounds_toArray, List.set_cons_zero, List.set_cons_succ]
            refine wpAnyH_take (i := 1) (oi := ?oi1C) (v := ?v1C) ?hi1C (by kernel_rfl) (by kernel_rfl) (by kernel_rfl) ?hq1C (Or.inl ⟨?hw1C, ?hy1C⟩) (by assumption) ?rest1C
            case hi1C => (simp only [List.getElem?_toArray, List.getElem?_cons_succ, List.getElem?_cons_zero]; rfl)
            case hq1C => exact fun _ _ _ h => h
            case hw1C => rfl
            case hy1C => (intro w hSw; (try dsimp only at hSw); go_simp <;> with_reducible rfl)
            try simp only [Act.put, List.setIfInBounds_toArray, List.set_cons_zero, List.set_cons_succ]
            refine wpAnyH_take (i := 2) (oi := ?oi2C) (v := ?v2C) ?hi2C (by kernel_rfl) (by kernel_rfl) (by kernel_rfl) ?hq2C (Or.inl ⟨?hw2C, ?hy2C⟩) (by assumption) ?rest2C
            case hi2C => (simp only [List.getElem?_toArray, List.getElem?_cons_succ, List.getElem?_cons_zero]; rfl)
            case hq2C => exact fun _ _ _ h => h
            case hw2C => rfl
            case hy2C => (intro w hSw; (try dsimp only at hSw); go_simp <;> with_reducible rfl)
            try simp only [Act.put, List.setIfInBounds_toArray, List.set_cons_zero, List.set_cons_succ]
            refine wpAnyH_take (i := 3) (oi := ?oi3C) (v := ?v3C) ?hi3C (by kernel_rfl) (by kernel_rfl) (by kernel_rfl) ?hq3C (Or.inl ⟨?hw3C, ?hy3C⟩) (by assumption) ?rest3C
            case hi3C => (simp only [List.getElem?_toArray, List.getElem?_cons_succ, List.getElem?_cons_zero]; rfl)
            case hq3C => exact fun _ _ _ h => h
            case hw3C => rfl
            case hy3C => (intro w hSw; (try dsimp only at hSw); go_simp <;> with_reducible rfl)
            try simp only [Act.put, List.setIfInBounds_toArray, List.set_cons_zero, List.set_cons_succ]
            refine wpAnyH_take (i := 4) (oi := ?oi4C) (v := ?v4C) ?hi4C (by kernel_rfl) (by kernel_rfl) (by kernel_rfl) ?hq4C (Or.inl ⟨?hw4C, ?hy4C⟩) (by assumption) ?rest4C
            case hi4C => (simp only [List.getElem?_toArray, List.getElem?_cons_succ, List.getElem?_cons_zero]; rfl)
            case hq4C => exact fun _ _ _ h => h
            case hw4C => rfl
            case hy4C => (intro w hSw; (try dsimp only at hSw); go_simp <;> with_reducible rfl)
            try simp only [Act.put, List.setIfInBounds_toArray, List.set_cons_zero, List.set_cons_succ]
            refine wpAnyH_ready (rs := [5]) (by kernel_rfl) (by simp) ?_
            refine AllReadyH.cons (o := ?o5C) ?hi5C (fun K hK => ?st5C) AllReadyH.nil
            case hi5C => (simp only [List.getElem?_toArray, List.getElem?_cons_succ, List.getElem?_cons_zero]; rfl)
            go_simp
            refine (refgood_any s1 _ hs1).mono ?_
            rintro e w5 ⟨rfl, rfl⟩
            rw [hg]
            go_wp2_with fail
            refine hK.out _ _ ⟨c0, c1⟩ (fun hHeld2 => ?_)
            clear hK K hHeld
            have hHeld := hHeld2
            clear hHeld2
            try simp only [Act.put, List.setIfInBounds_toArray, List.set_cons_zero, List.set_cons_succ]
            refine wpAnyH_take (i := 6) (oi := ?oi6C) (v := ?v6C) ?hi6C (by kernel_rfl) (by kernel_rfl) (by kernel_rfl) ?hq6C (Or.inl ⟨?hw6C, ?hy6C⟩) (by assumption) ?rest6C
            case hi6C => (simp only [List.getElem?_toArray, List.getElem?_cons_succ, List.getElem?_cons_zero]; rfl)
            case hq6C => exact fun _ _ _ h => h
            case hw6C => rfl
            case hy6C => (intro w hSw; (try dsimp only at hSw); go_simp <;> with_reducible rfl)
            try simp only [Act.put, List.setIfInBounds_toArray, List.set_cons_zero, List.set_cons_succ]
            refine wpAnyH_take (i := 7) (oi := ?oi7C) (v := ?v7C) ?hi7C (by kernel_rfl) (by kernel_rfl) (by kernel_rfl) ?hq7C (Or.inl ⟨?hw7C, ?hy7C⟩) (by assumption) ?rest7C
            case hi7C => (simp only [List.getElem?_toArray, List.getElem?_cons_succ, List.getElem?_cons_zero]; rfl)
            case hq7C => exact fun _ _ _ h => h
            case hw7C => rfl
            case hy7C => (intro w hSw; (try dsimp only at hSw); go_simp <;> with_reducible rfl)
            try simp only [Act.put, List.setIfInBounds_toArray, List.set_cons_zero, List.set_cons_succ]
            refine wpAnyH_take (i := 8) (oi := ?oi8C) (v := ?v8C) ?hi8C (by kernel_rfl) (by kernel_rfl) (by kernel_rfl) ?hq8C (Or.inl ⟨?hw8C, ?hy8C⟩) (by assumption) ?rest8C
            case hi8C => (simp only [List.getElem?_toArray, List.getElem?_cons_succ, List.getElem?_cons_zero]; rfl)
            case hq8C => exact fun _ _ _ h => h
            case hw8C => rfl
            case hy8C => (intro w hSw; (try dsimp only at hSw); go_simp <;> with_reducible rfl)
            try simp only [Act.put, List.setIfInBounds_toArray, List.set_cons_zero, List.set_cons_succ]
            refine wpAnyH_take (i := 9) (oi := ?oi9C) (v := ?v9C) ?hi9C (by kernel_rfl) (by kernel_rfl) (by kernel_rfl) ?hq9C (Or.inl ⟨?hw9C, ?hy9C⟩) (by assumption) ?rest9C
            case hi9C => (simp only [List.getElem?_toArray, List.getElem?_cons_succ, List.getElem?_cons_zero]; rfl)
            case hq9C => exact fun _ _ _ h => h
            case hw9C => rfl
            case hy9C => (intro w hSw; (try dsimp only at hSw); go_simp <;> with_reducible rfl)
            try simp only [Act.put, List.setIfInBounds_toArray, List.set_cons_zero, List.set_cons_succ]
            refine wpAnyH_take (i := 10) (oi := ?oi10C) (v := ?v10C) ?hi10C (by kernel_rfl) (by kernel_rfl) (by kernel_rfl) ?hq10C (Or.inl ⟨?hw10C, ?hy10C⟩) (by assumption) ?rest10C
            case hi10C => (simp only [List.getElem?_toArray, List.getElem?_cons_succ, List.getElem?_cons_zero]; rfl)
            case hq10C => exact fun _ _ _ h => h
            case hw10C => rfl
            case hy10C => (intro w hSw; (try dsimp only at hSw); go_simp <;> with_reducible rfl)
            try simp only [Act.put, List.setIfInBounds_toArray, List.set_cons_zero, List.set_cons_succ]
            refine wpAnyH_take (i := 11) (oi := ?oi11C) (v := ?v11C) ?hi11C (by kernel_rfl) (by kernel_rfl) (by kernel_rfl) ?hq11C (Or.inl ⟨?hw11C, ?hy11C⟩) (by assumption) ?rest11C
            case hi11C => (simp only [List.getElem?_toArray, List.getElem?_cons_succ, List.getElem?_cons_zero]; rfl)
            case hq11C => exact fun _ _ _ h => h
            case hw11C => rfl
            case hy11C => (intro w hSw; (try dsimp only at hSw); go_simp <;> with_reducible rfl)
            try simp only [Act.put, List.setIfInBounds_toArray, List.set_cons_zero, List.set_cons_succ]
            refine wpAnyH_take (i := 12) (oi := ?oi12C) (v := ?v12C) ?hi12C (by kernel_rfl) (by kernel_rfl) (by kernel_rfl) ?hq12C (Or.inl ⟨?hw12C, ?hy12C⟩) (by assumption) ?rest12C
            case hi12C => (simp only [List.getElem?_toArray, List.getElem?_cons_succ, List.getElem?_cons_zero]; rfl)
            case hq12C => exact fun _ _ _ h => h
            case hw12C => rfl
            case hy12C => (intro w hSw; (try dsimp only at hSw); go_simp <;> with_reducible rfl)
            try simp only [Act.put, List.setIfInBounds_toArray, List.set_cons_zero, List.set_cons_succ]
            refine wpAnyH_take (i := 13) (oi := ?oi13C) (v := ?v13C) ?hi13C (by kernel_rfl) (by kernel_rfl) (by kernel_rfl) ?hq13C (Or.inl ⟨?hw13C, ?hy13C⟩) (by assumption) ?rest13C
            case hi13C => (simp only [List.getElem?_toArray, List.getElem?_cons_succ, List.getElem?_cons_zero]; rfl)
            case hq13C => exact fun _ _ _ h => h
            case hw13C => rfl
            case hy13C => (intro w hSw; (try dsimp only at hSw); go_simp <;> with_reducible rfl)
            try simp only [Act.put, List.setIfInBounds_toArray, List.set_cons_zero, List.set_cons_succ]
            refine wpAnyH_take (i := 14) (oi := ?oi14C) (v := ?v14C) ?hi14C (by kernel_rfl) (by kernel_rfl) (by kernel_rfl) ?hq14C (Or.inl ⟨?hw14C, ?hy14C⟩) (by assumption) ?rest14C
            case hi14C => (simp only [List.getElem?_toArray, List.getElem?_cons_succ, List.getElem?_cons_zero]; rfl)
            case hq14C => exact fun _ _ _ h => h
            case hw14C => rfl
            case hy14C => (intro w hSw; (try dsimp only at hSw); go_simp <;> with_reducible rfl)
            try simp only [Act.put, List.setIfInBounds_toArray, List.set_cons_zero, List.set_cons_succ]
            refine wpAnyH_take (i := 15) (oi := ?oi15C) (v := ?v15C) ?hi15C (by kernel_rfl) (by kernel_rfl) (by kernel_rfl) ?hq15C (Or.inl ⟨?hw15C, ?hy15C⟩) (by assumption) ?rest15C
            case hi15C => (simp only [List.getElem?_toArray, List.getElem?_cons_succ, List.getElem?_cons_zero]; rfl)
            case hq15C => exact fun _ _ _ h => h
            case hw15C => rfl
            case hy15C => (intro w hSw; (try dsimp only at hSw); go_simp <;> with_reducible rfl)
            try simp only [Act.put, List.setIfInBounds_toArray, List.set_cons_zero, List.set_cons_succ]
            refine wpAnyH_take (i := 16) (oi := ?oi16C) (v := ?v16C) ?hi16C (by kernel_rfl) (by kernel_rfl) (by kernel_rfl) ?hq16C (Or.inl ⟨?hw16C, ?hy16C⟩) (by assumption) ?rest16C
            case hi16C => (simp only [List.getElem?_toArray, List.getElem?_cons_succ, List.getElem?_cons_zero]; rfl)
            case hq16C => exact fun _ _ _ h => h
            case hw16C => rfl
            case hy16C => (intro w hSw; (try dsimp only at hSw); go_simp <;> with_reducible rfl)
            try simp only [Act.put, List.setIfInBounds_toArray, List.set_cons_zero, List.set_cons_succ]
            refine wpAnyH_take (i := 17) (oi := ?oi17C) (v := ?v17C) ?hi17C (by kernel_rfl) (by kernel_rfl) (by kernel_rfl) ?hq17C (Or.inl ⟨?hw17C, ?hy17C⟩) (by assumption) ?rest17C
            case hi17C => (simp only [List.getElem?_toArray, List.getElem?_cons_succ, List.getElem?_cons_zero]; rfl)
            case hq17C => exact fun _ _ _ h => h
            case hw17C => rfl
            case hy17C => (intro w hSw; (try dsimp only at hSw); go_simp <;> with_reducible rfl)
            try simp only [Act.put, List.setIfInBounds_toArray, List.set_cons_zero, List.set_cons_succ]
            refine wpAnyH_take (i := 18) (oi := ?oi18C) (v := ?v18C) ?hi18C (by kernel_rfl) (by kernel_rfl) (by kernel_rfl) ?hq18C (Or.inl ⟨?hw18C, ?hy18C⟩) (by assumption) ?rest18C
            case hi18C => (simp only [List.getElem?_toArray, List.getElem?_cons_succ, List.getElem?_cons_zero]; rfl)
            case hq18C => exact fun _ _ _ h => h
            case hw18C => rfl
            case hy18C => (intro w hSw; (try dsimp only at hSw); go_simp <;> with_reducible rfl)
            try simp only [Act.put, List.setIfInBounds_toArray, List.set_cons_zero, List.set_cons_succ]
            refine wpAnyH_take (i := 19) (oi := ?oi19C) (v := ?v19C) ?hi19C (by kernel_rfl) (by kernel_rfl) (by kernel_rfl) ?hq19C (Or.inl ⟨?hw19C, ?hy19C⟩) (by assumption) ?rest19C
            case hi19C => (simp only [List.getElem?_toArray, List.getElem?_cons_succ, List.getElem?_cons_zero]; rfl)
            case hq19C => exact fun _ _ _ h => h
            case hw19C => rfl
            case hy19C => (intro w hSw; (try dsimp only at hSw); go_simp <;> with_reducible rfl)
            try simp only [Act.put, List.setIfInBounds_toArray, List.set_cons_zero, List.set_cons_succ]
            refine wpAnyH_take (i := 20) (oi := ?oi20C) (v := ?v20C) ?hi20C (by kernel_rfl) (by kernel_rfl) (by kernel_rfl) ?hq20C (Or.inl ⟨?hw20C, ?hy20C⟩) (by assumption) ?rest20C
            case hi20C => (simp only [List.getElem?_toArray, List.getElem?_cons_succ, List.getElem?_cons_zero]; rfl)
            case hq20C => exact fun _ _ _ h => h
            case hw20C => rfl
            case hy20C => (intro w hSw; (try dsimp only at hSw); go_simp <;> with_reducible rfl)
            try simp only [Act.put, List.setIfInBounds_toArray, List.set_cons_zero, List.set_cons_succ]
            refine wpAnyH_ready (rs := [21]) (by kernel_rfl) (by simp) ?_
            refine AllReadyH.cons (o := ?o21C) ?hi21C (fun K hK => ?st21C) AllReadyH.nil
            case hi21C => (simp only [List.getElem?_toArray, List.getElem?_cons_succ, List.getElem?_cons_zero]; rfl)
            go_simp
            refine (refcmay_any q1 _).mono ?_
            rintro e w6 ⟨rfl, rfl⟩
            rw [hc]
            go_wp2_with fail
            refine hK.out _ _ ⟨c0, c1⟩ (fun hHeld2 => ?_)
            clear hK K hHeld
            have hHeld := hHeld2
            clear hHeld2
            try simp only [Act.put, List.setIfInBounds_toArray, List.set_cons_zero, List.set_cons_succ]
            refine wpAnyH_take (i := 22) (oi := ?oi22C) (v := ?v22C) ?hi22C (by kernel_rfl) (by kernel_rfl) (by kernel_rfl) ?hq22C (Or.inl ⟨?hw22C, ?hy22C⟩) (by assumption) ?rest22C
            case hi22C => (simp only [List.getElem?_toArray, List.getElem?_cons_succ, List.getElem?_cons_zero]; rfl)
            case hq22C => exact fun _ _ _ h => h
            case hw22C => rfl
            case hy22C => (intro w hSw; (try dsimp only at hSw); go_simp <;> with_reducible rfl)
            try simp only [Act.put, List.setIfInBounds_toArray, List.set_cons_zero, List.set_cons_succ]
            refine wpAnyH_take (i := 23) (oi := ?oi23C) (v := ?v23C) ?hi23C (by kernel_rfl) (by kernel_rfl) (by kernel_rfl) ?hq23C (Or.inl ⟨?hw23C, ?hy23C⟩) (by assumption) ?rest23C
            case hi23C => (simp only [List.getElem?_toArray, List.getElem?_cons_succ, List.getElem?_cons_zero]; rfl)
            case hq23C => exact fun _ _ _ h => h
            case hw23C => rfl
            case hy23C => (intro w hSw; (try dsimp only at hSw); go_simp <;> with_reducible rfl)
            try simp only [Act.put, List.setIfInBounds_toArray, List.set_cons_zero, List.set_cons_succ]
            refine wpAnyH_take (i := 24) (oi := ?oi24C) (v := ?v24C) ?hi24C (by kernel_rfl) (by kernel_rfl) (by kernel_rfl) ?hq24C (Or.inl ⟨?hw24C, ?hy24C⟩) (by assumption) ?rest24C
            case hi24C => (simp only [List.getElem?_toArray, List.getElem?_cons_succ, List.getElem?_cons_zero]; rfl)
            case hq24C => exact fun _ _ _ h => h
            case hw24C => rfl
            case hy24C => (intro w hSw; (try dsimp only at hSw); go_simp <;> with_reducible rfl)
            try simp only [Act.put, List.setIfInBounds_toArray, List.set_cons_zero, List.set_cons_succ]
            refine wpAnyH_take (i := 25) (oi := ?oi25C) (v := undef) ?hi25C (by kernel_rfl) (by kernel_rfl) (by kernel_rfl) ?hq25C (Or.inr ⟨?hw25C, rfl⟩) (by assumption) ?rest25C
            case hi25C => (simp only [List.getElem?_toArray, List.getElem?_cons_succ, List.getElem?_cons_zero]; rfl)
            case hq25C => exact fun _ _ _ h => h
            case hw25C => rfl
            try simp only [Act.put, List.setIfInBounds_toArray, List.set_cons_zero, List.set_cons_succ]
            refine wpAnyH_take (i := 26) (oi := ?oi26C) (v := undef) ?hi26C (by kernel_rfl) (by kernel_rfl) (by kernel_rfl) ?hq26C (Or.inr ⟨?hw26C, rfl⟩) (by assumption) ?rest26C
            case hi26C => (simp only [List.getElem?_toArray, List.getElem?_cons_succ, List.getElem?_cons_zero]; rfl)
            case hq26C => exact fun _ _ _ h => h
            case hw26C => rfl
            try simp only [Act.put, List.setIfInBounds_toArray, List.set_cons_zero, List.set_cons_succ]
            refine wpAnyH_take (i := 27) (oi := ?oi27C) (v := undef) ?hi27C (by kernel_rfl) (by kernel_rfl) (by kernel_rfl) ?hq27C (Or.inr ⟨?hw27C, rfl⟩) (by assumption) ?rest27C
            case hi27C => (simp only [List.getElem?_toArray, List.getElem?_cons_succ, List.getElem?_cons_zero]; rfl)
            case hq27C => exact fun _ _ _ h => h
            case hw27C => rfl
            try simp only [Act.put, List.setIfInBounds_toArray, List.set_cons_zero, List.set_cons_succ]
            refine wpAnyH_take (i := 28) (oi := ?oi28C) (v := undef) ?hi28C (by kernel_rfl) (by kernel_rfl) (by kernel_rfl) ?hq28C (Or.inr ⟨?hw28C, rfl⟩) (by assumption) ?rest28C
            case hi28C => (simp only [List.getElem?_toArray, List.getElem?_cons_succ, List.getElem?_cons_zero]; rfl)
            case hq28C => exact fun _ _ _ h => h
            case hw28C => rfl
            try simp only [Act.put, List.setIfInBounds_toArray, List.set_cons_zero, List.set_cons_succ]
            refine wpAnyH_take (i := 29) (oi := ?oi29C) (v := undef) ?hi29C (by kernel_rfl) (by kernel_rfl) (by kernel_rfl) ?hq29C (Or.inr ⟨?hw29C, rfl⟩) (by assumption) ?rest29C
            case hi29C => (simp only [List.getElem?_toArray, List.getElem?_cons_succ, List.getElem?_cons_zero]; rfl)
            case hq29C => exact fun _ _ _ h => h
            case hw29C => rfl
            try simp only [Act.put, List.setIfInBounds_toArray, List.set_cons_zero, List.set_cons_succ]
            refine wpAnyH_take (i := 30) (oi := ?oi30C) (v := undef) ?hi30C (by kernel_rfl) (by kernel_rfl) (by kernel_rfl) ?hq30C (Or.inr ⟨?hw30C, rfl⟩) (by assumption) ?rest30C
            case hi30C => (simp only [List.getElem?_toArray, List.getElem?_cons_succ, List.getElem?_cons_zero]; rfl)
            case hq30C => exact fun _ _ _ h => h
            case hw30C => rfl
            try simp only [Act.put, List.setIfInBounds_toArray, List.set_cons_zero, List.set_cons_succ]
            refine wpAnyH_take (i := 31) (oi := ?oi31C) (v := undef) ?hi31C (by kernel_rfl) (by kernel_rfl) (by kernel_rfl) ?hq31C (Or.inr ⟨?hw31C, rfl⟩) (by assumption) ?rest31C
            case hi31C => (simp only [List.getElem?_toArray, List.getElem?_cons_succ, List.getElem?_cons_zero]; rfl)
            case hq31C => exact fun _ _ _ h => h
            case hw31C => rfl
            try simp only [Act.put, List.setIfInBounds_toArray, List.set_cons_zero, List.set_cons_succ]
            refine wpAnyH_take (i := 32) (oi := ?oi32C) (v := undef) ?hi32C (by kernel_rfl) (by kernel_rfl) (by kernel_rfl) ?hq32C (Or.inr ⟨?hw32C, rfl⟩) (by assumption) ?rest32C
            case hi32C => (simp only [List.getElem?_toArray, List.getElem?_cons_succ, List.getElem?_cons_zero]; rfl)
            case hq32C => exact fun _ _ _ h => h
            case hw32C => rfl
            try simp only [Act.put, List.setIfInBounds_toArray, List.set_cons_zero, List.set_cons_succ]
            refine wpAnyH_take (i := 33) (oi := ?oi33C) (v := undef) ?hi33C (by kernel_rfl) (by kernel_rfl) (by kernel_rfl) ?hq33C (Or.inr ⟨?hw33C, rfl⟩) (by assumption) ?rest33C
            case hi33C => (simp only [List.getElem?_toArray, List.getElem?_cons_succ, List.getElem?_cons_zero]; rfl)
            case hq33C => exact fun _ _ _ h => h
            case hw33C => rfl
            try simp only [Act.put, List.setIfInBounds_toArray, List.set_cons_zero, List.set_cons_succ]
            refine wpAnyH_take (i := 34) (oi := ?oi34C) (v := undef) ?hi34C (by kernel_rfl) (by kernel_rfl) (by kernel_rfl) ?hq34C (Or.inr ⟨?hw34C, rfl⟩) (by assumption) ?rest34C
            case hi34C => (simp only [List.getElem?_toArray, List.getElem?_cons_succ, List.getElem?_cons_zero]; rfl)
            case hq34C => exact fun _ _ _ h => h
            case hw34C => rfl
            try simp only [Act.put, List.setIfInBounds_toArray, List.set_cons_zero, List.set_cons_succ]
            refine wpAnyH_take (i := 35) (oi := ?oi35C) (v := undef) ?hi35C (by kernel_rfl) (by kernel_rfl) (by kernel_rfl) ?hq35C (Or.inr ⟨?hw35C, rfl⟩) (by assumption) ?rest35C
            case hi35C => (simp only [List.getElem?_toArray, List.getElem?_cons_succ, List.getElem?_cons_zero]; rfl)
            case hq35C => exact fun _ _ _ h => h
            case hw35C => rfl
            try simp only [Act.put, List.setIfInBounds_toArray, List.set_cons_zero, List.set_cons_succ]
            refine wpAnyH_take (i := 36) (oi := ?oi36C) (v := undef) ?hi36C (by kernel_rfl) (by kernel_rfl) (by kernel_rfl) ?hq36C (Or.inr ⟨?hw36C, rfl⟩) (by assumption) ?rest36C
            case hi36C => (simp only [List.getElem?_toArray, List.getElem?_cons_succ, List.getElem?_cons_zero]; rfl)
            case hq36C => exact fun _ _ _ h => h
            case hw36C => rfl
            try simp only [Act.put, List.setIfInBounds_toArray, List.set_cons_zero, List.set_cons_succ]
            refine wpAnyH_take (i := 37) (oi := ?oi37C) (v := undef) ?hi37C (by kernel_rfl) (by kernel_rfl) (by kernel_rfl) ?hq37C (Or.inr ⟨?hw37C, rfl⟩) (by assumption) ?rest37C
            case hi37C => (simp only [List.getElem?_toArray, List.getElem?_cons_succ, List.getElem?_cons_zero]; rfl)
            case hq37C => exact fun _ _ _ h => h
            case hw37C => rfl
            try simp only [Act.put, List.setIfInBounds_toArray, List.set_cons_zero, List.set_cons_succ]
            refine wpAnyH_take (i := 38) (oi := ?oi38C) (v := undef) ?hi38C (by kernel_rfl) (by kernel_rfl) (by kernel_rfl) ?hq38C (Or.inr ⟨?hw38C, rfl⟩) (by assumption) ?rest38C
            case hi38C => (simp only [List.getElem?_toArray, List.getElem?_cons_succ, List.getElem?_cons_zero]; rfl)
            case hq38C => exact fun _ _ _ h => h
            case hw38C => rfl
            try simp only [Act.put, List.setIfInBounds_toArray, List.set_cons_zero, List.set_cons_succ]
            refine wpAnyH_take (i := 39) (oi := ?oi39C) (v := undef) ?hi39C (by kernel_rfl) (by kernel_rfl) (by kernel_rfl) ?hq39C (Or.inr ⟨?hw39C, rfl⟩) (by assumption) ?rest39C
            case hi39C => (simp only [List.getElem?_toArray, List.getElem?_cons_succ, List.getElem?_cons_zero]; rfl)
            case hq39C => exact fun _ _ _ h => h
            case hw39C => rfl
            try simp only [Act.put, List.setIfInBounds_toArray, List.set_cons_zero, List.set_cons_succ]
            refine wpAnyH_take (i := 40) (oi := ?oi40C) (v := undef) ?hi40C (by kernel_rfl) (by kernel_rfl) (by kernel_rfl) ?hq40C (Or.inr ⟨?hw40C, rfl⟩) (by assumption) ?rest40C
            case hi40C => (simp only [List.getElem?_toArray, List.getElem?_cons_succ, List.getElem?_cons_zero]; rfl)
            case hq40C => exact fun _ _ _ h => h
            case hw40C => rfl
            try simp only [Act.put, List.setIfInBounds_toArray, List.set_cons_zero, List.set_cons_succ]
            refine wpAnyH_take (i := 41) (oi := ?oi41C) (v := ?v41C) ?hi41C (by kernel_rfl) (by kernel_rfl) (by kernel_rfl) ?hq41C (Or.inl ⟨?hw41C, ?hy41C⟩) (by assumption) ?rest41C
            case hi41C => (simp only [List.getElem?_toArray, List.getElem?_cons_succ, List.getElem?_cons_zero]; rfl)
            case hq41C => exact fun _ _ _ h => h
            case hw41C => rfl
            case hy41C => (intro w hSw; (try dsimp only at hSw); go_simp <;> with_reducible rfl)
            try simp only [Act.put, List.setIfInBounds_toArray, List.set_cons_zero, List.set_cons_succ]
            refine wpAnyH_done (by kernel_rfl) ?_ _
            go_wp2
            go_ret
            exact ⟨by rw [hno hbad]; rfl, q + 1, rfl⟩
          | true =>
            have hok : okAt last (s1, q1) = !decide (s1 ≤ last) := by simp [okAt, hg, hc, h0]
            by_cases hk0 : 0 < k
            case neg =>
              have hk00 : k = 0 := by omega
              have hkz : decide ((0 : Int) < (k : Int)) = false := decide_eq_false (by omega)
              have hkn : decide (0 < k) = false := decide_eq_false (by omega)
              have hgood : okAt last (s1, q1) = true := by
                rw [hok, ← hlast, hk00]
                simp [hnl]
              clear hk00 hk0 hq h0
              go_wp2
              refine wp_region_held_drew (S := (fun w' => w'.cell? ⟨b, off + k * 2, none⟩ = some (.string ⟨s1.toArray⟩) ∧ w'.cell? ⟨b, off + k * 2 + 1, none⟩ = some (.int .i64 q1))) (by kernel_rfl) ⟨c0, c1⟩ (fun hHeld => ?_)
              refine wpAnyH_take (i := 0) (oi := ?oi0D) (v := ?v0D) ?hi0D (by kernel_rfl) (by kernel_rfl) (by kernel_rfl) ?hq0D (Or.inl ⟨?hw0D, ?hy0D⟩) (by assumption) ?rest0D
              case hi0D => (simp only [List.getElem?_toArray, List.getElem?_cons_succ, List.getElem?_cons_zero]; rfl)
              case hq0D => exact fun _ _ _ h => h
              case hw0D => rfl
              case hy0D => (intro w hSw; (try dsimp only at hSw); go_simp <;> with_reducible rfl)
              try simp only [Act.put, List.setIfInBounds_toArray, List.set_cons_zero, List.set_cons_succ]
              refine wpAnyH_take (i := 1) (oi := ?oi1D) (v := ?v1D) ?hi1D (by kernel_rfl) (by kernel_rfl) (by kernel_rfl) ?hq1D (Or.inl ⟨?hw1D, ?hy1D⟩) (by assumption) ?rest1D
              case hi1D => (simp only [List.getElem?_toArray, List.getElem?_cons_succ, List.getElem?_cons_zero]; rfl)
              case hq1D => exact fun _ _ _ h => h
              case hw1D => rfl
              case hy1D => (intro w hSw; (try dsimp only at hSw); go_simp <;> with_reducible rfl)
              try simp only [Act.put, List.setIfInBounds_toArray, List.set_cons_zero, List.set_cons_succ]
              refine wpAnyH_take (i := 2) (oi := ?oi2D) (v := ?v2D) ?hi2D (by kernel_rfl) (by kernel_rfl) (by kernel_rfl) ?hq2D (Or.inl ⟨?hw2D, ?hy2D⟩) (by assumption) ?rest2D
              case hi2D => (simp only [List.getElem?_toArray, List.getElem?_cons_succ, List.getElem?_cons_zero]; rfl)
              case hq2D => exact fun _ _ _ h => h
              case hw2D => rfl
              case hy2D => (intro w hSw; (try dsimp only at hSw); go_simp <;> with_reducible rfl)
              try simp only [Act.put, List.setIfInBounds_toArray, List.set_cons_zero, List.set_cons_succ]
              refine wpAnyH_take (i := 3) (oi := ?oi3D) (v := ?v3D) ?hi3D (by kernel_rfl) (by kernel_rfl) (by kernel_rfl) ?hq3D (Or.inl ⟨?hw3D, ?hy3D⟩) (by assumption) ?rest3D
              case hi3D => (simp only [List.getElem?_toArray, List.getElem?_cons_succ, List.getElem?_cons_zero]; rfl)
              case hq3D => exact fun _ _ _ h => h
              case hw3D => rfl
              case hy3D => (intro w hSw; (try dsimp only at hSw); go_simp <;> with_reducible rfl)
              try simp only [Act.put, List.setIfInBounds_toArray, List.set_cons_zero, List.set_cons_succ]
              refine wpAnyH_take (i := 4) (oi := ?oi4D) (v := ?v4D) ?hi4D (by kernel_rfl) (by kernel_rfl) (by kernel_rfl) ?hq4D (Or.inl ⟨?hw4D, ?hy4D⟩) (by assumption) ?rest4D
              case hi4D => (simp only [List.getElem?_toArray, List.getElem?_cons_succ, List.getElem?_cons_zero]; rfl)
              case hq4D => exact fun _ _ _ h => h
              case hw4D => rfl
              case hy4D => (intro w hSw; (try dsimp only at hSw); go_simp <;> with_reducible rfl)
              try simp only [Act.put, List.setIfInBounds_toArray, List.set_cons_zero, List.set_cons_succ]
              refine wpAnyH_ready (rs := [5]) (by kernel_rfl) (by simp) ?_
              refine AllReadyH.cons (o := ?o5D) ?hi5D (fun K hK => ?st5D) AllReadyH.nil
              case hi5D => (simp only [List.getElem?_toArray, List.getElem?_cons_succ, List.getElem?_cons_zero]; rfl)
              go_simp
              refine (refgood_any s1 _ hs1).mono ?_
              rintro e w5 ⟨rfl, rfl⟩
              rw [hg]
              go_wp2_with fail
              refine hK.out _ _ ⟨c0, c1⟩ (fun hHeld2 => ?_)
              clear hK K hHeld
              have hHeld := hHeld2
              clear hHeld2
              try simp only [Act.put, List.setIfInBounds_toArray, List.set_cons_zero, List.set_cons_succ]
              refine wpAnyH_take (i := 6) (oi := ?oi6D) (v := ?v6D) ?hi6D (by kernel_rfl) (by kernel_rfl) (by kernel_rfl) ?hq6D (Or.inl ⟨?hw6D, ?hy6D⟩) (by assumption) ?rest6D
              case hi6D => (simp only [List.getElem?_toArray, List.getElem?_cons_succ, List.getElem?_cons_zero]; rfl)
              case hq6D => exact fun _ _ _ h => h
              case hw6D => rfl
              case hy6D => (intro w hSw; (try dsimp only at hSw); go_simp <;> with_reducible rfl)
              try simp only [Act.put, List.setIfInBounds_toArray, List.set_cons_zero, List.set_cons_succ]
              refine wpAnyH_take (i := 7) (oi := ?oi7D) (v := ?v7D) ?hi7D (by kernel_rfl) (by kernel_rfl) (by kernel_rfl) ?hq7D (Or.inl ⟨?hw7D, ?hy7D⟩) (by assumption) ?rest7D
              case hi7D => (simp only [List.getElem?_toArray, List.getElem?_cons_succ, List.getElem?_cons_zero]; rfl)
              case hq7D => exact fun _ _ _ h => h
              case hw7D => rfl
              case hy7D => (intro w hSw; (try dsimp only at hSw); go_simp <;> with_reducible rfl)
              try simp only [Act.put, List.setIfInBounds_toArray, List.set_cons_zero, List.set_cons_succ]
              refine wpAnyH_take (i := 8) (oi := ?oi8D) (v := ?v8D) ?hi8D (by kernel_rfl) (by kernel_rfl) (by kernel_rfl) ?hq8D (Or.inl ⟨?hw8D, ?hy8D⟩) (by assumption) ?rest8D
              case hi8D => (simp only [List.getElem?_toArray, List.getElem?_cons_succ, List.getElem?_cons_zero]; rfl)
              case hq8D => exact fun _ _ _ h => h
              case hw8D => rfl
              case hy8D => (intro w hSw; (try dsimp only at hSw); go_simp <;> with_reducible rfl)
              try simp only [Act.put, List.setIfInBounds_toArray, List.set_cons_zero, List.set_cons_succ]
              refine wpAnyH_take (i := 9) (oi := ?oi9D) (v := ?v9D) ?hi9D (by kernel_rfl) (by kernel_rfl) (by kernel_rfl) ?hq9D (Or.inl ⟨?hw9D, ?hy9D⟩) (by assumption) ?rest9D
              case hi9D => (simp only [List.getElem?_toArray, List.getElem?_cons_succ, List.getElem?_cons_zero]; rfl)
              case hq9D => exact fun _ _ _ h => h
              case hw9D => rfl
              case hy9D => (intro w hSw; (try dsimp only at hSw); go_simp <;> with_reducible rfl)
              try simp only [Act.put, List.setIfInBounds_toArray, List.set_cons_zero, List.set_cons_succ]
              refine wpAnyH_take (i := 10) (oi := ?oi10D) (v := ?v10D) ?hi10D (by kernel_rfl) (by kernel_rfl) (by kernel_rfl) ?hq10D (Or.inl ⟨?hw10D, ?hy10D⟩) (by assumption) ?rest10D
              case hi10D => (simp only [List.getElem?_toArray, List.getElem?_cons_succ, List.getElem?_cons_zero]; rfl)
              case hq10D => exact fun _ _ _ h => h
              case hw10D => rfl
              case hy10D => (intro w hSw; (try dsimp only at hSw); go_simp <;> with_reducible rfl)
              try simp only [Act.put, List.setIfInBounds_toArray, List.set_cons_zero, List.set_cons_succ]
              refine wpAnyH_take (i := 11) (oi := ?oi11D) (v := ?v11D) ?hi11D (by kernel_rfl) (by kernel_rfl) (by kernel_rfl) ?hq11D (Or.inl ⟨?hw11D, ?hy11D⟩) (by assumption) ?rest11D
              case hi11D => (simp only [List.getElem?_toArray, List.getElem?_cons_succ, List.getElem?_cons_zero]; rfl)
              case hq11D => exact fun _ _ _ h => h
              case hw11D => rfl
              case hy11D => (intro w hSw; (try dsimp only at hSw); go_simp <;> with_reducible rfl)
              try simp only [Act.put, List.setIfInBounds_toArray, List.set_cons_zero, List.set_cons_succ]
              refine wpAnyH_take (i := 12) (oi := ?oi12D) (v := ?v12D) ?hi12D (by kernel_rfl) (by kernel_rfl) (by kernel_rfl) ?hq12D (Or.inl ⟨?hw12D, ?hy12D⟩) (by assumption) ?rest12D
              case hi12D => (simp only [List.getElem?_toArray, List.getElem?_cons_succ, List.getElem?_cons_zero]; rfl)
              case hq12D => exact fun _ _ _ h => h
              case hw12D => rfl
              case hy12D => (intro w hSw; (try dsimp only at hSw); go_simp <;> with_reducible rfl)
              try simp only [Act.put, List.setIfInBounds_toArray, List.set_cons_zero, List.set_cons_succ]
              refine wpAnyH_take (i := 13) (oi := ?oi13D) (v := ?v13D) ?hi13D (by kernel_rfl) (by kernel_rfl) (by kernel_rfl) ?hq13D (Or.inl ⟨?hw13D, ?hy13D⟩) (by assumption) ?rest13D
              case hi13D => (simp only [List.getElem?_toArray, List.getElem?_cons_succ, List.getElem?_cons_zero]; rfl)
              case hq13D => exact fun _ _ _ h => h
              case hw13D => rfl
              case hy13D => (intro w hSw; (try dsimp only at hSw); go_simp <;> with_reducible rfl)
              try simp only [Act.put, List.setIfInBounds_toArray, List.set_cons_zero, List.set_cons_succ]
              refine wpAnyH_take (i := 14) (oi := ?oi14D) (v := ?v14D) ?hi14D (by kernel_rfl) (by kernel_rfl) (by kernel_rfl) ?hq14D (Or.inl ⟨?hw14D, ?hy14D⟩) (by assumption) ?rest14D
              case hi14D => (simp only [List.getElem?_toArray, List.getElem?_cons_succ, List.getElem?_cons_zero]; rfl)
              case hq14D => exact fun _ _ _ h => h
              case hw14D => rfl
              case hy14D => (intro w hSw; (try dsimp only at hSw); go_simp <;> with_reducible rfl)
              try simp only [Act.put, List.setIfInBounds_toArray, List.set_cons_zero, List.set_cons_succ]
              refine wpAnyH_take (i := 15) (oi := ?oi15D) (v := ?v15D) ?hi15D (by kernel_rfl) (by kernel_rfl) (by kernel_rfl) ?hq15D (Or.inl ⟨?hw15D, ?hy15D⟩) (by assumption) ?rest15D
              case hi15D => (simp only [List.getElem?_toArray, List.getElem?_cons_succ, List.getElem?_cons_zero]; rfl)
              case hq15D => exact fun _ _ _ h => h
              case hw15D => rfl
              case hy15D => (intro w hSw; (try dsimp only at hSw); go_simp <;> with_reducible rfl)
              try simp only [Act.put, List.setIfInBounds_toArray, List.set_cons_zero, List.set_cons_succ]
              refine wpAnyH_take (i := 16) (oi := ?oi16D) (v := ?v16D) ?hi16D (by kernel_rfl) (by kernel_rfl) (by kernel_rfl) ?hq16D (Or.inl ⟨?hw16D, ?hy16D⟩) (by assumption) ?rest16D
              case hi16D => (simp only [List.getElem?_toArray, List.getElem?_cons_succ, List.getElem?_cons_zero]; rfl)
              case hq16D => exact fun _ _ _ h => h
              case hw16D => rfl
              case hy16D => (intro w hSw; (try dsimp only at hSw); go_simp <;> with_reducible rfl)
              try simp only [Act.put, List.setIfInBounds_toArray, List.set_cons_zero, List.set_cons_succ]
              refine wpAnyH_take (i := 17) (oi := ?oi17D) (v := ?v17D) ?hi17D (by kernel_rfl) (by kernel_rfl) (by kernel_rfl) ?hq17D (Or.inl ⟨?hw17D, ?hy17D⟩) (by assumption) ?rest17D
              case hi17D => (simp only [List.getElem?_toArray, List.getElem?_cons_succ, List.getElem?_cons_zero]; rfl)
              case hq17D => exact fun _ _ _ h => h
              case hw17D => rfl
              case hy17D => (intro w hSw; (try dsimp only at hSw); go_simp <;> with_reducible rfl)
              try simp only [Act.put, List.setIfInBounds_toArray, List.set_cons_zero, List.set_cons_succ]
              refine wpAnyH_take (i := 18) (oi := ?oi18D) (v := ?v18D) ?hi18D (by kernel_rfl) (by kernel_rfl) (by kernel_rfl) ?hq18D (Or.inl ⟨?hw18D, ?hy18D⟩) (by assumption) ?rest18D
              case hi18D => (simp only [List.getElem?_toArray, List.getElem?_cons_succ, List.getElem?_cons_zero]; rfl)
              case hq18D => exact fun _ _ _ h => h
              case hw18D => rfl
              case hy18D => (intro w hSw; (try dsimp only at hSw); go_simp <;> with_reducible rfl)
              try simp only [Act.put, List.setIfInBounds_toArray, List.set_cons_zero, List.set_cons_succ]
              refine wpAnyH_take (i := 19) (oi := ?oi19D) (v := ?v19D) ?hi19D (by kernel_rfl) (by kernel_rfl) (by kernel_rfl) ?hq19D (Or.inl ⟨?hw19D, ?hy19D⟩) (by assumption) ?rest19D
              case hi19D => (simp only [List.getElem?_toArray, List.getElem?_cons_succ, List.getElem?_cons_zero]; rfl)
              case hq19D => exact fun _ _ _ h => h
              case hw19D => rfl
              case hy19D => (intro w hSw; (try dsimp only at hSw); go_simp <;> with_reducible rfl)
              try simp only [Act.put, List.setIfInBounds_toArray, List.set_cons_zero, List.set_cons_succ]
              refine wpAnyH_take (i := 20) (oi := ?oi20D) (v := ?v20D) ?hi20D (by kernel_rfl) (by kernel_rfl) (by kernel_rfl) ?hq20D (Or.inl ⟨?hw20D, ?hy20D⟩) (by assumption) ?rest20D
              case hi20D => (simp only [List.getElem?_toArray, List.getElem?_cons_succ, List.getElem?_cons_zero]; rfl)
              case hq20D => exact fun _ _ _ h => h
              case hw20D => rfl
              case hy20D => (intro w hSw; (try dsimp only at hSw); go_simp <;> with_reducible rfl)
              try simp only [Act.put, List.setIfInBounds_toArray, List.set_cons_zero, List.set_cons_succ]
              refine wpAnyH_ready (rs := [21]) (by kernel_rfl) (by simp) ?_
              refine AllReadyH.cons (o := ?o21D) ?hi21D (fun K hK => ?st21D) AllReadyH.nil
              case hi21D => (simp only [List.getElem?_toArray, List.getElem?_cons_succ, List.getElem?_cons_zero]; rfl)
              go_simp
              refine (refcmay_any q1 _).mono ?_
              rintro e w6 ⟨rfl, rfl⟩
              rw [hc]
              go_wp2_with fail
              refine hK.out _ _ ⟨c0, c1⟩ (fun hHeld2 => ?_)
              clear hK K hHeld
              have hHeld := hHeld2
              clear hHeld2
              try simp only [Act.put, List.setIfInBounds_toArray, List.set_cons_zero, List.set_cons_succ]
              refine wpAnyH_take (i := 22) (oi := ?oi22D) (v := ?v22D) ?hi22D (by kernel_rfl) (by kernel_rfl) (by kernel_rfl) ?hq22D (Or.inl ⟨?hw22D, ?hy22D⟩) (by assumption) ?rest22D
              case hi22D => (simp only [List.getElem?_toArray, List.getElem?_cons_succ, List.getElem?_cons_zero]; rfl)
              case hq22D => exact fun _ _ _ h => h
              case hw22D => rfl
              case hy22D => (intro w hSw; (try dsimp only at hSw); go_simp <;> with_reducible rfl)
              try simp only [Act.put, List.setIfInBounds_toArray, List.set_cons_zero, List.set_cons_succ]
              refine wpAnyH_take (i := 23) (oi := ?oi23D) (v := ?v23D) ?hi23D (by kernel_rfl) (by kernel_rfl) (by kernel_rfl) ?hq23D (Or.inl ⟨?hw23D, ?hy23D⟩) (by assumption) ?rest23D
              case hi23D => (simp only [List.getElem?_toArray, List.getElem?_cons_succ, List.getElem?_cons_zero]; rfl)
              case hq23D => exact fun _ _ _ h => h
              case hw23D => rfl
              case hy23D => (intro w hSw; (try dsimp only at hSw); go_simp <;> with_reducible rfl)
              try simp only [Act.put, List.setIfInBounds_toArray, List.set_cons_zero, List.set_cons_succ]
              refine wpAnyH_take (i := 24) (oi := ?oi24D) (v := ?v24D) ?hi24D (by kernel_rfl) (by kernel_rfl) (by kernel_rfl) ?hq24D (Or.inl ⟨?hw24D, ?hy24D⟩) (by assumption) ?rest24D
              case hi24D => (simp only [List.getElem?_toArray, List.getElem?_cons_succ, List.getElem?_cons_zero]; rfl)
              case hq24D => exact fun _ _ _ h => h
              case hw24D => rfl
              case hy24D => (intro w hSw; (try dsimp only at hSw); go_simp <;> with_reducible rfl)
              try simp only [Act.put, List.setIfInBounds_toArray, List.set_cons_zero, List.set_cons_succ]
              refine wpAnyH_take (i := 25) (oi := ?oi25D) (v := ?v25D) ?hi25D (by kernel_rfl) (by kernel_rfl) (by kernel_rfl) ?hq25D (Or.inl ⟨?hw25D, ?hy25D⟩) (by assumption) ?rest25D
              case hi25D => (simp only [List.getElem?_toArray, List.getElem?_cons_succ, List.getElem?_cons_zero]; rfl)
              case hq25D => exact fun _ _ _ h => h
              case hw25D => rfl
              case hy25D => (intro w hSw; (try dsimp only at hSw); go_simp <;> with_reducible rfl)
              try simp only [Act.put, List.setIfInBounds_toArray, List.set_cons_zero, List.set_cons_succ]
              refine wpAnyH_take (i := 26) (oi := ?oi26D) (v := ?v26D) ?hi26D (by kernel_rfl) (by kernel_rfl) (by kernel_rfl) ?hq26D (Or.inl ⟨?hw26D, ?hy26D⟩) (by assumption) ?rest26D
              case hi26D => (simp only [List.getElem?_toArray, List.getElem?_cons_succ, List.getElem?_cons_zero]; rfl)
              case hq26D => exact fun _ _ _ h => h
              case hw26D => rfl
              case hy26D => (intro w hSw; (try dsimp only at hSw); go_simp <;> with_reducible rfl)
              try simp only [Act.put, List.setIfInBounds_toArray, List.set_cons_zero, List.set_cons_succ]
              refine wpAnyH_take (i := 27) (oi := ?oi27D) (v := ?v27D) ?hi27D (by kernel_rfl) (by kernel_rfl) (by kernel_rfl) ?hq27D (Or.inl ⟨?hw27D, ?hy27D⟩) (by assumption) ?rest27D
              case hi27D => (simp only [List.getElem?_toArray, List.getElem?_cons_succ, List.getElem?_cons_zero]; rfl)
              case hq27D => exact fun _ _ _ h => h
              case hw27D => rfl
              case hy27D => (intro w hSw; (try dsimp only at hSw); go_simp <;> with_reducible rfl)
              try simp only [Act.put, List.setIfInBounds_toArray, List.set_cons_zero, List.set_cons_succ]
              refine wpAnyH_take (i := 28) (oi := ?oi28D) (v := undef) ?hi28D (by kernel_rfl) (by kernel_rfl) (by kernel_rfl) ?hq28D (Or.inr ⟨?hw28D, rfl⟩) (by assumption) ?rest28D
              case hi28D => (simp only [List.getElem?_toArray, List.getElem?_cons_succ, List.getElem?_cons_zero]; rfl)
              case hq28D => exact fun _ _ _ h => h
              case hw28D => rfl
              try simp only [Act.put, List.setIfInBounds_toArray, List.set_cons_zero, List.set_cons_succ]
              refine wpAnyH_take (i := 29) (oi := ?oi29D) (v := undef) ?hi29D (by kernel_rfl) (by kernel_rfl) (by kernel_rfl) ?hq29D (Or.inr ⟨?hw29D, rfl⟩) (by assumption) ?rest29D
              case hi29D => (simp only [List.getElem?_toArray, List.getElem?_cons_succ, List.getElem?_cons_zero]; rfl)
              case hq29D => exact fun _ _ _ h => h
              case hw29D => rfl
              try simp only [Act.put, List.setIfInBounds_toArray, List.set_cons_zero, List.set_cons_succ]
              refine wpAnyH_take (i := 30) (oi := ?oi30D) (v := undef) ?hi30D (by kernel_rfl) (by kernel_rfl) (by kernel_rfl) ?hq30D (Or.inr ⟨?hw30D, rfl⟩) (by assumption) ?rest30D
              case hi30D => (simp only [List.getElem?_toArray, List.getElem?_cons_succ, List.getElem?_cons_zero]; rfl)
              case hq30D => exact fun _ _ _ h => h
              case hw30D => rfl
              try simp only [Act.put, List.setIfInBounds_toArray, List.set_cons_zero, List.set_cons_succ]
              refine wpAnyH_take (i := 31) (oi := ?oi31D) (v := undef) ?hi31D (by kernel_rfl) (by kernel_rfl) (by kernel_rfl) ?hq31D (Or.inr ⟨?hw31D, rfl⟩) (by assumption) ?rest31D
              case hi31D => (simp only [List.getElem?_toArray, List.getElem?_cons_succ, List.getElem?_cons_zero]; rfl)
              case hq31D => exact fun _ _ _ h => h
              case hw31D => rfl
              try simp only [Act.put, List.setIfInBounds_toArray, List.set_cons_zero, List.set_cons_succ]
              refine wpAnyH_take (i := 32) (oi := ?oi32D) (v := undef) ?hi32D (by kernel_rfl) (by kernel_rfl) (by kernel_rfl) ?hq32D (Or.inr ⟨?hw32D, rfl⟩) (by assumption) ?rest32D
              case hi32D => (simp only [List.getElem?_toArray, List.getElem?_cons_succ, List.getElem?_cons_zero]; rfl)
              case hq32D => exact fun _ _ _ h => h
              case hw32D => rfl
              try simp only [Act.put, List.setIfInBounds_toArray, List.set_cons_zero, List.set_cons_succ]
              refine wpAnyH_take (i := 33) (oi := ?oi33D) (v := undef) ?hi33D (by kernel_rfl) (by kernel_rfl) (by kernel_rfl) ?hq33D (Or.inr ⟨?hw33D, rfl⟩) (by assumption) ?rest33D
              case hi33D => (simp only [List.getElem?_toArray, List.getElem?_cons_succ, List.getElem?_cons_zero]; rfl)
              case hq33D => exact fun _ _ _ h => h
              case hw33D => rfl
              try simp only [Act.put, List.setIfInBounds_toArray, List.set_cons_zero, List.set_cons_succ]
              refine wpAnyH_take (i := 34) (oi := ?oi34D) (v := undef) ?hi34D (by kernel_rfl) (by kernel_rfl) (by kernel_rfl) ?hq34D (Or.inr ⟨?hw34D, rfl⟩) (by assumption) ?rest34D
              case hi34D => (simp only [List.getElem?_toArray, List.getElem?_cons_succ, List.getElem?_cons_zero]; rfl)
              case hq34D => exact fun _ _ _ h => h
              case hw34D => rfl
              try simp only [Act.put, List.setIfInBounds_toArray, List.set_cons_zero, List.set_cons_succ]
              refine wpAnyH_take (i := 35) (oi := ?oi35D) (v := undef) ?hi35D (by kernel_rfl) (by kernel_rfl) (by kernel_rfl) ?hq35D (Or.inr ⟨?hw35D, rfl⟩) (by assumption) ?rest35D
              case hi35D => (simp only [List.getElem?_toArray, List.getElem?_cons_succ, List.getElem?_cons_zero]; rfl)
              case hq35D => exact fun _ _ _ h => h
              case hw35D => rfl
              try simp only [Act.put, List.setIfInBounds_toArray, List.set_cons_zero, List.set_cons_succ]
              refine wpAnyH_take (i := 36) (oi := ?oi36D) (v := undef) ?hi36D (by kernel_rfl) (by kernel_rfl) (by kernel_rfl) ?hq36D (Or.inr ⟨?hw36D, rfl⟩) (by assumption) ?rest36D
              case hi36D => (simp only [List.getElem?_toArray, List.getElem?_cons_succ, List.getElem?_cons_zero]; rfl)
              case hq36D => exact fun _ _ _ h => h
              case hw36D => rfl
              try simp only [Act.put, List.setIfInBounds_toArray, List.set_cons_zero, List.set_cons_succ]
              refine wpAnyH_take (i := 37) (oi := ?oi37D) (v := undef) ?hi37D (by kernel_rfl) (by kernel_rfl) (by kernel_rfl) ?hq37D (Or.inr ⟨?hw37D, rfl⟩) (by assumption) ?rest37D
              case hi37D => (simp only [List.getElem?_toArray, List.getElem?_cons_succ, List.getElem?_cons_zero]; rfl)
              case hq37D => exact fun _ _ _ h => h
              case hw37D => rfl
              try simp only [Act.put, List.setIfInBounds_toArray, List.set_cons_zero, List.set_cons_succ]
              refine wpAnyH_take (i := 38) (oi := ?oi38D) (v := undef) ?hi38D (by kernel_rfl) (by kernel_rfl) (by kernel_rfl) ?hq38D (Or.inr ⟨?hw38D, rfl⟩) (by assumption) ?rest38D
              case hi38D => (simp only [List.getElem?_toArray, List.getElem?_cons_succ, List.getElem?_cons_zero]; rfl)
              case hq38D => exact fun _ _ _ h => h
              case hw38D => rfl
              try simp only [Act.put, List.setIfInBounds_toArray, List.set_cons_zero, List.set_cons_succ]
              refine wpAnyH_take (i := 39) (oi := ?oi39D) (v := undef) ?hi39D (by kernel_rfl) (by kernel_rfl) (by kernel_rfl) ?hq39D (Or.inr ⟨?hw39D, rfl⟩) (by assumption) ?rest39D
              case hi39D => (simp only [List.getElem?_toArray, List.getElem?_cons_succ, List.getElem?_cons_zero]; rfl)
              case hq39D => exact fun _ _ _ h => h
              case hw39D => rfl
              try simp only [Act.put, List.setIfInBounds_toArray, List.set_cons_zero, List.set_cons_succ]
              refine wpAnyH_take (i := 40) (oi := ?oi40D) (v := ?v40D) ?hi40D (by kernel_rfl) (by kernel_rfl) (by kernel_rfl) ?hq40D (Or.inl ⟨?hw40D, ?hy40D⟩) (by assumption) ?rest40D
              case hi40D => (simp only [List.getElem?_toArray, List.getElem?_cons_succ, List.getElem?_cons_zero]; rfl)
              case hq40D => exact fun _ _ _ h => h
              case hw40D => rfl
              case hy40D => (intro w hSw; (try dsimp only at hSw); go_simp <;> with_reducible rfl)
              try simp only [Act.put, List.setIfInBounds_toArray, List.set_cons_zero, List.set_cons_succ]
              refine wpAnyH_take (i := 41) (oi := ?oi41D) (v := ?v41D) ?hi41D (by kernel_rfl) (by kernel_rfl) (by kernel_rfl) ?hq41D (Or.inl ⟨?hw41D, ?hy41D⟩) (by assumption) ?rest41D
              case hi41D => (simp only [List.getElem?_toArray, List.getElem?_cons_succ, List.getElem?_cons_zero]; rfl)
              case hq41D => exact fun _ _ _ h => h
              case hw41D => rfl
              case hy41D => (intro w hSw; (try dsimp only at hSw); go_simp <;> with_reducible rfl)
              try simp only [Act.put, List.setIfInBounds_toArray, List.set_cons_zero, List.set_cons_succ]
              refine wpAnyH_done (by kernel_rfl) ?_ _
              go_wp2
              go_roundw
              case measure => simp [intOf]; omega
              case rel => exact ⟨k + 1, q + 1, by go_num, by omega, rfl, hsn.trans hgood⟩
            obtain ⟨p, hkp⟩ : ∃ p, k = p + 1 := ⟨k - 1, by omega⟩
            obtain ⟨b', off', ⟨s0, q0⟩, hA, hy, d0, d1⟩ := (hl.drewN q).place (k := p) (by omega)
            cases hA
            obtain rfl : last = s0 := by rw [← hlast, hkp, take_last hy]
            have hkz : decide ((0 : Int) < (k : Int)) = true := decide_eq_true (by omega)
            have hkn : decide (0 < k) = true := decide_eq_true hk0
            have hpz : IntKind.i64.wrap ((k : Int) - 1) = (p : Int) := by
              have : IntKind.i64.wrap ((k : Int) - 1) = wrap64 ((k : Int) - 1) := by rw [IntKind.wrap_i64, wrap64]
              rw [this]
              unfold wrap64
              omega
            have hpn : p < n := by omega
            dsimp only at d0
            clear hkp hk0 hlast hq h0
            cases hle : decide (s1 ≤ last) with
            | true =>
              have hcmp := run_str_geq 9 last s1 true hle
              have hbad : okAt last (s1, q1) = false := by rw [hok, hle]; rfl
              go_wp2
              refine wp_region_held_drew (S := (fun w' => w'.cell? ⟨b, off + k * 2, none⟩ = some (.string ⟨s1.toArray⟩) ∧ w'.cell? ⟨b, off + k * 2 + 1, none⟩ = some (.int .i64 q1) ∧ w'.cell? ⟨b, off + p * 2, none⟩ = some (.string ⟨last.toArray⟩))) (by kernel_rfl) ⟨c0, c1, d0⟩ (fun hHeld => ?_)
              refine wpAnyH_take (i := 0) (oi := ?oi0E) (v := ?v0E) ?hi0E (by kernel_rfl) (by kernel_rfl) (by kernel_rfl) ?hq0E (Or.inl ⟨?hw0E, ?hy0E⟩) (by assumption) ?rest0E
              case hi0E => (simp only [List.getElem?_toArray, List.getElem?_cons_succ, List.getElem?_cons_zero]; rfl)
              case hq0E => exact fun _ _ _ h => h
              case hw0E => rfl
              case hy0E => (intro w hSw; (try dsimp only at hSw); go_simp <;> with_reducible rfl)
              try simp only [Act.put, List.setIfInBounds_toArray, List.set_cons_zero, List.set_cons_succ]
              refine wpAnyH_take (i := 1) (oi := ?oi1E) (v := ?v1E) ?hi1E (by kernel_rfl) (by kernel_rfl) (by kernel_rfl) ?hq1E (Or.inl ⟨?hw1E, ?hy1E⟩) (by assumption) ?rest1E
              case hi1E => (simp only [List.getElem?_toArray, List.getElem?_cons_succ, List.getElem?_cons_zero]; rfl)
              case hq1E => exact fun _ _ _ h => h
              case hw1E => rfl
              case hy1E => (intro w hSw; (try dsimp only at hSw); go_simp <;> with_reducible rfl)
              try simp only [Act.put, List.setIfInBounds_toArray, List.set_cons_zero, List.set_cons_succ]
              refine wpAnyH_take (i := 2) (oi := ?oi2E) (v := ?v2E) ?hi2E (by kernel_rfl) (by kernel_rfl) (by kernel_rfl) ?hq2E (Or.inl ⟨?hw2E, ?hy2E⟩) (by assumption) ?rest2E
              case hi2E => (simp only [List.getElem?_toArray, List.getElem?_cons_succ, List.getElem?_cons_zero]; rfl)
              case hq2E => exact fun _ _ _ h => h
              case hw2E => rfl
              case hy2E => (intro w hSw; (try dsimp only at hSw); go_simp <;> with_reducible rfl)
              try simp only [Act.put, List.setIfInBounds_toArray, List.set_cons_zero, List.set_cons_succ]
              refine wpAnyH_take (i := 3) (oi := ?oi3E) (v := ?v3E) ?hi3E (by kernel_rfl) (by kernel_rfl) (by kernel_rfl) ?hq3E (Or.inl ⟨?hw3E, ?hy3E⟩) (by assumption) ?rest3E
              case hi3E => (simp only [List.getElem?_toArray, List.getElem?_cons_succ, List.getElem?_cons_zero]; rfl)
              case hq3E => exact fun _ _ _ h => h
              case hw3E => rfl
              case hy3E => (intro w hSw; (try dsimp only at hSw); go_simp <;> with_reducible rfl)
              try simp only [Act.put, List.setIfInBounds_toArray, List.set_cons_zero, List.set_cons_succ]
              refine wpAnyH_take (i := 4) (oi := ?oi4E) (v := ?v4E) ?hi4E (by kernel_rfl) (by kernel_rfl) (by kernel_rfl) ?hq4E (Or.inl ⟨?hw4E, ?hy4E⟩) (by assumption) ?rest4E
              case hi4E => (simp only [List.getElem?_toArray, List.getElem?_cons_succ, List.getElem?_cons_zero]; rfl)
              case hq4E => exact fun _ _ _ h => h
              case hw4E => rfl
              case hy4E => (intro w hSw; (try dsimp only at hSw); go_simp <;> with_reducible rfl)
              try simp only [Act.put, List.setIfInBounds_toArray, List.set_cons_zero, List.set_cons_succ]
              refine wpAnyH_ready (rs := [5]) (by kernel_rfl) (by simp) ?_
              refine AllReadyH.cons (o := ?o5E) ?hi5E (fun K hK => ?st5E) AllReadyH.nil
              case hi5E => (simp only [List.getElem?_toArray, List.getElem?_cons_succ, List.getElem?_cons_zero]; rfl)
              go_simp
              refine (refgood_any s1 _ hs1).mono ?_
              rintro e w5 ⟨rfl, rfl⟩
              rw [hg]
              go_wp2_with fail
              refine hK.out _ _ ⟨c0, c1, d0⟩ (fun hHeld2 => ?_)
              clear hK K hHeld
              have hHeld := hHeld2
              clear hHeld2
              try simp only [Act.put, List.setIfInBounds_toArray, List.set_cons_zero, List.set_cons_succ]
              refine wpAnyH_take (i := 6) (oi := ?oi6E) (v := ?v6E) ?hi6E (by kernel_rfl) (by kernel_rfl) (by kernel_rfl) ?hq6E (Or.inl ⟨?hw6E, ?hy6E⟩) (by assumption) ?rest6E
              case hi6E => (simp only [List.getElem?_toArray, List.getElem?_cons_succ, List.getElem?_cons_zero]; rfl)
              case hq6E => exact fun _ _ _ h => h
              case hw6E => rfl
              case hy6E => (intro w hSw; (try dsimp only at hSw); go_simp <;> with_reducible rfl)
              try simp only [Act.put, List.setIfInBounds_toArray, List.set_cons_zero, List.set_cons_succ]
              refine wpAnyH_take (i := 7) (oi := ?oi7E) (v := ?v7E) ?hi7E (by kernel_rfl) (by kernel_rfl) (by kernel_rfl) ?hq7E (Or.inl ⟨?hw7E, ?hy7E⟩) (by assumption) ?rest7E
              case hi7E => (simp only [List.getElem?_toArray, List.getElem?_cons_succ, List.getElem?_cons_zero]; rfl)
              case hq7E => exact fun _ _ _ h => h
              case hw7E => rfl
              case hy7E => (intro w hSw; (try dsimp only at hSw); go_simp <;> with_reducible rfl)
              try simp only [Act.put, List.setIfInBounds_toArray, List.set_cons_zero, List.set_cons_succ]
              refine wpAnyH_take (i := 8) (oi := ?oi8E) (v := ?v8E) ?hi8E (by kernel_rfl) (by kernel_rfl) (by kernel_rfl) ?hq8E (Or.inl ⟨?hw8E, ?hy8E⟩) (by assumption) ?rest8E
              case hi8E => (simp only [List.getElem?_toArray, List.getElem?_cons_succ, List.getElem?_cons_zero]; rfl)
              case hq8E => exact fun _ _ _ h => h
              case hw8E => rfl
              case hy8E => (intro w hSw; (try dsimp only at hSw); go_simp <;> with_reducible rfl)
              try simp only [Act.put, List.setIfInBounds_toArray, List.set_cons_zero, List.set_cons_succ]
              refine wpAnyH_take (i := 9) (oi := ?oi9E) (v := ?v9E) ?hi9E (by kernel_rfl) (by kernel_rfl) (by kernel_rfl) ?hq9E (Or.inl ⟨?hw9E, ?hy9E⟩) (by assumption) ?rest9E
              case hi9E => (simp only [List.getElem?_toArray, List.getElem?_cons_succ, List.getElem?_cons_zero]; rfl)
              case hq9E => exact fun _ _ _ h => h
              case hw9E => rfl
              case hy9E => (intro w hSw; (try dsimp only at hSw); go_simp <;> with_reducible rfl)
              try simp only [Act.put, List.setIfInBounds_toArray, List.set_cons_zero, List.set_cons_succ]
              refine wpAnyH_take (i := 10) (oi := ?oi10E) (v := ?v10E) ?hi10E (by kernel_rfl) (by kernel_rfl) (by kernel_rfl) ?hq10E (Or.inl ⟨?hw10E, ?hy10E⟩) (by assumption) ?rest10E
              case hi10E => (simp only [List.getElem?_toArray, List.getElem?_cons_succ, List.getElem?_cons_zero]; rfl)
              case hq10E => exact fun _ _ _ h => h
              case hw10E => rfl
              case hy10E => (intro w hSw; (try dsimp only at hSw); go_simp <;> with_reducible rfl)
              try simp only [Act.put, List.setIfInBounds_toArray, List.set_cons_zero, List.set_cons_succ]
              refine wpAnyH_take (i := 11) (oi := ?oi11E) (v := ?v11E) ?hi11E (by kernel_rfl) (by kernel_rfl) (by kernel_rfl) ?hq11E (Or.inl ⟨?hw11E, ?hy11E⟩) (by assumption) ?rest11E
              case hi11E => (simp only [List.getElem?_toArray, List.getElem?_cons_succ, List.getElem?_cons_zero]; rfl)
              case hq11E => exact fun _ _ _ h => h
              case hw11E => rfl
              case hy11E => (intro w hSw; (try dsimp only at hSw); go_simp <;> with_reducible rfl)
              try simp only [Act.put, List.setIfInBounds_toArray, List.set_cons_zero, List.set_cons_succ]
              refine wpAnyH_take (i := 12) (oi := ?oi12E) (v := ?v12E) ?hi12E (by kernel_rfl) (by kernel_rfl) (by kernel_rfl) ?hq12E (Or.inl ⟨?hw12E, ?hy12E⟩) (by assumption) ?rest12E
              case hi12E => (simp only [List.getElem?_toArray, List.getElem?_cons_succ, List.getElem?_cons_zero]; rfl)
              case hq12E => exact fun _ _ _ h => h
              case hw12E => rfl
              case hy12E => (intro w hSw; (try dsimp only at hSw); go_simp <;> with_reducible rfl)
              try simp only [Act.put, List.setIfInBounds_toArray, List.set_cons_zero, List.set_cons_succ]
              refine wpAnyH_take (i := 13) (oi := ?oi13E) (v := ?v13E) ?hi13E (by kernel_rfl) (by kernel_rfl) (by kernel_rfl) ?hq13E (Or.inl ⟨?hw13E, ?hy13E⟩) (by assumption) ?rest13E
              case hi13E => (simp only [List.getElem?_toArray, List.getElem?_cons_succ, List.getElem?_cons_zero]; rfl)
              case hq13E => exact fun _ _ _ h => h
              case hw13E => rfl
              case hy13E => (intro w hSw; (try dsimp only at hSw); go_simp <;> with_reducible rfl)
              try simp only [Act.put, List.setIfInBounds_toArray, List.set_cons_zero, List.set_cons_succ]
              refine wpAnyH_take (i := 14) (oi := ?oi14E) (v := ?v14E) ?hi14E (by kernel_rfl) (by kernel_rfl) (by kernel_rfl) ?hq14E (Or.inl ⟨?hw14E, ?hy14E⟩) (by assumption) ?rest14E
              case hi14E => (simp only [List.getElem?_toArray, List.getElem?_cons_succ, List.getElem?_cons_zero]; rfl)
              case hq14E => exact fun _ _ _ h => h
              case hw14E => rfl
              case hy14E => (intro w hSw; (try dsimp only at hSw); go_simp <;> with_reducible rfl)
              try simp only [Act.put, List.setIfInBounds_toArray, List.set_cons_zero, List.set_cons_succ]
              refine wpAnyH_take (i := 15) (oi := ?oi15E) (v := ?v15E) ?hi15E (by kernel_rfl) (by kernel_rfl) (by kernel_rfl) ?hq15E (Or.inl ⟨?hw15E, ?hy15E⟩) (by assumption) ?rest15E
              case hi15E => (simp only [List.getElem?_toArray, List.getElem?_cons_succ, List.getElem?_cons_zero]; rfl)
              case hq15E => exact fun _ _ _ h => h
              case hw15E => rfl
              case hy15E => (intro w hSw; (try dsimp only at hSw); go_simp <;> with_reducible rfl)
              try simp only [Act.put, List.setIfInBounds_toArray, List.set_cons_zero, List.set_cons_succ]
              refine wpAnyH_take (i := 16) (oi := ?oi16E) (v := ?v16E) ?hi16E (by kernel_rfl) (by kernel_rfl) (by kernel_rfl) ?hq16E (Or.inl ⟨?hw16E, ?hy16E⟩) (by assumption) ?rest16E
              case hi16E => (simp only [List.getElem?_toArray, List.getElem?_cons_succ, List.getElem?_cons_zero]; rfl)
              case hq16E => exact fun _ _ _ h => h
              case hw16E => rfl
              case hy16E => (intro w hSw; (try dsimp only at hSw); go_simp <;> with_reducible rfl)
              try simp only [Act.put, List.setIfInBounds_toArray, List.set_cons_zero, List.set_cons_succ]
              refine wpAnyH_take (i := 17) (oi := ?oi17E) (v := ?v17E) ?hi17E (by kernel_rfl) (by kernel_rfl) (by kernel_rfl) ?hq17E (Or.inl ⟨?hw17E, ?hy17E⟩) (by assumption) ?rest17E
              case hi17E => (simp only [List.getElem?_toArray, List.getElem?_cons_succ, List.getElem?_cons_zero]; rfl)
              case hq17E => exact fun _ _ _ h => h
              case hw17E => rfl
              case hy17E => (intro w hSw; (try dsimp only at hSw); go_simp <;> with_reducible rfl)
              try simp only [Act.put, List.setIfInBounds_toArray, List.set_cons_zero, List.set_cons_succ]
              refine wpAnyH_take (i := 18) (oi := ?oi18E) (v := ?v18E) ?hi18E (by kernel_rfl) (by kernel_rfl) (by kernel_rfl) ?hq18E (Or.inl ⟨?hw18E, ?hy18E⟩) (by assumption) ?rest18E
              case hi18E => (simp only [List.getElem?_toArray, List.getElem?_cons_succ, List.getElem?_cons_zero]; rfl)
              case hq18E => exact fun _ _ _ h => h
              case hw18E => rfl
              case hy18E => (intro w hSw; (try dsimp only at hSw); go_simp <;> with_reducible rfl)
              try simp only [Act.put, List.setIfInBounds_toArray, List.set_cons_zero, List.set_cons_succ]
              refine wpAnyH_take (i := 19) (oi := ?oi19E) (v := ?v19E) ?hi19E (by kernel_rfl) (by kernel_rfl) (by kernel_rfl) ?hq19E (Or.inl ⟨?hw19E, ?hy19E⟩) (by assumption) ?rest19E
              case hi19E => (simp only [List.getElem?_toArray, List.getElem?_cons_succ, List.getElem?_cons_zero]; rfl)
              case hq19E => exact fun _ _ _ h => h
              case hw19E => rfl
              case hy19E => (intro w hSw; (try dsimp only at hSw); go_simp <;> with_reducible rfl)
              try simp only [Act.put, List.setIfInBounds_toArray, List.set_cons_zero, List.set_cons_succ]
              refine wpAnyH_take (i := 20) (oi := ?oi20E) (v := ?v20E) ?hi20E (by kernel_rfl) (by kernel_rfl) (by kernel_rfl) ?hq20E (Or.inl ⟨?hw20E, ?hy20E⟩) (by assumption) ?rest20E
              case hi20E => (simp only [List.getElem?_toArray, List.getElem?_cons_succ, List.getElem?_cons_zero]; rfl)
              case hq20E => exact fun _ _ _ h => h
              case hw20E => rfl
              case hy20E => (intro w hSw; (try dsimp only at hSw); go_simp <;> with_reducible rfl)
              try simp only [Act.put, List.setIfInBounds_toArray, List.set_cons_zero, List.set_cons_succ]
              refine wpAnyH_ready (rs := [21]) (by kernel_rfl) (by simp) ?_
              refine AllReadyH.cons (o := ?o21E) ?hi21E (fun K hK => ?st21E) AllReadyH.nil
              case hi21E => (simp only [List.getElem?_toArray, List.getElem?_cons_succ, List.getElem?_cons_zero]; rfl)
              go_simp
              refine (refcmay_any q1 _).mono ?_
              rintro e w6 ⟨rfl, rfl⟩
              rw [hc]
              go_wp2_with fail
              refine hK.out _ _ ⟨c0, c1, d0⟩ (fun hHeld2 => ?_)
              clear hK K hHeld
              have hHeld := hHeld2
              clear hHeld2
              try simp only [Act.put, List.setIfInBounds_toArray, List.set_cons_zero, List.set_cons_succ]
              refine wpAnyH_take (i := 22) (oi := ?oi22E) (v := ?v22E) ?hi22E (by kernel_rfl) (by kernel_rfl) (by kernel_rfl) ?hq22E (Or.inl ⟨?hw22E, ?hy22E⟩) (by assumption) ?rest22E
              case hi22E => (simp only [List.getElem?_toArray, List.getElem?_cons_succ, List.getElem?_cons_zero]; rfl)
              case hq22E => exact fun _ _ _ h => h
              case hw22E => rfl
              case hy22E => (intro w hSw; (try dsimp only at hSw); go_simp <;> with_reducible rfl)
              try simp only [Act.put, List.setIfInBounds_toArray, List.set_cons_zero, List.set_cons_succ]
              refine wpAnyH_take (i := 23) (oi := ?oi23E) (v := ?v23E) ?hi23E (by kernel_rfl) (by kernel_rfl) (by kernel_rfl) ?hq23E (Or.inl ⟨?hw23E, ?hy23E⟩) (by assumption) ?rest23E
              case hi23E => (simp only [List.getElem?_toArray, List.getElem?_cons_succ, List.getElem?_cons_zero]; rfl)
              case hq23E => exact fun _ _ _ h => h
              case hw23E => rfl
              case hy23E => (intro w hSw; (try dsimp only at hSw); go_simp <;> with_reducible rfl)
              try simp only [Act.put, List.setIfInBounds_toArray, List.set_cons_zero, List.set_cons_succ]
              refine wpAnyH_take (i := 24) (oi := ?oi24E) (v := ?v24E) ?hi24E (by kernel_rfl) (by kernel_rfl) (by kernel_rfl) ?hq24E (Or.inl ⟨?hw24E, ?hy24E⟩) (by assumption) ?rest24E
              case hi24E => (simp only [List.getElem?_toArray, List.getElem?_cons_succ, List.getElem?_cons_zero]; rfl)
              case hq24E => exact fun _ _ _ h => h
              case hw24E => rfl
              case hy24E => (intro w hSw; (try dsimp only at hSw); go_simp <;> with_reducible rfl)
              try simp only [Act.put, List.setIfInBounds_toArray, List.set_cons_zero, List.set_cons_succ]
              refine wpAnyH_take (i := 25) (oi := ?oi25E) (v := ?v25E) ?hi25E (by kernel_rfl) (by kernel_rfl) (by kernel_rfl) ?hq25E (Or.inl ⟨?hw25E, ?hy25E⟩) (by assumption) ?rest25E
              case hi25E => (simp only [List.getElem?_toArray, List.getElem?_cons_succ, List.getElem?_cons_zero]; rfl)
              case hq25E => exact fun _ _ _ h => h
              case hw25E => rfl
              case hy25E => (intro w hSw; (try dsimp only at hSw); go_simp <;> with_reducible rfl)
              try simp only [Act.put, List.setIfInBounds_toArray, List.set_cons_zero, List.set_cons_succ]
              refine wpAnyH_take (i := 26) (oi := ?oi26E) (v := ?v26E) ?hi26E (by kernel_rfl) (by kernel_rfl) (by kernel_rfl) ?hq26E (Or.inl ⟨?hw26E, ?hy26E⟩) (by assumption) ?rest26E
              case hi26E => (simp only [List.getElem?_toArray, List.getElem?_cons_succ, List.getElem?_cons_zero]; rfl)
              case hq26E => exact fun _ _ _ h => h
              case hw26E => rfl
              case hy26E => (intro w hSw; (try dsimp only at hSw); go_simp <;> with_reducible rfl)
              try simp only [Act.put, List.setIfInBounds_toArray, List.set_cons_zero, List.set_cons_succ]
              refine wpAnyH_take (i := 27) (oi := ?oi27E) (v := ?v27E) ?hi27E (by kernel_rfl) (by kernel_rfl) (by kernel_rfl) ?hq27E (Or.inl ⟨?hw27E, ?hy27E⟩) (by assumption) ?rest27E
              case hi27E => (simp only [List.getElem?_toArray, List.getElem?_cons_succ, List.getElem?_cons_zero]; rfl)
              case hq27E => exact fun _ _ _ h => h
              case hw27E => rfl
              case hy27E => (intro w hSw; (try dsimp only at hSw); go_simp <;> with_reducible rfl)
              try simp only [Act.put, List.setIfInBounds_toArray, List.set_cons_zero, List.set_cons_succ]
              refine wpAnyH_take (i := 28) (oi := ?oi28E) (v := ?v28E) ?hi28E (by kernel_rfl) (by kernel_rfl) (by kernel_rfl) ?hq28E (Or.inl ⟨?hw28E, ?hy28E⟩) (by assumption) ?rest28E
              case hi28E => (simp only [List.getElem?_toArray, List.getElem?_cons_succ, List.getElem?_cons_zero]; rfl)
              case hq28E => exact fun _ _ _ h => h
              case hw28E => rfl
              case hy28E => (intro w hSw; (try dsimp only at hSw); go_simp <;> with_reducible rfl)
              try simp only [Act.put, List.setIfInBounds_toArray, List.set_cons_zero, List.set_cons_succ]
              refine wpAnyH_take (i := 29) (oi := ?oi29E) (v := ?v29E) ?hi29E (by kernel_rfl) (by kernel_rfl) (by kernel_rfl) ?hq29E (Or.inl ⟨?hw29E, ?hy29E⟩) (by assumption) ?rest29E
              case hi29E => (simp only [List.getElem?_toArray, List.getElem?_cons_succ, List.getElem?_cons_zero]; rfl)
              case hq29E => exact fun _ _ _ h => h
              case hw29E => rfl
              case hy29E => (intro w hSw; (try dsimp only at hSw); go_simp <;> with_reducible rfl)
              try simp only [Act.put, List.setIfInBounds_toArray, List.set_cons_zero, List.set_cons_succ]
              refine wpAnyH_take (i := 30) (oi := ?oi30E) (v := ?v30E) ?hi30E (by kernel_rfl) (by kernel_rfl) (by kernel_rfl) ?hq30E (Or.inl ⟨?hw30E, ?hy30E⟩) (by assumption) ?rest30E
              case hi30E => (simp only [List.getElem?_toArray, List.getElem?_cons_succ, List.getElem?_cons_zero]; rfl)
              case hq30E => exact fun _ _ _ h => h
              case hw30E => rfl
              case hy30E => (intro w hSw; (try dsimp only at hSw); go_simp <;> with_reducible rfl)
              try simp only [Act.put, List.setIfInBounds_toArray, List.set_cons_zero, List.set_cons_succ]
              refine wpAnyH_take (i := 31) (oi := ?oi31E) (v := ?v31E) ?hi31E (by kernel_rfl) (by kernel_rfl) (by kernel_rfl) ?hq31E (Or.inl ⟨?hw31E, ?hy31E⟩) (by assumption) ?rest31E
              case hi31E => (simp only [List.getElem?_toArray, List.getElem?_cons_succ, List.getElem?_cons_zero]; rfl)
              case hq31E => exact fun _ _ _ h => h
              case hw31E => rfl
              case hy31E => (intro w hSw; (try dsimp only at hSw); go_simp <;> with_reducible rfl)
              try simp only [Act.put, List.setIfInBounds_toArray, List.set_cons_zero, List.set_cons_succ]
              refine wpAnyH_take (i := 32) (oi := ?oi32E) (v := ?v32E) ?hi32E (by kernel_rfl) (by kernel_rfl) (by kernel_rfl) ?hq32E (Or.inl ⟨?hw32E, ?hy32E⟩) (by assumption) ?rest32E
              case hi32E => (simp only [List.getElem?_toArray, List.getElem?_cons_succ, List.getElem?_cons_zero]; rfl)
              case hq32E => exact fun _ _ _ h => h
              case hw32E => rfl
              case hy32E => (intro w hSw; (try dsimp only at hSw); go_simp <;> with_reducible rfl)
              try simp only [Act.put, List.setIfInBounds_toArray, List.set_cons_zero, List.set_cons_succ]
              refine wpAnyH_take (i := 33) (oi := ?oi33E) (v := ?v33E) ?hi33E (by kernel_rfl) (by kernel_rfl) (by kernel_rfl) ?hq33E (Or.inl ⟨?hw33E, ?hy33E⟩) (by assumption) ?rest33E
              case hi33E => (simp only [List.getElem?_toArray, List.getElem?_cons_succ, List.getElem?_cons_zero]; rfl)
              case hq33E => exact fun _ _ _ h => h
              case hw33E => rfl
              case hy33E => (intro w hSw; (try dsimp only at hSw); go_simp <;> with_reducible rfl)
              try simp only [Act.put, List.setIfInBounds_toArray, List.set_cons_zero, List.set_cons_succ]
              refine wpAnyH_take (i := 34) (oi := ?oi34E) (v := ?v34E) ?hi34E (by kernel_rfl) (by kernel_rfl) (by kernel_rfl) ?hq34E (Or.inl ⟨?hw34E, ?hy34E⟩) (by assumption) ?rest34E
              case hi34E => (simp only [List.getElem?_toArray, List.getElem?_cons_succ, List.getElem?_cons_zero]; rfl)
              case hq34E => exact fun _ _ _ h => h
              case hw34E => rfl
              case hy34E => (intro w hSw; (try dsimp only at hSw); go_simp <;> with_reducible rfl)
              try simp only [Act.put, List.setIfInBounds_toArray, List.set_cons_zero, List.set_cons_succ]
              refine wpAnyH_take (i := 35) (oi := ?oi35E) (v := ?v35E) ?hi35E (by kernel_rfl) (by kernel_rfl) (by kernel_rfl) ?hq35E (Or.inl ⟨?hw35E, ?hy35E⟩) (by assumption) ?rest35E
              case hi35E => (simp only [List.getElem?_toArray, List.getElem?_cons_succ, List.getElem?_cons_zero]; rfl)
              case hq35E => exact fun _ _ _ h => h
              case hw35E => rfl
              case hy35E => (intro w hSw; (try dsimp only at hSw); go_simp <;> with_reducible rfl)
              try simp only [Act.put, List.setIfInBounds_toArray, List.set_cons_zero, List.set_cons_succ]
              refine wpAnyH_take (i := 36) (oi := ?oi36E) (v := ?v36E) ?hi36E (by kernel_rfl) (by kernel_rfl) (by kernel_rfl) ?hq36E (Or.inl ⟨?hw36E, ?hy36E⟩) (by assumption) ?rest36E
              case hi36E => (simp only [List.getElem?_toArray, List.getElem?_cons_succ, List.getElem?_cons_zero]; rfl)
              case hq36E => exact fun _ _ _ h => h
              case hw36E => rfl
              case hy36E => (intro w hSw; (try dsimp only at hSw); go_simp <;> with_reducible rfl)
              try simp only [Act.put, List.setIfInBounds_toArray, List.set_cons_zero, List.set_cons_succ]
              refine wpAnyH_take (i := 37) (oi := ?oi37E) (v := ?v37E) ?hi37E (by kernel_rfl) (by kernel_rfl) (by kernel_rfl) ?hq37E (Or.inl ⟨?hw37E, ?hy37E⟩) (by assumption) ?rest37E
              case hi37E => (simp only [List.getElem?_toArray, List.getElem?_cons_succ, List.getElem?_cons_zero]; rfl)
              case hq37E => exact fun _ _ _ h => h
              case hw37E => rfl
              case hy37E => (intro w hSw; (try dsimp only at hSw); go_simp <;> with_reducible rfl)
              try simp only [Act.put, List.setIfInBounds_toArray, List.set_cons_zero, List.set_cons_succ]
              refine wpAnyH_take (i := 38) (oi := ?oi38E) (v := ?v38E) ?hi38E (by kernel_rfl) (by kernel_rfl) (by kernel_rfl) ?hq38E (Or.inl ⟨?hw38E, ?hy38E⟩) (by assumption) ?rest38E
              case hi38E => (simp only [List.getElem?_toArray, List.getElem?_cons_succ, List.getElem?_cons_zero]; rfl)
              case hq38E => exact fun _ _ _ h => h
              case hw38E => rfl
              case hy38E => (intro w hSw; (try dsimp only at hSw); go_simp <;> with_reducible rfl)
              try simp only [Act.put, List.setIfInBounds_toArray, List.set_cons_zero, List.set_cons_succ]
              refine wpAnyH_take (i := 39) (oi := ?oi39E) (v := ?v39E) ?hi39E (by kernel_rfl) (by kernel_rfl) (by kernel_rfl) ?hq39E (Or.inl ⟨?hw39E, ?hy39E⟩) (by assumption) ?rest39E
              case hi39E => (simp only [List.getElem?_toArray, List.getElem?_cons_succ, List.getElem?_cons_zero]; rfl)
              case hq39E => exact fun _ _ _ h => h
              case hw39E => rfl
              case hy39E => (intro w hSw; (try dsimp only at hSw); go_simp <;> with_reducible rfl)
              try simp only [Act.put, List.setIfInBounds_toArray, List.set_cons_zero, List.set_cons_succ]
              refine wpAnyH_take (i := 40) (oi := ?oi40E) (v := ?v40E) ?hi40E (by kernel_rfl) (by kernel_rfl) (by kernel_rfl) ?hq40E (Or.inl ⟨?hw40E, ?hy40E⟩) (by assumption) ?rest40E
              case hi40E => (simp only [List.getElem?_toArray, List.getElem?_cons_succ, List.getElem?_cons_zero]; rfl)
              case hq40E => exact fun _ _ _ h => h
              case hw40E => rfl
              case hy40E => (intro w hSw; (try dsimp only at hSw); go_simp <;> with_reducible rfl)
              try simp only [Act.put, List.setIfInBounds_toArray, List.set_cons_zero, List.set_cons_succ]
              refine wpAnyH_take (i := 41) (oi := ?oi41E) (v := ?v41E) ?hi41E (by kernel_rfl) (by kernel_rfl) (by kernel_rfl) ?hq41E (Or.inl ⟨?hw41E, ?hy41E⟩) (by assumption) ?rest41E
              case hi41E => (simp only [List.getElem?_toArray, List.getElem?_cons_succ, List.getElem?_cons_zero]; rfl)
              case hq41E => exact fun _ _ _ h => h
              case hw41E => rfl
              case hy41E => (intro w hSw; (try dsimp only at hSw); go_simp <;> with_reducible rfl)
              try simp only [Act.put, List.setIfInBounds_toArray, List.set_cons_zero, List.set_cons_succ]
              refine wpAnyH_done (by kernel_rfl) ?_ _
              go_wp2
              go_ret
              exact ⟨by rw [hno hbad]; rfl, q + 1, rfl⟩
            | false =>
              have hcmp := run_str_geq 9 last s1 false hle
              have hgood : okAt last (s1, q1) = true := by rw [hok, hle]; rfl
              go_wp2
              refine wp_region_held_drew (S := (fun w' => w'.cell? ⟨b, off + k * 2, none⟩ = some (.string ⟨s1.toArray⟩) ∧ w'.cell? ⟨b, off + k * 2 + 1, none⟩ = some (.int .i64 q1) ∧ w'.cell? ⟨b, off + p * 2, none⟩ = some (.string ⟨last.toArray⟩))) (by kernel_rfl) ⟨c0, c1, d0⟩ (fun hHeld => ?_)
              refine wpAnyH_take (i := 0) (oi := ?oi0F) (v := ?v0F) ?hi0F (by kernel_rfl) (by kernel_rfl) (by kernel_rfl) ?hq0F (Or.inl ⟨?hw0F, ?hy0F⟩) (by assumption) ?rest0F
              case hi0F => (simp only [List.getElem?_toArray, List.getElem?_cons_succ, List.getElem?_cons_zero]; rfl)
              case hq0F => exact fun _ _ _ h => h
              case hw0F => rfl
              case hy0F => (intro w hSw; (try dsimp only at hSw); go_simp <;> with_reducible rfl)
              try simp only [Act.put, List.setIfInBounds_toArray, List.set_cons_zero, List.set_cons_succ]
              refine wpAnyH_take (i := 1) (oi := ?oi1F) (v := ?v1F) ?hi1F (by kernel_rfl) (by kernel_rfl) (by kernel_rfl) ?hq1F (Or.inl ⟨?hw1F, ?hy1F⟩) (by assumption) ?rest1F
              case hi1F => (simp only [List.getElem?_toArray, List.getElem?_cons_succ, List.getElem?_cons_zero]; rfl)
              case hq1F => exact fun _ _ _ h => h
              case hw1F => rfl
              case hy1F => (intro w hSw; (try dsimp only at hSw); go_simp <;> with_reducible rfl)
              try simp only [Act.put, List.setIfInBounds_toArray, List.set_cons_zero, List.set_cons_succ]
              refine wpAnyH_take (i := 2) (oi := ?oi2F) (v := ?v2F) ?hi2F (by kernel_rfl) (by kernel_rfl) (by kernel_rfl) ?hq2F (Or.inl ⟨?hw2F, ?hy2F⟩) (by assumption) ?rest2F
              case hi2F => (simp only [List.getElem?_toArray, List.getElem?_cons_succ, List.getElem?_cons_zero]; rfl)
              case hq2F => exact fun _ _ _ h => h
              case hw2F => rfl
              case hy2F => (intro w hSw; (try dsimp only at hSw); go_simp <;> with_reducible rfl)
              try simp only [Act.put, List.setIfInBounds_toArray, List.set_cons_zero, List.set_cons_succ]
              refine wpAnyH_take (i := 3) (oi := ?oi3F) (v := ?v3F) ?hi3F (by kernel_rfl) (by kernel_rfl) (by kernel_rfl) ?hq3F (Or.inl ⟨?hw3F, ?hy3F⟩) (by assumption) ?rest3F
              case hi3F => (simp only [List.getElem?_toArray, List.getElem?_cons_succ, List.getElem?_cons_zero]; rfl)
              case hq3F => exact fun _ _ _ h => h
              case hw3F => rfl
              case hy3F => (intro w hSw; (try dsimp only at hSw); go_simp <;> with_reducible rfl)
              try simp only [Act.put, List.setIfInBounds_toArray, List.set_cons_zero, List.set_cons_succ]
              refine wpAnyH_take (i := 4) (oi := ?oi4F) (v := ?v4F) ?hi4F (by kernel_rfl) (by kernel_rfl) (by kernel_rfl) ?hq4F (Or.inl ⟨?hw4F, ?hy4F⟩) (by assumption) ?rest4F
              case hi4F => (simp only [List.getElem?_toArray, List.getElem?_cons_succ, List.getElem?_cons_zero]; rfl)
              case hq4F => exact fun _ _ _ h => h
              case hw4F => rfl
              case hy4F => (intro w hSw; (try dsimp only at hSw); go_simp <;> with_reducible rfl)
              try simp only [Act.put, List.setIfInBounds_toArray, List.set_cons_zero, List.set_cons_succ]
              refine wpAnyH_ready (rs := [5]) (by kernel_rfl) (by simp) ?_
              refine AllReadyH.cons (o := ?o5F) ?hi5F (fun K hK => ?st5F) AllReadyH.nil
              case hi5F => (simp only [List.getElem?_toArray, List.getElem?_cons_succ, List.getElem?_cons_zero]; rfl)
              go_simp
              refine (refgood_any s1 _ hs1).mono ?_
              rintro e w5 ⟨rfl, rfl⟩
              rw [hg]
              go_wp2_with fail
              refine hK.out _ _ ⟨c0, c1, d0⟩ (fun hHeld2 => ?_)
              clear hK K hHeld
              have hHeld := hHeld2
              clear hHeld2
              try simp only [Act.put, List.setIfInBounds_toArray, List.set_cons_zero, List.set_cons_succ]
              refine wpAnyH_take (i := 6) (oi := ?oi6F) (v := ?v6F) ?hi6F (by kernel_rfl) (by kernel_rfl) (by kernel_rfl) ?hq6F (Or.inl ⟨?hw6F, ?hy6F⟩) (by assumption) ?rest6F
              case hi6F => (simp only [List.getElem?_toArray, List.getElem?_cons_succ, List.getElem?_cons_zero]; rfl)
              case hq6F => exact fun _ _ _ h => h
              case hw6F => rfl
              case hy6F => (intro w hSw; (try dsimp only at hSw); go_simp <;> with_reducible rfl)
              try simp only [Act.put, List.setIfInBounds_toArray, List.set_cons_zero, List.set_cons_succ]
              refine wpAnyH_take (i := 7) (oi := ?oi7F) (v := ?v7F) ?hi7F (by kernel_rfl) (by kernel_rfl) (by kernel_rfl) ?hq7F (Or.inl ⟨?hw7F, ?hy7F⟩) (by assumption) ?rest7F
              case hi7F => (simp only [List.getElem?_toArray, List.getElem?_cons_succ, List.getElem?_cons_zero]; rfl)
              case hq7F => exact fun _ _ _ h => h
              case hw7F => rfl
              case hy7F => (intro w hSw; (try dsimp only at hSw); go_simp <;> with_reducible rfl)
              try simp only [Act.put, List.setIfInBounds_toArray, List.set_cons_zero, List.set_cons_succ]
              refine wpAnyH_take (i := 8) (oi := ?oi8F) (v := ?v8F) ?hi8F (by kernel_rfl) (by kernel_rfl) (by kernel_rfl) ?hq8F (Or.inl ⟨?hw8F, ?hy8F⟩) (by assumption) ?rest8F
              case hi8F => (simp only [List.getElem?_toArray, List.getElem?_cons_succ, List.getElem?_cons_zero]; rfl)
              case hq8F => exact fun _ _ _ h => h
              case hw8F => rfl
              case hy8F => (intro w hSw; (try dsimp only at hSw); go_simp <;> with_reducible rfl)
              try simp only [Act.put, List.setIfInBounds_toArray, List.set_cons_zero, List.set_cons_succ]
              refine wpAnyH_take (i := 9) (oi := ?oi9F) (v := ?v9F) ?hi9F (by kernel_rfl) (by kernel_rfl) (by kernel_rfl) ?hq9F (Or.inl ⟨?hw9F, ?hy9F⟩) (by assumption) ?rest9F
              case hi9F => (simp only [List.getElem?_toArray, List.getElem?_cons_succ, List.getElem?_cons_zero]; rfl)
              case hq9F => exact fun _ _ _ h => h
              case hw9F => rfl
              case hy9F => (intro w hSw; (try dsimp only at hSw); go_simp <;> with_reducible rfl)
              try simp only [Act.put, List.setIfInBounds_toArray, List.set_cons_zero, List.set_cons_succ]
              refine wpAnyH_take (i := 10) (oi := ?oi10F) (v := ?v10F) ?hi10F (by kernel_rfl) (by kernel_rfl) (by kernel_rfl) ?hq10F (Or.inl ⟨?hw10F, ?hy10F⟩) (by assumption) ?rest10F
              case hi10F => (simp only [List.getElem?_toArray, List.getElem?_cons_succ, List.getElem?_cons_zero]; rfl)
              case hq10F => exact fun _ _ _ h => h
              case hw10F => rfl
              case hy10F => (intro w hSw; (try dsimp only at hSw); go_simp <;> with_reducible rfl)
              try simp only [Act.put, List.setIfInBounds_toArray, List.set_cons_zero, List.set_cons_succ]
              refine wpAnyH_take (i := 11) (oi := ?oi11F) (v := ?v11F) ?hi11F (by kernel_rfl) (by kernel_rfl) (by kernel_rfl) ?hq11F (Or.inl ⟨?hw11F, ?hy11F⟩) (by assumption) ?rest11F
              case hi11F => (simp only [List.getElem?_toArray, List.getElem?_cons_succ, List.getElem?_cons_zero]; rfl)
              case hq11F => exact fun _ _ _ h => h
              case hw11F => rfl
              case hy11F => (intro w hSw; (try dsimp only at hSw); go_simp <;> with_reducible rfl)
              try simp only [Act.put, List.setIfInBounds_toArray, List.set_cons_zero, List.set_cons_succ]
              refine wpAnyH_take (i := 12) (oi := ?oi12F) (v := ?v12F) ?hi12F (by kernel_rfl) (by kernel_rfl) (by kernel_rfl) ?hq12F (Or.inl ⟨?hw12F, ?hy12F⟩) (by assumption) ?rest12F
              case hi12F => (simp only [List.getElem?_toArray, List.getElem?_cons_succ, List.getElem?_cons_zero]; rfl)
              case hq12F => exact fun _ _ _ h => h
              case hw12F => rfl
              case hy12F => (intro w hSw; (try dsimp only at hSw); go_simp <;> with_reducible rfl)
              try simp only [Act.put, List.setIfInBounds_toArray, List.set_cons_zero, List.set_cons_succ]
              refine wpAnyH_take (i := 13) (oi := ?oi13F) (v := ?v13F) ?hi13F (by kernel_rfl) (by kernel_rfl) (by kernel_rfl) ?hq13F (Or.inl ⟨?hw13F, ?hy13F⟩) (by assumption) ?rest13F
              case hi13F => (simp only [List.getElem?_toArray, List.getElem?_cons_succ, List.getElem?_cons_zero]; rfl)
              case hq13F => exact fun _ _ _ h => h
              case hw13F => rfl
              case hy13F => (intro w hSw; (try dsimp only at hSw); go_simp <;> with_reducible rfl)
              try simp only [Act.put, List.setIfInBounds_toArray, List.set_cons_zero, List.set_cons_succ]
              refine wpAnyH_take (i := 14) (oi := ?oi14F) (v := ?v14F) ?hi14F (by kernel_rfl) (by kernel_rfl) (by kernel_rfl) ?hq14F (Or.inl ⟨?hw14F, ?hy14F⟩) (by assumption) ?rest14F
              case hi14F => (simp only [List.getElem?_toArray, List.getElem?_cons_succ, List.getElem?_cons_zero]; rfl)
              case hq14F => exact fun _ _ _ h => h
              case hw14F => rfl
              case hy14F => (intro w hSw; (try dsimp only at hSw); go_simp <;> with_reducible rfl)
              try simp only [Act.put, List.setIfInBounds_toArray, List.set_cons_zero, List.set_cons_succ]
              refine wpAnyH_take (i := 15) (oi := ?oi15F) (v := ?v15F) ?hi15F (by kernel_rfl) (by kernel_rfl) (by kernel_rfl) ?hq15F (Or.inl ⟨?hw15F, ?hy15F⟩) (by assumption) ?rest15F
              case hi15F => (simp only [List.getElem?_toArray, List.getElem?_cons_succ, List.getElem?_cons_zero]; rfl)
              case hq15F => exact fun _ _ _ h => h
              case hw15F => rfl
              case hy15F => (intro w hSw; (try dsimp only at hSw); go_simp <;> with_reducible rfl)
              try simp only [Act.put, List.setIfInBounds_toArray, List.set_cons_zero, List.set_cons_succ]
              refine wpAnyH_take (i := 16) (oi := ?oi16F) (v := ?v16F) ?hi16F (by kernel_rfl) (by kernel_rfl) (by kernel_rfl) ?hq16F (Or.inl ⟨?hw16F, ?hy16F⟩) (by assumption) ?rest16F
              case hi16F => (simp only [List.getElem?_toArray, List.getElem?_cons_succ, List.getElem?_cons_zero]; rfl)
              case hq16F => exact fun _ _ _ h => h
              case hw16F => rfl
              case hy16F => (intro w hSw; (try dsimp only at hSw); go_simp <;> with_reducible rfl)
              try simp only [Act.put, List.setIfInBounds_toArray, List.set_cons_zero, List.set_cons_succ]
              refine wpAnyH_take (i := 17) (oi := ?oi17F) (v := ?v17F) ?hi17F (by kernel_rfl) (by kernel_rfl) (by kernel_rfl) ?hq17F (Or.inl ⟨?hw17F, ?hy17F⟩) (by assumption) ?rest17F
              case hi17F => (simp only [List.getElem?_toArray, List.getElem?_cons_succ, List.getElem?_cons_zero]; rfl)
              case hq17F => exact fun _ _ _ h => h
              case hw17F => rfl
              case hy17F => (intro w hSw; (try dsimp only at hSw); go_simp <;> with_reducible rfl)
              try simp only [Act.put, List.setIfInBounds_toArray, List.set_cons_zero, List.set_cons_succ]
              refine wpAnyH_take (i := 18) (oi := ?oi18F) (v := ?v18F) ?hi18F (by kernel_rfl) (by kernel_rfl) (by kernel_rfl) ?hq18F (Or.inl ⟨?hw18F, ?hy18F⟩) (by assumption) ?rest18F
              case hi18F => (simp only [List.getElem?_toArray, List.getElem?_cons_succ, List.getElem?_cons_zero]; rfl)
              case hq18F => exact fun _ _ _ h => h
              case hw18F => rfl
              case hy18F => (intro w hSw; (try dsimp only at hSw); go_simp <;> with_reducible rfl)
              try simp only [Act.put, List.setIfInBounds_toArray, List.set_cons_zero, List.set_cons_succ]
              refine wpAnyH_take (i := 19) (oi := ?oi19F) (v := ?v19F) ?hi19F (by kernel_rfl) (by kernel_rfl) (by kernel_rfl) ?hq19F (Or.inl ⟨?hw19F, ?hy19F⟩) (by assumption) ?rest19F
              case hi19F => (simp only [List.getElem?_toArray, List.getElem?_cons_succ, List.getElem?_cons_zero]; rfl)
              case hq19F => exact fun _ _ _ h => h
              case hw19F => rfl
              case hy19F => (intro w hSw; (try dsimp only at hSw); go_simp <;> with_reducible rfl)
              try simp only [Act.put, List.setIfInBounds_toArray, List.set_cons_zero, List.set_cons_succ]
              refine wpAnyH_take (i := 20) (oi := ?oi20F) (v := ?v20F) ?hi20F (by kernel_rfl) (by kernel_rfl) (by kernel_rfl) ?hq20F (Or.inl ⟨?hw20F, ?hy20F⟩) (by assumption) ?rest20F
              case hi20F => (simp only [List.getElem?_toArray, List.getElem?_cons_succ, List.getElem?_cons_zero]; rfl)
              case hq20F => exact fun _ _ _ h => h
              case hw20F => rfl
              case hy20F => (intro w hSw; (try dsimp only at hSw); go_simp <;> with_reducible rfl)
              try simp only [Act.put, List.setIfInBounds_toArray, List.set_cons_zero, List.set_cons_succ]
              refine wpAnyH_ready (rs := [21]) (by kernel_rfl) (by simp) ?_
              refine AllReadyH.cons (o := ?o21F) ?hi21F (fun K hK => ?st21F) AllReadyH.nil
              case hi21F => (simp only [List.getElem?_toArray, List.getElem?_cons_succ, List.getElem?_cons_zero]; rfl)
              go_simp
              refine (refcmay_any q1 _).mono ?_
              rintro e w6 ⟨rfl, rfl⟩
              rw [hc]
              go_wp2_with fail
              refine hK.out _ _ ⟨c0, c1, d0⟩ (fun hHeld2 => ?_)
              clear hK K hHeld
              have hHeld := hHeld2
              clear hHeld2
              try simp only [Act.put, List.setIfInBounds_toArray, List.set_cons_zero, List.set_cons_succ]
              refine wpAnyH_take (i := 22) (oi := ?oi22F) (v := ?v22F) ?hi22F (by kernel_rfl) (by kernel_rfl) (by kernel_rfl) ?hq22F (Or.inl ⟨?hw22F, ?hy22F⟩) (by assumption) ?rest22F
              case hi22F => (simp only [List.getElem?_toArray, List.getElem?_cons_succ, List.getElem?_cons_zero]; rfl)
              case hq22F => exact fun _ _ _ h => h
              case hw22F => rfl
              case hy22F => (intro w hSw; (try dsimp only at hSw); go_simp <;> with_reducible rfl)
              try simp only [Act.put, List.setIfInBounds_toArray, List.set_cons_zero, List.set_cons_succ]
              refine wpAnyH_take (i := 23) (oi := ?oi23F) (v := ?v23F) ?hi23F (by kernel_rfl) (by kernel_rfl) (by kernel_rfl) ?hq23F (Or.inl ⟨?hw23F, ?hy23F⟩) (by assumption) ?rest23F
              case hi23F => (simp only [List.getElem?_toArray, List.getElem?_cons_succ, List.getElem?_cons_zero]; rfl)
              case hq23F => exact fun _ _ _ h => h
              case hw23F => rfl
              case hy23F => (intro w hSw; (try dsimp only at hSw); go_simp <;> with_reducible rfl)
              try simp only [Act.put, List.setIfInBounds_toArray, List.set_cons_zero, List.set_cons_succ]
              refine wpAnyH_take (i := 24) (oi := ?oi24F) (v := ?v24F) ?hi24F (by kernel_rfl) (by kernel_rfl) (by kernel_rfl) ?hq24F (Or.inl ⟨?hw24F, ?hy24F⟩) (by assumption) ?rest24F
              case hi24F => (simp only [List.getElem?_toArray, List.getElem?_cons_succ, List.getElem?_cons_zero]; rfl)
              case hq24F => exact fun _ _ _ h => h
              case hw24F => rfl
              case hy24F => (intro w hSw; (try dsimp only at hSw); go_simp <;> with_reducible rfl)
              try simp only [Act.put, List.setIfInBounds_toArray, List.set_cons_zero, List.set_cons_succ]
              refine wpAnyH_take (i := 25) (oi := ?oi25F) (v := ?v25F) ?hi25F (by kernel_rfl) (by kernel_rfl) (by kernel_rfl) ?hq25F (Or.inl ⟨?hw25F, ?hy25F⟩) (by assumption) ?rest25F
              case hi25F => (simp only [List.getElem?_toArray, List.getElem?_cons_succ, List.getElem?_cons_zero]; rfl)
              case hq25F => exact fun _ _ _ h => h
              case hw25F => rfl
              case hy25F => (intro w hSw; (try dsimp only at hSw); go_simp <;> with_reducible rfl)
              try simp only [Act.put, List.setIfInBounds_toArray, List.set_cons_zero, List.set_cons_succ]
              refine wpAnyH_take (i := 26) (oi := ?oi26F) (v := ?v26F) ?hi26F (by kernel_rfl) (by kernel_rfl) (by kernel_rfl) ?hq26F (Or.inl ⟨?hw26F, ?hy26F⟩) (by assumption) ?rest26F
              case hi26F => (simp only [List.getElem?_toArray, List.getElem?_cons_succ, List.getElem?_cons_zero]; rfl)
              case hq26F => exact fun _ _ _ h => h
              case hw26F => rfl
              case hy26F => (intro w hSw; (try dsimp only at hSw); go_simp <;> with_reducible rfl)
              try simp only [Act.put, List.setIfInBounds_toArray, List.set_cons_zero, List.set_cons_succ]
              refine wpAnyH_take (i := 27) (oi := ?oi27F) (v := ?v27F) ?hi27F (by kernel_rfl) (by kernel_rfl) (by kernel_rfl) ?hq27F (Or.inl ⟨?hw27F, ?hy27F⟩) (by assumption) ?rest27F
              case hi27F => (simp only [List.getElem?_toArray, List.getElem?_cons_succ, List.getElem?_cons_zero]; rfl)
              case hq27F => exact fun _ _ _ h => h
              case hw27F => rfl
              case hy27F => (intro w hSw; (try dsimp only at hSw); go_simp <;> with_reducible rfl)
              try simp only [Act.put, List.setIfInBounds_toArray, List.set_cons_zero, List.set_cons_succ]
              refine wpAnyH_take (i := 28) (oi := ?oi28F) (v := ?v28F) ?hi28F (by kernel_rfl) (by kernel_rfl) (by kernel_rfl) ?hq28F (Or.inl ⟨?hw28F, ?hy28F⟩) (by assumption) ?rest28F
              case hi28F => (simp only [List.getElem?_toArray, List.getElem?_cons_succ, List.getElem?_cons_zero]; rfl)
              case hq28F => exact fun _ _ _ h => h
              case hw28F => rfl
              case hy28F => (intro w hSw; (try dsimp only at hSw); go_simp <;> with_reducible rfl)
              try simp only [Act.put, List.setIfInBounds_toArray, List.set_cons_zero, List.set_cons_succ]
              refine wpAnyH_take (i := 29) (oi := ?oi29F) (v := ?v29F) ?hi29F (by kernel_rfl) (by kernel_rfl) (by kernel_rfl) ?hq29F (Or.inl ⟨?hw29F, ?hy29F⟩) (by assumption) ?rest29F
              case hi29F => (simp only [List.getElem?_toArray, List.getElem?_cons_succ, List.getElem?_cons_zero]; rfl)
              case hq29F => exact fun _ _ _ h => h
              case hw29F => rfl
              case hy29F => (intro w hSw; (try dsimp only at hSw); go_simp <;> with_reducible rfl)
              try simp only [Act.put, List.setIfInBounds_toArray, List.set_cons_zero, List.set_cons_succ]
              refine wpAnyH_take (i := 30) (oi := ?oi30F) (v := ?v30F) ?hi30F (by kernel_rfl) (by kernel_rfl) (by kernel_rfl) ?hq30F (Or.inl ⟨?hw30F, ?hy30F⟩) (by assumption) ?rest30F
              case hi30F => (simp only [List.getElem?_toArray, List.getElem?_cons_succ, List.getElem?_cons_zero]; rfl)
              case hq30F => exact fun _ _ _ h => h
              case hw30F => rfl
              case hy30F => (intro w hSw; (try dsimp only at hSw); go_simp <;> with_reducible rfl)
              try simp only [Act.put, List.setIfInBounds_toArray, List.set_cons_zero, List.set_cons_succ]
              refine wpAnyH_take (i := 31) (oi := ?oi31F) (v := ?v31F) ?hi31F (by kernel_rfl) (by kernel_rfl) (by kernel_rfl) ?hq31F (Or.inl ⟨?hw31F, ?hy31F⟩) (by assumption) ?rest31F
              case hi31F => (simp only [List.getElem?_toArray, List.getElem?_cons_succ, List.getElem?_cons_zero]; rfl)
              case hq31F => exact fun _ _ _ h => h
              case hw31F => rfl
              case hy31F => (intro w hSw; (try dsimp only at hSw); go_simp <;> with_reducible rfl)
              try simp only [Act.put, List.setIfInBounds_toArray, List.set_cons_zero, List.set_cons_succ]
              refine wpAnyH_take (i := 32) (oi := ?oi32F) (v := ?v32F) ?hi32F (by kernel_rfl) (by kernel_rfl) (by kernel_rfl) ?hq32F (Or.inl ⟨?hw32F, ?hy32F⟩) (by assumption) ?rest32F
              case hi32F => (simp only [List.getElem?_toArray, List.getElem?_cons_succ, List.getElem?_cons_zero]; rfl)
              case hq32F => exact fun _ _ _ h => h
              case hw32F => rfl
              case hy32F => (intro w hSw; (try dsimp only at hSw); go_simp <;> with_reducible rfl)
              try simp only [Act.put, List.setIfInBounds_toArray, List.set_cons_zero, List.set_cons_succ]
              refine wpAnyH_take (i := 33) (oi := ?oi33F) (v := ?v33F) ?hi33F (by kernel_rfl) (by kernel_rfl) (by kernel_rfl) ?hq33F (Or.inl ⟨?hw33F, ?hy33F⟩) (by assumption) ?rest33F
              case hi33F => (simp only [List.getElem?_toArray, List.getElem?_cons_succ, List.getElem?_cons_zero]; rfl)
              case hq33F => exact fun _ _ _ h => h
              case hw33F => rfl
              case hy33F => (intro w hSw; (try dsimp only at hSw); go_simp <;> with_reducible rfl)
              try simp only [Act.put, List.setIfInBounds_toArray, List.set_cons_zero, List.set_cons_succ]
              refine wpAnyH_take (i := 34) (oi := ?oi34F) (v := ?v34F) ?hi34F (by kernel_rfl) (by kernel_rfl) (by kernel_rfl) ?hq34F (Or.inl ⟨?hw34F, ?hy34F⟩) (by assumption) ?rest34F
              case hi34F => (simp only [List.getElem?_toArray, List.getElem?_cons_succ, List.getElem?_cons_zero]; rfl)
              case hq34F => exact fun _ _ _ h => h
              case hw34F => rfl
              case hy34F => (intro w hSw; (try dsimp only at hSw); go_simp <;> with_reducible rfl)
              try simp only [Act.put, List.setIfInBounds_toArray, List.set_cons_zero, List.set_cons_succ]
              refine wpAnyH_take (i := 35) (oi := ?oi35F) (v := ?v35F) ?hi35F (by kernel_rfl) (by kernel_rfl) (by kernel_rfl) ?hq35F (Or.inl ⟨?hw35F, ?hy35F⟩) (by assumption) ?rest35F
              case hi35F => (simp only [List.getElem?_toArray, List.getElem?_cons_succ, List.getElem?_cons_zero]; rfl)
              case hq35F => exact fun _ _ _ h => h
              case hw35F => rfl
              case hy35F => (intro w hSw; (try dsimp only at hSw); go_simp <;> with_reducible rfl)
              try simp only [Act.put, List.setIfInBounds_toArray, List.set_cons_zero, List.set_cons_succ]
              refine wpAnyH_take (i := 36) (oi := ?oi36F) (v := ?v36F) ?hi36F (by kernel_rfl) (by kernel_rfl) (by kernel_rfl) ?hq36F (Or.inl ⟨?hw36F, ?hy36F⟩) (by assumption) ?rest36F
              case hi36F => (simp only [List.getElem?_toArray, List.getElem?_cons_succ, List.getElem?_cons_zero]; rfl)
              case hq36F => exact fun _ _ _ h => h
              case hw36F => rfl
              case hy36F => (intro w hSw; (try dsimp only at hSw); go_simp <;> with_reducible rfl)
              try simp only [Act.put, List.setIfInBounds_toArray, List.set_cons_zero, List.set_cons_succ]
              refine wpAnyH_take (i := 37) (oi := ?oi37F) (v := ?v37F) ?hi37F (by kernel_rfl) (by kernel_rfl) (by kernel_rfl) ?hq37F (Or.inl ⟨?hw37F, ?hy37F⟩) (by assumption) ?rest37F
              case hi37F => (simp only [List.getElem?_toArray, List.getElem?_cons_succ, List.getElem?_cons_zero]; rfl)
              case hq37F => exact fun _ _ _ h => h
              case hw37F => rfl
              case hy37F => (intro w hSw; (try dsimp only at hSw); go_simp <;> with_reducible rfl)
              try simp only [Act.put, List.setIfInBounds_toArray, List.set_cons_zero, List.set_cons_succ]
              refine wpAnyH_take (i := 38) (oi := ?oi38F) (v := ?v38F) ?hi38F (by kernel_rfl) (by kernel_rfl) (by kernel_rfl) ?hq38F (Or.inl ⟨?hw38F, ?hy38F⟩) (by assumption) ?rest38F
              case hi38F => (simp only [List.getElem?_toArray, List.getElem?_cons_succ, List.getElem?_cons_zero]; rfl)
              case hq38F => exact fun _ _ _ h => h
              case hw38F => rfl
              case hy38F => (intro w hSw; (try dsimp only at hSw); go_simp <;> with_reducible rfl)
              try simp only [Act.put, List.setIfInBounds_toArray, List.set_cons_zero, List.set_cons_succ]
              refine wpAnyH_take (i := 39) (oi := ?oi39F) (v := ?v39F) ?hi39F (by kernel_rfl) (by kernel_rfl) (by kernel_rfl) ?hq39F (Or.inl ⟨?hw39F, ?hy39F⟩) (by assumption) ?rest39F
              case hi39F => (simp only [List.getElem?_toArray, List.getElem?_cons_succ, List.getElem?_cons_zero]; rfl)
              case hq39F => exact fun _ _ _ h => h
              case hw39F => rfl
              case hy39F => (intro w hSw; (try dsimp only at hSw); go_simp <;> with_reducible rfl)
              try simp only [Act.put, List.setIfInBounds_toArray, List.set_cons_zero, List.set_cons_succ]
              refine wpAnyH_take (i := 40) (oi := ?oi40F) (v := ?v40F) ?hi40F (by kernel_rfl) (by kernel_rfl) (by kernel_rfl) ?hq40F (Or.inl ⟨?hw40F, ?hy40F⟩) (by assumption) ?rest40F
              case hi40F => (simp only [List.getElem?_toArray, List.getElem?_cons_succ, List.getElem?_cons_zero]; rfl)
              case hq40F => exact fun _ _ _ h => h
              case hw40F => rfl
              case hy40F => (intro w hSw; (try dsimp only at hSw); go_simp <;> with_reducible rfl)
              try simp only [Act.put, List.setIfInBounds_toArray, List.set_cons_zero, List.set_cons_succ]
              refine wpAnyH_take (i := 41) (oi := ?oi41F) (v := ?v41F) ?hi41F (by kernel_rfl) (by kernel_rfl) (by kernel_rfl) ?hq41F (Or.inl ⟨?hw41F, ?hy41F⟩) (by assumption) ?rest41F
              case hi41F => (simp only [List.getElem?_toArray, List.getElem?_cons_succ, List.getElem?_cons_zero]; rfl)
              case hq41F => exact fun _ _ _ h => h
              case hw41F => rfl
              case hy41F => (intro w hSw; (try dsimp only at hSw); go_simp <;> with_reducible rfl)
              try simp only [Act.put, List.setIfInBounds_toArray, List.set_cons_zero, List.set_cons_succ]
              refine wpAnyH_done (by kernel_rfl) ?_ _
              go_wp2
              go_roundw
              case measure => simp [intOf]; omega
              case rel => exact ⟨k + 1, q + 1, by go_num, by omega, rfl, hsn.trans hgood⟩
    · have hlz : ¬ (k : Int) < (n : Int) := by omega
      rw [List.take_of_length_le (by omega)] at htk
      by_cases h16 : n ≤ 16
      · have h16' : (n : Int) ≤ 16 := by omega
        go_wp2
        go_ret
        exact ⟨by simp [mayL, htk, hlen, h16], q, rfl⟩
      · have h16' : ¬ (n : Int) ≤ 16 := by omega
        go_wp2
        go_ret
        exact ⟨by simp [mayL, htk, hlen, h16], q, rfl⟩
end Go.Proofs.YtjjghhhhalendaaGreat
