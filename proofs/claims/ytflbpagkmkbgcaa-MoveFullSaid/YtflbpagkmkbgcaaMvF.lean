/- Moves: many that go from one region to another. No condition. -/
import Derived.Test.YtflbpagkmkbgcaaMvX
namespace Go.Proofs.Ytflbpagkmkbgcaa
open Go.RowKit Go.Maps Go.Shelf Go.Sort
set_option linter.unusedVariables false
set_option linter.unusedSimpArgs false

def ga (m : Int) : List It := [([97], m)]
theorem ga_my {m : Int} (h : 1 ≤ m) (h2 : m ≤ 1099511627776) : MY (ga m) :=
  ⟨by simp [ga], fun x hx => by simp [ga] at hx; subst hx; exact ⟨h, h2⟩, fun x hx => by simp [ga] at hx; subst hx; exact (show gOK [97] = true from by decide), by simp [ga]⟩
theorem ga_tot (m k : Int) : tot (ga m ++ ga k) [97] = m + k := by simp [tot, ga]
theorem ga_rows {m k : Int} (h : m + k ≠ 0) : rowsN (ga m ++ ga k) = ga (m + k) := by
  rw [rowsN_eq (ga m ++ ga k) [[97]] (by decide) (fun g => by simp [ga])]
  unfold listedL
  simp only [List.filterMap_cons, List.filterMap_nil]
  rw [ga_tot, if_neg h]
  rfl
theorem ga_over {m k : Int} (h : m + k ≤ 1099511627776) : overL (ga m ++ ga k) = false := by
  unfold overL
  rw [List.any_eq_false]
  intro x hx
  have hx1 : x.1 = [97] := by
    simp [ga] at hx
    rcases hx with rfl | rfl <;> rfl
  rw [hx1, ga_tot]
  simp
  omega
theorem ga_normE {m k : Int} (hm : MY (ga m)) (hk : MY (ga k)) (h0 : m + k ≠ 0) (h : m + k ≤ 1099511627776) : normE (ga m ++ ga k) = 0 := by
  unfold normE
  rw [okN_app hm hk, ga_over h, ga_rows h0]
  rfl
theorem ga_plusE {m k : Int} (hm : MY (ga m)) (hk : MY (ga k)) (h0 : m + k ≠ 0) (h : m + k ≤ 1099511627776) : plusE (ga m) (ga k) = 0 := by
  rw [plusE_norm hm hk]
  exact ga_normE hm hk h0 h
theorem ga_plusR {m k : Int} (hm : MY (ga m)) (hk : MY (ga k)) (h0 : m + k ≠ 0) (h : m + k ≤ 1099511627776) : plusR (ga m) (ga k) = ga (m + k) := by
  rw [plusR_norm hm hk]
  unfold normR
  rw [ga_normE hm hk h0 h, ga_rows h0]
  rfl
theorem ga_rows0 : rowsN ([] ++ ga 1) = ga 1 := by
  rw [rowsN_eq ([] ++ ga 1) [[97]] (by decide) (fun g => by simp [ga])]
  decide
theorem ga_may1 : mayL (ga 1) = true := by decide
theorem ga_plusE0 : plusE [] (ga 1) = 0 := by
  unfold plusE normE
  rw [pl_may0, ga_may1, ga_rows0]
  decide
theorem ga_plusR0 : plusR [] (ga 1) = ga 1 := by
  have h : normE ([] ++ ga 1) = 0 := by have := ga_plusE0; unfold plusE at this; rw [pl_may0, ga_may1] at this; exact this
  unfold plusR normR
  rw [pl_may0, ga_may1, h, ga_rows0]
  rfl
theorem ga_wl : WL (ga 1) := fun x hx => by simp [ga] at hx; subst hx; exact ⟨by simp [maxLen], by decide⟩
theorem under_run (f : Int → Rec) : ∀ (xs : List Int) (m : Int), (∀ x ∈ xs, onWay (f x) 0 1 = true ∧ (f x).l.l = ga 1) → 1 ≤ m → m + xs.length ≤ 1099511627776 → underO f 0 1 xs (ga m) = ga (m + xs.length) := by
  intro xs
  induction xs with
  | nil =>
    intro m _ _ _
    simp [underO]
  | cons x xs ih =>
    intro m hx h1 h2
    simp only [List.length_cons] at h2 ⊢
    obtain ⟨e1, e2⟩ := hx x (by simp)
    unfold underO
    rw [e1, e2]
    have hm := ga_my (m := m) h1 (by omega)
    have h1m := ga_my (m := 1) (by omega) (by omega)
    show (if plusE (ga m) (ga 1) = 0 then underO f 0 1 xs (plusR (ga m) (ga 1)) else ga m) = _
    rw [ga_plusE hm h1m (by omega) (by omega), if_pos rfl, ga_plusR hm h1m (by omega) (by omega), ih (m + 1) (fun y hy => hx y (by simp [hy])) (by omega) (by omega)]
    congr 1
    omega
theorem under_all (f : Int → Rec) (x : Int) (xs : List Int) (hx : ∀ y ∈ x :: xs, onWay (f y) 0 1 = true ∧ (f y).l.l = ga 1) (h : 1 + xs.length ≤ (1099511627776 : Int)) : underO f 0 1 (x :: xs) [] = ga (1 + xs.length) := by
  obtain ⟨e1, e2⟩ := hx x (by simp)
  unfold underO
  rw [e1, e2]
  show (if plusE [] (ga 1) = 0 then underO f 0 1 xs (plusR [] (ga 1)) else []) = _
  rw [ga_plusE0, if_pos rfl, ga_plusR0]
  exact under_run f xs 1 (fun y hy => hx y (by simp [hy])) (by omega) h
/-- So many numbers from a. -/
def upK (a : Int) (n : Nat) : List Int := (List.range n).map fun (j : Nat) => a + (j : Int)
theorem upK_succ (a : Int) (n : Nat) : upK a (n + 1) = upK a n ++ [a + (n : Int)] := by
  unfold upK
  rw [List.range_succ, List.map_append]
  rfl
theorem upK_len (a : Int) (n : Nat) : (upK a n).length = n := by simp [upK]
theorem mem_upK {a x : Int} {n : Nat} : x ∈ upK a n ↔ ∃ j : Nat, j < n ∧ x = a + (j : Int) := by
  unfold upK
  rw [List.mem_map]
  constructor
  · rintro ⟨j, hj, rfl⟩
    exact ⟨j, List.mem_range.1 hj, rfl⟩
  · rintro ⟨j, hj, rfl⟩
    exact ⟨j, List.mem_range.2 hj, rfl⟩
theorem upK_sorted (a : Int) (n : Nat) : sortI (upK a n) = upK a n := by
  unfold sortI
  refine List.mergeSort_of_pairwise ?_
  unfold upK
  rw [List.pairwise_map]
  refine (List.pairwise_lt_range).imp fun {i j} h => ?_
  simp
  omega
theorem goE_ga {a : Int} {ks : List Int} (h1 : 1 ≤ a) (h2 : a ≤ 1099511627776) (hk : a ∉ ks) : goE ks a 0 1 (ga 1) = if 256 ≤ ks.length then 2 else 0 := by
  unfold goE
  rw [if_neg (by rw [show mbK a = true from decide_eq_true ⟨h1, h2⟩, show btK 0 1 = true from by decide]; decide), if_neg (by rw [ga_may1]; simp [ga]), if_neg hk]
end Go.Proofs.Ytflbpagkmkbgcaa
