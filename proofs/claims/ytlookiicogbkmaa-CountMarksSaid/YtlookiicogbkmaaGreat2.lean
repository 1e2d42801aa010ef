/- greatestFirst. -/
import Derived.Test.YtlookiicogbkmaaGreat
import Derived.Sort.LotA
namespace Go.Proofs.Ytlookiicogbkmaa
open Go.RowKit Go.Sort Go.Lib Go.Shelf
set_option linter.unusedVariables false
set_option linter.unusedSimpArgs false

def words (l : List Nat) : Array Value := (l.map (fun (x : Nat) => Value.int .u64 (x : Int))).toArray
theorem int_info : (Try.prog.info? 3).map (fun i => (i.zero, i.size, i.bytes)) = some (some (.int .i64 0), 1, 8) := by kernel_rfl
theorem u64_info : (Try.prog.info? 51).map (fun i => (i.zero, i.size, i.bytes)) = some (some (.int .u64 0), 1, 8) := by kernel_rfl
theorem made_ints (n : Nat) : madeCells (Value.int .i64 0).cells (n * 1) = ints (List.replicate n 0) := by
  unfold ints
  apply Array.ext_getElem?
  intro i
  by_cases hi : i < n
  · simp [madeCells, hi, Value.cells, Nat.mod_one]
  · simp [madeCells, hi, Nat.not_lt.1 hi]
theorem made_words (n : Nat) : madeCells (Value.int .u64 0).cells (n * 1) = words (List.replicate n 0) := by
  unfold words
  apply Array.ext_getElem?
  intro i
  by_cases hi : i < n
  · simp [madeCells, hi, Value.cells, Nat.mod_one]
  · simp [madeCells, hi, Nat.not_lt.1 hi]
theorem run_make_ints (n : Nat) (hn : n ≤ 1048576) (w : World) : (Instr.makeSlice 31 (.int .i64 (n : Int)) (.int .i64 (n : Int))).run Try.prog w = .ok (.slice (some ⟨w.heap.size, 0, none⟩) n n) (w.alloc (.cells (ints (List.replicate n 0)) 3)) := by
  obtain ⟨i, hi, hz, hs, hb1⟩ := info_parts int_info
  have h := run_makeSlice (P := Try.prog) w 31 3 i (.int .i64 0) Try.underlying31 hi hz .i64 .i64 n n (by omega) (by omega) (by rw [hs]; omega) (by rw [hb1]; omega) (by omega)
  rw [hs, Int.toNat_natCast, made_ints] at h
  exact h
theorem run_make_words (n : Nat) (hn : n ≤ 1048576) (w : World) : (Instr.makeSlice 50 (.int .i64 (n : Int)) (.int .i64 (n : Int))).run Try.prog w = .ok (.slice (some ⟨w.heap.size, 0, none⟩) n n) (w.alloc (.cells (words (List.replicate n 0)) 51)) := by
  obtain ⟨i, hi, hz, hs, hb1⟩ := info_parts u64_info
  have h := run_makeSlice (P := Try.prog) w 50 51 i (.int .u64 0) Try.underlying50 hi hz .i64 .i64 n n (by omega) (by omega) (by rw [hs]; omega) (by rw [hb1]; omega) (by omega)
  rw [hs, Int.toNat_natCast, made_words] at h
  exact h

/-- 0, 1 .. -/
def upto (n : Nat) : List Int := (List.range n).map fun (i : Nat) => (i : Int)
theorem upto_len (n : Nat) : (upto n).length = n := by simp [upto]
theorem upto_at (n k : Nat) (h : k < n) : (upto n).getD k 0 = (k : Int) := by simp [upto, h]

theorem cfP_swo {m : Nat} (rs : Fin (m + 1) → Nat) : SWO (ltOf (cfP rs)) := by
  have h : ∀ x y, ltOf (cfP rs) x y = decide (rs y < rs x) := fun x y => by
    unfold ltOf cfP cmpv
    by_cases h1 : rs y < rs x
    · simp [h1]
    · by_cases h2 : rs x < rs y
      · simp [h1, h2]
      · simp [h1, h2]
  refine ⟨fun x => ?_, fun x y z => ?_, fun x y z => ?_⟩
  · rw [h]; simp
  · rw [h, h, h]; simp; omega
  · rw [h, h, h]; simp; omega
theorem places_perm {m : Nat} (rs : Fin (m + 1) → Nat) : PermIn 0 (m + 1) (Array.ofFn (fun i : Fin (m + 1) => i)) (placesOf rs) :=
  (insertionSort_holds (cfP_swo rs) _ 0 (m + 1) (Nat.zero_le _) (by simp)).1

set_option maxRecDepth 100000 in
theorem greatest_any (m N : Nat) (hN : N = m + 1) (hm : N < 20) (rs : Fin (m + 1) → Nat) (br cap : Nat) (w : World) (hbr : br < w.heap.size) (hcap : N ≤ cap)
    (hr : ∀ i : Fin (m + 1), w.cell? ⟨br, i.1, none⟩ = some (.int .u64 ((rs i : Nat) : Int))) :
    Calls Try.prog 29 #[.slice (some ⟨br, 0, none⟩) N cap] w fun e w' => e = .returned (.slice (some ⟨w.heap.size + 1, 0, none⟩) N N) ∧ Below w.heap.size w w' ∧
      ∀ i : Fin (m + 1), w'.cell? ⟨w.heap.size + 1, i.1, none⟩ = some (encP (placesOf rs)[i.1]!) := by
  have hmk := run_make_ints N (by omega)
  have hmf : ∀ (fn : Fn) (first cap : Array Value) (w : World), (Instr.makeFunc fn first cap).run Try.prog w = .ok (.func fn first cap) w := fun _ _ _ _ => rfl
  have hsort := @sortstable_any m N hN hm rs w.heap.size (w.heap.size + 1) N
  obtain ⟨M, hM⟩ : ∃ M, M = m + 1 := ⟨_, rfl⟩
  have hb0 := ((Below.refl w.heap.size w).alloc (Nat.le_refl _) (.cells #[.slice (some ⟨br, 0, none⟩) N cap] 50)).alloc (by simp) (.cells (ints (List.replicate N 0)) 3)
  have hC0 := (Blk.new w 50 #[.slice (some ⟨br, 0, none⟩) N cap]).alloc (.cells (ints (List.replicate N 0)) 3)
  have hc1 := (Blk.new w 50 #[.slice (some ⟨br, 0, none⟩) N cap]).cell 0
  have hP0 := Blk.new (w.alloc (.cells #[.slice (some ⟨br, 0, none⟩) N cap] 50)) 3 (ints (List.replicate N 0))
  rw [show (w.alloc (.cells #[.slice (some ⟨br, 0, none⟩) N cap] 50)).heap.size = w.heap.size + 1 by simp] at hP0
  have hfill : ints (List.replicate N 0) = ints (fill (upto N) 0) := by rw [fill_none, upto_len]
  rw [hfill] at hb0 hC0 hP0
  have hNm : Hid (N = m + 1) := Lib.hid hN
  clear hN hM
  go_enter Try.func29, Try.ntmps29
  go_wp2
  go_loopw [10] (fun v wr => ∃ k : Nat, v = .int .i64 (k : Int) ∧ k ≤ N ∧ Below w.heap.size w wr ∧ Blk wr w.heap.size 50 #[.slice (some ⟨br, 0, none⟩) N cap] ∧ Blk wr (w.heap.size + 1) 3 (ints (fill (upto N) k))) (fun v _ => N - (intOf v).toNat)
  case atStart => exact ⟨0, by go_num, by omega, hb0, hC0, hP0⟩
  case round =>
    obtain ⟨k, rfl, hk, hb, hC, hP⟩ := hrel
    clear hb0 hC0 hP0 hc1
    by_cases hlt : k < N
    · have hlz : (k : Int) < (N : Int) := by omega
      have hkl : k < (fill (upto N) k).length := by rw [fill_len _ k (by rw [upto_len]; omega), upto_len]; exact hlt
      have hc := hP.cell k
      rw [ints_at _ _ hkl] at hc
      have hf := hP.frozen k
      have hP' := hP.set_ k (.int .i64 (k : Int))
      rw [ints_set, fill_step (upto N) k _ (by rw [upto_len]; omega) (upto_at N k hlt)] at hP'
      have hC' := hC.kept ((Keep.refl (fun i => i = w.heap.size + 1) _).setCell (p := ⟨w.heap.size + 1, k, none⟩) (fun _ => rfl) (.int .i64 (k : Int))) (by omega)
      have hb' := hb.setCell (p := ⟨w.heap.size + 1, k, none⟩) (by simp) (.int .i64 (k : Int))
      clear hsort hmk hmf
      go_wp2
      go_roundw
      case measure => simp [intOf]; omega
      case rel => exact ⟨k + 1, by go_num, by omega, hb', hC', hP'⟩
    · have hlz : ¬ (k : Int) < (N : Int) := by omega
      have hkN : k = (upto N).length := by rw [upto_len]; omega
      rw [hkN, fill_all] at hP
      have hNo := hNm.out
      have hH : Holds encP wr (w.heap.size + 1) 0 (Array.ofFn (fun i : Fin (m + 1) => i)) := by
        intro j hj
        rw [Array.size_ofFn] at hj
        refine ⟨?_, by rw [Nat.zero_add]; exact hP.frozen j⟩
        rw [Nat.zero_add, hP.cell j, ints_at _ _ (by rw [upto_len]; omega), upto_at N j (by omega), getElem!_pos _ j (by simpa using hj)]
        simp [encP]
      have hcc : wr.cell? ⟨w.heap.size, 0, none⟩ = some (.slice (some ⟨br, 0, none⟩) N cap) := hC.cell 0
      have hlt2 := hP.lt
      have hcmp := cfP_lays m rs w.heap.size br cap (w.heap.size + 1) wr (by omega) (by omega) (by rw [← hNm.out]; exact hcc) (fun i => (hb.cell hbr).trans (hr i)) hH hlt2
      have hs := hsort wr hcmp hH hlt2
      have hR : Hid (Holds encP wr (w.heap.size + 1) 0 (Array.ofFn (fun i : Fin (m + 1) => i))) := Lib.hid hH
      clear hNo hcmp hH hsort
      go_wp2_with (go_at_call 40; refine hs.mono ?_; rintro e w2 ⟨rfl, hS⟩)
      go_ret
      have hk2 := SW.keep hS
      have hz : (placesOf rs).size = (Array.ofFn (fun i : Fin (m + 1) => i)).size := by
        exact (places_perm rs).1
      have hHs := hS.holds hlt2 hR.out hz
      refine ⟨rfl, hb.trans (hk2.below hb.size fun k hk e => by omega) , fun i => ?_⟩
      have := (hHs i.1 (by rw [hz]; simp)).1
      rwa [Nat.zero_add] at this
end Go.Proofs.Ytlookiicogbkmaa
