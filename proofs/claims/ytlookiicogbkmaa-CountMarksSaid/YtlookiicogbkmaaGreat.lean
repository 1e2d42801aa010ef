/- greatestFirst over fewer than 20 rests: places, sorted by insertion. -/
import Derived.Test.YtlookiicogbkmaaPortion
namespace Go.Proofs.Ytlookiicogbkmaa
open Go.RowKit Go.Sort Go.Lib Go.Shelf
set_option linter.unusedVariables false
set_option linter.unusedSimpArgs false

theorem SW.keep {α : Type} [Inhabited α] {enc : α → Value} {w0 W : World} {blk off : Nat} {dk : Array α} (h : SW enc w0 blk off dk W) : Keep (fun k => k = blk) w0 W := by
  obtain ⟨n, os, rfl⟩ := h
  unfold sortWorld
  refine ⟨rfl, rfl, rfl, ?_, fun k hk hn => ?_⟩
  · rw [size_grow, Sort.size_putRow]
    show w0.heap.size ≤ w0.heap.size + _
    omega
  · show ((w0.heap.modify blk _) ++ os)[k]? = _
    rw [Array.getElem?_append_left (by simpa using hk), Array.getElem?_modify, if_neg (fun e => hn e.symm)]

/-- The place i as a cell. -/
def encP {m : Nat} (i : Fin (m + 1)) : Value := .int .i64 ((i.1 : Nat) : Int)
theorem encP_one (m : Nat) : OneCell (encP (m := m)) := fun _ => rfl
/-- Which of two places comes first: the one with the greater rest. -/
def cfP {m : Nat} (rs : Fin (m + 1) → Nat) (x y : Fin (m + 1)) : Int := cmpv (rs y) (rs x)

theorem cfP_lays (m : Nat) (rs : Fin (m + 1) → Nat) (c br cap blk : Nat) (w : World) (hcb : c ≠ blk) (hbb : br ≠ blk) (hc : w.cell? ⟨c, 0, none⟩ = some (.slice (some ⟨br, 0, none⟩) (m + 1) cap))
    (hr : ∀ i : Fin (m + 1), w.cell? ⟨br, i.1, none⟩ = some (.int .u64 ((rs i : Nat) : Int))) (hH : Holds encP w blk 0 (Array.ofFn (fun i : Fin (m + 1) => i))) (hblk : blk < w.heap.size) :
    CmpLays1 Try.prog 41 #[.pointer (some ⟨c, 0, none⟩)] encP (cfP rs) blk 0 (m + 1) w := by
  intro n os dk hs x y
  have hS : SW encP w blk 0 dk (sortWorld encP w blk 0 n dk os) := ⟨n, os, rfl⟩
  have hk := SW.keep hS
  refine (greatest_asks c br 0 (m + 1) cap x.1 y.1 (rs x) (rs y) x.2 y.2 _ (hk.cell hc hcb) (by rw [Nat.zero_add]; exact hk.cell (hr x) hbb) (by rw [Nat.zero_add]; exact hk.cell (hr y) hbb)).mono ?_
  rintro e w' ⟨rfl, q, rfl⟩
  exact ⟨rfl, q, #[], by rw [grow_empty]⟩

/-- The places, sorted. -/
def placesOf {m : Nat} (rs : Fin (m + 1) → Nat) : Array (Fin (m + 1)) := Sort.insertionSort (ltOf (cfP rs)) (Array.ofFn (fun i : Fin (m + 1) => i)) 0 (m + 1)

set_option maxRecDepth 100000 in
theorem stable_any (m N : Nat) (hN : N = m + 1) (hm : N < 20) (rs : Fin (m + 1) → Nat) (c blk cap : Nat) (w0 : World) (hcmp : CmpLays1 Try.prog 41 #[.pointer (some ⟨c, 0, none⟩)] encP (cfP rs) blk 0 (m + 1) w0)
    (hH : Holds encP w0 blk 0 (Array.ofFn (fun i : Fin (m + 1) => i))) (hblk : blk < w0.heap.size) :
    Calls Try.prog 49 #[.slice (some ⟨blk, 0, none⟩) N cap, .int .i64 (N : Int), .func (.func 41) #[] #[.pointer (some ⟨c, 0, none⟩)]] w0 fun e w' =>
      e = .returned (.tuple #[]) ∧ SW encP w0 blk 0 (placesOf rs) w' := by
  have h1 : ¬ (20 : Int) ≤ (N : Int) := by omega
  have h2 : ¬ (20 : Int) < (N : Int) := by omega
  have eg : ∀ args w, (callFunc 41 args).run Try.prog w = .ok (.enter 41 args) w := fun args w => by simp [go_sem]
  have hi : Calls Try.prog 57 #[.slice (some ⟨blk, 0, none⟩) N cap, .int .i64 0, .int .i64 (N : Int), .func (.func 41) #[] #[.pointer (some ⟨c, 0, none⟩)]] w0 fun e w' => e = .returned (.tuple #[]) ∧ SW encP w0 blk 0 (placesOf rs) w' := by
    subst hN
    have hi := Try.insertionSortCmpFunc_s encP (cfP rs) 41 #[.pointer (some ⟨c, 0, none⟩)] blk 0 cap 0 (m + 1) (Array.ofFn (fun i : Fin (m + 1) => i)) (Array.ofFn (fun i : Fin (m + 1) => i)) w0 w0 eg (by simpa using hcmp) ⟨encP_one m, hH, hblk⟩ rfl (SW.start hH) (Nat.zero_le _) (by simp) (by simp; omega)
    rw [Array.size_ofFn] at hi
    exact hi
  clear hcmp hH eg hN
  go_enter Try.func49, Try.ntmps49
  go_wp2
  go_loopw [7, 8] (fun av bv wr => wr = w0 ∧ av = .int .i64 0 ∧ bv = .int .i64 20) (fun _ _ _ => 0)
  case atStart => exact ⟨rfl, by go_num, by go_num⟩
  case round =>
    obtain ⟨rfl, rfl, rfl⟩ := hrel
    go_wp2_with (go_at_call 57; refine hi.mono ?_; rintro e w2 ⟨rfl, hS⟩)
    go_loopw [6, 7, 8] (fun sv av bv wr2 => wr2 = w2 ∧ sv = .int .i64 20 ∧ av = .int .i64 0 ∧ bv = .int .i64 20) (fun _ _ _ _ => 0)
    case atStart => exact ⟨rfl, by go_num, by go_num, by go_num⟩
    case round =>
      obtain ⟨rfl, rfl, rfl, rfl⟩ := hrel
      go_wp2
      go_end0
      exact ⟨rfl, hS⟩

set_option maxRecDepth 100000 in
theorem sortstable_any (m N : Nat) (hN : N = m + 1) (hm : N < 20) (rs : Fin (m + 1) → Nat) (c blk cap : Nat) (w0 : World) (hcmp : CmpLays1 Try.prog 41 #[.pointer (some ⟨c, 0, none⟩)] encP (cfP rs) blk 0 (m + 1) w0)
    (hH : Holds encP w0 blk 0 (Array.ofFn (fun i : Fin (m + 1) => i))) (hblk : blk < w0.heap.size) :
    Calls Try.prog 40 #[.slice (some ⟨blk, 0, none⟩) N cap, .func (.func 41) #[] #[.pointer (some ⟨c, 0, none⟩)]] w0 fun e w' =>
      e = .returned (.tuple #[]) ∧ SW encP w0 blk 0 (placesOf rs) w' := by
  have hs := stable_any m N hN hm rs c blk cap w0 hcmp hH hblk
  clear hcmp hH hN
  go_enter Try.func40, Try.ntmps40
  go_wp2_with (go_at_call 49; refine hs.mono ?_; rintro e w2 ⟨rfl, hS⟩)
  go_end0
  exact ⟨rfl, hS⟩
end Go.Proofs.Ytlookiicogbkmaa
