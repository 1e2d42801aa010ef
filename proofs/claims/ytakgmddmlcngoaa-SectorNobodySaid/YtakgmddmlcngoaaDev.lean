/- A device: what stands in memory; the calls on a nil one. No condition. -/
import Derived.Test.YtakgmddmlcngoaaBase
import Derived.Laws.OwnMore
import Derived.Maps.OwnSet
namespace Go.Proofs.Ytakgmddmlcngoaa
open Go.RowKit
set_option linter.unusedVariables false
set_option linter.unusedSimpArgs false

/-! Of a nil device. -/
theorem stop_nil (n : Value) (w : World) : Calls Try.prog 24 #[.pointer none, n] w fun e w' => e = .returned (.tuple #[]) ∧ w = w' := by
  go_enter Try.func24, Try.ntmps24
  go_wp2
  go_end0
  exact ⟨rfl, rfl⟩
theorem off_nil (w : World) : Calls Try.prog 30 #[.pointer none] w fun e w' => e = .returned (.bool true) ∧ w = w' := by
  go_enter Try.func30, Try.ntmps30
  go_wp2
  go_ret
  exact ⟨rfl, rfl⟩
theorem len_nil (w : World) : Calls Try.prog 15 #[.pointer none] w fun e w' => e = .returned (.int .i64 0) ∧ w = w' := by
  go_enter Try.func15, Try.ntmps15
  go_wp2
  go_ret
  exact ⟨rfl, rfl⟩
theorem counts_nil (w : World) : Calls Try.prog 29 #[.pointer none] w fun e w' => e = .returned (.tuple #[.int .i64 0, .int .i64 0]) ∧ w = w' := by
  go_enter Try.func29, Try.ntmps29
  go_wp2
  go_ret2
  exact ⟨rfl, rfl⟩
theorem read_nil (i : Int) (w : World) : Calls Try.prog 26 #[.pointer none, .int .i64 i] w fun e w' => e = .returned (.tuple #[.slice none 0 0, .int .i64 6]) ∧ w = w' := by
  go_enter Try.func26, Try.ntmps26
  go_wp2
  go_ret2
  exact ⟨rfl, rfl⟩
theorem write_nil (i : Int) (b : Value) (w : World) : Calls Try.prog 17 #[.pointer none, .int .i64 i, b] w fun e w' => e = .returned (.int .i64 6) ∧ w = w' := by
  go_enter Try.func17, Try.ntmps17
  go_wp2
  go_ret
  exact ⟨rfl, rfl⟩
theorem flush_nil (w : World) : Calls Try.prog 20 #[.pointer none] w fun e w' => e = .returned (.int .i64 6) ∧ w = w' := by
  go_enter Try.func20, Try.ntmps20
  go_wp2
  go_ret
  exact ⟨rfl, rfl⟩
theorem crash_nil (k : Value) (t b : Int) (w : World) : Calls Try.prog 22 #[.pointer none, k, .int .i64 t, .int .i64 b] w fun e w' => e = .returned (.int .i64 6) ∧ w = w' := by
  go_enter Try.func22, Try.ntmps22
  go_wp2
  go_ret
  exact ⟨rfl, rfl⟩
theorem new_bad (n : Int) (w : World) (h : n < 1 ∨ 16384 < n) : Calls Try.prog 13 #[.int .i64 n] w fun e w' => e = .returned (.tuple #[.pointer none, .int .i64 1]) ∧ w = w' := by
  by_cases h1 : n < 1
  · go_enter Try.func13, Try.ntmps13
    go_wp2
    go_ret2
    exact ⟨rfl, rfl⟩
  · have h2 : 16384 < n := by omega
    clear h
    go_enter Try.func13, Try.ntmps13
    go_wp2
    go_ret2
    exact ⟨rfl, rfl⟩

theorem block_info : (Try.prog.info? 92).map (fun i => (i.zero, i.size, i.bytes)) = some (some (.agg (Array.replicate 64 (.int .u8 0))), 64, 64) := by kernel_rfl
/-- The value v owns a row of sectors of 64 bytes. -/
def SB (base : Nat) (w : World) (v : Value) (bs : List (List UInt8)) : Prop :=
  (∀ b ∈ bs, b.length = 64) ∧ w.ownsRow base 92 64 v bs.length (bs.flatten.map bv)
def zero64 : List UInt8 := List.replicate 64 0
theorem zeros_row (n : Nat) : (madeCells (Array.replicate 64 (.int .u8 0) : Array Value) (n * 64)).toList = ((List.replicate n zero64).flatten).map bv := by
  have h1 : (List.replicate n zero64).flatten = List.replicate (n * 64) (0 : UInt8) := by
    induction n with
    | zero => rfl
    | succ n ih => rw [List.replicate_succ, List.flatten_cons, ih, zero64, List.replicate_append_replicate, show 64 + n * 64 = (n + 1) * 64 by omega]
  rw [h1, List.map_replicate]
  apply List.ext_getElem?
  intro i
  by_cases hi : i < n * 64
  · have hm : i % 64 < 64 := Nat.mod_lt _ (by decide)
    simp [madeCells, hi, bv, hm]
  · simp [madeCells, hi, Nat.not_lt.1 hi]
theorem run_make_blocks (w : World) (base n : Nat) (hb : base ≤ w.heap.size) (hn : n ≤ 16384) :
    ∃ w', (Instr.makeSlice 78 (.int .i64 (n : Int)) (.int .i64 (n : Int))).run Try.prog w = .ok (.slice (some ⟨w.heap.size, 0, none⟩) n n) w' ∧ SB base w' (.slice (some ⟨w.heap.size, 0, none⟩) n n) (List.replicate n zero64) ∧ Keep (fun _ => False) w w' := by
  obtain ⟨i, hi, hz, hs, hb1⟩ := info_parts block_info
  obtain ⟨w', h1, h2, h3⟩ := run_make_full (P := Try.prog) w base 78 92 i (.agg (Array.replicate 64 (.int .u8 0))) 64 Try.underlying78 hi hz hs .i64 .i64 n (by rw [hb1]; omega) (by simp only [maxLen]; omega) hb
  refine ⟨w', h1, ⟨fun b hb => by rw [List.eq_of_mem_replicate hb]; rfl, ?_⟩, (Keep.of_grown h3).mono fun k _ h => by cases h⟩
  have e := zeros_row n
  rw [← e, List.length_replicate]
  exact h2
--NEW
set_option maxRecDepth 100000 in
theorem new_ok (n : Nat) (w : World) (h1 : 1 ≤ n) (h2 : n ≤ 16384) : Calls Try.prog 13 #[.int .i64 (n : Int)] w fun e w' => ∃ g bm gs, e = .returned (.tuple #[.pointer (some ⟨g, 0, none⟩), .int .i64 0]) ∧ w.heap.size ≤ g ∧ w.heap.size ≤ bm ∧ bm ≠ g ∧ w.heap.size ≤ gs ∧ gs ≠ g ∧
    SB w.heap.size w' (.slice (some ⟨gs, 0, none⟩) n n) (List.replicate n zero64) ∧ w'.heap[bm]? = some (.map #[] 0) ∧ Blk w' g 86 #[.slice (some ⟨gs, 0, none⟩) n n, .map (some bm), .int .i64 (-1), .int .i64 0, .int .i64 0] ∧ Keep (fun _ => False) w w' := by
  obtain ⟨w2, hmk, hsb, hk⟩ := run_make_blocks w w.heap.size n (Nat.le_refl _) h2
  have hmm := @run_makeMap Try.prog
  have hz := hk.size
  go_enter Try.func13, Try.ntmps13
  go_wp2_with fail
  --END
  go_ret2
  refine ⟨w2.heap.size + 1, w2.heap.size, w.heap.size, rfl, by omega, by omega, by omega, Nat.le_refl _, by omega, ?_, ?_, ?_, (hk.alloc _).alloc _⟩
  · exact ⟨hsb.1, (hsb.2.alloc _).alloc _⟩
  · exact (Below.heap_alloc _ _ _ (by simp)).trans (heap_alloc_new w2 _)
  · have := Blk.new (w2.alloc (.map #[] 0)) 86 #[.slice (some ⟨w.heap.size, 0, none⟩) n n, .map (some w2.heap.size), .int .i64 (-1), .int .i64 0, .int .i64 0]
    simpa using this

/-! Of a device: its cells. -/
/-- Block g is a device with these cells. -/
def DB (w : World) (g : Nat) (A : Option Addr) (n c bm : Nat) (left wr fl : Int) : Prop := Blk w g 86 #[.slice A n c, .map (some bm), .int .i64 left, .int .i64 wr, .int .i64 fl]
section
variable {w w' : World} {g n c bm : Nat} {A : Option Addr} {left wr fl : Int}
theorem DB.cells (h : DB w g A n c bm left wr fl) : w.cell? ⟨g, 0, none⟩ = some (.slice A n c) ∧ w.cell? ⟨g, 1, none⟩ = some (.map (some bm)) ∧ w.cell? ⟨g, 2, none⟩ = some (.int .i64 left) ∧ w.cell? ⟨g, 3, none⟩ = some (.int .i64 wr) ∧ w.cell? ⟨g, 4, none⟩ = some (.int .i64 fl) :=
  ⟨Blk.cell h 0, Blk.cell h 1, Blk.cell h 2, Blk.cell h 3, Blk.cell h 4⟩
theorem DB.kept {S : Nat → Prop} (h : DB w g A n c bm left wr fl) (k : Keep S w w') (hg : ¬ S g) : DB w' g A n c bm left wr fl := Blk.kept h k hg
theorem DB.set_left (h : DB w g A n c bm left wr fl) (x : Int) : DB (w.setCell ⟨g, 2, none⟩ (.int .i64 x)) g A n c bm x wr fl := Blk.set_ h 2 _
theorem DB.set_wr (h : DB w g A n c bm left wr fl) (x : Int) : DB (w.setCell ⟨g, 3, none⟩ (.int .i64 x)) g A n c bm left x fl := Blk.set_ h 3 _
theorem DB.set_fl (h : DB w g A n c bm left wr fl) (x : Int) : DB (w.setCell ⟨g, 4, none⟩ (.int .i64 x)) g A n c bm left wr x := Blk.set_ h 4 _
end
theorem stop_any (g n c bm : Nat) (A : Option Addr) (left wr fl k : Int) (w : World) (h : DB w g A n c bm left wr fl) :
    Calls Try.prog 24 #[.pointer (some ⟨g, 0, none⟩), .int .i64 k] w fun e w' => e = .returned (.tuple #[]) ∧ Keep (fun i => i = g) w w' ∧ DB w' g A n c bm k wr fl := by
  obtain ⟨h0, h1, h2, h3, h4⟩ := h.cells
  have f2 := Blk.frozen h 2
  go_enter Try.func24, Try.ntmps24
  go_wp2
  go_end0
  exact ⟨rfl, (Keep.refl (fun i => i = g) w).setCell (p := ⟨g, 2, none⟩) (fun _ => rfl) _, h.set_left k⟩
theorem off_any (g n c bm : Nat) (A : Option Addr) (left wr fl : Int) (w : World) (h : DB w g A n c bm left wr fl) :
    Calls Try.prog 30 #[.pointer (some ⟨g, 0, none⟩)] w fun e w' => e = .returned (.bool (left == 0)) ∧ w = w' := by
  obtain ⟨h0, h1, h2, h3, h4⟩ := h.cells
  go_enter Try.func30, Try.ntmps30
  go_wp2
  go_ret
  exact ⟨by simp, rfl⟩
theorem len_any (g n c bm : Nat) (A : Option Addr) (left wr fl : Int) (w : World) (h : DB w g A n c bm left wr fl) :
    Calls Try.prog 15 #[.pointer (some ⟨g, 0, none⟩)] w fun e w' => e = .returned (.int .i64 (n : Int)) ∧ w = w' := by
  obtain ⟨h0, h1, h2, h3, h4⟩ := h.cells
  go_enter Try.func15, Try.ntmps15
  go_wp2
  go_ret
  exact ⟨rfl, rfl⟩
--HAS
theorem has_any (g n c bm : Nat) (A : Option Addr) (left wr fl i : Int) (w : World) (h : DB w g A n c bm left wr fl) :
    Calls Try.prog 49 #[.pointer (some ⟨g, 0, none⟩), .int .i64 i] w fun e w' => e = .returned (.bool (decide (0 ≤ i) && decide (i < (n : Int)))) ∧ w = w' := by
  obtain ⟨h0, h1, h2, h3, h4⟩ := h.cells
  by_cases hi : 0 ≤ i
  · go_enter Try.func49, Try.ntmps49
    go_wp2
    go_ret
    exact ⟨by simp [hi], rfl⟩
  · go_enter Try.func49, Try.ntmps49
    go_wp2
    go_ret
    exact ⟨by simp; omega, rfl⟩
end Go.Proofs.Ytakgmddmlcngoaa
