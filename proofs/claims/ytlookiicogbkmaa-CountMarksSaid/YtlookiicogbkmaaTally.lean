/- A tally: New, mark, Mark, Get, Most, Take. No condition. -/
import Derived.Test.YtlookiicogbkmaaSum2
namespace Go.Proofs.Ytlookiicogbkmaa
open Go.RowKit
set_option linter.unusedVariables false
set_option linter.unusedSimpArgs false

/-- A tally's cells: its marks, and its start: done or not, the lock, who waits. -/
def tcells (l : List Int) (d m : Int) : Array Value := (l.map (Value.int .i64) ++ [Value.int .u32 d, Value.int .i32 m, Value.int .u32 0]).toArray
structure TL (w : World) (g : Nat) (l : List Int) (d m : Int) : Prop where
  len : l.length = 8
  blk : Blk w g 76 (tcells l d m)
theorem TL.lt {w : World} {g : Nat} {l : List Int} {d m : Int} (h : TL w g l d m) : g < w.heap.size := h.blk.lt
theorem TL.kept {S : Nat → Prop} {w w' : World} {g : Nat} {l : List Int} {d m : Int} (h : TL w g l d m) (k : Keep S w w') (hs : ¬ S g) : TL w' g l d m := ⟨h.len, h.blk.kept k hs⟩
theorem TL.drewN {w : World} {g : Nat} {l : List Int} {d m : Int} (h : TL w g l d m) (k : Nat) : TL (w.drewN k) g l d m := ⟨h.len, h.blk.drewN k⟩
theorem TL.drew {w : World} {g : Nat} {l : List Int} {d m : Int} (h : TL w g l d m) : TL w.drew g l d m := ⟨h.len, h.blk.drew⟩
theorem TL.alloc {w : World} {g : Nat} {l : List Int} {d m : Int} (h : TL w g l d m) (o : Obj) : TL (w.alloc o) g l d m := ⟨h.len, h.blk.alloc o⟩
theorem TL.frozen {w : World} {g : Nat} {l : List Int} {d m : Int} (h : TL w g l d m) (i : Nat) : w.frozen? ⟨g, i, none⟩ = false := h.blk.frozen i
theorem TL.mark {w : World} {g : Nat} {l : List Int} {d m : Int} (h : TL w g l d m) (i : Nat) (hi : i < 8) : w.cell? ⟨g, i, none⟩ = some (.int .i64 (l.getD i 0)) := by
  have hl : i < l.length := by rw [h.len]; exact hi
  rw [h.blk.cell i, tcells, List.getElem?_toArray, List.getElem?_append_left (by simpa using hl)]
  simp [List.getD, List.getElem?_eq_getElem hl]
theorem TL.done {w : World} {g : Nat} {l : List Int} {d m : Int} (h : TL w g l d m) : w.cell? ⟨g, 8, none⟩ = some (.int .u32 d) := by
  rw [h.blk.cell 8, tcells, List.getElem?_toArray, List.getElem?_append_right (by simp [h.len])]
  simp [h.len]
theorem TL.lock {w : World} {g : Nat} {l : List Int} {d m : Int} (h : TL w g l d m) : w.cell? ⟨g, 9, none⟩ = some (.int .i32 m) := by
  rw [h.blk.cell 9, tcells, List.getElem?_toArray, List.getElem?_append_right (by simp [h.len])]
  simp [h.len]
theorem TL.set_mark {w : World} {g : Nat} {l : List Int} {d m : Int} (h : TL w g l d m) (i : Nat) (hi : i < 8) (x : Int) : TL (w.setCell ⟨g, i, none⟩ (.int .i64 x)) g (l.set i x) d m := by
  refine ⟨by simp [h.len], ?_⟩
  have hb := h.blk.set_ i (.int .i64 x)
  unfold tcells at hb ⊢
  rw [List.setIfInBounds_toArray, List.set_append_left _ _ (by simp [h.len]; exact hi), ← List.map_set] at hb
  exact hb
theorem TL.set_done {w : World} {g : Nat} {l : List Int} {d m : Int} (h : TL w g l d m) (x : Int) : TL (w.setCell ⟨g, 8, none⟩ (.int .u32 x)) g l x m := by
  refine ⟨h.len, ?_⟩
  have hb := h.blk.set_ 8 (.int .u32 x)
  unfold tcells at hb ⊢
  rw [List.setIfInBounds_toArray, List.set_append_right _ _ (by simp [h.len])] at hb
  simpa [h.len] using hb
theorem TL.set_lock {w : World} {g : Nat} {l : List Int} {d m : Int} (h : TL w g l d m) (x : Int) : TL (w.setCell ⟨g, 9, none⟩ (.int .i32 x)) g l d x := by
  refine ⟨h.len, ?_⟩
  have hb := h.blk.set_ 9 (.int .i32 x)
  unfold tcells at hb ⊢
  rw [List.setIfInBounds_toArray, List.set_append_right _ _ (by simp [h.len])] at hb
  simpa [h.len] using hb

theorem new_any (w : World) : Calls Try.prog 20 #[] w fun e w' => e = .returned (.pointer (some ⟨w.heap.size, 0, none⟩)) ∧ Below w.heap.size w w' ∧ TL w' w.heap.size (List.replicate 8 0) 0 0 := by
  go_enter Try.func20, Try.ntmps20
  go_wp2
  go_ret
  exact ⟨rfl, (Below.refl w.heap.size w).alloc (Nat.le_refl _) _, rfl, Blk.new w _ _⟩

/-- Is there such a mark? -/
def isIn (i : Int) : Bool := decide (0 ≤ i) && decide (i < 8)
theorem isIn_iff (i : Int) : isIn i = true ↔ 0 ≤ i ∧ i < 8 := by simp [isIn]
theorem isIn_not (i : Int) : isIn i = false ↔ i < 0 ∨ 8 ≤ i := by
  unfold isIn
  simp
  omega

theorem mark_nil (i : Int) (w : World) : Calls Try.prog 32 #[.pointer none, .int .i64 i] w fun e w' => e = .returned (.pointer none) ∧ w' = w := by
  go_enter Try.func32, Try.ntmps32
  go_wp2
  go_ret
  exact ⟨rfl, rfl⟩
theorem mark_in (g : Nat) (i : Int) (h0 : 0 ≤ i) (h1 : i < 8) (w : World) : Calls Try.prog 32 #[.pointer (some ⟨g, 0, none⟩), .int .i64 i] w fun e w' => e = .returned (.pointer (some ⟨g, i.toNat, none⟩)) ∧ w' = w := by
  go_enter Try.func32, Try.ntmps32
  go_wp2
  go_ret
  exact ⟨rfl, rfl⟩
theorem mark_out (g : Nat) (i : Int) (h : isIn i = false) (w : World) : Calls Try.prog 32 #[.pointer (some ⟨g, 0, none⟩), .int .i64 i] w fun e w' => e = .returned (.pointer none) ∧ w' = w := by
  rcases (isIn_not i).1 h with h | h
  · go_enter Try.func32, Try.ntmps32
    go_wp2
    go_ret
    exact ⟨rfl, rfl⟩
  · go_enter Try.func32, Try.ntmps32
    go_wp2
    go_ret
    exact ⟨rfl, rfl⟩

theorem load64 (a : Addr) (x : Int) (w : World) (h0 : w.cell? a = some (.int .i64 x)) :
    Calls Try.prog 39 #[.pointer (some a)] w fun e w' => e = .returned (.int .i64 x) ∧ w' = w := by
  have hl := run_call_load (P := Try.prog) Try.func48 (by kernel_rfl) (by kernel_rfl) (by kernel_rfl) .i64 (by kernel_rfl) h0
  go_enter Try.func39, Try.ntmps39
  go_wp2
  go_ret
  exact ⟨rfl, rfl⟩
theorem add64 (a : Addr) (x y s : Int) (w : World) (h0 : w.cell? a = some (.int .i64 x)) (hz : w.frozen? a = false) (hs : IntKind.i64.wrap (x + y) = s) :
    Calls Try.prog 33 #[.pointer (some a), .int .i64 y] w fun e w' => e = .returned (.int .i64 s) ∧ w' = w.setCell a (.int .i64 s) := by
  have hadd := run_call_add (P := Try.prog) Try.func44 (by kernel_rfl) (by kernel_rfl) (by kernel_rfl) .i64 (by kernel_rfl) (y := y) (s := s) h0 hz (by simp [go_sem, hs])
  go_enter Try.func33, Try.ntmps33
  go_wp2
  go_ret
  exact ⟨rfl, rfl⟩
theorem cas64 (a : Addr) (x y : Int) (w : World) (h0 : w.cell? a = some (.int .i64 x)) (hz : w.frozen? a = false) :
    Calls Try.prog 45 #[.pointer (some a), .int .i64 x, .int .i64 y] w fun e w' => e = .returned (.bool true) ∧ w' = w.setCell a (.int .i64 y) := by
  have hcas := run_call_cas_hit (P := Try.prog) Try.func52 (by kernel_rfl) (by kernel_rfl) (by kernel_rfl) .i64 (by kernel_rfl) (y := y) h0 hz
  go_enter Try.func45, Try.ntmps45
  go_wp2
  go_ret
  exact ⟨rfl, rfl⟩

theorem get_nil (i : Int) (w : World) : Calls Try.prog 25 #[.pointer none, .int .i64 i] w fun e w' => e = .returned (.int .i64 0) ∧ w' = w := by
  go_enter Try.func25, Try.ntmps25
  go_wp2_with (go_at_call 32; refine (mark_nil i _).mono ?_; rintro e w' ⟨rfl, rfl⟩)
  go_ret
  exact ⟨rfl, rfl⟩
theorem get_out (g : Nat) (i : Int) (h : isIn i = false) (w : World) : Calls Try.prog 25 #[.pointer (some ⟨g, 0, none⟩), .int .i64 i] w fun e w' => e = .returned (.int .i64 0) ∧ w' = w := by
  go_enter Try.func25, Try.ntmps25
  go_wp2_with (go_at_call 32; refine (mark_out g i h _).mono ?_; rintro e w' ⟨rfl, rfl⟩)
  go_ret
  exact ⟨rfl, rfl⟩
theorem get_in (g : Nat) (i : Int) (h0 : 0 ≤ i) (h1 : i < 8) (x : Int) (w : World) (hc : w.cell? ⟨g, i.toNat, none⟩ = some (.int .i64 x)) : Calls Try.prog 25 #[.pointer (some ⟨g, 0, none⟩), .int .i64 i] w fun e w' => e = .returned (.int .i64 x) ∧ w' = w := by
  go_enter Try.func25, Try.ntmps25
  go_wp2_with (first | (go_at_call 32; refine (mark_in g i h0 h1 _).mono ?_; rintro e w' ⟨rfl, rfl⟩) | (go_at_call 39; refine (load64 _ x _ hc).mono ?_; rintro e w' ⟨rfl, rfl⟩))
  go_ret
  exact ⟨rfl, rfl⟩

theorem Mark_nil (i n : Int) (w : World) : Calls Try.prog 21 #[.pointer none, .int .i64 i, .int .i64 n] w fun e w' => e = .returned (.int .i64 0) ∧ w' = w := by
  go_enter Try.func21, Try.ntmps21
  go_wp2_with (go_at_call 32; refine (mark_nil i _).mono ?_; rintro e w' ⟨rfl, rfl⟩)
  go_ret
  exact ⟨rfl, rfl⟩
theorem Mark_out (g : Nat) (i n : Int) (h : isIn i = false) (w : World) : Calls Try.prog 21 #[.pointer (some ⟨g, 0, none⟩), .int .i64 i, .int .i64 n] w fun e w' => e = .returned (.int .i64 0) ∧ w' = w := by
  go_enter Try.func21, Try.ntmps21
  go_wp2_with (go_at_call 32; refine (mark_out g i h _).mono ?_; rintro e w' ⟨rfl, rfl⟩)
  go_ret
  exact ⟨rfl, rfl⟩
theorem Mark_in (g : Nat) (i n : Int) (h0 : 0 ≤ i) (h1 : i < 8) (x s : Int) (w : World) (hc : w.cell? ⟨g, i.toNat, none⟩ = some (.int .i64 x)) (hz : w.frozen? ⟨g, i.toNat, none⟩ = false) (hs : IntKind.i64.wrap (x + n) = s) :
    Calls Try.prog 21 #[.pointer (some ⟨g, 0, none⟩), .int .i64 i, .int .i64 n] w fun e w' => e = .returned (.int .i64 s) ∧ w' = w.setCell ⟨g, i.toNat, none⟩ (.int .i64 s) := by
  go_enter Try.func21, Try.ntmps21
  go_wp2_with (first | (go_at_call 32; refine (mark_in g i h0 h1 _).mono ?_; rintro e w' ⟨rfl, rfl⟩) | (go_at_call 33; refine (add64 _ x n s _ hc hz hs).mono ?_; rintro e w' ⟨rfl, rfl⟩))
  go_ret
  exact ⟨rfl, rfl⟩
end Go.Proofs.Ytlookiicogbkmaa
