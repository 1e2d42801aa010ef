/- What a live device refuses: it is left as it was. No condition. -/
import Derived.Test.YtakgmddmlcngoaaPower
namespace Go.Proofs.Ytakgmddmlcngoaa
open Go.RowKit
set_option linter.unusedVariables false
set_option linter.unusedSimpArgs false

/-- Is i a sector of a device of n? -/
def inRange (n : Nat) (i : Int) : Bool := decide (0 ≤ i) && decide (i < (n : Int))

theorem write_none (g n c bm : Nat) (A : Option Addr) (left wr fl i : Int) (b : Value) (w : World) (h : DB w g A n c bm left wr fl) (hi : inRange n i = false) :
    Calls Try.prog 17 #[.pointer (some ⟨g, 0, none⟩), .int .i64 i, b] w fun e w' => e = .returned (.int .i64 1) ∧ w = w' := by
  obtain ⟨h0, h1, h2, h3, h4⟩ := h.cells
  have hi' : (decide (0 ≤ i) && decide (i < (n : Int))) = false := hi
  go_enter Try.func17, Try.ntmps17
  go_wp2_with (go_at_call 49; refine (has_any g n c bm A left wr fl i _ h).mono ?_; rw [hi']; rintro e w' ⟨rfl, rfl⟩)
  go_ret
  exact ⟨rfl, rfl⟩

theorem write_len (g n c bm : Nat) (A B : Option Addr) (l lc : Nat) (left wr fl i : Int) (w : World) (h : DB w g A n c bm left wr fl) (hi : inRange n i = true) (hl : l ≠ 64) :
    Calls Try.prog 17 #[.pointer (some ⟨g, 0, none⟩), .int .i64 i, .slice B l lc] w fun e w' => e = .returned (.int .i64 1) ∧ w = w' := by
  obtain ⟨h0, h1, h2, h3, h4⟩ := h.cells
  have hi' : (decide (0 ≤ i) && decide (i < (n : Int))) = true := hi
  go_enter Try.func17, Try.ntmps17
  go_wp2_with (go_at_call 49; refine (has_any g n c bm A left wr fl i _ h).mono ?_; rw [hi']; rintro e w' ⟨rfl, rfl⟩)
  go_ret
  exact ⟨rfl, rfl⟩

theorem write_off (g n c bm : Nat) (A B : Option Addr) (lc : Nat) (wr fl i : Int) (w : World) (h : DB w g A n c bm 0 wr fl) (hi : inRange n i = true) :
    Calls Try.prog 17 #[.pointer (some ⟨g, 0, none⟩), .int .i64 i, .slice B 64 lc] w fun e w' => e = .returned (.int .i64 30) ∧ w = w' := by
  obtain ⟨h0, h1, h2, h3, h4⟩ := h.cells
  have hi' : (decide (0 ≤ i) && decide (i < (n : Int))) = true := hi
  go_enter Try.func17, Try.ntmps17
  go_wp2_with (first | (go_at_call 49; refine (has_any g n c bm A 0 wr fl i _ h).mono ?_; rw [hi']; rintro e w' ⟨rfl, rfl⟩) | (go_at_call 30; refine (off_any g n c bm A 0 wr fl _ h).mono ?_; rintro e w' ⟨rfl, rfl⟩))
  go_ret
  exact ⟨rfl, rfl⟩

theorem read_none (g n c bm : Nat) (A : Option Addr) (left wr fl i : Int) (w : World) (h : DB w g A n c bm left wr fl) (hi : inRange n i = false) :
    Calls Try.prog 26 #[.pointer (some ⟨g, 0, none⟩), .int .i64 i] w fun e w' => e = .returned (.tuple #[.slice none 0 0, .int .i64 1]) ∧ w = w' := by
  obtain ⟨h0, h1, h2, h3, h4⟩ := h.cells
  have hi' : (decide (0 ≤ i) && decide (i < (n : Int))) = false := hi
  go_enter Try.func26, Try.ntmps26
  go_wp2_with (go_at_call 49; refine (has_any g n c bm A left wr fl i _ h).mono ?_; rw [hi']; rintro e w' ⟨rfl, rfl⟩)
  go_ret2
  exact ⟨rfl, rfl⟩

theorem read_off (g n c bm : Nat) (A : Option Addr) (wr fl i : Int) (w : World) (h : DB w g A n c bm 0 wr fl) (hi : inRange n i = true) :
    Calls Try.prog 26 #[.pointer (some ⟨g, 0, none⟩), .int .i64 i] w fun e w' => e = .returned (.tuple #[.slice none 0 0, .int .i64 30]) ∧ w = w' := by
  obtain ⟨h0, h1, h2, h3, h4⟩ := h.cells
  have hi' : (decide (0 ≤ i) && decide (i < (n : Int))) = true := hi
  go_enter Try.func26, Try.ntmps26
  go_wp2_with (first | (go_at_call 49; refine (has_any g n c bm A 0 wr fl i _ h).mono ?_; rw [hi']; rintro e w' ⟨rfl, rfl⟩) | (go_at_call 30; refine (off_any g n c bm A 0 wr fl _ h).mono ?_; rintro e w' ⟨rfl, rfl⟩))
  go_ret2
  exact ⟨rfl, rfl⟩

theorem flush_off (g n c bm : Nat) (A : Option Addr) (wr fl : Int) (w : World) (h : DB w g A n c bm 0 wr fl) :
    Calls Try.prog 20 #[.pointer (some ⟨g, 0, none⟩)] w fun e w' => e = .returned (.int .i64 30) ∧ w = w' := by
  obtain ⟨h0, h1, h2, h3, h4⟩ := h.cells
  go_enter Try.func20, Try.ntmps20
  go_wp2_with (go_at_call 30; refine (off_any g n c bm A 0 wr fl _ h).mono ?_; rintro e w' ⟨rfl, rfl⟩)
  go_ret
  exact ⟨rfl, rfl⟩

theorem crash_bad (g : Nat) (k : Value) (t b : Int) (w : World) (hb : b < 0 ∨ 64 < b) :
    Calls Try.prog 22 #[.pointer (some ⟨g, 0, none⟩), k, .int .i64 t, .int .i64 b] w fun e w' => e = .returned (.int .i64 1) ∧ w = w' := by
  by_cases h1 : b < 0
  · go_enter Try.func22, Try.ntmps22
    go_wp2
    go_ret
    exact ⟨rfl, rfl⟩
  · have h2 : 64 < b := by omega
    clear hb
    go_enter Try.func22, Try.ntmps22
    go_wp2
    go_ret
    exact ⟨rfl, rfl⟩
end Go.Proofs.Ytakgmddmlcngoaa
