/- A device's counters: what Add and Load do; Counts, spend; Off behind it. No condition. -/
import Derived.Test.YtakgmddmlcngoaaDev
import Derived.Deep.QuietTactic
import Derived.Deep.RegionWith
namespace Go.Proofs.Ytakgmddmlcngoaa
open Go.RowKit
set_option linter.unusedVariables false
set_option linter.unusedSimpArgs false

theorem load64 (a : Addr) (x : Int) (w : World) (h0 : w.cell? a = some (.int .i64 x)) :
    Calls Try.prog 56 #[.pointer (some a)] w fun e w' => e = .returned (.int .i64 x) ∧ w' = w := by
  have hl := run_call_load (P := Try.prog) Try.func81 (by kernel_rfl) (by kernel_rfl) (by kernel_rfl) .i64 (by kernel_rfl) h0
  go_enter Try.func56, Try.ntmps56
  go_wp2
  go_ret
  exact ⟨rfl, rfl⟩

theorem add64 (a : Addr) (x s : Int) (w : World) (h0 : w.cell? a = some (.int .i64 x)) (hz : w.frozen? a = false) (hs : IntKind.i64.wrap (x + 1) = s) :
    Calls Try.prog 77 #[.pointer (some a), .int .i64 1] w fun e w' => e = .returned (.int .i64 s) ∧ w' = w.setCell a (.int .i64 s) := by
  have hadd := run_call_add (P := Try.prog) Try.func91 (by kernel_rfl) (by kernel_rfl) (by kernel_rfl) .i64 (by kernel_rfl) (y := 1) (s := s) h0 hz (by simp [go_sem, hs])
  go_enter Try.func77, Try.ntmps77
  go_wp2
  go_ret
  exact ⟨rfl, rfl⟩

set_option maxRecDepth 100000 in
theorem counts_any (g n c bm : Nat) (A : Option Addr) (left wr fl : Int) (w : World) (h : DB w g A n c bm left wr fl) :
    Calls Try.prog 29 #[.pointer (some ⟨g, 0, none⟩)] w fun e w' => e = .returned (.tuple #[.int .i64 wr, .int .i64 fl]) ∧ ∃ m, w' = w.drewN m := by
  obtain ⟨h0, h1, h2, h3, h4⟩ := h.cells
  go_enter Try.func29, Try.ntmps29
  go_wp2_with fail
  go_quiet (first | (go_at_call_of 56 (Value.pointer (some ⟨g, 3, none⟩)); exact Calls.quiet_of_same (load64 ⟨g, 3, none⟩ wr _ (by rw [World.cell?_drewN]; exact h3))) | (go_at_call_of 56 (Value.pointer (some ⟨g, 4, none⟩)); exact Calls.quiet_of_same (load64 ⟨g, 4, none⟩ fl _ (by rw [World.cell?_drewN]; exact h4))))
  go_wp2
  go_ret2
  exact ⟨rfl, _, rfl⟩

/-- Behind a call that was done: one fewer is left, where a Stop holds. -/
def spent (left : Int) : Int := if 0 < left then wrap64 (left - 1) else left

theorem spend_wr (g n c bm : Nat) (A : Option Addr) (left wr fl s : Int) (w : World) (h : DB w g A n c bm left wr fl) (hs : IntKind.i64.wrap (wr + 1) = s) :
    Calls Try.prog 50 #[.pointer (some ⟨g, 0, none⟩), .pointer (some ⟨g, 3, none⟩)] w fun e w' => e = .returned (.tuple #[]) ∧ Keep (fun i => i = g) w w' ∧ DB w' g A n c bm (spent left) s fl := by
  obtain ⟨h0, h1, h2, h3, h4⟩ := h.cells
  have f3 : w.frozen? ⟨g, 3, none⟩ = false := Blk.frozen h 3
  have hd := h.set_wr s
  have hk := (Keep.refl (fun i => i = g) w).setCell (p := ⟨g, 3, none⟩) (fun _ => rfl) (.int .i64 s)
  obtain ⟨i0, i1, i2, i3, i4⟩ := hd.cells
  have e2 : (w.setCell ⟨g, 3, none⟩ (.int .i64 s)).frozen? ⟨g, 2, none⟩ = false := Blk.frozen hd 2
  by_cases hl : 0 < left
  · go_enter Try.func50, Try.ntmps50
    go_wp2_with (go_at_call 77; refine (add64 ⟨g, 3, none⟩ wr s _ h3 f3 hs).mono ?_; rintro e w' ⟨rfl, rfl⟩)
    go_end0
    exact ⟨rfl, hk.setCell (p := ⟨g, 2, none⟩) (fun _ => rfl) _, by rw [spent, if_pos hl]; exact hd.set_left _⟩
  · go_enter Try.func50, Try.ntmps50
    go_wp2_with (go_at_call 77; refine (add64 ⟨g, 3, none⟩ wr s _ h3 f3 hs).mono ?_; rintro e w' ⟨rfl, rfl⟩)
    go_end0
    exact ⟨rfl, hk, by rw [spent, if_neg (by omega)]; exact hd⟩

theorem spend_fl (g n c bm : Nat) (A : Option Addr) (left wr fl s : Int) (w : World) (h : DB w g A n c bm left wr fl) (hs : IntKind.i64.wrap (fl + 1) = s) :
    Calls Try.prog 50 #[.pointer (some ⟨g, 0, none⟩), .pointer (some ⟨g, 4, none⟩)] w fun e w' => e = .returned (.tuple #[]) ∧ Keep (fun i => i = g) w w' ∧ DB w' g A n c bm (spent left) wr s := by
  obtain ⟨h0, h1, h2, h3, h4⟩ := h.cells
  have f4 : w.frozen? ⟨g, 4, none⟩ = false := Blk.frozen h 4
  have hd := h.set_fl s
  have hk := (Keep.refl (fun i => i = g) w).setCell (p := ⟨g, 4, none⟩) (fun _ => rfl) (.int .i64 s)
  obtain ⟨i0, i1, i2, i3, i4⟩ := hd.cells
  have e2 : (w.setCell ⟨g, 4, none⟩ (.int .i64 s)).frozen? ⟨g, 2, none⟩ = false := Blk.frozen hd 2
  by_cases hl : 0 < left
  · go_enter Try.func50, Try.ntmps50
    go_wp2_with (go_at_call 77; refine (add64 ⟨g, 4, none⟩ fl s _ h4 f4 hs).mono ?_; rintro e w' ⟨rfl, rfl⟩)
    go_end0
    exact ⟨rfl, hk.setCell (p := ⟨g, 2, none⟩) (fun _ => rfl) _, by rw [spent, if_pos hl]; exact hd.set_left _⟩
  · go_enter Try.func50, Try.ntmps50
    go_wp2_with (go_at_call 77; refine (add64 ⟨g, 4, none⟩ fl s _ h4 f4 hs).mono ?_; rintro e w' ⟨rfl, rfl⟩)
    go_end0
    exact ⟨rfl, hk, by rw [spent, if_neg (by omega)]; exact hd⟩
end Go.Proofs.Ytakgmddmlcngoaa
