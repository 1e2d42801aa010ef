/- sync.Once's roads at a table, and the contracts of ready. No condition. -/
import Derived.Test.YtianehamjjnhoaaReckon
namespace Go.Proofs.Ytianehamjjnhoaa
open Go.RowKit
set_option linter.unusedVariables false

theorem TB.keep_lock {w w0 : World} {g : Nat} {m' : Int} (h : Keep (fun k => k = g) w0 w) : Keep (fun k => k = g) w0 (w.setCell ⟨g, 1, none⟩ (.int .i32 m')) := h.setCell (fun _ => rfl) _

theorem load_zero (a : Addr) (w : World) (h0 : w.cell? a = some (.int .u32 0)) :
    Calls Try.prog 39 #[.pointer (some a)] w fun e w' => e = .returned (.bool false) ∧ w' = w := by
  have hl := run_call_load (P := Try.prog) Try.func42 (by kernel_rfl) (by kernel_rfl) (by kernel_rfl) .u32 (by kernel_rfl) h0
  go_enter Try.func39, Try.ntmps39
  go_wp2
  go_ret
  exact ⟨rfl, rfl⟩

set_option maxRecDepth 100000 in
set_option maxHeartbeats 1600000 in
theorem slow_any (g : Nat) (f : Nat → Nat) (w : World) (ht : TB w g 0 0 f) :
    Calls Try.prog 40 #[.pointer (some ⟨g, 0, none⟩), .func (.func 36) #[.pointer (some ⟨g, 0, none⟩)] #[]] w fun e w' => e = .returned (.tuple #[]) ∧ Keep (fun k => k = g) w w' ∧ TB w' g 1 0 (upTo 256 f) := by
  have ht1 := ht.set_lock 1
  have hk1 := (Keep.refl (fun k => k = g) w).setCell (p := ⟨g, 1, none⟩) (fun _ => rfl) (.int .i32 1)
  have hl := run_call_load (P := Try.prog) Try.func42 (by kernel_rfl) (by kernel_rfl) (by kernel_rfl) .u32 (by kernel_rfl) (w := w.setCell ⟨g, 1, none⟩ (.int .i32 1)) (a := ⟨g, 0, none⟩) (x := 0) ht1.done
  have hnot : ∀ (x : Bool) (w : World), (Op.unary .not (.bool x)).run Try.prog w = .ok (.bool (!x)) w := fun _ _ => rfl
  go_enter_defers Try.func40, Try.ntmps40
  go_wp2_with (go_at_call 43; refine (lock_free ⟨g, 1, none⟩ _ ht.lock (ht.frozen 1)).mono ?_; rintro e w' ⟨rfl, rfl⟩)
  go_wp2_with (first | (go_at_call 39; refine (load_zero ⟨g, 0, none⟩ _ ht1.done).mono ?_; rintro e w' ⟨rfl, rfl⟩) | (go_at_call 36; refine (reckon_any g 0 1 f _ ht1).mono ?_; rintro e w2 ⟨rfl, hk2, ht2⟩))
  refine leaves_cons (f := 45) (args := #[.pointer (some ⟨g, 0, none⟩), .bool true]) (by simp) (by simp [go_sem]) ?_
  refine (store_deferred ⟨g, 0, none⟩ (.int .u32 0) .returning _ ht2.done (ht2.frozen 0)).mono ?_
  rintro e u' w'' ⟨rfl, rfl, rfl⟩
  have ht3 := ht2.drew.set_done 1
  refine leaves_cons (f := 44) (args := #[.pointer (some ⟨g, 1, none⟩)]) (by simp [settle]) (by simp [go_sem]) ?_
  refine (unlock_deferred ⟨g, 1, none⟩ _ _ ht3.lock (ht3.frozen 1)).mono ?_
  rintro e u' w'' ⟨rfl, rfl, rfl⟩
  have ht4 := ht3.set_lock 0
  have hk4 := ((hk1.trans hk2 (fun _ _ h => h)).drew.setCell (p := ⟨g, 0, none⟩) (fun _ => rfl) (.int .u32 1)).setCell (p := ⟨g, 1, none⟩) (fun _ => rfl) (.int .i32 0)
  simp [Leaves, settle, results, Try.results40]
  exact ⟨hk4, ht4⟩

set_option maxRecDepth 100000 in
set_option maxHeartbeats 1600000 in
theorem do_first (g : Nat) (f : Nat → Nat) (w : World) (ht : TB w g 0 0 f) :
    Calls Try.prog 35 #[.pointer (some ⟨g, 0, none⟩), .func (.func 36) #[.pointer (some ⟨g, 0, none⟩)] #[]] w fun e w' => e = .returned (.tuple #[]) ∧ Keep (fun k => k = g) w w' ∧ TB w' g 1 0 (upTo 256 f) := by
  have hl := run_call_load (P := Try.prog) Try.func42 (by kernel_rfl) (by kernel_rfl) (by kernel_rfl) .u32 (by kernel_rfl) ht.done
  have hnot : ∀ (x : Bool) (w : World), (Op.unary .not (.bool x)).run Try.prog w = .ok (.bool (!x)) w := fun _ _ => rfl
  go_enter Try.func35, Try.ntmps35
  go_wp2_with (first | (go_at_call 39; refine (load_zero ⟨g, 0, none⟩ _ ht.done).mono ?_; rintro e w' ⟨rfl, rfl⟩) | (go_at_call 40; refine (slow_any g f _ ht).mono ?_; rintro e w2 ⟨rfl, hk2, ht2⟩))
  go_end0
  exact ⟨rfl, hk2, ht2⟩

set_option maxRecDepth 100000 in
theorem do_done (a : Addr) (fv : Value) (w : World) (h0 : w.cell? a = some (.int .u32 1)) :
    Calls Try.prog 35 #[.pointer (some a), fv] w fun e w' => e = .returned (.tuple #[]) ∧ w' = w := by
  have hl := run_call_load (P := Try.prog) Try.func42 (by kernel_rfl) (by kernel_rfl) (by kernel_rfl) .u32 (by kernel_rfl) h0
  have hnot : ∀ (x : Bool) (w : World), (Op.unary .not (.bool x)).run Try.prog w = .ok (.bool (!x)) w := fun _ _ => rfl
  go_enter Try.func35, Try.ntmps35
  go_wp2
  go_end0
  exact ⟨rfl, rfl⟩

set_option maxRecDepth 100000 in
set_option maxHeartbeats 1600000 in
theorem ready_first (g : Nat) (f : Nat → Nat) (w : World) (ht : TB w g 0 0 f) :
    Calls Try.prog 26 #[.pointer (some ⟨g, 0, none⟩)] w fun e w' => e = .returned (.pointer (some ⟨g, 0, none⟩)) ∧ Keep (fun k => k = g) w w' ∧ TB w' g 1 0 (upTo 256 f) := by
  have hmf : ∀ (fn : Fn) (first cap : Array Value) (w : World), (Instr.makeFunc fn first cap).run Try.prog w = .ok (.func fn first cap) w := fun _ _ _ _ => rfl
  have hcl := ht.done
  go_enter Try.func26, Try.ntmps26
  go_wp2_with (go_at_call 35; refine (do_first g f _ ht).mono ?_; rintro e w2 ⟨rfl, hk2, ht2⟩)
  go_ret
  exact ⟨rfl, hk2, ht2⟩

set_option maxRecDepth 100000 in
set_option maxHeartbeats 1600000 in
theorem ready_again (g : Nat) (m : Int) (f : Nat → Nat) (w : World) (ht : TB w g 1 m f) :
    Calls Try.prog 26 #[.pointer (some ⟨g, 0, none⟩)] w fun e w' => e = .returned (.pointer (some ⟨g, 0, none⟩)) ∧ w' = w := by
  have hmf : ∀ (fn : Fn) (first cap : Array Value) (w : World), (Instr.makeFunc fn first cap).run Try.prog w = .ok (.func fn first cap) w := fun _ _ _ _ => rfl
  have hcl := ht.done
  go_enter Try.func26, Try.ntmps26
  go_wp2_with (go_at_call 35; refine (do_done ⟨g, 0, none⟩ _ _ hcl).mono ?_; rintro e w2 ⟨rfl, rfl⟩)
  go_ret
  exact ⟨rfl, rfl⟩
end Go.Proofs.Ytianehamjjnhoaa
