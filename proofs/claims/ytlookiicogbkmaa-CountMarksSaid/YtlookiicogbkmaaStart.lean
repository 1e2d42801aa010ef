/- A tally's Start: the parts of a sync.Once's slow road, for this program's numbers, and its roads. No condition. -/
import Derived.Test.YtlookiicogbkmaaMost
import Derived.Tactics
import Derived.Tactics2
import Derived.Defers
import Derived.Laws.Pointers
import Derived.Laws.LoneSync
import Derived.RegionTactic
import Derived.RegionCalls
import Derived.ChangeAlike
namespace Go.Proofs.Ytlookiicogbkmaa
open Go.RowKit
set_option linter.unusedVariables false
set_option linter.unusedSimpArgs false

theorem disable (w : World) : (callFunc 64 #[]).run Try.prog w = .ok (.value (.tuple #[])) w := run_call_mark0 Try.func64 (by kernel_rfl) (by kernel_rfl) (by kernel_rfl) .disable (by kernel_rfl) w
theorem enable (w : World) : (callFunc 66 #[]).run Try.prog w = .ok (.value (.tuple #[])) w := run_call_mark0 Try.func66 (by kernel_rfl) (by kernel_rfl) (by kernel_rfl) .enable (by kernel_rfl) w
theorem acquire (a : Addr) (w : World) : (callFunc 67 #[.pointer (some a)]).run Try.prog w = .ok (.value (.tuple #[])) w := run_call_marked Try.func67 (by kernel_rfl) (by kernel_rfl) (by kernel_rfl) .acquire (by kernel_rfl) a w
theorem releaseMerge (a : Addr) (w : World) : (callFunc 69 #[.pointer (some a)]).run Try.prog w = .ok (.value (.tuple #[])) w := run_call_marked Try.func69 (by kernel_rfl) (by kernel_rfl) (by kernel_rfl) .releaseMerge (by kernel_rfl) a w

set_option maxRecDepth 100000 in
/-- The deferred store of 'done'. -/
theorem store_deferred (a : Addr) (x : Value) (u : FrameMode) (w : World) (hc : w.cell? a = some x) (hz : w.frozen? a = false) :
    CallsD Try.prog 56 #[.pointer (some a), .bool true] u w fun e u' w' => u' = u ∧ (e = .returned (.tuple #[]) ∧ w' = w.drew.setCell a (.int .u32 1)) := by
  have hc' : w.drew.cell? a = some x := by go_simp
  have hz' : w.drew.frozen? a = false := by go_simp
  have hst := run_call_store (P := Try.prog) Try.func61 (by kernel_rfl) (by kernel_rfl) (by kernel_rfl) (by kernel_rfl) (k := .u32) (y := 1) hc' hz'
  go_enter_d Try.func56, Try.ntmps56
  go_wp2
  go_region_calls
  all_goals (go_end0; exact ⟨rfl, rfl⟩)

set_option maxRecDepth 100000 in
/-- The deferred unlocking: the lock held, nobody waits. -/
theorem unlock_deferred (a : Addr) (u : FrameMode) (w : World) (hc : w.cell? a = some (.int .i32 1)) (hz : w.frozen? a = false) :
    CallsD Try.prog 55 #[.pointer (some a)] u w fun e u' w' => u' = u ∧ (e = .returned (.tuple #[]) ∧ w' = w.setCell a (.int .i32 0)) := by
  have hd := disable
  have he := enable
  have hr := releaseMerge
  have hadd := run_call_add (P := Try.prog) Try.func70 (by kernel_rfl) (by kernel_rfl) (by kernel_rfl) .i32 (by kernel_rfl) (y := -1) (s := 0) hc hz (by simp [go_sem]; rfl)
  have hcv := run_convert_to_unsafe (P := Try.prog) (src := 108) (dst := 112) Try.underlying108 Try.underlying112 (by kernel_rfl) hc
  go_enter_d Try.func55, Try.ntmps55
  go_wp2
  go_end0
  go_wp2
  go_end0
  exact ⟨rfl, rfl⟩

set_option maxRecDepth 100000 in
/-- The lock is free and is taken. -/
theorem lock_free (a : Addr) (w : World) (hc : w.cell? a = some (.int .i32 0)) (hz : w.frozen? a = false) :
    Calls Try.prog 54 #[.pointer (some a)] w fun e w' => e = .returned (.tuple #[]) ∧ w' = w.setCell a (.int .i32 1) := by
  have hd := disable
  have he := enable
  have ha := acquire
  have hcas := run_call_cas_hit (P := Try.prog) Try.func65 (by kernel_rfl) (by kernel_rfl) (by kernel_rfl) .i32 (by kernel_rfl) (y := 1) hc hz
  have hc' : (w.setCell a (.int .i32 1)).cell? a = some (.int .i32 1) := World.cell?_setCell_same w a _ hc
  have hcv := run_convert_to_unsafe (P := Try.prog) (src := 108) (dst := 112) Try.underlying108 Try.underlying112 (by kernel_rfl) hc'
  go_enter Try.func54, Try.ntmps54
  go_wp2
  first | go_end0 | (simp only [Exit.inBlock, Exit.then]; refine bodyPost_ret (results_none rfl _ _ _) rfl ?_) | refine bodyPost_ret (results_none rfl _ _ _) rfl ?_
  go_wp2
  go_end0
  exact ⟨rfl, rfl⟩

theorem start_asks (c : Nat) (w : World) (hc : w.cell? ⟨c, 0, none⟩ = some (.bool false)) (hz : w.frozen? ⟨c, 0, none⟩ = false) :
    Calls Try.prog 38 #[.pointer (some ⟨c, 0, none⟩)] w fun e w' => e = .returned (.tuple #[]) ∧ w' = w.setCell ⟨c, 0, none⟩ (.bool true) := by
  go_enter Try.func38, Try.ntmps38
  go_wp2
  go_end0
  exact ⟨rfl, rfl⟩

theorem load_zero (a : Addr) (w : World) (h0 : w.cell? a = some (.int .u32 0)) :
    Calls Try.prog 46 #[.pointer (some a)] w fun e w' => e = .returned (.bool false) ∧ w' = w := by
  have hl := run_call_load (P := Try.prog) Try.func53 (by kernel_rfl) (by kernel_rfl) (by kernel_rfl) .u32 (by kernel_rfl) h0
  go_enter Try.func46, Try.ntmps46
  go_wp2
  go_ret
  exact ⟨rfl, rfl⟩

set_option maxRecDepth 100000 in
set_option maxHeartbeats 1600000 in
theorem slow_start (g c : Nat) (l : List Int) (w : World) (ht : TL w g l 0 0) (hcg : c ≠ g) (hc : w.cell? ⟨c, 0, none⟩ = some (.bool false)) (hz : w.frozen? ⟨c, 0, none⟩ = false) :
    Calls Try.prog 47 #[.pointer (some ⟨g, 8, none⟩), .func (.func 38) #[] #[.pointer (some ⟨c, 0, none⟩)]] w fun e w' => e = .returned (.tuple #[]) ∧ Keep (fun k => k = g ∨ k = c) w w' ∧ TL w' g l 1 0 ∧ w'.cell? ⟨c, 0, none⟩ = some (.bool true) := by
  have ht1 := ht.set_lock 1
  have hk1 := (Keep.refl (fun k => k = g ∨ k = c) w).setCell (p := ⟨g, 9, none⟩) (fun _ => .inl rfl) (.int .i32 1)
  have hc1 : (w.setCell ⟨g, 9, none⟩ (.int .i32 1)).cell? ⟨c, 0, none⟩ = some (.bool false) := (World.cell?_setCell_other _ _ _ _ (by intro e; simp only [Addr.mk.injEq] at e; exact hcg e.1.symm)).trans hc
  have hz1 : (w.setCell ⟨g, 9, none⟩ (.int .i32 1)).frozen? ⟨c, 0, none⟩ = false := by rw [World.frozen?_setCell]; exact hz
  have ht2 : TL ((w.setCell ⟨g, 9, none⟩ (.int .i32 1)).setCell ⟨c, 0, none⟩ (.bool true)) g l 0 1 := ht1.kept ((Keep.refl (fun k => k = c) _).setCell (p := ⟨c, 0, none⟩) (fun _ => rfl) (.bool true)) (by omega)
  have hk2 := hk1.setCell (p := ⟨c, 0, none⟩) (fun _ => .inr rfl) (.bool true)
  have hc2 : ((w.setCell ⟨g, 9, none⟩ (.int .i32 1)).setCell ⟨c, 0, none⟩ (.bool true)).cell? ⟨c, 0, none⟩ = some (.bool true) := World.cell?_setCell_same _ _ _ hc1
  have hl := run_call_load (P := Try.prog) Try.func53 (by kernel_rfl) (by kernel_rfl) (by kernel_rfl) .u32 (by kernel_rfl) (w := w.setCell ⟨g, 9, none⟩ (.int .i32 1)) (a := ⟨g, 8, none⟩) (x := 0) ht1.done
  have hnot : ∀ (x : Bool) (w : World), (Op.unary .not (.bool x)).run Try.prog w = .ok (.bool (!x)) w := fun _ _ => rfl
  go_enter_defers Try.func47, Try.ntmps47
  go_wp2_with (go_at_call 54; refine (lock_free ⟨g, 9, none⟩ _ ht.lock (ht.frozen 9)).mono ?_; rintro e w' ⟨rfl, rfl⟩)
  go_wp2_with (first | (go_at_call 46; refine (load_zero ⟨g, 8, none⟩ _ ht1.done).mono ?_; rintro e w' ⟨rfl, rfl⟩) | (go_at_call 38; refine (start_asks c _ hc1 hz1).mono ?_; rintro e w2 ⟨rfl, rfl⟩))
  refine leaves_cons (f := 56) (args := #[.pointer (some ⟨g, 8, none⟩), .bool true]) (by simp) (by simp [go_sem]) ?_
  refine (store_deferred ⟨g, 8, none⟩ (.int .u32 0) .returning _ ht2.done (ht2.frozen 8)).mono ?_
  rintro e u' w'' ⟨rfl, rfl, rfl⟩
  have ht3 := ht2.drew.set_done 1
  refine leaves_cons (f := 55) (args := #[.pointer (some ⟨g, 9, none⟩)]) (by simp [settle]) (by simp [go_sem]) ?_
  refine (unlock_deferred ⟨g, 9, none⟩ _ _ ht3.lock (ht3.frozen 9)).mono ?_
  rintro e u' w'' ⟨rfl, rfl, rfl⟩
  have ht4 := ht3.set_lock 0
  have hk4 := (hk2.drew.setCell (p := ⟨g, 8, none⟩) (fun _ => .inl rfl) (.int .u32 1)).setCell (p := ⟨g, 9, none⟩) (fun _ => .inl rfl) (.int .i32 0)
  have hc4 : (((((w.setCell ⟨g, 9, none⟩ (.int .i32 1)).setCell ⟨c, 0, none⟩ (.bool true)).drew).setCell ⟨g, 8, none⟩ (.int .u32 1)).setCell ⟨g, 9, none⟩ (.int .i32 0)).cell? ⟨c, 0, none⟩ = some (.bool true) :=
    (World.cell?_setCell_other _ _ _ _ (by intro e; simp only [Addr.mk.injEq] at e; exact hcg e.1.symm)).trans ((World.cell?_setCell_other _ _ _ _ (by intro e; simp only [Addr.mk.injEq] at e; exact hcg e.1.symm)).trans hc2)
  simp [Leaves, settle, results, Try.results47]
  exact ⟨hk4, ht4, hc4⟩

set_option maxRecDepth 100000 in
set_option maxHeartbeats 1600000 in
theorem do_first (g c : Nat) (l : List Int) (w : World) (ht : TL w g l 0 0) (hcg : c ≠ g) (hc : w.cell? ⟨c, 0, none⟩ = some (.bool false)) (hz : w.frozen? ⟨c, 0, none⟩ = false) :
    Calls Try.prog 37 #[.pointer (some ⟨g, 8, none⟩), .func (.func 38) #[] #[.pointer (some ⟨c, 0, none⟩)]] w fun e w' => e = .returned (.tuple #[]) ∧ Keep (fun k => k = g ∨ k = c) w w' ∧ TL w' g l 1 0 ∧ w'.cell? ⟨c, 0, none⟩ = some (.bool true) := by
  have hnot : ∀ (x : Bool) (w : World), (Op.unary .not (.bool x)).run Try.prog w = .ok (.bool (!x)) w := fun _ _ => rfl
  go_enter Try.func37, Try.ntmps37
  go_wp2_with (first | (go_at_call 46; refine (load_zero ⟨g, 8, none⟩ _ ht.done).mono ?_; rintro e w' ⟨rfl, rfl⟩) | (go_at_call 47; refine (slow_start g c l _ ht hcg hc hz).mono ?_; rintro e w2 ⟨rfl, hk2, ht2, hc2⟩))
  go_end0
  exact ⟨rfl, hk2, ht2, hc2⟩

set_option maxRecDepth 100000 in
theorem do_done (a : Addr) (fv : Value) (w : World) (h0 : w.cell? a = some (.int .u32 1)) :
    Calls Try.prog 37 #[.pointer (some a), fv] w fun e w' => e = .returned (.tuple #[]) ∧ w' = w := by
  have hl := run_call_load (P := Try.prog) Try.func53 (by kernel_rfl) (by kernel_rfl) (by kernel_rfl) .u32 (by kernel_rfl) h0
  have hnot : ∀ (x : Bool) (w : World), (Op.unary .not (.bool x)).run Try.prog w = .ok (.bool (!x)) w := fun _ _ => rfl
  go_enter Try.func37, Try.ntmps37
  go_wp2
  go_end0
  exact ⟨rfl, rfl⟩

theorem Start_nil (w : World) : Calls Try.prog 24 #[.pointer none] w fun e w' => e = .returned (.bool false) ∧ w' = w := by
  go_enter Try.func24, Try.ntmps24
  go_wp2
  go_ret
  exact ⟨rfl, rfl⟩

set_option maxRecDepth 100000 in
set_option maxHeartbeats 1600000 in
theorem Start_first (g : Nat) (l : List Int) (w : World) (ht : TL w g l 0 0) :
    Calls Try.prog 24 #[.pointer (some ⟨g, 0, none⟩)] w fun e w' => e = .returned (.bool true) ∧ Keep (fun k => k = g) w w' ∧ TL w' g l 1 0 := by
  have hmf : ∀ (fn : Fn) (first cap : Array Value) (w : World), (Instr.makeFunc fn first cap).run Try.prog w = .ok (.func fn first cap) w := fun _ _ _ _ => rfl
  have hg := ht.lt
  have ha := ht.alloc (.cells #[.bool false] 4)
  have hb := Blk.new w 4 #[.bool false]
  have hcb : (w.alloc (.cells #[.bool false] 4)).cell? ⟨w.heap.size, 0, none⟩ = some (.bool false) := hb.cell 0
  have hk := ((Keep.refl (fun k => k = g) w).alloc (.cells #[.bool false] 4))
  go_enter Try.func24, Try.ntmps24
  go_wp2_with (go_at_call 37; refine (do_first g w.heap.size l _ ha (by omega) hcb (hb.frozen 0)).mono ?_; rintro e w2 ⟨rfl, hk2, ht2, hc2⟩)
  go_ret
  exact ⟨rfl, hk.trans hk2 (fun i hi h => h.elim id fun e => absurd hi (by omega)), ht2⟩

set_option maxRecDepth 100000 in
theorem Start_again (g : Nat) (l : List Int) (m : Int) (w : World) (ht : TL w g l 1 m) :
    Calls Try.prog 24 #[.pointer (some ⟨g, 0, none⟩)] w fun e w' => e = .returned (.bool false) ∧ Below w.heap.size w w' := by
  have hmf : ∀ (fn : Fn) (first cap : Array Value) (w : World), (Instr.makeFunc fn first cap).run Try.prog w = .ok (.func fn first cap) w := fun _ _ _ _ => rfl
  have hg := ht.lt
  have ha := ht.alloc (.cells #[.bool false] 4)
  have hb := Blk.new w 4 #[.bool false]
  have hcb : (w.alloc (.cells #[.bool false] 4)).cell? ⟨w.heap.size, 0, none⟩ = some (.bool false) := hb.cell 0
  go_enter Try.func24, Try.ntmps24
  go_wp2_with (go_at_call 37; refine (do_done ⟨g, 8, none⟩ _ _ ha.done).mono ?_; rintro e w2 ⟨rfl, rfl⟩)
  go_ret
  exact ⟨rfl, (Below.refl w.heap.size w).alloc (Nat.le_refl _) _⟩
end Go.Proofs.Ytlookiicogbkmaa
