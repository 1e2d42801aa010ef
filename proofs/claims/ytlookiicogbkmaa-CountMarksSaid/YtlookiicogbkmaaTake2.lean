/- A tally's Most and Take. No condition. -/
import Derived.Test.YtlookiicogbkmaaTally
namespace Go.Proofs.Ytlookiicogbkmaa
open Go.RowKit
set_option linter.unusedVariables false
set_option linter.unusedSimpArgs false

/-- Most's question. -/
theorem most_asks (c : Nat) (n have_ : Int) (w : World) (hc : w.cell? ⟨c, 0, none⟩ = some (.int .i64 n)) :
    Calls Try.prog 35 #[.int .i64 have_, .pointer (some ⟨c, 0, none⟩)] w fun e w' => e = .returned (.tuple #[.int .i64 n, .bool (decide (have_ < n))]) ∧ ∃ m, w' = w.drewN m := by
  go_enter Try.func35, Try.ntmps35
  go_wp2_with fail
  go_quiet (fail)
  go_wp2
  go_ret2
  exact ⟨by simp, _, rfl⟩

/-- Take's question. -/
theorem take_asks (c : Nat) (n have_ : Int) (w : World) (hc : w.cell? ⟨c, 0, none⟩ = some (.int .i64 n)) :
    Calls Try.prog 36 #[.int .i64 have_, .pointer (some ⟨c, 0, none⟩)] w fun e w' => e = .returned (.tuple #[.int .i64 (wrap64 (have_ - n)), .bool (decide (0 ≤ n) && decide (n ≤ have_))]) ∧ ∃ m, w' = w.drewN m := by
  by_cases h0 : 0 ≤ n
  · go_enter Try.func36, Try.ntmps36
    go_wp2_with fail
    go_quiet (fail)
    go_wp2
    go_ret2
    exact ⟨by simp [h0], _, rfl⟩
  · have hd : decide (0 ≤ n) = false := decide_eq_false h0
    go_enter Try.func36, Try.ntmps36
    go_wp2_with fail
    go_quiet (fail)
    go_wp2
    go_ret2
    exact ⟨by simp; omega, _, rfl⟩

theorem change_nil (i : Int) (f : Value) (w : World) : Calls Try.prog 34 #[.pointer none, .int .i64 i, f] w fun e w' => e = .returned (.bool false) ∧ w' = w := by
  go_enter Try.func34, Try.ntmps34
  go_wp2_with (go_at_call 32; refine (mark_nil i _).mono ?_; rintro e w' ⟨rfl, rfl⟩)
  go_ret
  exact ⟨rfl, rfl⟩
theorem change_out (g : Nat) (i : Int) (f : Value) (h : isIn i = false) (w : World) : Calls Try.prog 34 #[.pointer (some ⟨g, 0, none⟩), .int .i64 i, f] w fun e w' => e = .returned (.bool false) ∧ w' = w := by
  go_enter Try.func34, Try.ntmps34
  go_wp2_with (go_at_call 32; refine (mark_out g i h _).mono ?_; rintro e w' ⟨rfl, rfl⟩)
  go_ret
  exact ⟨rfl, rfl⟩

set_option maxRecDepth 100000 in
theorem change_most_yes (g c : Nat) (i x y : Int) (h0 : 0 ≤ i) (h1 : i < 8) (w : World) (hc : w.cell? ⟨g, i.toNat, none⟩ = some (.int .i64 x)) (hz : w.frozen? ⟨g, i.toNat, none⟩ = false)
    (hf : Calls Try.prog 35 #[.int .i64 x, .pointer (some ⟨c, 0, none⟩)] w fun e w' => e = .returned (.tuple #[.int .i64 y, .bool true]) ∧ ∃ m, w' = w.drewN m) :
    Calls Try.prog 34 #[.pointer (some ⟨g, 0, none⟩), .int .i64 i, .func (.func 35) #[] #[.pointer (some ⟨c, 0, none⟩)]] w fun e w' => e = .returned (.bool true) ∧ ∃ m, w' = (w.drewN m).setCell ⟨g, i.toNat, none⟩ (.int .i64 y) := by
  have hc' : ∀ m, (w.drewN m).cell? ⟨g, i.toNat, none⟩ = some (.int .i64 x) := fun m => by rw [World.cell?_drewN]; exact hc
  have hz' : ∀ m, (w.drewN m).frozen? ⟨g, i.toNat, none⟩ = false := fun m => hz
  go_enter Try.func34, Try.ntmps34
  go_wp2_with (go_at_call 32; refine (mark_in g i h0 h1 _).mono ?_; rintro e w' ⟨rfl, rfl⟩)
  go_loopw [8] (fun v wr => wr = w') (fun _ _ => 0)
  case atStart => rfl
  case round =>
    subst hrel
    go_wp2_with (first | (go_at_call 39; refine (load64 _ x _ hc).mono ?_; rintro e w' ⟨rfl, rfl⟩) | (go_at_call 35; refine hf.mono ?_; rintro e w' ⟨rfl, m, rfl⟩) | (go_at_call 45; refine (cas64 _ x y _ (hc' _) (hz' _)).mono ?_; rintro e w' ⟨rfl, rfl⟩))
    go_ret
    exact ⟨rfl, _, rfl⟩
set_option maxRecDepth 100000 in
theorem change_most_no (g c : Nat) (i x y : Int) (h0 : 0 ≤ i) (h1 : i < 8) (w : World) (hc : w.cell? ⟨g, i.toNat, none⟩ = some (.int .i64 x)) (hz : w.frozen? ⟨g, i.toNat, none⟩ = false)
    (hf : Calls Try.prog 35 #[.int .i64 x, .pointer (some ⟨c, 0, none⟩)] w fun e w' => e = .returned (.tuple #[.int .i64 y, .bool false]) ∧ ∃ m, w' = w.drewN m) :
    Calls Try.prog 34 #[.pointer (some ⟨g, 0, none⟩), .int .i64 i, .func (.func 35) #[] #[.pointer (some ⟨c, 0, none⟩)]] w fun e w' => e = .returned (.bool false) ∧ ∃ m, w' = w.drewN m := by
  have hc' : ∀ m, (w.drewN m).cell? ⟨g, i.toNat, none⟩ = some (.int .i64 x) := fun m => by rw [World.cell?_drewN]; exact hc
  have hz' : ∀ m, (w.drewN m).frozen? ⟨g, i.toNat, none⟩ = false := fun m => hz
  go_enter Try.func34, Try.ntmps34
  go_wp2_with (go_at_call 32; refine (mark_in g i h0 h1 _).mono ?_; rintro e w' ⟨rfl, rfl⟩)
  go_loopw [8] (fun v wr => wr = w') (fun _ _ => 0)
  case atStart => rfl
  case round =>
    subst hrel
    go_wp2_with (first | (go_at_call 39; refine (load64 _ x _ hc).mono ?_; rintro e w' ⟨rfl, rfl⟩) | (go_at_call 35; refine hf.mono ?_; rintro e w' ⟨rfl, m, rfl⟩))
    go_ret
    exact ⟨rfl, _, rfl⟩
set_option maxRecDepth 100000 in
theorem change_take_yes (g c : Nat) (i x y : Int) (h0 : 0 ≤ i) (h1 : i < 8) (w : World) (hc : w.cell? ⟨g, i.toNat, none⟩ = some (.int .i64 x)) (hz : w.frozen? ⟨g, i.toNat, none⟩ = false)
    (hf : Calls Try.prog 36 #[.int .i64 x, .pointer (some ⟨c, 0, none⟩)] w fun e w' => e = .returned (.tuple #[.int .i64 y, .bool true]) ∧ ∃ m, w' = w.drewN m) :
    Calls Try.prog 34 #[.pointer (some ⟨g, 0, none⟩), .int .i64 i, .func (.func 36) #[] #[.pointer (some ⟨c, 0, none⟩)]] w fun e w' => e = .returned (.bool true) ∧ ∃ m, w' = (w.drewN m).setCell ⟨g, i.toNat, none⟩ (.int .i64 y) := by
  have hc' : ∀ m, (w.drewN m).cell? ⟨g, i.toNat, none⟩ = some (.int .i64 x) := fun m => by rw [World.cell?_drewN]; exact hc
  have hz' : ∀ m, (w.drewN m).frozen? ⟨g, i.toNat, none⟩ = false := fun m => hz
  go_enter Try.func34, Try.ntmps34
  go_wp2_with (go_at_call 32; refine (mark_in g i h0 h1 _).mono ?_; rintro e w' ⟨rfl, rfl⟩)
  go_loopw [8] (fun v wr => wr = w') (fun _ _ => 0)
  case atStart => rfl
  case round =>
    subst hrel
    go_wp2_with (first | (go_at_call 39; refine (load64 _ x _ hc).mono ?_; rintro e w' ⟨rfl, rfl⟩) | (go_at_call 36; refine hf.mono ?_; rintro e w' ⟨rfl, m, rfl⟩) | (go_at_call 45; refine (cas64 _ x y _ (hc' _) (hz' _)).mono ?_; rintro e w' ⟨rfl, rfl⟩))
    go_ret
    exact ⟨rfl, _, rfl⟩
set_option maxRecDepth 100000 in
theorem change_take_no (g c : Nat) (i x y : Int) (h0 : 0 ≤ i) (h1 : i < 8) (w : World) (hc : w.cell? ⟨g, i.toNat, none⟩ = some (.int .i64 x)) (hz : w.frozen? ⟨g, i.toNat, none⟩ = false)
    (hf : Calls Try.prog 36 #[.int .i64 x, .pointer (some ⟨c, 0, none⟩)] w fun e w' => e = .returned (.tuple #[.int .i64 y, .bool false]) ∧ ∃ m, w' = w.drewN m) :
    Calls Try.prog 34 #[.pointer (some ⟨g, 0, none⟩), .int .i64 i, .func (.func 36) #[] #[.pointer (some ⟨c, 0, none⟩)]] w fun e w' => e = .returned (.bool false) ∧ ∃ m, w' = w.drewN m := by
  have hc' : ∀ m, (w.drewN m).cell? ⟨g, i.toNat, none⟩ = some (.int .i64 x) := fun m => by rw [World.cell?_drewN]; exact hc
  have hz' : ∀ m, (w.drewN m).frozen? ⟨g, i.toNat, none⟩ = false := fun m => hz
  go_enter Try.func34, Try.ntmps34
  go_wp2_with (go_at_call 32; refine (mark_in g i h0 h1 _).mono ?_; rintro e w' ⟨rfl, rfl⟩)
  go_loopw [8] (fun v wr => wr = w') (fun _ _ => 0)
  case atStart => rfl
  case round =>
    subst hrel
    go_wp2_with (first | (go_at_call 39; refine (load64 _ x _ hc).mono ?_; rintro e w' ⟨rfl, rfl⟩) | (go_at_call 36; refine hf.mono ?_; rintro e w' ⟨rfl, m, rfl⟩))
    go_ret
    exact ⟨rfl, _, rfl⟩
end Go.Proofs.Ytlookiicogbkmaa
