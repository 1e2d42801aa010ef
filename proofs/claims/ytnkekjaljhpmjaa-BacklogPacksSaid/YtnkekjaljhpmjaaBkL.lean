/- lives of the statements on backlogs. No condition. -/
import Derived.Test.YtnkekjaljhpmjaaBkN
namespace Go.Proofs.Ytnkekjaljhpmjaa
open Go.RowKit
set_option linter.unusedVariables false
set_option linter.unusedSimpArgs false

theorem ball_make (q : Option Addr) (w : World) : Calls Try.prog 25 #[.pointer q] w fun e w' => e = .returned (.func (.func 37) #[] #[.pointer (some ⟨w.heap.size, 0, none⟩)]) ∧ w' = w.alloc (.cells #[.pointer q] 23) := by
  go_enter Try.func25, Try.ntmps25
  go_wp2
  go_ret
  exact ⟨rfl, rfl⟩
theorem func_eqB (d : Nat) (fn : Fn) (first cap : Array Value) (W : World) : (Op.equalIn (d + 1) 43 (.func fn first cap) .nilFunc).run Try.prog W = .ok false W := by
  simp [Op.equalIn, run_underlying Try.underlying43]
theorem func_eq_nilB (fn : Fn) (first cap : Array Value) (W : World) : (binOp .eql 43 (.func fn first cap) .nilFunc).run Try.prog W = .ok (.bool false) W := by
  have h := func_eqB 9999 fn first cap W
  simp only [binOp]
  simp [Op.equal, Op.maxDepth, h]
def lv1 : List Wt := [⟨5, false⟩]
def lv2 : List Wt := [⟨5, false⟩, ⟨7, false⟩]
def lv3 : List Wt := [⟨5, true⟩, ⟨7, true⟩]
def lv4 : List Wt := [⟨5, false⟩, ⟨7, true⟩]
theorem lv_p1 : pushE [] 5 = 0 := by decide
theorem lv_p1' : pushL [] 5 = lv1 := rfl
theorem lv_p2 : pushE lv1 7 = 0 := by decide
theorem lv_p2' : pushL lv1 7 = lv2 := rfl
theorem lv_n : newsL lv2 0 = lv3 := rfl
theorem lv_t1 : tryP lv3 0 = (5, true, lv4, 5) := rfl
theorem lv_t2 : tryP lv4 5 = (0, false, lv4, 5) := rfl
theorem lv_b : backB 5 5 = true := by decide
theorem lv_b' : backO 5 5 = 0 := by decide
theorem lv_t3 : tryP lv4 0 = (7, true, lv2, 7) := rfl
theorem lv_pl : placeW lv2 7 = 1 := by decide
section
variable {B : Nat} {w : World} {p : Nat} {l : List Wt} {o : Int}
theorem up_keep {w' : World} (h : Keep (fun k => B ≤ k) w w') (hB : B ≤ w.heap.size) : Below B w w' := h.below hB fun k hk e => by omega
theorem push_up (k er : Int) (l' : List Wt) (h : BK (fun k => B ≤ k) w p l o) (hB : B ≤ w.heap.size) (hl : l.length ≤ 1048576) (he : pushE l k = er) (hl' : pushL l k = l') :
    Calls Try.prog 12 #[.pointer (some ⟨p, 0, none⟩), .int .i64 k] w fun e w' => e = .returned (.int .i64 er) ∧ BK (fun k => B ≤ k) w' p l' o ∧ Below B w w' := by
  subst he
  subst hl'
  refine (bpush_any k h hl).mono fun e w' hh => ⟨hh.1, hh.2.1.mono fun k _ hk => ?_, up_keep hh.2.2 hB⟩
  rcases hk with hk | hk <;> omega
theorem news_up (l' : List Wt) (h : BK (fun k => B ≤ k) w p l o) (hB : B ≤ w.heap.size) (hl : l.length ≤ 1048576) (hl' : newsL l o = l') :
    Calls Try.prog 16 #[.pointer (some ⟨p, 0, none⟩)] w fun e w' => (∃ v, e = .returned v) ∧ BK (fun k => B ≤ k) w' p l' o ∧ Below B w w' := by
  subst hl'
  exact (bnews_any h hl).mono fun e w' hh => ⟨hh.1, hh.2.1, up_keep hh.2.2 hB⟩
theorem try_up (x : Int) (ok : Bool) (l' : List Wt) (o' : Int) (h : BK (fun k => B ≤ k) w p l o) (hB : B ≤ w.heap.size) (hl : l.length ≤ 1048576) (ht : tryP l o = (x, ok, l', o')) :
    Calls Try.prog 18 #[.pointer (some ⟨p, 0, none⟩)] w fun e w' => e = .returned (.tuple #[.int .i64 x, .bool ok]) ∧ BK (fun k => B ≤ k) w' p l' o' ∧ Below B w w' := by
  have := btry_any h hl
  rw [ht] at this
  exact this.mono fun e w' hh => ⟨hh.1, hh.2.1, up_keep hh.2.2 hB⟩
theorem back_up (k : Int) (b : Bool) (o' : Int) (h : BK (fun k => B ≤ k) w p l o) (hB : B ≤ w.heap.size) (hb : backB o k = b) (ho : backO o k = o') :
    Calls Try.prog 20 #[.pointer (some ⟨p, 0, none⟩), .int .i64 k] w fun e w' => e = .returned (.bool b) ∧ BK (fun k => B ≤ k) w' p l o' ∧ Below B w w' := by
  subst hb
  subst ho
  exact (bback_any k h).mono fun e w' hh => ⟨hh.1, hh.2.1, up_keep hh.2.2 hB⟩
theorem place_up (k r : Int) (h : BK (fun k => B ≤ k) w p l o) (hB : B ≤ w.heap.size) (hl : l.length ≤ 1048576) (hr : placeW l k = r) :
    Calls Try.prog 23 #[.pointer (some ⟨p, 0, none⟩), .int .i64 k] w fun e w' => e = .returned (.int .i64 r) ∧ BK (fun k => B ≤ k) w' p l o ∧ Below B w w' := by
  subst hr
  exact (bplace_any k h hl).mono fun e w' hh => ⟨hh.1, h.below hh.2, hh.2.mono hB⟩
theorem len_up (r : Int) (h : BK (fun k => B ≤ k) w p l o) (hr : ((l.length : Nat) : Int) = r) :
    Calls Try.prog 27 #[.pointer (some ⟨p, 0, none⟩)] w fun e w' => e = .returned (.int .i64 r) ∧ w' = w := by
  subst hr
  exact blen_any h
end
set_option maxRecDepth 100000 in
set_option maxHeartbeats 3200000 in
theorem lives_any (w : World) : Calls Try.prog 11 #[] w fun e w' => e = .returned (.bool true) ∧ Below w.heap.size w w' := by
  have hnn := func_eq_nilB
  go_enter Try.func11, Try.ntmps11
  go_wp2_with fail
  refine (bnew_any _).mono ?_
  rintro e w1 ⟨rfl, h1, hb1⟩
  go_wp2_with fail
  refine (ball_make _ _).mono ?_
  rintro e w2 ⟨rfl, hww⟩
  have h2 := h1.alloc (.cells #[.pointer (some ⟨w.heap.size, 0, none⟩)] 23)
  have hb2 := hb1.alloc hb1.size (.cells #[.pointer (some ⟨w.heap.size, 0, none⟩)] 23)
  rw [← hww] at h2 hb2
  clear hww h1 hb1
  go_wp2_with fail
  refine (push_up 5 0 lv1 h2 hb2.size (by simp) lv_p1 lv_p1').mono ?_
  rintro e w3 ⟨rfl, h3, x3⟩
  have hb3 := hb2.trans x3
  clear h2 hb2 x3
  go_wp2_with fail
  refine (push_up 7 0 lv2 h3 hb3.size (by simp [lv1]) lv_p2 lv_p2').mono ?_
  rintro e w4 ⟨rfl, h4, x4⟩
  have hb4 := hb3.trans x4
  clear h3 hb3 x4
  go_wp2_with fail
  refine (news_up lv3 h4 hb4.size (by simp [lv2]) lv_n).mono ?_
  rintro e w5 ⟨⟨_, rfl⟩, h5, x5⟩
  have hb5 := hb4.trans x5
  clear h4 hb4 x5
  go_wp2_with fail
  refine (try_up 5 true lv4 5 h5 hb5.size (by simp [lv3]) lv_t1).mono ?_
  rintro e w6 ⟨rfl, h6, x6⟩
  have hb6 := hb5.trans x6
  clear h5 hb5 x6
  go_wp2_with fail
  refine (try_up 0 false lv4 5 h6 hb6.size (by simp [lv4]) lv_t2).mono ?_
  rintro e w7 ⟨rfl, h7, x7⟩
  have hb7 := hb6.trans x7
  clear h6 hb6 x7
  go_wp2_with fail
  refine (back_up 5 true 0 h7 hb7.size lv_b lv_b').mono ?_
  rintro e w8 ⟨rfl, h8, x8⟩
  have hb8 := hb7.trans x8
  clear h7 hb7 x8
  go_wp2_with fail
  refine (try_up 7 true lv2 7 h8 hb8.size (by simp [lv4]) lv_t3).mono ?_
  rintro e w9 ⟨rfl, h9, x9⟩
  have hb9 := hb8.trans x9
  clear h8 hb8 x9
  go_wp2_with fail
  refine (len_up 2 h9 rfl).mono ?_
  rintro e w10 ⟨rfl, hww⟩
  subst w10
  go_wp2_with fail
  refine (place_up 7 1 h9 hb9.size (by simp [lv2]) lv_pl).mono ?_
  rintro e w10 ⟨rfl, h10, x10⟩
  have hb10 := hb9.trans x10
  clear h9 hb9 x10
  go_wp2
  go_ret
  exact ⟨rfl, hb10⟩
end Go.Proofs.Ytnkekjaljhpmjaa
