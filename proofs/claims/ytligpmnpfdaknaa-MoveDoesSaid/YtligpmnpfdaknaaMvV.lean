/- Moves: Under of nil; entrepotlaw19.lives answers true. No condition. -/
import Derived.Test.YtligpmnpfdaknaaMvU
import Derived.Test.YtligpmnpfdaknaaLives6
import Derived.Test.YtligpmnpfdaknaaKept6
namespace Go.Proofs.Ytligpmnpfdaknaa
open Go.RowKit Go.Maps Go.Shelf Go.Sort
set_option linter.unusedVariables false
set_option linter.unusedSimpArgs false
attribute [local go_sem] Oper.semAt_some

set_option maxRecDepth 100000 in
set_option maxHeartbeats 3200000 in
theorem under_nil (fr to : Int) (w : World) : Calls Try.prog 19 #[.pointer none, .int .i64 fr, .int .i64 to] w fun e w' => e = .returned (.slice none 0 0) ∧ Below w.heap.size w w' := by
  have hb1 := (((Below.refl w.heap.size w).alloc (Nat.le_refl _) (.cells #[.int .i64 fr] 3)).alloc (by simp) (.cells #[.int .i64 to] 3)).alloc (by simp; omega) (.cells #[.slice none 0 0] 30)
  have e3 := Blk.new ((w.alloc (.cells #[.int .i64 fr] 3)).alloc (.cells #[.int .i64 to] 3)) 30 #[.slice none 0 0]
  rw [World.size_alloc, World.size_alloc] at e3
  have hz1 : (((w.alloc (.cells #[.int .i64 fr] 3)).alloc (.cells #[.int .i64 to] 3)).alloc (.cells #[.slice none 0 0] 30)).heap.size = w.heap.size + 3 := by simp
  obtain ⟨w1, hw1⟩ : ∃ w1, w1 = ((w.alloc (.cells #[.int .i64 fr] 3)).alloc (.cells #[.int .i64 to] 3)).alloc (.cells #[.slice none 0 0] 30) := ⟨_, rfl⟩
  have hpr := prising_nil (((w.alloc (.cells #[.int .i64 fr] 3)).alloc (.cells #[.int .i64 to] 3)).alloc (.cells #[.slice none 0 0] 30))
  rw [← hw1] at hb1 e3 hz1
  replace hz1 := Lib.hid hz1
  replace hw1 := Lib.hid hw1
  refine (callsIn_wide (n := 9)).1 ?_
  refine callsIn_of_wp_marks Try.func19 rfl trivial ?_ rfl
  simp only [Try.ntmps19, List.size_toArray, List.length_cons, List.length_nil, Nat.reduceAdd, Nat.reduceSub, Array.replicate_succ, Array.replicate_zero, List.push_toArray, List.append_toArray, List.nil_append, List.cons_append]
  gi_wp2_with (refine ⟨trivial, ?_⟩; gi_at_call 34; refine (callsIn_wide.2 hpr).mono ?_; rintro e w2 ⟨rfl, rfl⟩)
  rw [← hw1.out]
  have f3 := e3.alloc (.cells #[.map none] 79)
  have hI := (cell_new_a w1 (.map none) 79).1
  have hb3 := hb1.alloc hb1.size (.cells #[.map none] 79)
  have hz3 : (w1.alloc (.cells #[.map none] 79)).heap.size = w.heap.size + 4 := by simp [hz1.out]
  refine range_none (by first | rfl | simp [go_sem, hz1.out]) (enters_of Try.func51 (by kernel_rfl) rfl) (kmap_nil_goes w1.heap.size _ (by simp) hI) ?_
  intro D Wd hD hb hDf
  have hb4 := hb3.trans (hb.mono hb3.size)
  have f4 := f3.kept (Keep.of_below hb) (Nat.not_le.2 f3.lt)
  have q0 := f4.cell 0
  simp at q0
  rw [hz3] at hD
  rw [show w.heap.size + 1 + 1 = w.heap.size + 2 from rfl] at q0
  gi_wp2
  refine ⟨by simp, .inl ⟨_, _, rfl, run_takeDeferred hDf, ?_⟩⟩
  exact ⟨_, results_tmp rfl _ _ _, rfl, bel_putD hb4 (by omega) hDf⟩
theorem func_eqW (d : Nat) (fn : Fn) (first cap : Array Value) (W : World) : (Op.equalIn (d + 1) 55 (.func fn first cap) .nilFunc).run Try.prog W = .ok false W := by
  simp [Op.equalIn, run_underlying Try.underlying55]
theorem func_eq_nilW (fn : Fn) (first cap : Array Value) (W : World) : (binOp .eql 55 (.func fn first cap) .nilFunc).run Try.prog W = .ok (.bool false) W := by
  have h := func_eqW 9999 fn first cap W
  simp only [binOp]
  simp [Op.equal, Op.maxDepth, h]
def pl5 : List It := [([97], 5)]
theorem pl_may5 : mayL pl5 = true := by decide
theorem pl_may0 : mayL [] = true := by decide
theorem pl_rows5 : rowsN ([] ++ pl5) = pl5 := by
  rw [rowsN_eq ([] ++ pl5) [[97]] (by decide) (fun g => by simp [pl5])]
  decide
theorem pl_plusE5 : plusE [] pl5 = 0 := by
  unfold plusE normE
  rw [pl_may0, pl_may5, pl_rows5]
  decide
theorem pl_plusR5 : plusR [] pl5 = pl5 := by
  have h : normE ([] ++ pl5) = 0 := by have := pl_plusE5; unfold plusE at this; rw [pl_may0, pl_may5] at this; exact this
  unfold plusR normR
  rw [pl_may0, pl_may5, h, pl_rows5]
  rfl
theorem pl_wl5 : WL pl5 := fun x hx => by simp [pl5] at hx; subst hx; exact ⟨by simp [maxLen], by decide⟩
theorem pl_go : goE [] 1 0 2 pl5 = 0 := by decide +kernel
theorem pl_under (f : Int → Rec) (x : Ls) (hx : x.l = pl5) (e : f 1 = ⟨1, 0, 2, x, false⟩) : underO f 0 2 (sortI [1]) [] = pl5 := by
  rw [show sortI [1] = [1] from by unfold sortI; simp]
  unfold underO
  rw [e]
  show (if plusE [] x.l = 0 then underO f 0 2 [] (plusR [] x.l) else []) = pl5
  rw [hx, pl_plusE5, if_pos rfl, pl_plusR5]
  rfl
theorem pl_under2 (f : Int → Rec) (x : Ls) (e : f 1 = ⟨1, 0, 2, x, true⟩) : underO f 0 2 (sortI [1]) [] = [] := by
  rw [show sortI [1] = [1] from by unfold sortI; simp]
  unfold underO
  rw [e]
  rfl
set_option maxRecDepth 100000 in
set_option maxHeartbeats 3200000 in
theorem lives_any (w : World) : Calls Try.prog 8 #[] w fun e w' => e = .returned (.bool true) ∧ Below w.heap.size w w' := by
  have hnn := func_eq_nilW
  go_enter Try.func8, Try.ntmps8
  go_wp2_with fail
  refine (pnew_any _).mono ?_
  rintro e w1 ⟨p, b, rfl, hP, hpw, hbw, hb⟩
  go_wp2_with fail
  refine (pall_make _ _).mono ?_
  rintro e w2 ⟨rfl, hww⟩
  replace hP := hP.alloc (.cells #[.pointer (some ⟨p, 0, none⟩)] 23)
  replace hb := hb.alloc hb.size (.cells #[.pointer (some ⟨p, 0, none⟩)] 23)
  rw [← hww] at hP hb
  clear hww
  have hlt := hP.lt
  have hil := IL.one w2 [97] 5 36
  have hPa := hP.alloc (.cells #[.string ⟨#[97]⟩, .int .i64 5] 36)
  have hba := hb.alloc hb.size (.cells #[.string ⟨#[97]⟩, .int .i64 5] 36)
  obtain ⟨lb, hlb⟩ : ∃ lb, w2.heap.size = lb := ⟨_, rfl⟩
  have hz3 : (w2.alloc (.cells #[.string ⟨#[97]⟩, .int .i64 5] 36)).heap.size = lb + 1 := by simp [hlb]
  rw [hlb] at hil hlt
  replace hlb := Lib.hid hlb
  replace hz3 := Lib.hid hz3
  have c1 := go_ok hPa (by simp [maxLen]) 1 0 2 (some ⟨lb, 0, none⟩) 1 pl5 hil pl_wl5 (by decide) pl_go
  clear hP hb
  go_upto_region 5 with fail
  rw [hlb.out]
  go_wp2_with fail
  refine c1.mono ?_
  rintro e w3 ⟨rfl, x, hx, hP, hk⟩
  have hb := hba.trans (hk.below (B := w.heap.size) hba.size (fun i hi e => by omega))
  have hil3 := hil.kept hk (fun ad e _ e2 => by cases e; dsimp only at e2; omega)
  clear c1 hPa hba hk hil
  obtain ⟨f1, e1, hP⟩ : ∃ f1 : Int → Rec, f1 1 = ⟨1, 0, 2, x, false⟩ ∧ PS _ w3 p b _ f1 (addK [] 1) := ⟨_, if_pos rfl, hP⟩
  rw [show addK [] 1 = [1] from rfl] at hP
  have hlt3 := hP.lt
  have c1 := under_any hP (by simp) 0 2
  rw [pl_under f1 x hx e1] at c1
  go_wp2_with fail
  refine c1.mono ?_
  rintro e w4 ⟨v4, rfl, hO4, hx4⟩
  replace hP := hP.below hx4
  replace hb := hb.trans (hx4.mono hb.size)
  replace hil3 := hil3.below hx4
  obtain ⟨A4, c4, rfl, -, -, hil4, hal4⟩ := hO4.form
  simp only [show pl5.length = 1 from rfl] at hil4 hil3 ⊢
  have hbw4 := hP.lt.2
  have hal4b : ∀ ad, A4 = some ad → ¬ ad.block = b := fun ad e => by have h1 := (hal4 ad e).1; have h2 := hlt3.2; omega
  clear c1 hx4 hO4 hal4
  have c1 := come_ok hP (by simp [maxLen]) 1 (by decide) (by simp) (by rw [e1])
  rw [e1] at c1
  go_wp2_with fail
  refine c1.mono ?_
  rintro e w5 ⟨v5, rfl, hO5, hP, hk⟩
  have hbz := hb.size
  replace hb := hb.trans (hk.below (B := w.heap.size) hb.size (fun i hi e => by omega))
  replace hil3 := hil3.kept hk (fun ad e _ e2 => by cases e; dsimp only at e2; omega)
  replace hil4 := hil4.kept hk (fun ad e _ e2 => hal4b ad e e2)
  rw [show (⟨1, 0, 2, x, false⟩ : Rec).l.l = pl5 from hx] at hO5
  obtain ⟨A5, c5, rfl, -, -, hil5, -⟩ := hO5.form
  simp only [show pl5.length = 1 from rfl] at hil5 ⊢
  clear c1 hk hO5
  obtain ⟨f2, e2, hP⟩ : ∃ f2 : Int → Rec, f2 1 = ⟨1, 0, 2, x, true⟩ ∧ PS _ w5 p b _ f2 [1] := ⟨_, if_pos rfl, hP⟩
  go_wp2_with fail
  refine (come_twice hP 1 (by decide) (by simp) (by rw [e2])).mono ?_
  rintro e w6 ⟨rfl, hx6⟩
  replace hP := hP.below hx6
  replace hb := hb.trans (hx6.mono hb.size)
  replace hil3 := hil3.below hx6
  replace hil4 := hil4.below hx6
  replace hil5 := hil5.below hx6
  have s1 := same_b A4 (some ⟨lb, 0, none⟩) 1 c4 1 1 pl5 pl5 w6 hil4 hil3 (by decide)
  rw [show decide (pl5 = pl5) = true from by decide] at s1
  go_wp2_with fail
  refine s1.mono ?_
  rintro e w7 ⟨rfl, hx7⟩
  replace hP := hP.below hx7
  replace hb := hb.trans (hx7.mono hb.size)
  replace hil3 := hil3.below hx7
  replace hil5 := hil5.below hx7
  have s2 := same_b A5 (some ⟨lb, 0, none⟩) 1 c5 1 1 pl5 pl5 w7 hil5 hil3 (by decide)
  rw [show decide (pl5 = pl5) = true from by decide] at s2
  clear s1
  go_wp2_with fail
  refine s2.mono ?_
  rintro e w8 ⟨rfl, hx8⟩
  replace hP := hP.below hx8
  replace hb := hb.trans (hx8.mono hb.size)
  clear s2 hil3 hil4 hil5
  go_wp2_with fail
  refine (mlen_any hP).mono ?_
  rintro e w' ⟨rfl, hww⟩
  subst w'
  go_wp2_with fail
  refine (forget_no hP 2 (by decide) (by decide)).mono ?_
  rintro e w9 ⟨rfl, hx9⟩
  replace hP := hP.below hx9
  replace hb := hb.trans (hx9.mono hb.size)
  have c1 := under_any hP (by simp) 0 2
  rw [pl_under2 f2 x e2] at c1
  go_wp2_with fail
  refine c1.mono ?_
  rintro e w10 ⟨v10, rfl, hO10, hx10⟩
  replace hb := hb.trans (hx10.mono hb.size)
  obtain ⟨A10, c10, rfl, -, -, -, -⟩ := hO10.form
  simp only [List.length_nil]
  clear c1 hO10
  go_wp2
  go_ret
  exact ⟨rfl, hb⟩
end Go.Proofs.Ytligpmnpfdaknaa
