/- entrepotlaw17.lives answers true. No condition. -/
import Derived.Test.YthccfmlfofdaeaaPcJ
import Derived.Test.YthccfmlfofdaeaaLives6
namespace Go.Proofs.Ythccfmlfofdaeaa
open Go.RowKit Go.Maps Go.Shelf Go.Sort
set_option linter.unusedVariables false
set_option linter.unusedSimpArgs false

theorem func_eqP (d : Nat) (fn : Fn) (first cap : Array Value) (W : World) : (Op.equalIn (d + 1) 42 (.func fn first cap) .nilFunc).run Try.prog W = .ok false W := by
  simp [Op.equalIn, run_underlying Try.underlying42]
theorem func_eq_nilP (fn : Fn) (first cap : Array Value) (W : World) : (binOp .eql 42 (.func fn first cap) .nilFunc).run Try.prog W = .ok (.bool false) W := by
  have h := func_eqP 9999 fn first cap W
  simp only [binOp]
  simp [Op.equal, Op.maxDepth, h]
def pl3 : List It := [([97], 3)]
def pl5 : List It := [([97], 5)]
def pl6 : List It := [([97], 6)]
theorem pl_may3 : mayL pl3 = true := by decide
theorem pl_may5 : mayL pl5 = true := by decide
theorem pl_may0 : mayL [] = true := by decide
theorem pl_rows3 : rowsN ([] ++ pl3) = pl3 := by
  rw [rowsN_eq ([] ++ pl3) [[97]] (by decide) (fun g => by simp [pl3])]
  decide
theorem pl_rows6 : rowsN (pl3 ++ pl3) = pl6 := by
  rw [rowsN_eq (pl3 ++ pl3) [[97]] (by decide) (fun g => by simp [pl3])]
  decide
theorem pl_plusE3 : plusE [] pl3 = 0 := by
  unfold plusE normE
  rw [pl_may0, pl_may3, pl_rows3]
  decide
theorem pl_plusR3 : plusR [] pl3 = pl3 := by
  have h : normE ([] ++ pl3) = 0 := by have := pl_plusE3; unfold plusE at this; rw [pl_may0, pl_may3] at this; exact this
  unfold plusR normR
  rw [pl_may0, pl_may3, h, pl_rows3]
  rfl
theorem pl_plusE6 : plusE pl3 pl3 = 0 := by
  unfold plusE normE
  rw [pl_may3, pl_rows6]
  decide
theorem pl_plusR6 : plusR pl3 pl3 = pl6 := by
  have h : normE (pl3 ++ pl3) = 0 := by have := pl_plusE6; unfold plusE at this; rw [pl_may3] at this; exact this
  unfold plusR normR
  rw [pl_may3, h, pl_rows6]
  rfl
theorem pl_cov3 : coversL pl5 pl3 = true := by decide +kernel
theorem pl_cov6 : coversL pl5 pl6 = false := by decide +kernel
theorem pl_rest : restL pl3 [] = pl3 := by decide +kernel
theorem pl_wl3 : WL pl3 := fun x hx => by simp [pl3] at hx; subst hx; exact ⟨by simp [maxLen], by decide⟩
theorem pl_wl5 : WL pl5 := fun x hx => by simp [pl5] at hx; subst hx; exact ⟨by simp [maxLen], by decide⟩
theorem il_one1 (w : World) (s : List UInt8) (q : Int) (t : TypeId) : IL (w.alloc (.cells #[.string ⟨s.toArray⟩, .int .i64 q] t)) (some ⟨w.heap.size, 0, none⟩) 1 [(s, q)] := IL.one w s q t
set_option maxRecDepth 100000 in
set_option maxHeartbeats 3200000 in
theorem lives_any (w : World) : Calls Try.prog 7 #[] w fun e w' => e = .returned (.bool true) ∧ Below w.heap.size w w' := by
  have hnn := func_eq_nilP
  go_enter Try.func7, Try.ntmps7
  go_wp2_with fail
  refine (pnew_any _).mono ?_
  rintro e w1 ⟨p, b, rfl, hP, hpw, hbw, hb⟩
  go_wp2_with fail
  refine (pall_make _ _).mono ?_
  rintro e w2 ⟨rfl, hww⟩
  replace hP := hP.alloc (.cells #[.pointer (some ⟨p, 0, none⟩)] 23)
  replace hb := hb.alloc hb.size (.cells #[.pointer (some ⟨p, 0, none⟩)] 23)
  rw [← hww] at hP hb
  clear hww
  have hil := il_one1 w2 [97] 5 52
  have hPa := hP.alloc (.cells #[.string ⟨#[97]⟩, .int .i64 5] 52)
  have hba := hb.alloc hb.size (.cells #[.string ⟨#[97]⟩, .int .i64 5] 52)
  have c1 := popen_ok hPa (by simp [maxLen]) 1 (some ⟨w2.heap.size, 0, none⟩) 1 pl5 hil pl_wl5 (by decide) (by decide) (by decide) pl_may5 (by simp [pl5]) (by simp)
  clear hil hP hb
  go_wp2_with fail
  refine c1.mono ?_
  rintro e w3 ⟨rfl, x, hx, hP, hk⟩
  have hb := hba.trans (hk.below hba.size (fun i hi e => by omega))
  clear c1 hPa hba hk
  obtain ⟨f1, e1, hP⟩ : ∃ f1 : Int → Rec, f1 1 = ⟨1, x, ls0, ls0, fr0⟩ ∧ PS _ w3 p b _ f1 (addK [] 1) := ⟨_, if_pos rfl, hP⟩
  rw [show addK [] 1 = [1] from rfl] at hP
  have hil := il_one1 w3 [97] 3 52
  have hPa := hP.alloc (.cells #[.string ⟨#[97]⟩, .int .i64 3] 52)
  have hba := hb.alloc hb.size (.cells #[.string ⟨#[97]⟩, .int .i64 3] 52)
  have c1 := ship_any hPa (by simp [maxLen]) 1 0 (by decide) (by simp) (by decide) (by decide) (some ⟨w3.heap.size, 0, none⟩) 1 pl3 hil pl_wl3 pl_may3
  rw [e1] at c1
  clear hil hP hb
  go_wp2_with fail
  refine c1.mono ?_
  rintro e w4 ⟨z, rfl, hst, hk, hP⟩
  have hz : z = 0 := hst.ok rfl ⟨pl_plusE3, by rw [show (⟨1, x, ls0, ls0, fr0⟩ : Rec).w.l = pl5 from hx, show (⟨1, x, ls0, ls0, fr0⟩ : Rec).s.l = [] from rfl, pl_plusR3]; exact pl_cov3⟩
  subst hz
  replace hP := hP.resolve_right (fun h => h.1 rfl)
  obtain ⟨-, -, -, -, s, hs, hP⟩ := hP
  rw [show (⟨1, x, ls0, ls0, fr0⟩ : Rec).s.l = [] from rfl, pl_plusR3] at hs
  have hb := hba.trans (hk.below hba.size (fun i hi e => by omega))
  clear c1 hPa hba hk hst
  obtain ⟨f2, e2, hP⟩ : ∃ f2 : Int → Rec, f2 1 = shipRec (⟨1, x, ls0, ls0, fr0⟩ : Rec) 0 s ∧ PS _ w4 p b _ f2 (addK [1] 1) := ⟨_, if_pos rfl, hP⟩
  rw [show addK [1] 1 = [1] from rfl] at hP
  have hil := il_one1 w4 [97] 3 52
  have hPa := hP.alloc (.cells #[.string ⟨#[97]⟩, .int .i64 3] 52)
  have hba := hb.alloc hb.size (.cells #[.string ⟨#[97]⟩, .int .i64 3] 52)
  have c1 := ship_any hPa (by simp [maxLen]) 1 1 (by decide) (by simp) (by decide) (by decide) (some ⟨w4.heap.size, 0, none⟩) 1 pl3 hil pl_wl3 pl_may3
  rw [e2] at c1
  clear hil hP hb
  go_wp2_with fail
  refine c1.mono ?_
  rintro e w5 ⟨z, rfl, hst, hk, hP⟩
  have hz : z = 50 := hst.over rfl (fun h => by
    have h2 := h.2
    rw [show (shipRec (⟨1, x, ls0, ls0, fr0⟩ : Rec) 0 s).w.l = pl5 from hx, show (shipRec (⟨1, x, ls0, ls0, fr0⟩ : Rec) 0 s).s.l = pl3 from hs, pl_plusR6, pl_cov6] at h2
    cases h2)
  subst hz
  replace hP := (hP.resolve_left (fun h => absurd h.1 (by decide))).2
  have hb := hba.trans (hk.below hba.size (fun i hi e => by omega))
  clear c1 hPa hba hk hst
  have c1 := parcel_any hP 1 (by decide)
  rw [e2, show decide ((1 : Int) ∈ [1]) = true from rfl, show (shipRec (⟨1, x, ls0, ls0, fr0⟩ : Rec) 0 s).s.l = pl3 from hs, show (shipRec (⟨1, x, ls0, ls0, fr0⟩ : Rec) 0 s).w.l = pl5 from hx, show (shipRec (⟨1, x, ls0, ls0, fr0⟩ : Rec) 0 s).b.l = [] from rfl, show (shipRec (⟨1, x, ls0, ls0, fr0⟩ : Rec) 0 s).o = 1 from rfl] at c1
  go_wp2_with fail
  refine c1.mono ?_
  rintro e w6 ⟨u, rfl, ⟨A, ca, A2, ca2, A3, ca3, rfl, o1, o2, o3⟩, hx6⟩
  simp only [show pl3.length = 1 from rfl, show pl5.length = 1 from rfl, List.length_nil] at o2 ⊢
  replace hP := hP.below hx6
  replace hb := hb.trans (hx6.mono hb.size)
  obtain ⟨A', ca', hv, -, -, hil, -⟩ := o2.form
  simp only [Value.slice.injEq] at hv
  obtain ⟨rfl, -, rfl⟩ := hv
  obtain ⟨sb, so, rfl, hcell⟩ := IL.N0 hil
  clear c1 hx6 o1 o2 o3 hil
  go_upto_region 7 with fail
  have zE := Blk.new w6 35 #[.int .i64 1, .slice A 1 ca, .slice (some ⟨sb, so, none⟩) 1 ca2, .slice A3 0 ca3]
  have hc2 := Lib.cell?_alloc_some (.cells #[.int .i64 1, .slice A 1 ca, .slice (some ⟨sb, so, none⟩) 1 ca2, .slice A3 0 ca3] 35) hcell
  have hbE := (Below.refl w6.heap.size w6).alloc (Nat.le_refl _) (.cells #[.int .i64 1, .slice A 1 ca, .slice (some ⟨sb, so, none⟩) 1 ca2, .slice A3 0 ca3] 35)
  generalize w6.alloc (.cells #[.int .i64 1, .slice A 1 ca, .slice (some ⟨sb, so, none⟩) 1 ca2, .slice A3 0 ca3] 35) = WE at zE hc2 hbE ⊢
  have y2 := zE.cell 2
  simp at y2
  replace hP := hP.below hbE
  replace hb := hb.trans (hbE.mono hb.size)
  have c1 := left_any hP 1 (by decide)
  rw [e2, show (shipRec (⟨1, x, ls0, ls0, fr0⟩ : Rec) 0 s).s.l = pl3 from hs, show (shipRec (⟨1, x, ls0, ls0, fr0⟩ : Rec) 0 s).b.l = [] from rfl, pl_rest] at c1
  clear zE hcell hbE
  go_wp2_with fail
  refine c1.mono ?_
  rintro e w7 ⟨v, rfl, hO, hx7⟩
  replace hP := hP.below hx7
  replace hb := hb.trans (hx7.mono hb.size)
  obtain ⟨A7, ca7, rfl, -, -, -, -⟩ := hO.form
  simp only [show pl3.length = 1 from rfl]
  clear hO c1 hx7
  go_wp2_with fail
  refine (plen_any hP).mono ?_
  rintro e w' ⟨rfl, hww⟩
  subst w'
  go_wp2
  go_ret
  exact ⟨rfl, hb⟩
end Go.Proofs.Ythccfmlfofdaeaa
