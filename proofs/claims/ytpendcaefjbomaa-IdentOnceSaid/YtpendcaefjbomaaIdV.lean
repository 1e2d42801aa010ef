/- The contract of the statements' own check (ident): it returns true and only makes memory. No condition. -/
import Derived.Test.YtpendcaefjbomaaIdU
import Derived.Lib.SlBytesConst
namespace Go.Proofs.Ytpendcaefjbomaa
open Go.RowKit Go.Maps Go.Shelf Go.Sort
set_option linter.unusedVariables false
set_option linter.unusedSimpArgs false

theorem RB.made (w : World) (cs : Array Value) (t : TypeId) (fr : Nat × Nat) (l : List UInt8) (h : cs = (l.map bv).toArray) : RB (w.alloc (.cells cs t fr)) (some ⟨w.heap.size, 0, none⟩) l.length l := by
  subst h
  refine ⟨rfl, fun _ => ⟨_, _, rfl, fun j y hy => ?_⟩⟩
  rw [cell_of_row _ _ _ _ _ _ (heap_alloc_new w _)]
  simp [hy]
theorem func_eqI (d : Nat) (fn : Fn) (first cap : Array Value) (W : World) : (Op.equalIn (d + 1) 57 (.func fn first cap) .nilFunc).run Try.prog W = .ok false W := by
  simp [Op.equalIn, run_underlying Try.underlying57]
theorem func_eq_nilI (fn : Fn) (first cap : Array Value) (W : World) : (binOp .eql 57 (.func fn first cap) .nilFunc).run Try.prog W = .ok (.bool false) W := by
  have h := func_eqI 9999 fn first cap W
  simp only [binOp]
  simp [Op.equal, Op.maxDepth, h]
def mixX : Int := (mixOf 7 [120] : Int)
def mixY : Int := (mixOf 7 [121] : Int)
theorem mix_ne : mixX ≠ mixY := by decide +kernel
theorem mix_x : (mixOf 7 [120] : Int) = mixX := rfl
theorem mix_y : (mixOf 7 [121] : Int) = mixY := rfl
set_option maxRecDepth 100000 in
set_option maxHeartbeats 3200000 in
theorem lives_any (w : World) : Calls Try.prog 10 #[] w fun e w' => e = .returned (.bool true) ∧ Below w.heap.size w w' := by
  have hcv := fun (w : World) (C : Array Value) (n c : Nat) => Lib.run_convert_bytes_const (P := Try.prog) w 32 5 C n c Try.underlying32 Try.underlying5
  have hnn := func_eq_nilI
  go_enter Try.func10, Try.ntmps10
  go_wp2_with fail
  refine (tnew_any _).mono ?_
  rintro e w0 ⟨p, b, rfl, hS, -, -, hb0⟩
  have hT0 := TI.of hS
  have hL1 : ∀ g, (w.heap.size ≤ g ∧ g < w0.heap.size) → w.heap.size ≤ g := fun g hg => hg.1
  clear hS
  go_wp2_with fail
  refine (topen_make _ _).mono ?_
  rintro e w1 ⟨rfl, hww⟩
  have hT1 := hT0.below ((Below.refl w0.heap.size w0).alloc (Nat.le_refl _) (.cells #[.pointer (some ⟨p, 0, none⟩)] 23))
  have hb1 := hb0.alloc hb0.size (.cells #[.pointer (some ⟨p, 0, none⟩)] 23)
  rw [← hww] at hT1 hb1
  clear hww hT0 hb0
  have hr2 := RB.made w1 #[.int .u8 120] 5 (1, 2) [120] rfl
  have hT2' := (hT1).below ((Below.refl (w1).heap.size w1).alloc (Nat.le_refl _) (.cells #[.int .u8 120] 5 (1, 2)))
  have hb2' := (hb1).alloc (hb1).size (.cells #[.int .u8 120] 5 (1, 2))
  have v2 : vd (fun _ => cl0) 3 1 mixX = 1 := by simp [vd, askV, mayC, mayN, cl0]
  have u2 : (vr (fun _ => cl0) 3 1 mixX).a = .agg #[.int .i64 0, .int .i64 0, .int .i64 0, .int .i64 0] := by simp only [vr]; rw [v2]; rfl
  have hc2 := ask_i hT2' 3 1 (by decide) (by decide) (some ⟨w1.heap.size, 0, none⟩) 1 1 [120] hr2 (by decide) (by decide) (by simp [maxLen])
  rw [mix_x, v2, u2] at hc2
  go_wp2_with fail
  refine hc2.mono ?_
  rintro e w2 ⟨rfl, F2, cl2, cs2, hT2, hk2, hF2, hto2⟩
  have hb2 := hb2'.trans (hk2.below (B := w.heap.size) hb2'.size (fun j hj e => by have := hL1 j e; omega))
  have hL2 : ∀ g, F2 g → w.heap.size ≤ g := fun g hg => (hF2 g hg).elim (hL1 g) (fun e => by have := hb2'.size; omega)
  clear hc2 hr2 hT2' hb2'
  obtain ⟨-, k2, n2, q2⟩ := hto2.2 v2
  have k2' : (cl2 3).k = 1 := k2
  have n2' : (cl2 3).ns = [1] := n2
  have q2' : (cl2 3).g 1 = ⟨mixX, false, 0, 0, 0, 0⟩ := by rw [q2]; simp
  clear hto2 k2 n2 q2
  have hr3 := RB.made (w2.alloc (.cells #[.int .i64 0, .int .i64 0, .int .i64 0, .int .i64 0] 35)) #[.int .u8 121] 5 (1, 2) [121] rfl
  rw [World.size_alloc] at hr3
  have hcv3 := hcv (w2.alloc (.cells #[.int .i64 0, .int .i64 0, .int .i64 0, .int .i64 0] 35)) #[.int .u8 121] 1 1
  rw [World.size_alloc] at hcv3
  have hT3' := (hT2.below ((Below.refl w2.heap.size w2).alloc (Nat.le_refl _) (.cells #[.int .i64 0, .int .i64 0, .int .i64 0, .int .i64 0] 35))).below ((Below.refl ((w2.alloc (.cells #[.int .i64 0, .int .i64 0, .int .i64 0, .int .i64 0] 35))).heap.size (w2.alloc (.cells #[.int .i64 0, .int .i64 0, .int .i64 0, .int .i64 0] 35))).alloc (Nat.le_refl _) (.cells #[.int .u8 121] 5 (1, 2)))
  have hb3' := (hb2.alloc hb2.size (.cells #[.int .i64 0, .int .i64 0, .int .i64 0, .int .i64 0] 35)).alloc (hb2.alloc hb2.size (.cells #[.int .i64 0, .int .i64 0, .int .i64 0, .int .i64 0] 35)).size (.cells #[.int .u8 121] 5 (1, 2))
  have v3 : vd cl2 3 1 mixY = 4 := by simp [vd, askV, mayC, mayN, k2', n2', q2', mix_ne]
  have u3 : (vr cl2 3 1 mixY).a = .agg #[.int .i64 0, .int .i64 0, .int .i64 0, .int .i64 0] := by simp only [vr]; rw [v3]; rfl
  have hc3 := ask_i hT3' 3 1 (by decide) (by decide) (some ⟨w2.heap.size + 1, 0, none⟩) 1 1 [121] hr3 (by decide) (by decide) (by simp [maxLen])
  rw [mix_y, v3, u3] at hc3
  go_wp2_with fail
  refine hc3.mono ?_
  rintro e w3 ⟨rfl, F3, cl3, cs3, hT3, hk3, hF3, hto3⟩
  have hb3 := hb3'.trans (hk3.below (B := w.heap.size) hb3'.size (fun j hj e => by have := hL2 j e; omega))
  have hL3 : ∀ g, F3 g → w.heap.size ≤ g := fun g hg => (hF3 g hg).elim (hL2 g) (fun e => by have := hb3'.size; omega)
  clear hc3 hr3 hT3' hb3'
  obtain rfl : cl3 = cl2 := hto3.1 (by rw [v3]; decide)
  clear hto3
  have hT3a := hT3.below ((Below.refl w3.heap.size w3).alloc (Nat.le_refl _) (.cells #[.int .i64 0, .int .i64 0, .int .i64 0, .int .i64 0] 35))
  have hb3a := hb3.alloc hb3.size (.cells #[.int .i64 0, .int .i64 0, .int .i64 0, .int .i64 0] 35)
  have v4 : tE cl3 3 1 0 = 0 := by simp [tE, mayC, mayN, n2', q2']
  have hc4 := tell_i hT3a 3 1 0 5 (by decide) (by decide) (by simp [maxLen])
  rw [v4] at hc4
  go_wp2_with fail
  refine hc4.mono ?_
  rintro e w4 ⟨rfl, cl4, hT4, hk4, hto4⟩
  have hb4 := hb3a.trans (hk4.below (B := w.heap.size) hb3a.size (fun j hj e => by have := hL3 j e; omega))
  obtain ⟨-, k4, n4, q4⟩ := hto4.2 v4
  have k4' : (cl4 3).k = 1 := k4.trans k2'
  have n4' : (cl4 3).ns = [1] := n4.trans n2'
  have q4' : (cl4 3).g 1 = ⟨mixX, true, 3, 1, 0, 5⟩ := by rw [q4]; simp [q2']
  clear hto4 k4 n4 q4 hc4
  have hr5 := RB.made w4 #[.int .u8 120] 5 (1, 2) [120] rfl
  have hT5' := (hT4).below ((Below.refl (w4).heap.size w4).alloc (Nat.le_refl _) (.cells #[.int .u8 120] 5 (1, 2)))
  have hb5' := (hb4).alloc (hb4).size (.cells #[.int .u8 120] 5 (1, 2))
  have v5 : vd cl4 3 1 mixX = 3 := by simp [vd, askV, mayC, mayN, k4', n4', q4']
  have u5 : (vr cl4 3 1 mixX).a = .agg #[.int .i64 3, .int .i64 1, .int .i64 0, .int .i64 5] := by simp only [vr]; rw [v5]; simp only [if_true]; rw [q4']; rfl
  have hc5 := ask_i hT5' 3 1 (by decide) (by decide) (some ⟨w4.heap.size, 0, none⟩) 1 1 [120] hr5 (by decide) (by decide) (by simp [maxLen])
  rw [mix_x, v5, u5] at hc5
  go_wp2_with fail
  refine hc5.mono ?_
  rintro e w5 ⟨rfl, F5, cl5, cs5, hT5, hk5, hF5, hto5⟩
  have hb5 := hb5'.trans (hk5.below (B := w.heap.size) hb5'.size (fun j hj e => by have := hL3 j e; omega))
  have hL5 : ∀ g, F5 g → w.heap.size ≤ g := fun g hg => (hF5 g hg).elim (hL3 g) (fun e => by have := hb5'.size; omega)
  clear hc5 hr5 hT5' hb5'
  obtain rfl : cl5 = cl4 := hto5.1 (by rw [v5]; decide)
  clear hto5
  have hY := Blk.new w5 35 #[.int .i64 3, .int .i64 1, .int .i64 0, .int .i64 5]
  have hT5a := hT5.below ((Below.refl w5.heap.size w5).alloc (Nat.le_refl _) (.cells #[.int .i64 3, .int .i64 1, .int .i64 0, .int .i64 5] 35))
  have hb5a := hb5.alloc hb5.size (.cells #[.int .i64 3, .int .i64 1, .int .i64 0, .int .i64 5] 35)
  have hc6 := low_i hT5a 3 2 (by decide) (by rw [n4']; decide) (by simp [maxLen])
  go_wp2_with fail
  refine hc6.mono ?_
  rintro e w6 ⟨E6, rfl, F6, cl6, cs6, hT6, hk6, hF6, hto6⟩
  have hb6 := hb5a.trans (hk6.below (B := w.heap.size) hb5a.size (fun j hj e => by have := hL5 j e; omega))
  have hL6 : ∀ g, F6 g → w.heap.size ≤ g := fun g hg => (hF6 g hg).elim (hL5 g) (fun e => by have := hb5a.size; omega)
  have hn5 : ¬ F5 w5.heap.size := fun e => by have := hT5.2 _ e; omega
  have hY6 := hY.kept hk6 hn5
  have hn6 : ¬ F6 w5.heap.size := fun e => (hF6 _ e).elim hn5 (fun e => by simp at e; omega)
  have hm6 : mayC 3 ∧ (1 : Int) ≤ 2 ∧ (2 : Int) ≤ 4294967297 := by refine ⟨⟨by decide, by decide⟩, by decide, by decide⟩
  have hnb : ¬ badL (cl5 3) 2 := by
    rintro ⟨x, h1, h2, h3⟩
    rw [n4'] at h1
    rw [List.mem_singleton.1 h1, q4'] at h2
    cases h2
  rcases hto6 with ⟨-, h1, -⟩ | ⟨-, -, h1, -⟩ | ⟨-, -, -, h1, -⟩ | ⟨rfl, -, -, -, -, k6, -, n6, -⟩
  · exact absurd hm6 h1
  · exact absurd h1 hnb
  · rw [k4'] at h1; exact absurd h1 (by decide)
  have n6' : (cl6 3).ns = [] := List.eq_nil_iff_forall_not_mem.2 fun y hy => by
    obtain ⟨h1, h2⟩ := (n6 y).1 hy
    rw [n4'] at h1
    rw [List.mem_singleton.1 h1] at h2
    exact h2 (by decide)
  clear hc6 hm6 hnb n6
  have hr7 := RB.made w6 #[.int .u8 120] 5 (1, 2) [120] rfl
  have hT7' := (hT6).below ((Below.refl (w6).heap.size w6).alloc (Nat.le_refl _) (.cells #[.int .u8 120] 5 (1, 2)))
  have hb7' := (hb6).alloc (hb6).size (.cells #[.int .u8 120] 5 (1, 2))
  have v7 : vd cl6 3 1 mixX = 5 := by simp [vd, askV, mayC, mayN, k6]
  have u7 : (vr cl6 3 1 mixX).a = .agg #[.int .i64 0, .int .i64 0, .int .i64 0, .int .i64 0] := by simp only [vr]; rw [v7]; rfl
  have hc7 := ask_i hT7' 3 1 (by decide) (by decide) (some ⟨w6.heap.size, 0, none⟩) 1 1 [120] hr7 (by decide) (by decide) (by simp [maxLen])
  rw [mix_x, v7, u7] at hc7
  go_wp2_with fail
  refine hc7.mono ?_
  rintro e w7 ⟨rfl, F7, cl7, cs7, hT7, hk7, hF7, hto7⟩
  have hb7 := hb7'.trans (hk7.below (B := w.heap.size) hb7'.size (fun j hj e => by have := hL6 j e; omega))
  have hL7 : ∀ g, F7 g → w.heap.size ≤ g := fun g hg => (hF7 g hg).elim (hL6 g) (fun e => by have := hb7'.size; omega)
  clear hc7 hr7 hT7' hb7'
  obtain rfl : cl7 = cl6 := hto7.1 (by rw [v7]; decide)
  have hY7 := (hY6.alloc (.cells #[.int .u8 120] 5 (1, 2))).kept hk7 hn6
  clear hto7 hY hY6
  have y3 := hY7.cell 3
  simp only [List.getElem?_toArray, List.getElem?_cons_succ, List.getElem?_cons_zero] at y3
  have hT7a := hT7.below ((Below.refl w7.heap.size w7).alloc (Nat.le_refl _) (.cells #[.int .i64 0, .int .i64 0, .int .i64 0, .int .i64 0] 35))
  have hb7a := hb7.alloc hb7.size (.cells #[.int .i64 0, .int .i64 0, .int .i64 0, .int .i64 0] 35)
  have y3a := (hY7.alloc (.cells #[.int .i64 0, .int .i64 0, .int .i64 0, .int .i64 0] 35)).cell 3
  simp only [List.getElem?_toArray, List.getElem?_cons_succ, List.getElem?_cons_zero] at y3a
  have hmk := mark_any hT7a.1 3 (by decide) ⟨by decide, by decide⟩
  rw [k6] at hmk
  go_wp2_with fail
  refine hmk.mono ?_
  rintro e w8 ⟨rfl, hx8⟩
  have hT8 := hT7a.below hx8
  have hb8 := hb7a.trans (hx8.mono hb7a.size)
  have hln := len_any hT8.1 3 (by decide)
  rw [n6'] at hln
  clear hmk
  go_wp2_with fail
  refine hln.mono ?_
  rintro e w9 ⟨rfl, hx9⟩
  have hb9 := hb8.trans (hx9.mono hb8.size)
  clear hln
  go_wp2
  go_ret
  exact ⟨rfl, hb9⟩
end Go.Proofs.Ytpendcaefjbomaa
