/- What must come of every program of the layer of mail: lives. No condition. -/
import Derived.Test.YtefgcknnnglkpaaMaD
import Derived.Test.YtefgcknnnglkpaaMaS
namespace Go.Proofs.Ytefgcknnnglkpaa
open Go.RowKit Go.Maps Go.Shelf
set_option linter.unusedVariables false
set_option linter.unusedSimpArgs false

def lM : MV := ⟨4, 65, [([97], 5)], x0, y0⟩
theorem lm_may : mayM lM = true := by decide +kernel
theorem lm_no : mayM mv0 = false := by decide +kernel
theorem lm_has : hasM 4 = [111, 105] := by decide +kernel
theorem lm_ans : ansK 3 = 4 := by decide +kernel
theorem lm_len : (encM lM).length ≤ 2048 := encKM_len (OKM.of lm_may)
theorem lm_yn : YN lM := ⟨by show (-9223372036854775808 : Int) ≤ 0; omega, by show (0 : Int) ≤ 9223372036854775807; omega⟩
theorem lm_same : sameM lM lM = true := (sameM_iff _ _).2 rfl
theorem Blk.below_ {W W' : World} {g : Nat} {t : TypeId} {cs : Array Value} (h : Blk W g t cs) (k : Below W.heap.size W W') : Blk W' g t cs := h.kept (Keep.of_below k) (by have := h.lt; omega)
theorem IL.one1 (w : World) (s : List UInt8) (q : Int) (t : TypeId) : IL (w.alloc (.cells #[.string ⟨s.toArray⟩, .int .i64 q] t)) (some ⟨w.heap.size, 0, none⟩) 1 [(s, q)] := by
  have hB := Blk.new w t #[.string ⟨s.toArray⟩, .int .i64 q]
  refine ⟨rfl, fun j x hx => ?_⟩
  match j, hx with
  | 0, hx =>
    simp at hx
    subst hx
    exact ⟨_, 0, rfl, hB.cell 0, hB.cell 1⟩
def cM (A : Option Addr) (c : Nat) (B : Option Addr) (cb : Nat) : Array Value := #[.int .i64 4, .int .i64 65, .slice A 1 c, .int .i64 0, .int .i64 0, .int .i64 0, .int .i64 0, .int .i64 0, .int .i64 0, .int .i64 0, .string ⟨#[]⟩, .slice B 0 cb, .int .i64 0, .int .i64 0, .int .i64 0, .int .i64 0]
theorem lm_v (A : Option Addr) (c : Nat) (B : Option Addr) (cb : Nat) : lM.v A c B cb = .agg (cM A c B cb) := rfl
set_option maxRecDepth 100000 in
set_option maxHeartbeats 12800000 in
theorem mlives_any (w : World) : Calls Try.prog 7 #[] w fun e w' => e = .returned (.bool true) ∧ Below w.heap.size w w' := by
  obtain ⟨w0, hw0⟩ : ∃ w0, (w.alloc (.cells #[.string ⟨#[97]⟩, .int .i64 5] 46)) = w0 := ⟨_, rfl⟩
  have hs0 : w0.heap.size = w.heap.size + 1 := by rw [← hw0]; simp only [World.size_alloc]
  have hb0 : Below w.heap.size w w0 := by
    rw [← hw0]
    exact (Below.refl w.heap.size w).alloc (Nat.le_refl _) _
  have hil0 : IL w0 (some ⟨w.heap.size, 0, none⟩) 1 [([97], 5)] := by
    rw [← hw0]
    exact IL.one1 w [97] 5 _
  have hbM := Blk.new w0 29 (cM (some ⟨w.heap.size, 0, none⟩) 1 none 0)
  have hilN := hil0.alloc (.cells (cM (some ⟨w.heap.size, 0, none⟩) 1 none 0) 29)
  have hbelN := hb0.alloc hb0.size (.cells (cM (some ⟨w.heap.size, 0, none⟩) 1 none 0) 29)
  obtain ⟨wN, hwN⟩ : ∃ W, w0.alloc (.cells (cM (some ⟨w.heap.size, 0, none⟩) 1 none 0) 29) = W := ⟨_, rfl⟩
  rw [hwN] at hbM hilN hbelN
  have hM : ∀ A c B cb W, IL W A 1 [([97], 5)] → IL W B 0 [] → Calls Try.prog 9 #[.agg (cM A c B cb)] W fun e w' => e = .returned (.bool true) ∧ Below W.heap.size W w' := fun A c B cb W h1 h2 => by
    have := mmay_any lM A c B cb W h1 h2 (by show 1 ≤ 9223372036854775807; omega) (Nat.zero_le _)
    rw [lm_may] at this
    exact this
  have hM0 : ∀ W, Calls Try.prog 9 #[.agg zeroM] W fun e w' => e = .returned (.bool false) ∧ Below W.heap.size W w' := fun W => by
    have := mmay_any mv0 none 0 none 0 W (IL.nil _ _) (IL.nil _ _) (Nat.zero_le _) (Nat.zero_le _)
    rw [lm_no] at this
    exact this
  have hS : ∀ A c B cb A' c' B' cb' W, IL W A 1 [([97], 5)] → IL W B 0 [] → IL W A' 1 [([97], 5)] → IL W B' 0 [] → Calls Try.prog 15 #[.agg (cM A c B cb), .agg (cM A' c' B' cb')] W fun e w' => e = .returned (.bool true) ∧ Below W.heap.size W w' := fun A c B cb A' c' B' cb' W h1 h2 h3 h4 => by
    have := msame_any lM lM A c B cb A' c' B' cb' W h1 h2 h3 h4 (by show 1 ≤ 9223372036854775807; omega) (Nat.zero_le _)
    rw [lm_same] at this
    exact this
  have hR : ∀ A c B cb A' c' B' cb' W, IL W A 1 [([97], 5)] → IL W B 0 [] → IL W A' 1 [([97], 5)] → IL W B' 0 [] → Calls Try.prog 13 #[.agg (cM A c B cb), .agg (cM A' c' B' cb')] W fun e w' => e = .returned (.bool true) ∧ Below W.heap.size W w' := fun A c B cb A' c' B' cb' W h1 h2 h3 h4 => by
    have := rmsame_any lM lM A c B cb A' c' B' cb' W h1 h2 h3 h4 (by show 1 ≤ 9223372036854775807; omega) (Nat.zero_le _)
    rw [lm_same] at this
    exact this
  have hE : ∀ A c B cb W, IL W A 1 [([97], 5)] → IL W B 0 [] → Calls Try.prog 8 #[.agg (cM A c B cb)] W (EncPost true (encM lM) 1 W) := fun A c B cb W h1 h2 => by
    have := menc_any lM A c B cb W h1 h2 (by show 1 ≤ 9223372036854775807; omega) (Nat.zero_le _) lm_yn
    rw [lm_may] at this
    exact this
  have hLen := lm_len
  obtain ⟨E, hEe⟩ : ∃ E, encM lM = E := ⟨_, rfl⟩
  rw [hEe] at hE hLen
  replace hEe := Lib.hid hEe
  unfold cM at hM hS hR hE
  unfold zeroM at hM0
  go_enter Try.func7, Try.ntmps7
  unfold cM at hwN
  clear hs0
  replace hwN := Lib.hid hwN
  go_wp2_with fail
  rw [hwN.out]
  clear hwN hw0 hil0 hb0
  refine (hE _ _ _ _ wN hilN (IL.nil _ _)).mono ?_
  rintro e w2 ⟨hx2, AB, cB, rfl, hlc, hcm, hrB, _⟩
  have hb2 := hbelN.trans (hx2.mono hbelN.size)
  go_wp2_with fail
  refine (mdec_any AB E.length cB E w2 hrB (by omega)).mono ?_
  rintro e w3 ⟨hx3, h3⟩
  have hb3 := hb2.trans (hx3.mono hb2.size)
  rcases h3 with ⟨x, A3, c3, B3, d3, hxm, hyn, hbe, hil3, hia3, ok, rfl, hok⟩ | ⟨hno, _⟩
  case inr => exact absurd hEe.out.symm (hno lM lm_may lm_yn)
  have hxe : x = lM := encM_inj hxm lm_may hyn lm_yn (hbe.symm.trans hEe.out.symm)
  subst hxe
  unfold errV at hok
  dsimp only at hok
  subst hok
  rw [lm_v]
  have hil3 : IL w3 A3 1 [([97], 5)] := hil3
  have hia3 : IL w3 B3 0 [] := hia3
  have hbM3 := (hbM.below_ hx2).below_ hx3
  have hilN3 := (hilN.below hx2).below hx3
  clear hxm hyn hbe hbM hilN hrB
  have hb4 := hb3.alloc hb3.size (.cells (cM A3 c3 B3 d3) 29)
  have hv4 := Blk.new w3 29 (cM A3 c3 B3 d3)
  have hbM4 := hbM3.alloc (.cells (cM A3 c3 B3 d3) 29)
  have hil4 := hil3.alloc (.cells (cM A3 c3 B3 d3) 29)
  have hia4 := hia3.alloc (.cells (cM A3 c3 B3 d3) 29)
  have hilN4 := hilN3.alloc (.cells (cM A3 c3 B3 d3) 29)
  unfold cM
  go_wp2_with (first | (refine wpLoadM 29 (by rfl) (.tmp 4) rfl rfl hv4 _ Try.underlying29 rfl mail_info ?_) | (refine wpLoadM 29 (by rfl) (.tmp 1) rfl rfl hbM4 _ Try.underlying29 rfl mail_info ?_))
  refine (hR _ _ _ _ _ _ _ _ _ hil4 hia4 hilN4 (IL.nil _ _)).mono ?_
  rintro e w5 ⟨rfl, hx5⟩
  have hb5 := hb4.trans (hx5.mono hb4.size)
  have hv5 := hv4.below_ hx5
  have hbM5 := hbM4.below_ hx5
  have hil5 := hil4.below hx5
  have hia5 := hia4.below hx5
  have hilN5 := hilN4.below hx5
  clear hv4 hbM4 hil4 hia4 hilN4
  go_wp2_with (first | (refine wpLoadM 29 (by rfl) (.tmp 4) rfl rfl hv5 _ Try.underlying29 rfl mail_info ?_) | (refine wpLoadM 29 (by rfl) (.tmp 1) rfl rfl hbM5 _ Try.underlying29 rfl mail_info ?_))
  refine (hS _ _ _ _ _ _ _ _ w5 hil5 hia5 hilN5 (IL.nil _ _)).mono ?_
  rintro e w6 ⟨rfl, hx6⟩
  have hb6 := hb5.trans (hx6.mono hb5.size)
  have hbM6 := hbM5.below_ hx6
  have hilN6 := hilN5.below hx6
  go_wp2_with (refine wpLoadM 29 (by rfl) (.tmp 1) rfl rfl hbM6 _ Try.underlying29 rfl mail_info ?_)
  refine (hM _ _ _ _ w6 hilN6 (IL.nil _ _)).mono ?_
  rintro e w7 ⟨rfl, hx7⟩
  have hb7 := hb6.trans (hx7.mono hb6.size)
  have k7 := mhas_any 4 w7
  rw [lm_has] at k7
  go_wp2_with fail
  refine k7.mono ?_
  rintro e w' ⟨rfl, hww⟩
  subst w'
  have k8 := manswers_any 3 w7
  rw [lm_ans] at k8
  go_wp2_with fail
  refine k8.mono ?_
  rintro e w' ⟨rfl, hww⟩
  subst w'
  go_wp2_with fail
  refine (hM0 w7).mono ?_
  rintro e w8 ⟨rfl, hx8⟩
  go_wp2
  go_ret
  exact ⟨rfl, hb7.trans (hx8.mono hb7.size)⟩
end Go.Proofs.Ytefgcknnnglkpaa
