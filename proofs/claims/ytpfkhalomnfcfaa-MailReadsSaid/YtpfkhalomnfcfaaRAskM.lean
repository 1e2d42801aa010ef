/- The reference's May of a request. No condition but that its items lie in memory. -/
import Derived.Test.YtpfkhalomnfcfaaRAskR1
import Derived.Test.YtpfkhalomnfcfaaRAskR2
import Derived.Test.YtpfkhalomnfcfaaRAskR5
import Derived.Test.YtpfkhalomnfcfaaRAskR6
import Derived.Test.YtpfkhalomnfcfaaRAskR7
import Derived.Test.YtpfkhalomnfcfaaRAskR10
import Derived.Test.YtpfkhalomnfcfaaRAskR11
namespace Go.Proofs.Ytpfkhalomnfcfaa
open Go.RowKit Go.Maps Go.Shelf
set_option linter.unusedVariables false
set_option linter.unusedSimpArgs false

theorem raskmay_any (x : AV) (A : Option Addr) (cap : Nat) (w : World) (hl : IL w A x.l.length x.l) (hwl : WL x.l) (hn : x.l.length ≤ 9223372036854775807) (hg7 : x.g.length ≤ 9223372036854775807) :
    Calls Try.prog 33 #[x.v A cap] w fun e w' => e = .returned (.bool (mayA x)) ∧ Below w.heap.size w w' := by
  obtain ⟨c, m, k, o, r, t, n, g, l⟩ := x
  dsimp only at hl hwl hn hg7
  by_cases hk : 1 ≤ k ∧ k ≤ 11
  · rcases kinds hk with rfl | rfl | rfl | rfl | rfl | rfl | rfl | rfl | rfl | rfl | rfl
    · exact rmay_R1 c m o r t n g l A cap w hl hwl hn hg7
    · exact rmay_R2 c m o r t n g l 2 rfl rfl rfl rfl A cap w hl hwl hn hg7
    · exact rmay_R2 c m o r t n g l 3 rfl rfl rfl rfl A cap w hl hwl hn hg7
    · exact rmay_R2 c m o r t n g l 4 rfl rfl rfl rfl A cap w hl hwl hn hg7
    · exact rmay_R5 c m o r t n g l 5 rfl rfl rfl rfl A cap w hl hwl hn hg7
    · exact rmay_R6 c m o r t n g l 6 rfl rfl rfl rfl A cap w hl hwl hn hg7
    · exact rmay_R7 c m o r t n g l A cap w hl hwl hn hg7
    · exact rmay_R6 c m o r t n g l 8 rfl rfl rfl rfl A cap w hl hwl hn hg7
    · exact rmay_R6 c m o r t n g l 9 rfl rfl rfl rfl A cap w hl hwl hn hg7
    · exact rmay_R10 c m o r t n g l 10 rfl rfl rfl rfl A cap w hl hwl hn hg7
    · exact rmay_R11 c m o r t n g l A cap w hl hwl hn hg7
  · have hL := hasL_none hk
    have hno : mayA ⟨c, m, k, o, r, t, n, g, l⟩ = false := by
      unfold mayA mayK
      rw [hL]
      rfl
    have hbxa0 : Blk (w.alloc (.cells (AV.cs ⟨c, m, k, o, r, t, n, g, l⟩ A cap) 24)) w.heap.size 24 (AV.cs ⟨c, m, k, o, r, t, n, g, l⟩ A cap) := Blk.new _ _ _
    have hb0 := (Below.refl w.heap.size w).alloc (Nat.le_refl _) (.cells (AV.cs ⟨c, m, k, o, r, t, n, g, l⟩ A cap) 24)
    unfold AV.v
    unfold AV.cs at hb0
    dsimp only at hb0 ⊢
    rw [hno]
    go_enter Try.func33, Try.ntmps33
    go_wp2_with fail
    refine (rhas_any k _).mono ?_
    rintro e w1 ⟨rfl, hx1⟩
    have hb1 := hb0.trans (hx1.mono hb0.size)
    rw [hL]
    go_wp2
    go_ret
    exact ⟨rfl, hb1⟩
end Go.Proofs.Ytpfkhalomnfcfaa
