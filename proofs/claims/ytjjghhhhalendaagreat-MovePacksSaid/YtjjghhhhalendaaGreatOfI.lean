/- Of, Total; the smaller, the greater; both lists may be. No condition but that the lists are ones of memory. -/
import Derived.Test.YtjjghhhhalendaaGreatMayI
namespace Go.Proofs.YtjjghhhhalendaaGreat
open Go.RowKit Go.Maps Go.Shelf
set_option linter.unusedVariables false
set_option linter.unusedSimpArgs false
attribute [local go_sem] Oper.semAt_some

theorem mayBoth_any (A A' : Option Addr) (n c n' c' : Nat) (l l' : List It) (w : World) (hl : IL w A n l) (hl' : IL w A' n' l') (hn : n ≤ 9223372036854775807) (hn' : n' ≤ 9223372036854775807) :
    Calls Tryz.prog 71 #[.slice A n c, .slice A' n' c'] w fun e w' => e = .returned (.bool (mayL l && mayL l')) ∧ Below w.heap.size w w' := by
  cases h1 : mayL l with
  | false =>
    go_enter Tryz.func71, Tryz.ntmps71
    go_wp2_with (go_at_call 25; refine (mayI_any A n c l _ hl hn).mono ?_; rintro e w1 ⟨rfl, hb1⟩; rw [h1])
    go_ret
    exact ⟨rfl, hb1⟩
  | true =>
    go_enter Tryz.func71, Tryz.ntmps71
    go_wp2_with fail
    refine (mayI_any A n c l _ hl hn).mono ?_
    rintro e w1 ⟨rfl, hb1⟩
    have hl1 := hl'.below hb1
    rw [h1]
    go_wp2_with fail
    refine (mayI_any A' n' c' l' _ hl1 hn').mono ?_
    rintro e w2 ⟨rfl, hb2⟩
    go_wp2_with fail
    go_ret
    exact ⟨by simp, hb1.trans (hb2.mono hb1.size)⟩

end Go.Proofs.YtjjghhhhalendaaGreat
