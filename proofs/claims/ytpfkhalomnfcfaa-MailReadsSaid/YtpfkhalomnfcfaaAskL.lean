/- ask.Order; what was encoded is decoded; what must come of every program. No condition but that the items lie in memory. -/
import Derived.Test.YtpfkhalomnfcfaaAskD
namespace Go.Proofs.Ytpfkhalomnfcfaa
open Go.RowKit Go.Maps Go.Shelf
set_option linter.unusedVariables false
set_option linter.unusedSimpArgs false

theorem encA_flat (x : AV) : encA x = numCell x.c ++ (numCell x.m ++ (numCell x.k ++ (numCell x.o ++ (numCell x.r ++ (numCell x.t ++ (numCell x.n ++ (numCell x.g.length ++ x.g ++ encL x.l))))))) := by
  unfold encA bodyA
  simp only [List.append_assoc]
theorem decA_enc {x : AV} (h : mayA x = true) : decA (encA x) = some x := by
  obtain ⟨f1, f2, f3, f4, f5, f6, f7, f8, f9⟩ := mayA_facts h
  have T : Taken (encA x) x (some []) (some (numCell x.m ++ (numCell x.k ++ (numCell x.o ++ (numCell x.r ++ (numCell x.t ++ (numCell x.n ++ (numCell x.g.length ++ x.g ++ encL x.l)))))))) (some (numCell x.k ++ (numCell x.o ++ (numCell x.r ++ (numCell x.t ++ (numCell x.n ++ (numCell x.g.length ++ x.g ++ encL x.l))))))) (some (numCell x.o ++ (numCell x.r ++ (numCell x.t ++ (numCell x.n ++ (numCell x.g.length ++ x.g ++ encL x.l)))))) (some (numCell x.r ++ (numCell x.t ++ (numCell x.n ++ (numCell x.g.length ++ x.g ++ encL x.l))))) (some (numCell x.t ++ (numCell x.n ++ (numCell x.g.length ++ x.g ++ encL x.l)))) (some (numCell x.n ++ (numCell x.g.length ++ x.g ++ encL x.l))) (some (numCell x.g.length ++ x.g ++ encL x.l)) (some (encL x.l)) := by
    refine ⟨?_, ?_, ?_, ?_, ?_, ?_, ?_, ?_, ?_⟩
    · rw [encA_flat]
      exact take_num x.c _ (by omega) (by omega) _ _ (by omega) (by omega)
    · exact take_num x.m _ (by omega) (by omega) _ _ (by omega) (by omega)
    · exact take_num x.k _ (by omega) (by omega) _ _ (by omega) (by omega)
    · exact take_num x.o _ (by omega) (by omega) _ _ (by omega) (by omega)
    · exact take_num x.r _ (by omega) (by omega) _ _ (by omega) (by omega)
    · exact take_num x.t _ (by omega) (by omega) _ _ (by omega) (by omega)
    · exact take_num x.n _ (by omega) (by omega) _ _ (by omega) (by omega)
    · exact take_text x.g _ 16 (by omega) (by omega)
    · have := takeL_enc x.l f9 []
      rw [List.append_nil] at this
      exact this
  rw [T.dec, if_pos rfl, if_pos h]

/-- The number of the order that a request makes. -/
def orderN (x : AV) : Int := match decide (x.k = 1) && mayA x with
  | true => 64 * x.m + x.c
  | false => 0
/-- The request that every program must know. -/
def aL : AV := ⟨3, 2, 1, 0, 0, 0, 1, [], [([97], 5)]⟩
theorem aL_may : mayA aL = true := by decide +kernel
theorem x0_may : mayA x0 = false := by decide +kernel
theorem aL_len : (encA aL).length = (bodyA aL).length + 2 := by decide +kernel
theorem aL_order : orderN aL = 131 := by decide +kernel
end Go.Proofs.Ytpfkhalomnfcfaa
