/- entrepotlaw20.lives answers true. No condition. -/
import Derived.Test.YtpcngkbjeiclkaaLiR
namespace Go.Proofs.Ytpcngkbjeiclkaa
open Go.RowKit
set_option linter.unusedVariables false
set_option linter.unusedSimpArgs false

theorem nmIs_of {s : List UInt8} {K i : Nat} (h : NmIs s K) (h1 : 1 ≤ i) (h2 : i ≤ 10) (e : nmK (i : Int) = s) : K = i := ((h.iff i h1 h2).1 e).symm
set_option maxRecDepth 100000 in
set_option maxHeartbeats 3200000 in
theorem lives_any (w : World) : Calls Try.prog 9 #[] w fun e w' => e = .returned (.bool true) ∧ Below w.heap.size w w' := by
  obtain ⟨K, hK⟩ := nmIs [104, 101, 108, 100]
  have hK2 := nmIs_of hK (i := 2) (by omega) (by omega) (by rfl)
  subst hK2
  have cN := fun w => named_any _ _ hK w
  have cC := fun w => code_any 1 3 w
  have cM := fun w => name_any 6 w
  have c1 := fun w => may_any 2 7 w
  have c2 := fun w => may_any 8 6 w
  have c3 := fun w => reach_any 1 10 w
  have c4 := fun w => quiet_any 2 w
  have c5 := fun w => behind_any 2 w
  rw [show decide (1 ≤ (2 : Nat)) = true from rfl, show ((2 : Nat) : Int) = 2 from rfl] at cN
  rw [show codeK 1 3 = (200, true) from by decide +kernel] at cC
  rw [show nmK 6 = [103, 111, 110, 101] from by decide +kernel] at cM
  rw [show decide ((7 : Int) ∈ bhK 2) = true from by decide +kernel] at c1
  rw [show decide ((6 : Int) ∈ bhK 8) = false from by decide +kernel] at c2
  rw [show decide ((10 : Int) ∈ reachK 1) = true from by decide +kernel] at c3
  rw [show quietK 2 = true from by decide +kernel] at c4
  rw [show bhK 2 = [4, 7] from by decide +kernel] at c5
  clear hK
  go_enter Try.func9, Try.ntmps9
  go_wp2_with fail
  refine (cN _).mono ?_
  rintro e w' ⟨rfl, hww⟩
  subst w'
  go_wp2_with fail
  refine (cC _).mono ?_
  rintro e w' ⟨rfl, hww⟩
  subst w'
  go_wp2_with fail
  refine (cM _).mono ?_
  rintro e w' ⟨rfl, hww⟩
  subst w'
  go_wp2_with fail
  refine (c1 _).mono ?_
  rintro e w1 ⟨rfl, h1⟩
  go_wp2_with fail
  refine (c2 _).mono ?_
  rintro e w2 ⟨rfl, h2⟩
  replace h1 := h1.trans (h2.mono h1.size)
  go_wp2_with fail
  refine (c3 _).mono ?_
  rintro e w3 ⟨rfl, h3⟩
  replace h1 := h1.trans (h3.mono h1.size)
  go_wp2_with fail
  refine (c4 _).mono ?_
  rintro e w' ⟨rfl, hww⟩
  subst w'
  go_wp2_with fail
  refine (c5 _).mono ?_
  rintro e w4 ⟨v, rfl, hO, h4⟩
  replace h1 := h1.trans (h4.mono h1.size)
  obtain ⟨A, cap, rfl, -, -, -, -⟩ := hO.form
  clear hO
  go_wp2
  go_ret
  exact ⟨rfl, h1⟩
end Go.Proofs.Ytpcngkbjeiclkaa
