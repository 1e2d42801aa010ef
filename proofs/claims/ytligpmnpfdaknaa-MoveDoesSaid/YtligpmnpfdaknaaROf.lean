/- Of one good; what both have, the rest: as the document has them. No condition but that the lists are ones of memory. -/
import Derived.Test.YtligpmnpfdaknaaKept6
namespace Go.Proofs.Ytligpmnpfdaknaa
open Go.RowKit Go.Maps Go.Shelf Go.Sort
set_option linter.unusedVariables false
set_option linter.unusedSimpArgs false

theorem ofL_take {l : List It} {k : Nat} {x : It} (g : List UInt8) (hx : l[k]? = some x) : ofL (l.take (k + 1)) g = if x.1 = g then wrap64 (ofL (l.take k) g + x.2) else ofL (l.take k) g := by
  rw [List.take_add_one, hx]
  exact ofL_snoc _ _ _
set_option maxRecDepth 100000 in
set_option maxHeartbeats 3200000 in
theorem refof_any (A : Option Addr) (n c : Nat) (l : List It) (g : List UInt8) (w : World) (hl : IL w A n l) (hn : n ≤ 9223372036854775807) :
    Calls Try.prog 22 #[.slice A n c, .string ⟨g.toArray⟩] w fun e w' => e = .returned (.int .i64 (ofL l g)) ∧ w' = w := by
  have hlen := hl.len
  go_enter Try.func22, Try.ntmps22
  go_wp2
  go_loopw [5, 6] (fun s i wr => wr = w ∧ ∃ k : Nat, i = .int .i64 (k : Int) ∧ s = .int .i64 (ofL (l.take k) g) ∧ k ≤ n) (fun _ i _ => n - (intOf i).toNat)
  case atStart => exact ⟨rfl, 0, by go_num, rfl, by omega⟩
  case round =>
    obtain ⟨rfl, k, rfl, rfl, hk⟩ := hrel
    by_cases hlt : k < n
    · have hlz : (k : Int) < (n : Int) := by omega
      obtain ⟨b, off, ⟨s1, q1⟩, rfl, hx, c0, c1⟩ := hl.place hlt
      dsimp only at c0 c1
      have htk := ofL_take g hx
      dsimp only at htk
      by_cases he : s1 = g
      · rw [if_pos he] at htk
        have heb : (s1 == g) = true := beq_iff_eq.2 he
        have hed : decide (s1 = g) = true := decide_eq_true he
        clear he
        go_wp2
        go_roundw
        case measure => simp [intOf]; omega
        case rel => exact ⟨trivial, k + 1, by go_num, by rw [htk], by omega⟩
      · rw [if_neg he] at htk
        have heb : (s1 == g) = false := beq_eq_false_iff_ne.2 he
        have hed : decide (s1 = g) = false := decide_eq_false he
        clear he
        go_wp2
        go_roundw
        case measure => simp [intOf]; omega
        case rel => exact ⟨trivial, k + 1, by go_num, by rw [htk], by omega⟩
    · have hlz : ¬ (k : Int) < (n : Int) := by omega
      rw [List.take_of_length_le (by omega)]
      go_wp2
      go_ret
      exact ⟨rfl, rfl⟩
end Go.Proofs.Ytligpmnpfdaknaa
