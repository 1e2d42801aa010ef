/- Two arrays of eight ints that are the same are equal. No condition. -/
import Derived.Test.YtlookiicogbkmaaMost
import Derived.Laws.StructEq
namespace Go.Proofs.Ytlookiicogbkmaa
open Go.RowKit
set_option linter.unusedVariables false
set_option linter.unusedSimpArgs false

theorem part_int (l : List Int) (i : Nat) (hi : i < l.length) (w : World) : (part 3 (ints l) i).run Try.prog w = .ok (.int .i64 (l.getD i 0)) w := by
  unfold part
  simp only [Sem.run_bind, Try.isAgg3, Result.andThen_ok, Bool.false_eq_true, if_false, ints_at l i hi]
  rfl
theorem equal_gen (d : Nat) (l : List Int) (hl : l.length = 8) (w : World) (hi : ∀ (x : Int) (w : World), (Op.equalIn d 3 (.int .i64 x) (.int .i64 x)).run Try.prog w = .ok true w) :
    (Op.equalIn (d + 1) 41 (.agg (ints l)) (.agg (ints l))).run Try.prog w = .ok true w := by
  have hp : ∀ i, i < 8 → ∀ w, (part 3 (ints l) i).run Try.prog w = .ok (.int .i64 (l.getD i 0)) w := fun i h w => part_int l i (by omega) w
  have h0 := hp 0 (by omega)
  have h1 := hp 1 (by omega)
  have h2 := hp 2 (by omega)
  have h3 := hp 3 (by omega)
  have h4 := hp 4 (by omega)
  have h5 := hp 5 (by omega)
  have h6 := hp 6 (by omega)
  have h7 := hp 7 (by omega)
  generalize ints l = cs at *
  simp only [Op.equalIn, Sem.run_bind, run_underlying Try.underlying41, Result.andThen_ok, Try.sizeOf3]
  rw [Std.Legacy.Range.forIn_eq_forIn_range']
  simp [Std.Legacy.Range.size, List.range', h0, h1, h2, h3, h4, h5, h6, h7, hi]
theorem equal_eight (l : List Int) (hl : l.length = 8) (w : World) : (Op.equalIn 10000 41 (.agg (ints l)) (.agg (ints l))).run Try.prog w = .ok true w :=
  equal_gen 9999 l hl w fun x w => by
    rw [show (9999 : Nat) = 9998 + 1 from rfl, run_equalIn_int w 9998 3 .i64 .i64 x x Try.underlying3]
    simp
end Go.Proofs.Ytlookiicogbkmaa
