/- Identities: Open of a nil table gives nothing. -/
import Derived.Test.YtpendcaefjbomaaIdW
namespace Go.Proofs.Ytpendcaefjbomaa
open Go.RowKit Go.Maps Go.Shelf Go.Sort
set_option linter.unusedVariables false
set_option linter.unusedSimpArgs false

set_option maxRecDepth 100000 in
set_option maxHeartbeats 1600000 in
theorem topen_nil_goes (B : Nat) (w : World) (hB : B < w.heap.size) (hc : w.cell? ⟨B, 0, none⟩ = some (.pointer none)) :
    SeqStopsK (α := Empty) Fence.wide 8 Try.prog 45 #[.pointer (some ⟨B, 0, none⟩)] (fun x => x.elim) (RowKit.Below w.heap.size) (fun _ => True) (fun _ => False) 0 w := fun l J Jx W hW hJ _ hY h0 => by
  have hc' := (hW.cell (p := ⟨B, 0, none⟩) hB).trans hc
  have hc2 := cell_old (.cells #[.func (.yield l) #[] #[]] 55) hc'
  have hb2 := (Below.refl W.heap.size W).alloc (Nat.le_refl _) (.cells #[.func (.yield l) #[] #[]] 55)
  have hJ2 := hJ _ _ _ none h0 (grown_below hb2) (fun r e => by cases e)
  refine callsIn_of_wp Try.func45 rfl trivial ?_ rfl
  simp only [Try.ntmps45, List.size_toArray, List.length_cons, List.length_nil, Nat.reduceAdd, Nat.reduceSub, Array.replicate_succ, Array.replicate_zero, List.push_toArray, List.append_toArray, List.nil_append, List.cons_append]
  gi_wp2
  refine bodyPost_ret (results_none rfl _ _ _) rfl ?_
  exact ⟨⟨_, rfl⟩, [], hJ2⟩
end Go.Proofs.Ytpendcaefjbomaa
