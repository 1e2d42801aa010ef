/-
  No cell of these rows narrows 'for every input' (looked for: loops, veiled, ifaces, maps, wideKeys, modest, calm, conditions, laid).
  DERIVED. THE GIVEN ROWS OF THIS SEAT. 5 by the template 'for every input the law returns true; each argument reads behind the call as it read before'; 0 by the template 'total and deterministic' (their statements: YtiinlcfggjcmoaaTotals.lean).
  GIVEN WITH THE SEED: the statements are not yours to turn. If you find one false, say at which input.
  Laid BY PROGRAM, IN A SANDBOX (cutbox-rows.mjs): the forced cells as the released guide's own fill.sh prints them over the translation 0c937c4dc8b9678c… (all of the seat's roots in one cut). By AI agents, Wed Nov 11 2026. No macro, syntax, notation, axiom, sorry.
-/
import Derived.Test.YtiinlcfggjcmoaaChecked
import GoSem.Claim
import GoSem.ClaimJoined
import GoSem.ClaimMapViews
import Derived.JoinedTies
import Derived.KernelRfl
namespace Go.Proofs.Ytiinlcfggjcmoaa
/- THE CELL 'sum', in the pinned program and in every row, IS THE sha256 OF THE DUMP (.gsa) THAT YtiinlcfggjcmoaaProg.lean LOADS. Nothing in Lean hashes anything: it is a label: what it is worth is what the hold of that sum in a sandbox is worth. -/
noncomputable def Try.pinned : Pinned := { name := "ytiinlcfggjcmoaa", sum := "0c937c4dc8b9678cc1a0a9021d382d3463eb5e6212fe425f1eb9e46adb4fb19c", checked := Try.checked }
namespace Rows
def none {H : Type} : Left H := { results := [], args := [] }

/-- 'entrepotlaw11.BackoffWaits': WHATEVER THE INPUT: true; the input reads as it did. -/
def backoffWaitsSpec : ChangeSpec := { name := "backoffWaits", fn := fun _ => fun
  | [d1, d2, d3, d4] => { results := [.lit (.bool true)], args := [d1, d2, d3, d4] }
  | _ => none }
def backoffWaitsRow : OpenClaim := { program := "ytiinlcfggjcmoaa", sum := "0c937c4dc8b9678cc1a0a9021d382d3463eb5e6212fe425f1eb9e46adb4fb19c", func := "entrepot/entrepotlaw11.BackoffWaits", spec := "backoffWaits", unfollowed := true, recurses := true, apart := false }
def BackoffWaitsSaid : Prop := backoffWaitsRow.holds Try.pinned (OpenSpec.ofChange backoffWaitsSpec)

/-- ITS FALSE NEIGHBOUR: 'it returns false'. Refute it at one input. -/
def backoffWaitsWrong : ChangeSpec := { name := "backoffWaits", fn := fun _ => fun
  | [d1, d2, d3, d4] => { results := [.lit (.bool false)], args := [d1, d2, d3, d4] }
  | _ => none }
def BackoffWaitsWrongFalsely : Prop := backoffWaitsRow.holds Try.pinned (OpenSpec.ofChange backoffWaitsWrong)

/-- 'entrepotlaw11.BackoffRises': WHATEVER THE INPUT: true; the input reads as it did. -/
def backoffRisesSpec : ChangeSpec := { name := "backoffRises", fn := fun _ => fun
  | [d1, d2, d3] => { results := [.lit (.bool true)], args := [d1, d2, d3] }
  | _ => none }
def backoffRisesRow : OpenClaim := { program := "ytiinlcfggjcmoaa", sum := "0c937c4dc8b9678cc1a0a9021d382d3463eb5e6212fe425f1eb9e46adb4fb19c", func := "entrepot/entrepotlaw11.BackoffRises", spec := "backoffRises", unfollowed := true, recurses := true, apart := false }
def BackoffRisesSaid : Prop := backoffRisesRow.holds Try.pinned (OpenSpec.ofChange backoffRisesSpec)

/-- ITS FALSE NEIGHBOUR: 'it returns false'. Refute it at one input. -/
def backoffRisesWrong : ChangeSpec := { name := "backoffRises", fn := fun _ => fun
  | [d1, d2, d3] => { results := [.lit (.bool false)], args := [d1, d2, d3] }
  | _ => none }
def BackoffRisesWrongFalsely : Prop := backoffRisesRow.holds Try.pinned (OpenSpec.ofChange backoffRisesWrong)

/-- 'entrepotlaw11.BackoffDoes': WHATEVER THE INPUT: true; the input reads as it did. -/
def backoffDoesSpec : ChangeSpec := { name := "backoffDoes", fn := fun _ => fun
  | [d1, d2] => { results := [.lit (.bool true)], args := [d1, d2] }
  | _ => none }
def backoffDoesRow : OpenClaim := { program := "ytiinlcfggjcmoaa", sum := "0c937c4dc8b9678cc1a0a9021d382d3463eb5e6212fe425f1eb9e46adb4fb19c", func := "entrepot/entrepotlaw11.BackoffDoes", spec := "backoffDoes", unfollowed := true, recurses := true, apart := false }
def BackoffDoesSaid : Prop := backoffDoesRow.holds Try.pinned (OpenSpec.ofChange backoffDoesSpec)

/-- ITS FALSE NEIGHBOUR: 'it returns false'. Refute it at one input. -/
def backoffDoesWrong : ChangeSpec := { name := "backoffDoes", fn := fun _ => fun
  | [d1, d2] => { results := [.lit (.bool false)], args := [d1, d2] }
  | _ => none }
def BackoffDoesWrongFalsely : Prop := backoffDoesRow.holds Try.pinned (OpenSpec.ofChange backoffDoesWrong)

/-- 'entrepotlaw11.BackoffPops': WHATEVER THE INPUT: true; the input reads as it did. -/
def backoffPopsSpec : ChangeSpec := { name := "backoffPops", fn := fun _ => fun
  | [d1, d2] => { results := [.lit (.bool true)], args := [d1, d2] }
  | _ => none }
def backoffPopsRow : OpenClaim := { program := "ytiinlcfggjcmoaa", sum := "0c937c4dc8b9678cc1a0a9021d382d3463eb5e6212fe425f1eb9e46adb4fb19c", func := "entrepot/entrepotlaw11.BackoffPops", spec := "backoffPops", unfollowed := true, recurses := true, apart := false }
def BackoffPopsSaid : Prop := backoffPopsRow.holds Try.pinned (OpenSpec.ofChange backoffPopsSpec)

/-- ITS FALSE NEIGHBOUR: 'it returns false'. Refute it at one input. -/
def backoffPopsWrong : ChangeSpec := { name := "backoffPops", fn := fun _ => fun
  | [d1, d2] => { results := [.lit (.bool false)], args := [d1, d2] }
  | _ => none }
def BackoffPopsWrongFalsely : Prop := backoffPopsRow.holds Try.pinned (OpenSpec.ofChange backoffPopsWrong)

/-- 'entrepotlaw11.BackoffNobody': WHATEVER THE INPUT: true; the input reads as it did. -/
def backoffNobodySpec : ChangeSpec := { name := "backoffNobody", fn := fun _ => fun
  | [d] => { results := [.lit (.bool true)], args := [d] }
  | _ => none }
def backoffNobodyRow : OpenClaim := { program := "ytiinlcfggjcmoaa", sum := "0c937c4dc8b9678cc1a0a9021d382d3463eb5e6212fe425f1eb9e46adb4fb19c", func := "entrepot/entrepotlaw11.BackoffNobody", spec := "backoffNobody", unfollowed := true, recurses := true, apart := false }
def BackoffNobodySaid : Prop := backoffNobodyRow.holds Try.pinned (OpenSpec.ofChange backoffNobodySpec)

/-- ITS FALSE NEIGHBOUR: 'it returns false'. Refute it at one input. -/
def backoffNobodyWrong : ChangeSpec := { name := "backoffNobody", fn := fun _ => fun
  | [d] => { results := [.lit (.bool false)], args := [d] }
  | _ => none }
def BackoffNobodyWrongFalsely : Prop := backoffNobodyRow.holds Try.pinned (OpenSpec.ofChange backoffNobodyWrong)

/- THE SECOND FORM. 'bulk': how many values and letters a reading holds, each counted each time it is reached (what is shared counts as often as it is met; a slice's spare places count too). A statement '..UptoSaid' is the law's where the arguments, and the package variables that the reading takes, are together of bulk at most 1048576: NARROWER than '..Said'. Prove '..Said' where nothing that the law and all that it calls make is longer than what came in: it says more and counts as full. Else prove '..UptoSaid'. A law counts once. -/
mutual
def uptoBulk {H : Type} : DataW H → Nat
  | .lit (.string bytes) => bytes.length + 1
  | .lit _ => 1
  | .nil => 1
  | .ptr d => uptoBulk d + 1
  | .slice elems spare => uptoBulkAll elems + uptoBulkAll spare + 1
  | .agg parts => uptoBulkAll parts + 1
  | .iface _ d => uptoBulk d + 1
  | .map entries => uptoBulkEntries entries + 1
  | .held _ => 1
def uptoBulkAll {H : Type} : List (DataW H) → Nat
  | [] => 0
  | d :: r => uptoBulk d + uptoBulkAll r
def uptoBulkEntries {H : Type} : List (Lit × DataW H) → Nat
  | [] => 0
  | x :: r => uptoBulkEntry x + uptoBulkEntries r
def uptoBulkEntry {H : Type} : Lit × DataW H → Nat
  | (.string bytes, d) => bytes.length + uptoBulk d + 1
  | (_, d) => uptoBulk d + 1
 end
def uptoSmall : (H : Type) → List (DataW H) → Bool := fun _ ds => decide (uptoBulkAll ds ≤ 1048576)
def OpenSpec.upto (s : _root_.Go.ChangeSpec) : _root_.Go.OpenSpec := { _root_.Go.OpenSpec.ofChange s with cond := some uptoSmall }

/-- 'entrepotlaw11.BackoffWaits', WHERE WHAT IT READS IS OF BULK AT MOST 1048576: true; the input reads as it did. -/
def backoffWaitsUptoRow : OpenClaim := { program := "ytiinlcfggjcmoaa", sum := "0c937c4dc8b9678cc1a0a9021d382d3463eb5e6212fe425f1eb9e46adb4fb19c", func := "entrepot/entrepotlaw11.BackoffWaits", spec := "backoffWaits", unfollowed := true, recurses := true, apart := false, narrowed := true }
def BackoffWaitsUptoSaid : Prop := backoffWaitsUptoRow.holds Try.pinned (OpenSpec.upto backoffWaitsSpec)

/-- 'entrepotlaw11.BackoffRises', WHERE WHAT IT READS IS OF BULK AT MOST 1048576: true; the input reads as it did. -/
def backoffRisesUptoRow : OpenClaim := { program := "ytiinlcfggjcmoaa", sum := "0c937c4dc8b9678cc1a0a9021d382d3463eb5e6212fe425f1eb9e46adb4fb19c", func := "entrepot/entrepotlaw11.BackoffRises", spec := "backoffRises", unfollowed := true, recurses := true, apart := false, narrowed := true }
def BackoffRisesUptoSaid : Prop := backoffRisesUptoRow.holds Try.pinned (OpenSpec.upto backoffRisesSpec)

/-- 'entrepotlaw11.BackoffDoes', WHERE WHAT IT READS IS OF BULK AT MOST 1048576: true; the input reads as it did. -/
def backoffDoesUptoRow : OpenClaim := { program := "ytiinlcfggjcmoaa", sum := "0c937c4dc8b9678cc1a0a9021d382d3463eb5e6212fe425f1eb9e46adb4fb19c", func := "entrepot/entrepotlaw11.BackoffDoes", spec := "backoffDoes", unfollowed := true, recurses := true, apart := false, narrowed := true }
def BackoffDoesUptoSaid : Prop := backoffDoesUptoRow.holds Try.pinned (OpenSpec.upto backoffDoesSpec)

/-- 'entrepotlaw11.BackoffPops', WHERE WHAT IT READS IS OF BULK AT MOST 1048576: true; the input reads as it did. -/
def backoffPopsUptoRow : OpenClaim := { program := "ytiinlcfggjcmoaa", sum := "0c937c4dc8b9678cc1a0a9021d382d3463eb5e6212fe425f1eb9e46adb4fb19c", func := "entrepot/entrepotlaw11.BackoffPops", spec := "backoffPops", unfollowed := true, recurses := true, apart := false, narrowed := true }
def BackoffPopsUptoSaid : Prop := backoffPopsUptoRow.holds Try.pinned (OpenSpec.upto backoffPopsSpec)

/-- 'entrepotlaw11.BackoffNobody', WHERE WHAT IT READS IS OF BULK AT MOST 1048576: true; the input reads as it did. -/
def backoffNobodyUptoRow : OpenClaim := { program := "ytiinlcfggjcmoaa", sum := "0c937c4dc8b9678cc1a0a9021d382d3463eb5e6212fe425f1eb9e46adb4fb19c", func := "entrepot/entrepotlaw11.BackoffNobody", spec := "backoffNobody", unfollowed := true, recurses := true, apart := false, narrowed := true }
def BackoffNobodyUptoSaid : Prop := backoffNobodyUptoRow.holds Try.pinned (OpenSpec.upto backoffNobodySpec)

end Rows
end Go.Proofs.Ytiinlcfggjcmoaa
