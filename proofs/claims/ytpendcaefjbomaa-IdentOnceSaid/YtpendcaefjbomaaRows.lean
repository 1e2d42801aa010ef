/-
  No cell of these rows narrows 'for every input' (looked for: loops, veiled, ifaces, maps, wideKeys, modest, calm, conditions, laid).
  DERIVED. THE GIVEN ROWS OF THIS SEAT. 6 by the template 'for every input the law returns true; each argument reads behind the call as it read before'; 0 by the template 'total and deterministic' (their statements: YtpendcaefjbomaaTotals.lean).
  GIVEN WITH THE SEED: the statements are not yours to turn. If you find one false, say at which input.
  Laid BY PROGRAM, IN A SANDBOX (cutbox-rows.mjs): the forced cells as the released guide's own fill.sh prints them over the translation 6e91675467bc8ded… (all of the seat's roots in one cut). By AI agents, Wed Nov 11 2026. No macro, syntax, notation, axiom, sorry.
-/
import Derived.Test.YtpendcaefjbomaaChecked
import GoSem.Claim
import GoSem.ClaimJoined
import GoSem.ClaimMapViews
import Derived.JoinedTies
import Derived.KernelRfl
namespace Go.Proofs.Ytpendcaefjbomaa
/- THE CELL 'sum', in the pinned program and in every row, IS THE sha256 OF THE DUMP (.gsa) THAT YtpendcaefjbomaaProg.lean LOADS. Nothing in Lean hashes anything: it is a label: what it is worth is what the hold of that sum in a sandbox is worth. -/
noncomputable def Try.pinned : Pinned := { name := "ytpendcaefjbomaa", sum := "6e91675467bc8ded03a0a3f8fd0d5551b90eaa5c369897540ab7d75d81e85307", checked := Try.checked }
namespace Rows
def none {H : Type} : Left H := { results := [], args := [] }

/-- 'entrepotlaw09.IdentDoes': WHATEVER THE INPUT: true; the input reads as it did. -/
def identDoesSpec : ChangeSpec := { name := "identDoes", fn := fun _ => fun
  | [d] => { results := [.lit (.bool true)], args := [d] }
  | _ => none }
def identDoesRow : OpenClaim := { program := "ytpendcaefjbomaa", sum := "6e91675467bc8ded03a0a3f8fd0d5551b90eaa5c369897540ab7d75d81e85307", func := "entrepot/entrepotlaw09.IdentDoes", spec := "identDoes", unfollowed := true, recurses := true, plainKeys := false, apart := false }
def IdentDoesSaid : Prop := identDoesRow.holds Try.pinned (OpenSpec.ofChange identDoesSpec)

/-- ITS FALSE NEIGHBOUR: 'it returns false'. Refute it at one input. -/
def identDoesWrong : ChangeSpec := { name := "identDoes", fn := fun _ => fun
  | [d] => { results := [.lit (.bool false)], args := [d] }
  | _ => none }
def IdentDoesWrongFalsely : Prop := identDoesRow.holds Try.pinned (OpenSpec.ofChange identDoesWrong)

/-- 'entrepotlaw09.IdentOnce': WHATEVER THE INPUT: true; the input reads as it did. -/
def identOnceSpec : ChangeSpec := { name := "identOnce", fn := fun _ => fun
  | [d] => { results := [.lit (.bool true)], args := [d] }
  | _ => none }
def identOnceRow : OpenClaim := { program := "ytpendcaefjbomaa", sum := "6e91675467bc8ded03a0a3f8fd0d5551b90eaa5c369897540ab7d75d81e85307", func := "entrepot/entrepotlaw09.IdentOnce", spec := "identOnce", unfollowed := true, recurses := true, plainKeys := false, apart := false }
def IdentOnceSaid : Prop := identOnceRow.holds Try.pinned (OpenSpec.ofChange identOnceSpec)

/-- ITS FALSE NEIGHBOUR: 'it returns false'. Refute it at one input. -/
def identOnceWrong : ChangeSpec := { name := "identOnce", fn := fun _ => fun
  | [d] => { results := [.lit (.bool false)], args := [d] }
  | _ => none }
def IdentOnceWrongFalsely : Prop := identOnceRow.holds Try.pinned (OpenSpec.ofChange identOnceWrong)

/-- 'entrepotlaw09.IdentUnpacks': WHATEVER THE INPUT: true; the input reads as it did. -/
def identUnpacksSpec : ChangeSpec := { name := "identUnpacks", fn := fun _ => fun
  | [d] => { results := [.lit (.bool true)], args := [d] }
  | _ => none }
def identUnpacksRow : OpenClaim := { program := "ytpendcaefjbomaa", sum := "6e91675467bc8ded03a0a3f8fd0d5551b90eaa5c369897540ab7d75d81e85307", func := "entrepot/entrepotlaw09.IdentUnpacks", spec := "identUnpacks", unfollowed := true, recurses := true, plainKeys := false, apart := false }
def IdentUnpacksSaid : Prop := identUnpacksRow.holds Try.pinned (OpenSpec.ofChange identUnpacksSpec)

/-- ITS FALSE NEIGHBOUR: 'it returns false'. Refute it at one input. -/
def identUnpacksWrong : ChangeSpec := { name := "identUnpacks", fn := fun _ => fun
  | [d] => { results := [.lit (.bool false)], args := [d] }
  | _ => none }
def IdentUnpacksWrongFalsely : Prop := identUnpacksRow.holds Try.pinned (OpenSpec.ofChange identUnpacksWrong)

/-- 'entrepotlaw09.IdentFull': WHATEVER THE INPUT: true; the input reads as it did. -/
def identFullSpec : ChangeSpec := { name := "identFull", fn := fun _ => fun
  | [d1, d2] => { results := [.lit (.bool true)], args := [d1, d2] }
  | _ => none }
def identFullRow : OpenClaim := { program := "ytpendcaefjbomaa", sum := "6e91675467bc8ded03a0a3f8fd0d5551b90eaa5c369897540ab7d75d81e85307", func := "entrepot/entrepotlaw09.IdentFull", spec := "identFull", unfollowed := true, recurses := true, plainKeys := false, apart := false }
def IdentFullSaid : Prop := identFullRow.holds Try.pinned (OpenSpec.ofChange identFullSpec)

/-- ITS FALSE NEIGHBOUR: 'it returns false'. Refute it at one input. -/
def identFullWrong : ChangeSpec := { name := "identFull", fn := fun _ => fun
  | [d1, d2] => { results := [.lit (.bool false)], args := [d1, d2] }
  | _ => none }
def IdentFullWrongFalsely : Prop := identFullRow.holds Try.pinned (OpenSpec.ofChange identFullWrong)

/-- 'entrepotlaw09.IdentNobody': WHATEVER THE INPUT: true; the input reads as it did. -/
def identNobodySpec : ChangeSpec := { name := "identNobody", fn := fun _ => fun
  | [d] => { results := [.lit (.bool true)], args := [d] }
  | _ => none }
def identNobodyRow : OpenClaim := { program := "ytpendcaefjbomaa", sum := "6e91675467bc8ded03a0a3f8fd0d5551b90eaa5c369897540ab7d75d81e85307", func := "entrepot/entrepotlaw09.IdentNobody", spec := "identNobody", unfollowed := true, recurses := true, plainKeys := false, apart := false }
def IdentNobodySaid : Prop := identNobodyRow.holds Try.pinned (OpenSpec.ofChange identNobodySpec)

/-- ITS FALSE NEIGHBOUR: 'it returns false'. Refute it at one input. -/
def identNobodyWrong : ChangeSpec := { name := "identNobody", fn := fun _ => fun
  | [d] => { results := [.lit (.bool false)], args := [d] }
  | _ => none }
def IdentNobodyWrongFalsely : Prop := identNobodyRow.holds Try.pinned (OpenSpec.ofChange identNobodyWrong)

/-- 'entrepotlaw09.IdentMarks': WHATEVER THE INPUT: true; the input reads as it did. -/
def identMarksSpec : ChangeSpec := { name := "identMarks", fn := fun _ => fun
  | [d] => { results := [.lit (.bool true)], args := [d] }
  | _ => none }
def identMarksRow : OpenClaim := { program := "ytpendcaefjbomaa", sum := "6e91675467bc8ded03a0a3f8fd0d5551b90eaa5c369897540ab7d75d81e85307", func := "entrepot/entrepotlaw09.IdentMarks", spec := "identMarks", unfollowed := true, recurses := true, plainKeys := false, apart := false }
def IdentMarksSaid : Prop := identMarksRow.holds Try.pinned (OpenSpec.ofChange identMarksSpec)

/-- ITS FALSE NEIGHBOUR: 'it returns false'. Refute it at one input. -/
def identMarksWrong : ChangeSpec := { name := "identMarks", fn := fun _ => fun
  | [d] => { results := [.lit (.bool false)], args := [d] }
  | _ => none }
def IdentMarksWrongFalsely : Prop := identMarksRow.holds Try.pinned (OpenSpec.ofChange identMarksWrong)

/- THE SECOND FORM. 'bulk': how many values and letters a reading holds, each counted each time it is reached (what is shared counts as often as it is met; a slice's spare places count too). A statement '..UptoSaid' is the law's where the arguments, and the package variables that the reading takes, are together of bulk at most 1048576: NARROWER than '..Said'. Prove '..Said' where nothing that the law and all that it calls make is longer than what came in: it says more and counts as full. Else prove '..UptoSaid'. A law counts once. -/
mutual
def uptoBulk {H : Type} : DataW H → Nat
  | .lit (.string bytes) => bytes.length + 1
  | .lit _ => 1
  | .nil => 1
  | .ptr d => uptoBulk d + 1
  | .slice elems spare => uptoBulkAll elems + uptoBulkAll spare + 1
  | .agg parts => uptoBulkAll parts + 1
  | .iface _ d => uptoBulk d + 1
  | .map entries => uptoBulkEntries entries + 1
  | .held _ => 1
def uptoBulkAll {H : Type} : List (DataW H) → Nat
  | [] => 0
  | d :: r => uptoBulk d + uptoBulkAll r
def uptoBulkEntries {H : Type} : List (Lit × DataW H) → Nat
  | [] => 0
  | x :: r => uptoBulkEntry x + uptoBulkEntries r
def uptoBulkEntry {H : Type} : Lit × DataW H → Nat
  | (.string bytes, d) => bytes.length + uptoBulk d + 1
  | (_, d) => uptoBulk d + 1
 end
def uptoSmall : (H : Type) → List (DataW H) → Bool := fun _ ds => decide (uptoBulkAll ds ≤ 1048576)
def OpenSpec.upto (s : _root_.Go.ChangeSpec) : _root_.Go.OpenSpec := { _root_.Go.OpenSpec.ofChange s with cond := some uptoSmall }

/-- 'entrepotlaw09.IdentDoes', WHERE WHAT IT READS IS OF BULK AT MOST 1048576: true; the input reads as it did. -/
def identDoesUptoRow : OpenClaim := { program := "ytpendcaefjbomaa", sum := "6e91675467bc8ded03a0a3f8fd0d5551b90eaa5c369897540ab7d75d81e85307", func := "entrepot/entrepotlaw09.IdentDoes", spec := "identDoes", unfollowed := true, recurses := true, plainKeys := false, apart := false, narrowed := true }
def IdentDoesUptoSaid : Prop := identDoesUptoRow.holds Try.pinned (OpenSpec.upto identDoesSpec)

/-- 'entrepotlaw09.IdentOnce', WHERE WHAT IT READS IS OF BULK AT MOST 1048576: true; the input reads as it did. -/
def identOnceUptoRow : OpenClaim := { program := "ytpendcaefjbomaa", sum := "6e91675467bc8ded03a0a3f8fd0d5551b90eaa5c369897540ab7d75d81e85307", func := "entrepot/entrepotlaw09.IdentOnce", spec := "identOnce", unfollowed := true, recurses := true, plainKeys := false, apart := false, narrowed := true }
def IdentOnceUptoSaid : Prop := identOnceUptoRow.holds Try.pinned (OpenSpec.upto identOnceSpec)

/-- 'entrepotlaw09.IdentUnpacks', WHERE WHAT IT READS IS OF BULK AT MOST 1048576: true; the input reads as it did. -/
def identUnpacksUptoRow : OpenClaim := { program := "ytpendcaefjbomaa", sum := "6e91675467bc8ded03a0a3f8fd0d5551b90eaa5c369897540ab7d75d81e85307", func := "entrepot/entrepotlaw09.IdentUnpacks", spec := "identUnpacks", unfollowed := true, recurses := true, plainKeys := false, apart := false, narrowed := true }
def IdentUnpacksUptoSaid : Prop := identUnpacksUptoRow.holds Try.pinned (OpenSpec.upto identUnpacksSpec)

/-- 'entrepotlaw09.IdentFull', WHERE WHAT IT READS IS OF BULK AT MOST 1048576: true; the input reads as it did. -/
def identFullUptoRow : OpenClaim := { program := "ytpendcaefjbomaa", sum := "6e91675467bc8ded03a0a3f8fd0d5551b90eaa5c369897540ab7d75d81e85307", func := "entrepot/entrepotlaw09.IdentFull", spec := "identFull", unfollowed := true, recurses := true, plainKeys := false, apart := false, narrowed := true }
def IdentFullUptoSaid : Prop := identFullUptoRow.holds Try.pinned (OpenSpec.upto identFullSpec)

/-- 'entrepotlaw09.IdentNobody', WHERE WHAT IT READS IS OF BULK AT MOST 1048576: true; the input reads as it did. -/
def identNobodyUptoRow : OpenClaim := { program := "ytpendcaefjbomaa", sum := "6e91675467bc8ded03a0a3f8fd0d5551b90eaa5c369897540ab7d75d81e85307", func := "entrepot/entrepotlaw09.IdentNobody", spec := "identNobody", unfollowed := true, recurses := true, plainKeys := false, apart := false, narrowed := true }
def IdentNobodyUptoSaid : Prop := identNobodyUptoRow.holds Try.pinned (OpenSpec.upto identNobodySpec)

/-- 'entrepotlaw09.IdentMarks', WHERE WHAT IT READS IS OF BULK AT MOST 1048576: true; the input reads as it did. -/
def identMarksUptoRow : OpenClaim := { program := "ytpendcaefjbomaa", sum := "6e91675467bc8ded03a0a3f8fd0d5551b90eaa5c369897540ab7d75d81e85307", func := "entrepot/entrepotlaw09.IdentMarks", spec := "identMarks", unfollowed := true, recurses := true, plainKeys := false, apart := false, narrowed := true }
def IdentMarksUptoSaid : Prop := identMarksUptoRow.holds Try.pinned (OpenSpec.upto identMarksSpec)

end Rows
end Go.Proofs.Ytpendcaefjbomaa
