/-
  No cell of these rows narrows 'for every input' (looked for: loops, veiled, ifaces, maps, wideKeys, modest, calm, conditions, laid).
  DERIVED. THE GIVEN ROWS OF THIS SEAT. 3 by the template 'for every input the law returns true; each argument reads behind the call as it read before'; 0 by the template 'total and deterministic' (their statements: YtebgoaiinjmbiaaTotals.lean).
  GIVEN WITH THE SEED: the statements are not yours to turn. If you find one false, say at which input.
  Laid BY PROGRAM, IN A SANDBOX (cutbox-rows.mjs): the forced cells as the released guide's own fill.sh prints them over the translation a38941d18bb545c8… (all of the seat's roots in one cut). By AI agents, Wed Nov 11 2026. No macro, syntax, notation, axiom, sorry.
-/
import Derived.Test.YtebgoaiinjmbiaaChecked
import GoSem.Claim
import GoSem.ClaimJoined
import GoSem.ClaimMapViews
import Derived.JoinedTies
import Derived.KernelRfl
namespace Go.Proofs.Ytebgoaiinjmbiaa
/- THE CELL 'sum', in the pinned program and in every row, IS THE sha256 OF THE DUMP (.gsa) THAT YtebgoaiinjmbiaaProg.lean LOADS. Nothing in Lean hashes anything: it is a label: what it is worth is what the hold of that sum in a sandbox is worth. -/
noncomputable def Try.pinned : Pinned := { name := "ytebgoaiinjmbiaa", sum := "a38941d18bb545c80c1faf80cb5028d85894861af58a0acde163ed2db9af66d4", checked := Try.checked }
namespace Rows
def none {H : Type} : Left H := { results := [], args := [] }

/-- 'entrepotlaw01.CellsJoins': WHATEVER THE INPUT: true; the input reads as it did. -/
def cellsJoinsSpec : ChangeSpec := { name := "cellsJoins", fn := fun _ => fun
  | [d] => { results := [.lit (.bool true)], args := [d] }
  | _ => none }
def cellsJoinsRow : OpenClaim := { program := "ytebgoaiinjmbiaa", sum := "a38941d18bb545c80c1faf80cb5028d85894861af58a0acde163ed2db9af66d4", func := "entrepot/entrepotlaw01.CellsJoins", spec := "cellsJoins", apart := false }
def CellsJoinsSaid : Prop := cellsJoinsRow.holds Try.pinned (OpenSpec.ofChange cellsJoinsSpec)

/-- ITS FALSE NEIGHBOUR: 'it returns false'. Refute it at one input. -/
def cellsJoinsWrong : ChangeSpec := { name := "cellsJoins", fn := fun _ => fun
  | [d] => { results := [.lit (.bool false)], args := [d] }
  | _ => none }
def CellsJoinsWrongFalsely : Prop := cellsJoinsRow.holds Try.pinned (OpenSpec.ofChange cellsJoinsWrong)

/-- 'entrepotlaw01.CellsSplits': WHATEVER THE INPUT: true; the input reads as it did. -/
def cellsSplitsSpec : ChangeSpec := { name := "cellsSplits", fn := fun _ => fun
  | [d] => { results := [.lit (.bool true)], args := [d] }
  | _ => none }
def cellsSplitsRow : OpenClaim := { program := "ytebgoaiinjmbiaa", sum := "a38941d18bb545c80c1faf80cb5028d85894861af58a0acde163ed2db9af66d4", func := "entrepot/entrepotlaw01.CellsSplits", spec := "cellsSplits", apart := false }
def CellsSplitsSaid : Prop := cellsSplitsRow.holds Try.pinned (OpenSpec.ofChange cellsSplitsSpec)

/-- ITS FALSE NEIGHBOUR: 'it returns false'. Refute it at one input. -/
def cellsSplitsWrong : ChangeSpec := { name := "cellsSplits", fn := fun _ => fun
  | [d] => { results := [.lit (.bool false)], args := [d] }
  | _ => none }
def CellsSplitsWrongFalsely : Prop := cellsSplitsRow.holds Try.pinned (OpenSpec.ofChange cellsSplitsWrong)

/-- 'entrepotlaw01.CellsParts': WHATEVER THE INPUT: true; the input reads as it did. -/
def cellsPartsSpec : ChangeSpec := { name := "cellsParts", fn := fun _ => fun
  | [d1, d2] => { results := [.lit (.bool true)], args := [d1, d2] }
  | _ => none }
def cellsPartsRow : OpenClaim := { program := "ytebgoaiinjmbiaa", sum := "a38941d18bb545c80c1faf80cb5028d85894861af58a0acde163ed2db9af66d4", func := "entrepot/entrepotlaw01.CellsParts", spec := "cellsParts", apart := false }
def CellsPartsSaid : Prop := cellsPartsRow.holds Try.pinned (OpenSpec.ofChange cellsPartsSpec)

/-- ITS FALSE NEIGHBOUR: 'it returns false'. Refute it at one input. -/
def cellsPartsWrong : ChangeSpec := { name := "cellsParts", fn := fun _ => fun
  | [d1, d2] => { results := [.lit (.bool false)], args := [d1, d2] }
  | _ => none }
def CellsPartsWrongFalsely : Prop := cellsPartsRow.holds Try.pinned (OpenSpec.ofChange cellsPartsWrong)

/- THE SECOND FORM. 'bulk': how many values and letters a reading holds, each counted each time it is reached (what is shared counts as often as it is met; a slice's spare places count too). A statement '..UptoSaid' is the law's where the arguments, and the package variables that the reading takes, are together of bulk at most 1048576: NARROWER than '..Said'. Prove '..Said' where nothing that the law and all that it calls make is longer than what came in: it says more and counts as full. Else prove '..UptoSaid'. A law counts once. -/
mutual
def uptoBulk {H : Type} : DataW H → Nat
  | .lit (.string bytes) => bytes.length + 1
  | .lit _ => 1
  | .nil => 1
  | .ptr d => uptoBulk d + 1
  | .slice elems spare => uptoBulkAll elems + uptoBulkAll spare + 1
  | .agg parts => uptoBulkAll parts + 1
  | .iface _ d => uptoBulk d + 1
  | .map entries => uptoBulkEntries entries + 1
  | .held _ => 1
def uptoBulkAll {H : Type} : List (DataW H) → Nat
  | [] => 0
  | d :: r => uptoBulk d + uptoBulkAll r
def uptoBulkEntries {H : Type} : List (Lit × DataW H) → Nat
  | [] => 0
  | x :: r => uptoBulkEntry x + uptoBulkEntries r
def uptoBulkEntry {H : Type} : Lit × DataW H → Nat
  | (.string bytes, d) => bytes.length + uptoBulk d + 1
  | (_, d) => uptoBulk d + 1
 end
def uptoSmall : (H : Type) → List (DataW H) → Bool := fun _ ds => decide (uptoBulkAll ds ≤ 1048576)
def OpenSpec.upto (s : _root_.Go.ChangeSpec) : _root_.Go.OpenSpec := { _root_.Go.OpenSpec.ofChange s with cond := some uptoSmall }

/-- 'entrepotlaw01.CellsJoins', WHERE WHAT IT READS IS OF BULK AT MOST 1048576: true; the input reads as it did. -/
def cellsJoinsUptoRow : OpenClaim := { program := "ytebgoaiinjmbiaa", sum := "a38941d18bb545c80c1faf80cb5028d85894861af58a0acde163ed2db9af66d4", func := "entrepot/entrepotlaw01.CellsJoins", spec := "cellsJoins", apart := false, narrowed := true }
def CellsJoinsUptoSaid : Prop := cellsJoinsUptoRow.holds Try.pinned (OpenSpec.upto cellsJoinsSpec)

/-- 'entrepotlaw01.CellsSplits', WHERE WHAT IT READS IS OF BULK AT MOST 1048576: true; the input reads as it did. -/
def cellsSplitsUptoRow : OpenClaim := { program := "ytebgoaiinjmbiaa", sum := "a38941d18bb545c80c1faf80cb5028d85894861af58a0acde163ed2db9af66d4", func := "entrepot/entrepotlaw01.CellsSplits", spec := "cellsSplits", apart := false, narrowed := true }
def CellsSplitsUptoSaid : Prop := cellsSplitsUptoRow.holds Try.pinned (OpenSpec.upto cellsSplitsSpec)

/-- 'entrepotlaw01.CellsParts', WHERE WHAT IT READS IS OF BULK AT MOST 1048576: true; the input reads as it did. -/
def cellsPartsUptoRow : OpenClaim := { program := "ytebgoaiinjmbiaa", sum := "a38941d18bb545c80c1faf80cb5028d85894861af58a0acde163ed2db9af66d4", func := "entrepot/entrepotlaw01.CellsParts", spec := "cellsParts", apart := false, narrowed := true }
def CellsPartsUptoSaid : Prop := cellsPartsUptoRow.holds Try.pinned (OpenSpec.upto cellsPartsSpec)

end Rows
end Go.Proofs.Ytebgoaiinjmbiaa
