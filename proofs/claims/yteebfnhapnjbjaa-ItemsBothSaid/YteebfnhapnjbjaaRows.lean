/-
  No cell of these rows narrows 'for every input' (looked for: loops, veiled, ifaces, maps, wideKeys, modest, calm, conditions, laid).
  DERIVED. THE GIVEN ROWS OF THIS SEAT. 8 by the template 'for every input the law returns true; each argument reads behind the call as it read before'; 0 by the template 'total and deterministic' (their statements: YteebfnhapnjbjaaTotals.lean).
  GIVEN WITH THE SEED: the statements are not yours to turn. If you find one false, say at which input.
  Laid BY PROGRAM, IN A SANDBOX (cutbox-rows.mjs): the forced cells as the released guide's own fill.sh prints them over the translation 7dbfa35e585477e2… (all of the seat's roots in one cut). By AI agents, Wed Nov 11 2026. No macro, syntax, notation, axiom, sorry.
-/
import Derived.Test.YteebfnhapnjbjaaChecked
import GoSem.Claim
import GoSem.ClaimJoined
import GoSem.ClaimMapViews
import Derived.JoinedTies
import Derived.KernelRfl
namespace Go.Proofs.Yteebfnhapnjbjaa
/- THE CELL 'sum', in the pinned program and in every row, IS THE sha256 OF THE DUMP (.gsa) THAT YteebfnhapnjbjaaProg.lean LOADS. Nothing in Lean hashes anything: it is a label: what it is worth is what the hold of that sum in a sandbox is worth. -/
noncomputable def Try.pinned : Pinned := { name := "yteebfnhapnjbjaa", sum := "7dbfa35e585477e24962ba9486fb099263dabf690178c05c8e8e1c411c3eb663", checked := Try.checked }
namespace Rows
def none {H : Type} : Left H := { results := [], args := [] }

/-- 'entrepotlaw06.ItemsNorms': WHATEVER THE INPUT: true; the input reads as it did. -/
def itemsNormsSpec : ChangeSpec := { name := "itemsNorms", fn := fun _ => fun
  | [d1, d2] => { results := [.lit (.bool true)], args := [d1, d2] }
  | _ => none }
def itemsNormsRow : OpenClaim := { program := "yteebfnhapnjbjaa", sum := "7dbfa35e585477e24962ba9486fb099263dabf690178c05c8e8e1c411c3eb663", func := "entrepot/entrepotlaw06.ItemsNorms", spec := "itemsNorms", unfollowed := true, recurses := true, apart := false }
def ItemsNormsSaid : Prop := itemsNormsRow.holds Try.pinned (OpenSpec.ofChange itemsNormsSpec)

/-- ITS FALSE NEIGHBOUR: 'it returns false'. Refute it at one input. -/
def itemsNormsWrong : ChangeSpec := { name := "itemsNorms", fn := fun _ => fun
  | [d1, d2] => { results := [.lit (.bool false)], args := [d1, d2] }
  | _ => none }
def ItemsNormsWrongFalsely : Prop := itemsNormsRow.holds Try.pinned (OpenSpec.ofChange itemsNormsWrong)

/-- 'entrepotlaw06.ItemsBoth': WHATEVER THE INPUT: true; the input reads as it did. -/
def itemsBothSpec : ChangeSpec := { name := "itemsBoth", fn := fun _ => fun
  | [d1, d2] => { results := [.lit (.bool true)], args := [d1, d2] }
  | _ => none }
def itemsBothRow : OpenClaim := { program := "yteebfnhapnjbjaa", sum := "7dbfa35e585477e24962ba9486fb099263dabf690178c05c8e8e1c411c3eb663", func := "entrepot/entrepotlaw06.ItemsBoth", spec := "itemsBoth", unfollowed := true, recurses := true, apart := false }
def ItemsBothSaid : Prop := itemsBothRow.holds Try.pinned (OpenSpec.ofChange itemsBothSpec)

/-- ITS FALSE NEIGHBOUR: 'it returns false'. Refute it at one input. -/
def itemsBothWrong : ChangeSpec := { name := "itemsBoth", fn := fun _ => fun
  | [d1, d2] => { results := [.lit (.bool false)], args := [d1, d2] }
  | _ => none }
def ItemsBothWrongFalsely : Prop := itemsBothRow.holds Try.pinned (OpenSpec.ofChange itemsBothWrong)

/-- 'entrepotlaw06.ItemsParts': WHATEVER THE INPUT: true; the input reads as it did. -/
def itemsPartsSpec : ChangeSpec := { name := "itemsParts", fn := fun _ => fun
  | [d1, d2] => { results := [.lit (.bool true)], args := [d1, d2] }
  | _ => none }
def itemsPartsRow : OpenClaim := { program := "yteebfnhapnjbjaa", sum := "7dbfa35e585477e24962ba9486fb099263dabf690178c05c8e8e1c411c3eb663", func := "entrepot/entrepotlaw06.ItemsParts", spec := "itemsParts", unfollowed := true, recurses := true, apart := false }
def ItemsPartsSaid : Prop := itemsPartsRow.holds Try.pinned (OpenSpec.ofChange itemsPartsSpec)

/-- ITS FALSE NEIGHBOUR: 'it returns false'. Refute it at one input. -/
def itemsPartsWrong : ChangeSpec := { name := "itemsParts", fn := fun _ => fun
  | [d1, d2] => { results := [.lit (.bool false)], args := [d1, d2] }
  | _ => none }
def ItemsPartsWrongFalsely : Prop := itemsPartsRow.holds Try.pinned (OpenSpec.ofChange itemsPartsWrong)

/-- 'entrepotlaw06.ItemsOrder': WHATEVER THE INPUT: true; the input reads as it did. -/
def itemsOrderSpec : ChangeSpec := { name := "itemsOrder", fn := fun _ => fun
  | [d1, d2, d3] => { results := [.lit (.bool true)], args := [d1, d2, d3] }
  | _ => none }
def itemsOrderRow : OpenClaim := { program := "yteebfnhapnjbjaa", sum := "7dbfa35e585477e24962ba9486fb099263dabf690178c05c8e8e1c411c3eb663", func := "entrepot/entrepotlaw06.ItemsOrder", spec := "itemsOrder", unfollowed := true, recurses := true, apart := false }
def ItemsOrderSaid : Prop := itemsOrderRow.holds Try.pinned (OpenSpec.ofChange itemsOrderSpec)

/-- ITS FALSE NEIGHBOUR: 'it returns false'. Refute it at one input. -/
def itemsOrderWrong : ChangeSpec := { name := "itemsOrder", fn := fun _ => fun
  | [d1, d2, d3] => { results := [.lit (.bool false)], args := [d1, d2, d3] }
  | _ => none }
def ItemsOrderWrongFalsely : Prop := itemsOrderRow.holds Try.pinned (OpenSpec.ofChange itemsOrderWrong)

/-- 'entrepotlaw06.ItemsCodes': WHATEVER THE INPUT: true; the input reads as it did. -/
def itemsCodesSpec : ChangeSpec := { name := "itemsCodes", fn := fun _ => fun
  | [d] => { results := [.lit (.bool true)], args := [d] }
  | _ => none }
def itemsCodesRow : OpenClaim := { program := "yteebfnhapnjbjaa", sum := "7dbfa35e585477e24962ba9486fb099263dabf690178c05c8e8e1c411c3eb663", func := "entrepot/entrepotlaw06.ItemsCodes", spec := "itemsCodes", unfollowed := true, recurses := true, apart := false }
def ItemsCodesSaid : Prop := itemsCodesRow.holds Try.pinned (OpenSpec.ofChange itemsCodesSpec)

/-- ITS FALSE NEIGHBOUR: 'it returns false'. Refute it at one input. -/
def itemsCodesWrong : ChangeSpec := { name := "itemsCodes", fn := fun _ => fun
  | [d] => { results := [.lit (.bool false)], args := [d] }
  | _ => none }
def ItemsCodesWrongFalsely : Prop := itemsCodesRow.holds Try.pinned (OpenSpec.ofChange itemsCodesWrong)

/-- 'entrepotlaw06.ItemsReads': WHATEVER THE INPUT: true; the input reads as it did. -/
def itemsReadsSpec : ChangeSpec := { name := "itemsReads", fn := fun _ => fun
  | [d] => { results := [.lit (.bool true)], args := [d] }
  | _ => none }
def itemsReadsRow : OpenClaim := { program := "yteebfnhapnjbjaa", sum := "7dbfa35e585477e24962ba9486fb099263dabf690178c05c8e8e1c411c3eb663", func := "entrepot/entrepotlaw06.ItemsReads", spec := "itemsReads", unfollowed := true, recurses := true, apart := false }
def ItemsReadsSaid : Prop := itemsReadsRow.holds Try.pinned (OpenSpec.ofChange itemsReadsSpec)

/-- ITS FALSE NEIGHBOUR: 'it returns false'. Refute it at one input. -/
def itemsReadsWrong : ChangeSpec := { name := "itemsReads", fn := fun _ => fun
  | [d] => { results := [.lit (.bool false)], args := [d] }
  | _ => none }
def ItemsReadsWrongFalsely : Prop := itemsReadsRow.holds Try.pinned (OpenSpec.ofChange itemsReadsWrong)

/-- 'entrepotlaw06.ItemsWalks': WHATEVER THE INPUT: true; the input reads as it did. -/
def itemsWalksSpec : ChangeSpec := { name := "itemsWalks", fn := fun _ => fun
  | [d1, d2] => { results := [.lit (.bool true)], args := [d1, d2] }
  | _ => none }
def itemsWalksRow : OpenClaim := { program := "yteebfnhapnjbjaa", sum := "7dbfa35e585477e24962ba9486fb099263dabf690178c05c8e8e1c411c3eb663", func := "entrepot/entrepotlaw06.ItemsWalks", spec := "itemsWalks", unfollowed := true, recurses := true, apart := false }
def ItemsWalksSaid : Prop := itemsWalksRow.holds Try.pinned (OpenSpec.ofChange itemsWalksSpec)

/-- ITS FALSE NEIGHBOUR: 'it returns false'. Refute it at one input. -/
def itemsWalksWrong : ChangeSpec := { name := "itemsWalks", fn := fun _ => fun
  | [d1, d2] => { results := [.lit (.bool false)], args := [d1, d2] }
  | _ => none }
def ItemsWalksWrongFalsely : Prop := itemsWalksRow.holds Try.pinned (OpenSpec.ofChange itemsWalksWrong)

/-- 'entrepotlaw06.ItemsTakes': WHATEVER THE INPUT: true; the input reads as it did. -/
def itemsTakesSpec : ChangeSpec := { name := "itemsTakes", fn := fun _ => fun
  | [d] => { results := [.lit (.bool true)], args := [d] }
  | _ => none }
def itemsTakesRow : OpenClaim := { program := "yteebfnhapnjbjaa", sum := "7dbfa35e585477e24962ba9486fb099263dabf690178c05c8e8e1c411c3eb663", func := "entrepot/entrepotlaw06.ItemsTakes", spec := "itemsTakes", unfollowed := true, recurses := true, apart := false }
def ItemsTakesSaid : Prop := itemsTakesRow.holds Try.pinned (OpenSpec.ofChange itemsTakesSpec)

/-- ITS FALSE NEIGHBOUR: 'it returns false'. Refute it at one input. -/
def itemsTakesWrong : ChangeSpec := { name := "itemsTakes", fn := fun _ => fun
  | [d] => { results := [.lit (.bool false)], args := [d] }
  | _ => none }
def ItemsTakesWrongFalsely : Prop := itemsTakesRow.holds Try.pinned (OpenSpec.ofChange itemsTakesWrong)

/- THE SECOND FORM. 'bulk': how many values and letters a reading holds, each counted each time it is reached (what is shared counts as often as it is met; a slice's spare places count too). A statement '..UptoSaid' is the law's where the arguments, and the package variables that the reading takes, are together of bulk at most 1048576: NARROWER than '..Said'. Prove '..Said' where nothing that the law and all that it calls make is longer than what came in: it says more and counts as full. Else prove '..UptoSaid'. A law counts once. -/
mutual
def uptoBulk {H : Type} : DataW H → Nat
  | .lit (.string bytes) => bytes.length + 1
  | .lit _ => 1
  | .nil => 1
  | .ptr d => uptoBulk d + 1
  | .slice elems spare => uptoBulkAll elems + uptoBulkAll spare + 1
  | .agg parts => uptoBulkAll parts + 1
  | .iface _ d => uptoBulk d + 1
  | .map entries => uptoBulkEntries entries + 1
  | .held _ => 1
def uptoBulkAll {H : Type} : List (DataW H) → Nat
  | [] => 0
  | d :: r => uptoBulk d + uptoBulkAll r
def uptoBulkEntries {H : Type} : List (Lit × DataW H) → Nat
  | [] => 0
  | x :: r => uptoBulkEntry x + uptoBulkEntries r
def uptoBulkEntry {H : Type} : Lit × DataW H → Nat
  | (.string bytes, d) => bytes.length + uptoBulk d + 1
  | (_, d) => uptoBulk d + 1
 end
def uptoSmall : (H : Type) → List (DataW H) → Bool := fun _ ds => decide (uptoBulkAll ds ≤ 1048576)
def OpenSpec.upto (s : _root_.Go.ChangeSpec) : _root_.Go.OpenSpec := { _root_.Go.OpenSpec.ofChange s with cond := some uptoSmall }

/-- 'entrepotlaw06.ItemsNorms', WHERE WHAT IT READS IS OF BULK AT MOST 1048576: true; the input reads as it did. -/
def itemsNormsUptoRow : OpenClaim := { program := "yteebfnhapnjbjaa", sum := "7dbfa35e585477e24962ba9486fb099263dabf690178c05c8e8e1c411c3eb663", func := "entrepot/entrepotlaw06.ItemsNorms", spec := "itemsNorms", unfollowed := true, recurses := true, apart := false, narrowed := true }
def ItemsNormsUptoSaid : Prop := itemsNormsUptoRow.holds Try.pinned (OpenSpec.upto itemsNormsSpec)

/-- 'entrepotlaw06.ItemsBoth', WHERE WHAT IT READS IS OF BULK AT MOST 1048576: true; the input reads as it did. -/
def itemsBothUptoRow : OpenClaim := { program := "yteebfnhapnjbjaa", sum := "7dbfa35e585477e24962ba9486fb099263dabf690178c05c8e8e1c411c3eb663", func := "entrepot/entrepotlaw06.ItemsBoth", spec := "itemsBoth", unfollowed := true, recurses := true, apart := false, narrowed := true }
def ItemsBothUptoSaid : Prop := itemsBothUptoRow.holds Try.pinned (OpenSpec.upto itemsBothSpec)

/-- 'entrepotlaw06.ItemsParts', WHERE WHAT IT READS IS OF BULK AT MOST 1048576: true; the input reads as it did. -/
def itemsPartsUptoRow : OpenClaim := { program := "yteebfnhapnjbjaa", sum := "7dbfa35e585477e24962ba9486fb099263dabf690178c05c8e8e1c411c3eb663", func := "entrepot/entrepotlaw06.ItemsParts", spec := "itemsParts", unfollowed := true, recurses := true, apart := false, narrowed := true }
def ItemsPartsUptoSaid : Prop := itemsPartsUptoRow.holds Try.pinned (OpenSpec.upto itemsPartsSpec)

/-- 'entrepotlaw06.ItemsOrder', WHERE WHAT IT READS IS OF BULK AT MOST 1048576: true; the input reads as it did. -/
def itemsOrderUptoRow : OpenClaim := { program := "yteebfnhapnjbjaa", sum := "7dbfa35e585477e24962ba9486fb099263dabf690178c05c8e8e1c411c3eb663", func := "entrepot/entrepotlaw06.ItemsOrder", spec := "itemsOrder", unfollowed := true, recurses := true, apart := false, narrowed := true }
def ItemsOrderUptoSaid : Prop := itemsOrderUptoRow.holds Try.pinned (OpenSpec.upto itemsOrderSpec)

/-- 'entrepotlaw06.ItemsCodes', WHERE WHAT IT READS IS OF BULK AT MOST 1048576: true; the input reads as it did. -/
def itemsCodesUptoRow : OpenClaim := { program := "yteebfnhapnjbjaa", sum := "7dbfa35e585477e24962ba9486fb099263dabf690178c05c8e8e1c411c3eb663", func := "entrepot/entrepotlaw06.ItemsCodes", spec := "itemsCodes", unfollowed := true, recurses := true, apart := false, narrowed := true }
def ItemsCodesUptoSaid : Prop := itemsCodesUptoRow.holds Try.pinned (OpenSpec.upto itemsCodesSpec)

/-- 'entrepotlaw06.ItemsReads', WHERE WHAT IT READS IS OF BULK AT MOST 1048576: true; the input reads as it did. -/
def itemsReadsUptoRow : OpenClaim := { program := "yteebfnhapnjbjaa", sum := "7dbfa35e585477e24962ba9486fb099263dabf690178c05c8e8e1c411c3eb663", func := "entrepot/entrepotlaw06.ItemsReads", spec := "itemsReads", unfollowed := true, recurses := true, apart := false, narrowed := true }
def ItemsReadsUptoSaid : Prop := itemsReadsUptoRow.holds Try.pinned (OpenSpec.upto itemsReadsSpec)

/-- 'entrepotlaw06.ItemsWalks', WHERE WHAT IT READS IS OF BULK AT MOST 1048576: true; the input reads as it did. -/
def itemsWalksUptoRow : OpenClaim := { program := "yteebfnhapnjbjaa", sum := "7dbfa35e585477e24962ba9486fb099263dabf690178c05c8e8e1c411c3eb663", func := "entrepot/entrepotlaw06.ItemsWalks", spec := "itemsWalks", unfollowed := true, recurses := true, apart := false, narrowed := true }
def ItemsWalksUptoSaid : Prop := itemsWalksUptoRow.holds Try.pinned (OpenSpec.upto itemsWalksSpec)

/-- 'entrepotlaw06.ItemsTakes', WHERE WHAT IT READS IS OF BULK AT MOST 1048576: true; the input reads as it did. -/
def itemsTakesUptoRow : OpenClaim := { program := "yteebfnhapnjbjaa", sum := "7dbfa35e585477e24962ba9486fb099263dabf690178c05c8e8e1c411c3eb663", func := "entrepot/entrepotlaw06.ItemsTakes", spec := "itemsTakes", unfollowed := true, recurses := true, apart := false, narrowed := true }
def ItemsTakesUptoSaid : Prop := itemsTakesUptoRow.holds Try.pinned (OpenSpec.upto itemsTakesSpec)

end Rows
end Go.Proofs.Yteebfnhapnjbjaa
