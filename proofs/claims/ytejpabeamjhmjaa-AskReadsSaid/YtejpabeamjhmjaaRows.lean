/-
  No cell of these rows narrows 'for every input' (looked for: loops, veiled, ifaces, maps, wideKeys, modest, calm, conditions, laid).
  DERIVED. THE GIVEN ROWS OF THIS SEAT. 10 by the template 'for every input the law returns true; each argument reads behind the call as it read before'; 0 by the template 'total and deterministic' (their statements: YtejpabeamjhmjaaTotals.lean).
  GIVEN WITH THE SEED: the statements are not yours to turn. If you find one false, say at which input.
  Laid BY PROGRAM, IN A SANDBOX (cutbox-rows.mjs): the forced cells as the released guide's own fill.sh prints them over the translation 46e03721c596958b… (all of the seat's roots in one cut). By AI agents, Wed Nov 11 2026. No macro, syntax, notation, axiom, sorry.
-/
import Derived.Test.YtejpabeamjhmjaaChecked
import GoSem.Claim
import GoSem.ClaimJoined
import GoSem.ClaimMapViews
import Derived.JoinedTies
import Derived.KernelRfl
namespace Go.Proofs.Ytejpabeamjhmjaa
/- THE CELL 'sum', in the pinned program and in every row, IS THE sha256 OF THE DUMP (.gsa) THAT YtejpabeamjhmjaaProg.lean LOADS. Nothing in Lean hashes anything: it is a label: what it is worth is what the hold of that sum in a sandbox is worth. -/
noncomputable def Try.pinned : Pinned := { name := "ytejpabeamjhmjaa", sum := "46e03721c596958b232333b3b239ce910f013270eb3c4473fe44b157cbf6b8a9", checked := Try.checked }
namespace Rows
def none {H : Type} : Left H := { results := [], args := [] }

/-- 'entrepotlaw06.ItemsNorms': WHATEVER THE INPUT: true; the input reads as it did. -/
def itemsNormsSpec : ChangeSpec := { name := "itemsNorms", fn := fun _ => fun
  | [d1, d2] => { results := [.lit (.bool true)], args := [d1, d2] }
  | _ => none }
def itemsNormsRow : OpenClaim := { program := "ytejpabeamjhmjaa", sum := "46e03721c596958b232333b3b239ce910f013270eb3c4473fe44b157cbf6b8a9", func := "entrepot/entrepotlaw06.ItemsNorms", spec := "itemsNorms", unfollowed := true, recurses := true, apart := false }
def ItemsNormsSaid : Prop := itemsNormsRow.holds Try.pinned (OpenSpec.ofChange itemsNormsSpec)

/-- ITS FALSE NEIGHBOUR: 'it returns false'. Refute it at one input. -/
def itemsNormsWrong : ChangeSpec := { name := "itemsNorms", fn := fun _ => fun
  | [d1, d2] => { results := [.lit (.bool false)], args := [d1, d2] }
  | _ => none }
def ItemsNormsWrongFalsely : Prop := itemsNormsRow.holds Try.pinned (OpenSpec.ofChange itemsNormsWrong)

/-- 'entrepotlaw06.ItemsCodes': WHATEVER THE INPUT: true; the input reads as it did. -/
def itemsCodesSpec : ChangeSpec := { name := "itemsCodes", fn := fun _ => fun
  | [d] => { results := [.lit (.bool true)], args := [d] }
  | _ => none }
def itemsCodesRow : OpenClaim := { program := "ytejpabeamjhmjaa", sum := "46e03721c596958b232333b3b239ce910f013270eb3c4473fe44b157cbf6b8a9", func := "entrepot/entrepotlaw06.ItemsCodes", spec := "itemsCodes", unfollowed := true, recurses := true, apart := false }
def ItemsCodesSaid : Prop := itemsCodesRow.holds Try.pinned (OpenSpec.ofChange itemsCodesSpec)

/-- ITS FALSE NEIGHBOUR: 'it returns false'. Refute it at one input. -/
def itemsCodesWrong : ChangeSpec := { name := "itemsCodes", fn := fun _ => fun
  | [d] => { results := [.lit (.bool false)], args := [d] }
  | _ => none }
def ItemsCodesWrongFalsely : Prop := itemsCodesRow.holds Try.pinned (OpenSpec.ofChange itemsCodesWrong)

/-- 'entrepotlaw06.ItemsReads': WHATEVER THE INPUT: true; the input reads as it did. -/
def itemsReadsSpec : ChangeSpec := { name := "itemsReads", fn := fun _ => fun
  | [d] => { results := [.lit (.bool true)], args := [d] }
  | _ => none }
def itemsReadsRow : OpenClaim := { program := "ytejpabeamjhmjaa", sum := "46e03721c596958b232333b3b239ce910f013270eb3c4473fe44b157cbf6b8a9", func := "entrepot/entrepotlaw06.ItemsReads", spec := "itemsReads", unfollowed := true, recurses := true, apart := false }
def ItemsReadsSaid : Prop := itemsReadsRow.holds Try.pinned (OpenSpec.ofChange itemsReadsSpec)

/-- ITS FALSE NEIGHBOUR: 'it returns false'. Refute it at one input. -/
def itemsReadsWrong : ChangeSpec := { name := "itemsReads", fn := fun _ => fun
  | [d] => { results := [.lit (.bool false)], args := [d] }
  | _ => none }
def ItemsReadsWrongFalsely : Prop := itemsReadsRow.holds Try.pinned (OpenSpec.ofChange itemsReadsWrong)

/-- 'entrepotlaw06.ItemsTakes': WHATEVER THE INPUT: true; the input reads as it did. -/
def itemsTakesSpec : ChangeSpec := { name := "itemsTakes", fn := fun _ => fun
  | [d] => { results := [.lit (.bool true)], args := [d] }
  | _ => none }
def itemsTakesRow : OpenClaim := { program := "ytejpabeamjhmjaa", sum := "46e03721c596958b232333b3b239ce910f013270eb3c4473fe44b157cbf6b8a9", func := "entrepot/entrepotlaw06.ItemsTakes", spec := "itemsTakes", unfollowed := true, recurses := true, apart := false }
def ItemsTakesSaid : Prop := itemsTakesRow.holds Try.pinned (OpenSpec.ofChange itemsTakesSpec)

/-- ITS FALSE NEIGHBOUR: 'it returns false'. Refute it at one input. -/
def itemsTakesWrong : ChangeSpec := { name := "itemsTakes", fn := fun _ => fun
  | [d] => { results := [.lit (.bool false)], args := [d] }
  | _ => none }
def ItemsTakesWrongFalsely : Prop := itemsTakesRow.holds Try.pinned (OpenSpec.ofChange itemsTakesWrong)

/-- 'entrepotlaw10.AskCodes': WHATEVER THE INPUT: true; the input reads as it did. -/
def askCodesSpec : ChangeSpec := { name := "askCodes", fn := fun _ => fun
  | [d] => { results := [.lit (.bool true)], args := [d] }
  | _ => none }
def askCodesRow : OpenClaim := { program := "ytejpabeamjhmjaa", sum := "46e03721c596958b232333b3b239ce910f013270eb3c4473fe44b157cbf6b8a9", func := "entrepot/entrepotlaw10.AskCodes", spec := "askCodes", inPlace := ["internal/bytealg.IndexByteString", "internal/bytealg.IndexString"], unfollowed := true, recurses := true, named := ["internal/bytealg.MaxLen"], apart := false }
def AskCodesSaid : Prop := askCodesRow.holds Try.pinned (OpenSpec.ofChange askCodesSpec)

/-- ITS FALSE NEIGHBOUR: 'it returns false'. Refute it at one input. -/
def askCodesWrong : ChangeSpec := { name := "askCodes", fn := fun _ => fun
  | [d] => { results := [.lit (.bool false)], args := [d] }
  | _ => none }
def AskCodesWrongFalsely : Prop := askCodesRow.holds Try.pinned (OpenSpec.ofChange askCodesWrong)

/-- 'entrepotlaw10.AskReads': WHATEVER THE INPUT: true; the input reads as it did. -/
def askReadsSpec : ChangeSpec := { name := "askReads", fn := fun _ => fun
  | [d] => { results := [.lit (.bool true)], args := [d] }
  | _ => none }
def askReadsRow : OpenClaim := { program := "ytejpabeamjhmjaa", sum := "46e03721c596958b232333b3b239ce910f013270eb3c4473fe44b157cbf6b8a9", func := "entrepot/entrepotlaw10.AskReads", spec := "askReads", inPlace := ["internal/bytealg.IndexByteString", "internal/bytealg.IndexString"], unfollowed := true, recurses := true, named := ["internal/bytealg.MaxLen"], apart := false }
def AskReadsSaid : Prop := askReadsRow.holds Try.pinned (OpenSpec.ofChange askReadsSpec)

/-- ITS FALSE NEIGHBOUR: 'it returns false'. Refute it at one input. -/
def askReadsWrong : ChangeSpec := { name := "askReads", fn := fun _ => fun
  | [d] => { results := [.lit (.bool false)], args := [d] }
  | _ => none }
def AskReadsWrongFalsely : Prop := askReadsRow.holds Try.pinned (OpenSpec.ofChange askReadsWrong)

/-- 'entrepotlaw10.AskOrders': WHATEVER THE INPUT: true; the input reads as it did. -/
def askOrdersSpec : ChangeSpec := { name := "askOrders", fn := fun _ => fun
  | [d1, d2, d3] => { results := [.lit (.bool true)], args := [d1, d2, d3] }
  | _ => none }
def askOrdersRow : OpenClaim := { program := "ytejpabeamjhmjaa", sum := "46e03721c596958b232333b3b239ce910f013270eb3c4473fe44b157cbf6b8a9", func := "entrepot/entrepotlaw10.AskOrders", spec := "askOrders", inPlace := ["internal/bytealg.IndexByteString", "internal/bytealg.IndexString"], unfollowed := true, recurses := true, named := ["internal/bytealg.MaxLen"], apart := false }
def AskOrdersSaid : Prop := askOrdersRow.holds Try.pinned (OpenSpec.ofChange askOrdersSpec)

/-- ITS FALSE NEIGHBOUR: 'it returns false'. Refute it at one input. -/
def askOrdersWrong : ChangeSpec := { name := "askOrders", fn := fun _ => fun
  | [d1, d2, d3] => { results := [.lit (.bool false)], args := [d1, d2, d3] }
  | _ => none }
def AskOrdersWrongFalsely : Prop := askOrdersRow.holds Try.pinned (OpenSpec.ofChange askOrdersWrong)

/-- 'entrepotlaw10.AskSame': WHATEVER THE INPUT: true; the input reads as it did. -/
def askSameSpec : ChangeSpec := { name := "askSame", fn := fun _ => fun
  | [d1, d2, d3] => { results := [.lit (.bool true)], args := [d1, d2, d3] }
  | _ => none }
def askSameRow : OpenClaim := { program := "ytejpabeamjhmjaa", sum := "46e03721c596958b232333b3b239ce910f013270eb3c4473fe44b157cbf6b8a9", func := "entrepot/entrepotlaw10.AskSame", spec := "askSame", inPlace := ["internal/bytealg.IndexByteString", "internal/bytealg.IndexString"], unfollowed := true, recurses := true, named := ["internal/bytealg.MaxLen"], apart := false }
def AskSameSaid : Prop := askSameRow.holds Try.pinned (OpenSpec.ofChange askSameSpec)

/-- ITS FALSE NEIGHBOUR: 'it returns false'. Refute it at one input. -/
def askSameWrong : ChangeSpec := { name := "askSame", fn := fun _ => fun
  | [d1, d2, d3] => { results := [.lit (.bool false)], args := [d1, d2, d3] }
  | _ => none }
def AskSameWrongFalsely : Prop := askSameRow.holds Try.pinned (OpenSpec.ofChange askSameWrong)

/-- 'entrepotlaw10.AskOwners': WHATEVER THE INPUT: true; the input reads as it did. -/
def askOwnersSpec : ChangeSpec := { name := "askOwners", fn := fun _ => fun
  | [d] => { results := [.lit (.bool true)], args := [d] }
  | _ => none }
def askOwnersRow : OpenClaim := { program := "ytejpabeamjhmjaa", sum := "46e03721c596958b232333b3b239ce910f013270eb3c4473fe44b157cbf6b8a9", func := "entrepot/entrepotlaw10.AskOwners", spec := "askOwners", inPlace := ["internal/bytealg.IndexByteString", "internal/bytealg.IndexString"], unfollowed := true, recurses := true, named := ["internal/bytealg.MaxLen"], apart := false }
def AskOwnersSaid : Prop := askOwnersRow.holds Try.pinned (OpenSpec.ofChange askOwnersSpec)

/-- ITS FALSE NEIGHBOUR: 'it returns false'. Refute it at one input. -/
def askOwnersWrong : ChangeSpec := { name := "askOwners", fn := fun _ => fun
  | [d] => { results := [.lit (.bool false)], args := [d] }
  | _ => none }
def AskOwnersWrongFalsely : Prop := askOwnersRow.holds Try.pinned (OpenSpec.ofChange askOwnersWrong)

/-- 'entrepotlaw10.AskHomes': WHATEVER THE INPUT: true; the input reads as it did. -/
def askHomesSpec : ChangeSpec := { name := "askHomes", fn := fun _ => fun
  | [d1, d2] => { results := [.lit (.bool true)], args := [d1, d2] }
  | _ => none }
def askHomesRow : OpenClaim := { program := "ytejpabeamjhmjaa", sum := "46e03721c596958b232333b3b239ce910f013270eb3c4473fe44b157cbf6b8a9", func := "entrepot/entrepotlaw10.AskHomes", spec := "askHomes", inPlace := ["internal/bytealg.IndexByteString", "internal/bytealg.IndexString"], unfollowed := true, recurses := true, named := ["internal/bytealg.MaxLen"], apart := false }
def AskHomesSaid : Prop := askHomesRow.holds Try.pinned (OpenSpec.ofChange askHomesSpec)

/-- ITS FALSE NEIGHBOUR: 'it returns false'. Refute it at one input. -/
def askHomesWrong : ChangeSpec := { name := "askHomes", fn := fun _ => fun
  | [d1, d2] => { results := [.lit (.bool false)], args := [d1, d2] }
  | _ => none }
def AskHomesWrongFalsely : Prop := askHomesRow.holds Try.pinned (OpenSpec.ofChange askHomesWrong)

/- THE SECOND FORM. 'bulk': how many values and letters a reading holds, each counted each time it is reached (what is shared counts as often as it is met; a slice's spare places count too). A statement '..UptoSaid' is the law's where the arguments, and the package variables that the reading takes, are together of bulk at most 1048576: NARROWER than '..Said'. Prove '..Said' where nothing that the law and all that it calls make is longer than what came in: it says more and counts as full. Else prove '..UptoSaid'. A law counts once. -/
mutual
def uptoBulk {H : Type} : DataW H → Nat
  | .lit (.string bytes) => bytes.length + 1
  | .lit _ => 1
  | .nil => 1
  | .ptr d => uptoBulk d + 1
  | .slice elems spare => uptoBulkAll elems + uptoBulkAll spare + 1
  | .agg parts => uptoBulkAll parts + 1
  | .iface _ d => uptoBulk d + 1
  | .map entries => uptoBulkEntries entries + 1
  | .held _ => 1
def uptoBulkAll {H : Type} : List (DataW H) → Nat
  | [] => 0
  | d :: r => uptoBulk d + uptoBulkAll r
def uptoBulkEntries {H : Type} : List (Lit × DataW H) → Nat
  | [] => 0
  | x :: r => uptoBulkEntry x + uptoBulkEntries r
def uptoBulkEntry {H : Type} : Lit × DataW H → Nat
  | (.string bytes, d) => bytes.length + uptoBulk d + 1
  | (_, d) => uptoBulk d + 1
 end
def uptoSmall : (H : Type) → List (DataW H) → Bool := fun _ ds => decide (uptoBulkAll ds ≤ 1048576)
def OpenSpec.upto (s : _root_.Go.ChangeSpec) : _root_.Go.OpenSpec := { _root_.Go.OpenSpec.ofChange s with cond := some uptoSmall }

/-- 'entrepotlaw06.ItemsNorms', WHERE WHAT IT READS IS OF BULK AT MOST 1048576: true; the input reads as it did. -/
def itemsNormsUptoRow : OpenClaim := { program := "ytejpabeamjhmjaa", sum := "46e03721c596958b232333b3b239ce910f013270eb3c4473fe44b157cbf6b8a9", func := "entrepot/entrepotlaw06.ItemsNorms", spec := "itemsNorms", unfollowed := true, recurses := true, apart := false, narrowed := true }
def ItemsNormsUptoSaid : Prop := itemsNormsUptoRow.holds Try.pinned (OpenSpec.upto itemsNormsSpec)

/-- 'entrepotlaw06.ItemsCodes', WHERE WHAT IT READS IS OF BULK AT MOST 1048576: true; the input reads as it did. -/
def itemsCodesUptoRow : OpenClaim := { program := "ytejpabeamjhmjaa", sum := "46e03721c596958b232333b3b239ce910f013270eb3c4473fe44b157cbf6b8a9", func := "entrepot/entrepotlaw06.ItemsCodes", spec := "itemsCodes", unfollowed := true, recurses := true, apart := false, narrowed := true }
def ItemsCodesUptoSaid : Prop := itemsCodesUptoRow.holds Try.pinned (OpenSpec.upto itemsCodesSpec)

/-- 'entrepotlaw06.ItemsReads', WHERE WHAT IT READS IS OF BULK AT MOST 1048576: true; the input reads as it did. -/
def itemsReadsUptoRow : OpenClaim := { program := "ytejpabeamjhmjaa", sum := "46e03721c596958b232333b3b239ce910f013270eb3c4473fe44b157cbf6b8a9", func := "entrepot/entrepotlaw06.ItemsReads", spec := "itemsReads", unfollowed := true, recurses := true, apart := false, narrowed := true }
def ItemsReadsUptoSaid : Prop := itemsReadsUptoRow.holds Try.pinned (OpenSpec.upto itemsReadsSpec)

/-- 'entrepotlaw06.ItemsTakes', WHERE WHAT IT READS IS OF BULK AT MOST 1048576: true; the input reads as it did. -/
def itemsTakesUptoRow : OpenClaim := { program := "ytejpabeamjhmjaa", sum := "46e03721c596958b232333b3b239ce910f013270eb3c4473fe44b157cbf6b8a9", func := "entrepot/entrepotlaw06.ItemsTakes", spec := "itemsTakes", unfollowed := true, recurses := true, apart := false, narrowed := true }
def ItemsTakesUptoSaid : Prop := itemsTakesUptoRow.holds Try.pinned (OpenSpec.upto itemsTakesSpec)

/-- 'entrepotlaw10.AskCodes', WHERE WHAT IT READS IS OF BULK AT MOST 1048576: true; the input reads as it did. -/
def askCodesUptoRow : OpenClaim := { program := "ytejpabeamjhmjaa", sum := "46e03721c596958b232333b3b239ce910f013270eb3c4473fe44b157cbf6b8a9", func := "entrepot/entrepotlaw10.AskCodes", spec := "askCodes", inPlace := ["internal/bytealg.IndexByteString", "internal/bytealg.IndexString"], unfollowed := true, recurses := true, named := ["internal/bytealg.MaxLen"], apart := false, narrowed := true }
def AskCodesUptoSaid : Prop := askCodesUptoRow.holds Try.pinned (OpenSpec.upto askCodesSpec)

/-- 'entrepotlaw10.AskReads', WHERE WHAT IT READS IS OF BULK AT MOST 1048576: true; the input reads as it did. -/
def askReadsUptoRow : OpenClaim := { program := "ytejpabeamjhmjaa", sum := "46e03721c596958b232333b3b239ce910f013270eb3c4473fe44b157cbf6b8a9", func := "entrepot/entrepotlaw10.AskReads", spec := "askReads", inPlace := ["internal/bytealg.IndexByteString", "internal/bytealg.IndexString"], unfollowed := true, recurses := true, named := ["internal/bytealg.MaxLen"], apart := false, narrowed := true }
def AskReadsUptoSaid : Prop := askReadsUptoRow.holds Try.pinned (OpenSpec.upto askReadsSpec)

/-- 'entrepotlaw10.AskOrders', WHERE WHAT IT READS IS OF BULK AT MOST 1048576: true; the input reads as it did. -/
def askOrdersUptoRow : OpenClaim := { program := "ytejpabeamjhmjaa", sum := "46e03721c596958b232333b3b239ce910f013270eb3c4473fe44b157cbf6b8a9", func := "entrepot/entrepotlaw10.AskOrders", spec := "askOrders", inPlace := ["internal/bytealg.IndexByteString", "internal/bytealg.IndexString"], unfollowed := true, recurses := true, named := ["internal/bytealg.MaxLen"], apart := false, narrowed := true }
def AskOrdersUptoSaid : Prop := askOrdersUptoRow.holds Try.pinned (OpenSpec.upto askOrdersSpec)

/-- 'entrepotlaw10.AskSame', WHERE WHAT IT READS IS OF BULK AT MOST 1048576: true; the input reads as it did. -/
def askSameUptoRow : OpenClaim := { program := "ytejpabeamjhmjaa", sum := "46e03721c596958b232333b3b239ce910f013270eb3c4473fe44b157cbf6b8a9", func := "entrepot/entrepotlaw10.AskSame", spec := "askSame", inPlace := ["internal/bytealg.IndexByteString", "internal/bytealg.IndexString"], unfollowed := true, recurses := true, named := ["internal/bytealg.MaxLen"], apart := false, narrowed := true }
def AskSameUptoSaid : Prop := askSameUptoRow.holds Try.pinned (OpenSpec.upto askSameSpec)

/-- 'entrepotlaw10.AskOwners', WHERE WHAT IT READS IS OF BULK AT MOST 1048576: true; the input reads as it did. -/
def askOwnersUptoRow : OpenClaim := { program := "ytejpabeamjhmjaa", sum := "46e03721c596958b232333b3b239ce910f013270eb3c4473fe44b157cbf6b8a9", func := "entrepot/entrepotlaw10.AskOwners", spec := "askOwners", inPlace := ["internal/bytealg.IndexByteString", "internal/bytealg.IndexString"], unfollowed := true, recurses := true, named := ["internal/bytealg.MaxLen"], apart := false, narrowed := true }
def AskOwnersUptoSaid : Prop := askOwnersUptoRow.holds Try.pinned (OpenSpec.upto askOwnersSpec)

/-- 'entrepotlaw10.AskHomes', WHERE WHAT IT READS IS OF BULK AT MOST 1048576: true; the input reads as it did. -/
def askHomesUptoRow : OpenClaim := { program := "ytejpabeamjhmjaa", sum := "46e03721c596958b232333b3b239ce910f013270eb3c4473fe44b157cbf6b8a9", func := "entrepot/entrepotlaw10.AskHomes", spec := "askHomes", inPlace := ["internal/bytealg.IndexByteString", "internal/bytealg.IndexString"], unfollowed := true, recurses := true, named := ["internal/bytealg.MaxLen"], apart := false, narrowed := true }
def AskHomesUptoSaid : Prop := askHomesUptoRow.holds Try.pinned (OpenSpec.upto askHomesSpec)

end Rows
end Go.Proofs.Ytejpabeamjhmjaa
