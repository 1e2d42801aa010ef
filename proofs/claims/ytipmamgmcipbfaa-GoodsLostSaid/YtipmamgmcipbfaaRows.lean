/-
  No cell of these rows narrows 'for every input' (looked for: loops, veiled, ifaces, maps, wideKeys, modest, calm, conditions, laid).
  DERIVED. THE GIVEN ROWS OF THIS SEAT. 5 by the template 'for every input the law returns true; each argument reads behind the call as it read before'; 0 by the template 'total and deterministic' (their statements: YtipmamgmcipbfaaTotals.lean).
  GIVEN WITH THE SEED: the statements are not yours to turn. If you find one false, say at which input.
  Laid BY PROGRAM, IN A SANDBOX (cutbox-rows.mjs): the forced cells as the released guide's own fill.sh prints them over the translation e5ca4672dcd832aa… (all of the seat's roots in one cut). By AI agents, Wed Nov 11 2026. No macro, syntax, notation, axiom, sorry.
-/
import Derived.Test.YtipmamgmcipbfaaChecked
import GoSem.Claim
import GoSem.ClaimJoined
import GoSem.ClaimMapViews
import Derived.JoinedTies
import Derived.KernelRfl
namespace Go.Proofs.Ytipmamgmcipbfaa
/- THE CELL 'sum', in the pinned program and in every row, IS THE sha256 OF THE DUMP (.gsa) THAT YtipmamgmcipbfaaProg.lean LOADS. Nothing in Lean hashes anything: it is a label: what it is worth is what the hold of that sum in a sandbox is worth. -/
noncomputable def Try.pinned : Pinned := { name := "ytipmamgmcipbfaa", sum := "e5ca4672dcd832aa2a5b4b2ade699f40e5510d0eb3b95a8fc51d0e5a6a0fac85", checked := Try.checked }
namespace Rows
def none {H : Type} : Left H := { results := [], args := [] }

/-- 'entrepotlaw18.GoodsSums': WHATEVER THE INPUT: true; the input reads as it did. -/
def goodsSumsSpec : ChangeSpec := { name := "goodsSums", fn := fun _ => fun
  | [d1, d2] => { results := [.lit (.bool true)], args := [d1, d2] }
  | _ => none }
def goodsSumsRow : OpenClaim := { program := "ytipmamgmcipbfaa", sum := "e5ca4672dcd832aa2a5b4b2ade699f40e5510d0eb3b95a8fc51d0e5a6a0fac85", func := "entrepot/entrepotlaw18.GoodsSums", spec := "goodsSums", unfollowed := true, recurses := true, apart := false }
def GoodsSumsSaid : Prop := goodsSumsRow.holds Try.pinned (OpenSpec.ofChange goodsSumsSpec)

/-- ITS FALSE NEIGHBOUR: 'it returns false'. Refute it at one input. -/
def goodsSumsWrong : ChangeSpec := { name := "goodsSums", fn := fun _ => fun
  | [d1, d2] => { results := [.lit (.bool false)], args := [d1, d2] }
  | _ => none }
def GoodsSumsWrongFalsely : Prop := goodsSumsRow.holds Try.pinned (OpenSpec.ofChange goodsSumsWrong)

/-- 'entrepotlaw18.GoodsKept': WHATEVER THE INPUT: true; the input reads as it did. -/
def goodsKeptSpec : ChangeSpec := { name := "goodsKept", fn := fun _ => fun
  | [d1, d2, d3] => { results := [.lit (.bool true)], args := [d1, d2, d3] }
  | _ => none }
def goodsKeptRow : OpenClaim := { program := "ytipmamgmcipbfaa", sum := "e5ca4672dcd832aa2a5b4b2ade699f40e5510d0eb3b95a8fc51d0e5a6a0fac85", func := "entrepot/entrepotlaw18.GoodsKept", spec := "goodsKept", unfollowed := true, recurses := true, apart := false }
def GoodsKeptSaid : Prop := goodsKeptRow.holds Try.pinned (OpenSpec.ofChange goodsKeptSpec)

/-- ITS FALSE NEIGHBOUR: 'it returns false'. Refute it at one input. -/
def goodsKeptWrong : ChangeSpec := { name := "goodsKept", fn := fun _ => fun
  | [d1, d2, d3] => { results := [.lit (.bool false)], args := [d1, d2, d3] }
  | _ => none }
def GoodsKeptWrongFalsely : Prop := goodsKeptRow.holds Try.pinned (OpenSpec.ofChange goodsKeptWrong)

/-- 'entrepotlaw18.GoodsAdds': WHATEVER THE INPUT: true; the input reads as it did. -/
def goodsAddsSpec : ChangeSpec := { name := "goodsAdds", fn := fun _ => fun
  | [d1, d2, d3, d4, d5] => { results := [.lit (.bool true)], args := [d1, d2, d3, d4, d5] }
  | _ => none }
def goodsAddsRow : OpenClaim := { program := "ytipmamgmcipbfaa", sum := "e5ca4672dcd832aa2a5b4b2ade699f40e5510d0eb3b95a8fc51d0e5a6a0fac85", func := "entrepot/entrepotlaw18.GoodsAdds", spec := "goodsAdds", unfollowed := true, recurses := true, apart := false }
def GoodsAddsSaid : Prop := goodsAddsRow.holds Try.pinned (OpenSpec.ofChange goodsAddsSpec)

/-- ITS FALSE NEIGHBOUR: 'it returns false'. Refute it at one input. -/
def goodsAddsWrong : ChangeSpec := { name := "goodsAdds", fn := fun _ => fun
  | [d1, d2, d3, d4, d5] => { results := [.lit (.bool false)], args := [d1, d2, d3, d4, d5] }
  | _ => none }
def GoodsAddsWrongFalsely : Prop := goodsAddsRow.holds Try.pinned (OpenSpec.ofChange goodsAddsWrong)

/-- 'entrepotlaw18.GoodsNobody': WHATEVER THE INPUT: true; the input reads as it did. -/
def goodsNobodySpec : ChangeSpec := { name := "goodsNobody", fn := fun _ => fun
  | [d1, d2] => { results := [.lit (.bool true)], args := [d1, d2] }
  | _ => none }
def goodsNobodyRow : OpenClaim := { program := "ytipmamgmcipbfaa", sum := "e5ca4672dcd832aa2a5b4b2ade699f40e5510d0eb3b95a8fc51d0e5a6a0fac85", func := "entrepot/entrepotlaw18.GoodsNobody", spec := "goodsNobody", unfollowed := true, recurses := true, apart := false }
def GoodsNobodySaid : Prop := goodsNobodyRow.holds Try.pinned (OpenSpec.ofChange goodsNobodySpec)

/-- ITS FALSE NEIGHBOUR: 'it returns false'. Refute it at one input. -/
def goodsNobodyWrong : ChangeSpec := { name := "goodsNobody", fn := fun _ => fun
  | [d1, d2] => { results := [.lit (.bool false)], args := [d1, d2] }
  | _ => none }
def GoodsNobodyWrongFalsely : Prop := goodsNobodyRow.holds Try.pinned (OpenSpec.ofChange goodsNobodyWrong)

/-- 'entrepotlaw18.GoodsLost': WHATEVER THE INPUT: true; the input reads as it did. -/
def goodsLostSpec : ChangeSpec := { name := "goodsLost", fn := fun _ => fun
  | [d1, d2, d3] => { results := [.lit (.bool true)], args := [d1, d2, d3] }
  | _ => none }
def goodsLostRow : OpenClaim := { program := "ytipmamgmcipbfaa", sum := "e5ca4672dcd832aa2a5b4b2ade699f40e5510d0eb3b95a8fc51d0e5a6a0fac85", func := "entrepot/entrepotlaw18.GoodsLost", spec := "goodsLost", unfollowed := true, recurses := true, apart := false }
def GoodsLostSaid : Prop := goodsLostRow.holds Try.pinned (OpenSpec.ofChange goodsLostSpec)

/-- ITS FALSE NEIGHBOUR: 'it returns false'. Refute it at one input. -/
def goodsLostWrong : ChangeSpec := { name := "goodsLost", fn := fun _ => fun
  | [d1, d2, d3] => { results := [.lit (.bool false)], args := [d1, d2, d3] }
  | _ => none }
def GoodsLostWrongFalsely : Prop := goodsLostRow.holds Try.pinned (OpenSpec.ofChange goodsLostWrong)

/- THE SECOND FORM. 'bulk': how many values and letters a reading holds, each counted each time it is reached (what is shared counts as often as it is met; a slice's spare places count too). A statement '..UptoSaid' is the law's where the arguments, and the package variables that the reading takes, are together of bulk at most 1048576: NARROWER than '..Said'. Prove '..Said' where nothing that the law and all that it calls make is longer than what came in: it says more and counts as full. Else prove '..UptoSaid'. A law counts once. -/
mutual
def uptoBulk {H : Type} : DataW H → Nat
  | .lit (.string bytes) => bytes.length + 1
  | .lit _ => 1
  | .nil => 1
  | .ptr d => uptoBulk d + 1
  | .slice elems spare => uptoBulkAll elems + uptoBulkAll spare + 1
  | .agg parts => uptoBulkAll parts + 1
  | .iface _ d => uptoBulk d + 1
  | .map entries => uptoBulkEntries entries + 1
  | .held _ => 1
def uptoBulkAll {H : Type} : List (DataW H) → Nat
  | [] => 0
  | d :: r => uptoBulk d + uptoBulkAll r
def uptoBulkEntries {H : Type} : List (Lit × DataW H) → Nat
  | [] => 0
  | x :: r => uptoBulkEntry x + uptoBulkEntries r
def uptoBulkEntry {H : Type} : Lit × DataW H → Nat
  | (.string bytes, d) => bytes.length + uptoBulk d + 1
  | (_, d) => uptoBulk d + 1
 end
def uptoSmall : (H : Type) → List (DataW H) → Bool := fun _ ds => decide (uptoBulkAll ds ≤ 1048576)
def OpenSpec.upto (s : _root_.Go.ChangeSpec) : _root_.Go.OpenSpec := { _root_.Go.OpenSpec.ofChange s with cond := some uptoSmall }

/-- 'entrepotlaw18.GoodsSums', WHERE WHAT IT READS IS OF BULK AT MOST 1048576: true; the input reads as it did. -/
def goodsSumsUptoRow : OpenClaim := { program := "ytipmamgmcipbfaa", sum := "e5ca4672dcd832aa2a5b4b2ade699f40e5510d0eb3b95a8fc51d0e5a6a0fac85", func := "entrepot/entrepotlaw18.GoodsSums", spec := "goodsSums", unfollowed := true, recurses := true, apart := false, narrowed := true }
def GoodsSumsUptoSaid : Prop := goodsSumsUptoRow.holds Try.pinned (OpenSpec.upto goodsSumsSpec)

/-- 'entrepotlaw18.GoodsKept', WHERE WHAT IT READS IS OF BULK AT MOST 1048576: true; the input reads as it did. -/
def goodsKeptUptoRow : OpenClaim := { program := "ytipmamgmcipbfaa", sum := "e5ca4672dcd832aa2a5b4b2ade699f40e5510d0eb3b95a8fc51d0e5a6a0fac85", func := "entrepot/entrepotlaw18.GoodsKept", spec := "goodsKept", unfollowed := true, recurses := true, apart := false, narrowed := true }
def GoodsKeptUptoSaid : Prop := goodsKeptUptoRow.holds Try.pinned (OpenSpec.upto goodsKeptSpec)

/-- 'entrepotlaw18.GoodsAdds', WHERE WHAT IT READS IS OF BULK AT MOST 1048576: true; the input reads as it did. -/
def goodsAddsUptoRow : OpenClaim := { program := "ytipmamgmcipbfaa", sum := "e5ca4672dcd832aa2a5b4b2ade699f40e5510d0eb3b95a8fc51d0e5a6a0fac85", func := "entrepot/entrepotlaw18.GoodsAdds", spec := "goodsAdds", unfollowed := true, recurses := true, apart := false, narrowed := true }
def GoodsAddsUptoSaid : Prop := goodsAddsUptoRow.holds Try.pinned (OpenSpec.upto goodsAddsSpec)

/-- 'entrepotlaw18.GoodsNobody', WHERE WHAT IT READS IS OF BULK AT MOST 1048576: true; the input reads as it did. -/
def goodsNobodyUptoRow : OpenClaim := { program := "ytipmamgmcipbfaa", sum := "e5ca4672dcd832aa2a5b4b2ade699f40e5510d0eb3b95a8fc51d0e5a6a0fac85", func := "entrepot/entrepotlaw18.GoodsNobody", spec := "goodsNobody", unfollowed := true, recurses := true, apart := false, narrowed := true }
def GoodsNobodyUptoSaid : Prop := goodsNobodyUptoRow.holds Try.pinned (OpenSpec.upto goodsNobodySpec)

/-- 'entrepotlaw18.GoodsLost', WHERE WHAT IT READS IS OF BULK AT MOST 1048576: true; the input reads as it did. -/
def goodsLostUptoRow : OpenClaim := { program := "ytipmamgmcipbfaa", sum := "e5ca4672dcd832aa2a5b4b2ade699f40e5510d0eb3b95a8fc51d0e5a6a0fac85", func := "entrepot/entrepotlaw18.GoodsLost", spec := "goodsLost", unfollowed := true, recurses := true, apart := false, narrowed := true }
def GoodsLostUptoSaid : Prop := goodsLostUptoRow.holds Try.pinned (OpenSpec.upto goodsLostSpec)

end Rows
end Go.Proofs.Ytipmamgmcipbfaa
