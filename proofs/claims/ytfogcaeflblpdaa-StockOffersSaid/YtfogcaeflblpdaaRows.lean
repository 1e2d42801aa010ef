/-
  No cell of these rows narrows 'for every input' (looked for: loops, veiled, ifaces, maps, wideKeys, modest, calm, conditions, laid).
  DERIVED. THE GIVEN ROWS OF THIS SEAT. 5 by the template 'for every input the law returns true; each argument reads behind the call as it read before'; 0 by the template 'total and deterministic' (their statements: YtfogcaeflblpdaaTotals.lean).
  GIVEN WITH THE SEED: the statements are not yours to turn. If you find one false, say at which input.
  Laid BY PROGRAM, IN A SANDBOX (cutbox-rows.mjs): the forced cells as the released guide's own fill.sh prints them over the translation 84900dda7123ffc3… (all of the seat's roots in one cut). By AI agents, Wed Nov 11 2026. No macro, syntax, notation, axiom, sorry.
-/
import Derived.Test.YtfogcaeflblpdaaChecked
import GoSem.Claim
import GoSem.ClaimJoined
import GoSem.ClaimMapViews
import Derived.JoinedTies
import Derived.KernelRfl
namespace Go.Proofs.Ytfogcaeflblpdaa
/- THE CELL 'sum', in the pinned program and in every row, IS THE sha256 OF THE DUMP (.gsa) THAT YtfogcaeflblpdaaProg.lean LOADS. Nothing in Lean hashes anything: it is a label: what it is worth is what the hold of that sum in a sandbox is worth. -/
noncomputable def Try.pinned : Pinned := { name := "ytfogcaeflblpdaa", sum := "84900dda7123ffc39d892695065c01621c4beb8c9c030d89697a401629006f0e", checked := Try.checked }
namespace Rows
def none {H : Type} : Left H := { results := [], args := [] }

/-- 'entrepotlaw07.StockBack': WHATEVER THE INPUT: true; the input reads as it did. -/
def stockBackSpec : ChangeSpec := { name := "stockBack", fn := fun _ => fun
  | [d1, d2] => { results := [.lit (.bool true)], args := [d1, d2] }
  | _ => none }
def stockBackRow : OpenClaim := { program := "ytfogcaeflblpdaa", sum := "84900dda7123ffc39d892695065c01621c4beb8c9c030d89697a401629006f0e", func := "entrepot/entrepotlaw07.StockBack", spec := "stockBack", unfollowed := true, recurses := true, apart := false }
def StockBackSaid : Prop := stockBackRow.holds Try.pinned (OpenSpec.ofChange stockBackSpec)

/-- ITS FALSE NEIGHBOUR: 'it returns false'. Refute it at one input. -/
def stockBackWrong : ChangeSpec := { name := "stockBack", fn := fun _ => fun
  | [d1, d2] => { results := [.lit (.bool false)], args := [d1, d2] }
  | _ => none }
def StockBackWrongFalsely : Prop := stockBackRow.holds Try.pinned (OpenSpec.ofChange stockBackWrong)

/-- 'entrepotlaw07.StockBalances': WHATEVER THE INPUT: true; the input reads as it did. -/
def stockBalancesSpec : ChangeSpec := { name := "stockBalances", fn := fun _ => fun
  | [d1, d2] => { results := [.lit (.bool true)], args := [d1, d2] }
  | _ => none }
def stockBalancesRow : OpenClaim := { program := "ytfogcaeflblpdaa", sum := "84900dda7123ffc39d892695065c01621c4beb8c9c030d89697a401629006f0e", func := "entrepot/entrepotlaw07.StockBalances", spec := "stockBalances", unfollowed := true, recurses := true, apart := false }
def StockBalancesSaid : Prop := stockBalancesRow.holds Try.pinned (OpenSpec.ofChange stockBalancesSpec)

/-- ITS FALSE NEIGHBOUR: 'it returns false'. Refute it at one input. -/
def stockBalancesWrong : ChangeSpec := { name := "stockBalances", fn := fun _ => fun
  | [d1, d2] => { results := [.lit (.bool false)], args := [d1, d2] }
  | _ => none }
def StockBalancesWrongFalsely : Prop := stockBalancesRow.holds Try.pinned (OpenSpec.ofChange stockBalancesWrong)

/-- 'entrepotlaw07.StockRefuses': WHATEVER THE INPUT: true; the input reads as it did. -/
def stockRefusesSpec : ChangeSpec := { name := "stockRefuses", fn := fun _ => fun
  | [d1, d2] => { results := [.lit (.bool true)], args := [d1, d2] }
  | _ => none }
def stockRefusesRow : OpenClaim := { program := "ytfogcaeflblpdaa", sum := "84900dda7123ffc39d892695065c01621c4beb8c9c030d89697a401629006f0e", func := "entrepot/entrepotlaw07.StockRefuses", spec := "stockRefuses", unfollowed := true, recurses := true, apart := false }
def StockRefusesSaid : Prop := stockRefusesRow.holds Try.pinned (OpenSpec.ofChange stockRefusesSpec)

/-- ITS FALSE NEIGHBOUR: 'it returns false'. Refute it at one input. -/
def stockRefusesWrong : ChangeSpec := { name := "stockRefuses", fn := fun _ => fun
  | [d1, d2] => { results := [.lit (.bool false)], args := [d1, d2] }
  | _ => none }
def StockRefusesWrongFalsely : Prop := stockRefusesRow.holds Try.pinned (OpenSpec.ofChange stockRefusesWrong)

/-- 'entrepotlaw07.StockNobody': WHATEVER THE INPUT: true; the input reads as it did. -/
def stockNobodySpec : ChangeSpec := { name := "stockNobody", fn := fun _ => fun
  | [d] => { results := [.lit (.bool true)], args := [d] }
  | _ => none }
def stockNobodyRow : OpenClaim := { program := "ytfogcaeflblpdaa", sum := "84900dda7123ffc39d892695065c01621c4beb8c9c030d89697a401629006f0e", func := "entrepot/entrepotlaw07.StockNobody", spec := "stockNobody", inPlace := ["maps.clone"], unfollowed := true, recurses := true, apart := false }
def StockNobodySaid : Prop := stockNobodyRow.holds Try.pinned (OpenSpec.ofChange stockNobodySpec)

/-- ITS FALSE NEIGHBOUR: 'it returns false'. Refute it at one input. -/
def stockNobodyWrong : ChangeSpec := { name := "stockNobody", fn := fun _ => fun
  | [d] => { results := [.lit (.bool false)], args := [d] }
  | _ => none }
def StockNobodyWrongFalsely : Prop := stockNobodyRow.holds Try.pinned (OpenSpec.ofChange stockNobodyWrong)

/-- 'entrepotlaw07.StockOffers': WHATEVER THE INPUT: true; the input reads as it did. -/
def stockOffersSpec : ChangeSpec := { name := "stockOffers", fn := fun _ => fun
  | [d1, d2] => { results := [.lit (.bool true)], args := [d1, d2] }
  | _ => none }
def stockOffersRow : OpenClaim := { program := "ytfogcaeflblpdaa", sum := "84900dda7123ffc39d892695065c01621c4beb8c9c030d89697a401629006f0e", func := "entrepot/entrepotlaw07.StockOffers", spec := "stockOffers", inPlace := ["maps.clone"], unfollowed := true, recurses := true, apart := false }
def StockOffersSaid : Prop := stockOffersRow.holds Try.pinned (OpenSpec.ofChange stockOffersSpec)

/-- ITS FALSE NEIGHBOUR: 'it returns false'. Refute it at one input. -/
def stockOffersWrong : ChangeSpec := { name := "stockOffers", fn := fun _ => fun
  | [d1, d2] => { results := [.lit (.bool false)], args := [d1, d2] }
  | _ => none }
def StockOffersWrongFalsely : Prop := stockOffersRow.holds Try.pinned (OpenSpec.ofChange stockOffersWrong)

/- THE SECOND FORM. 'bulk': how many values and letters a reading holds, each counted each time it is reached (what is shared counts as often as it is met; a slice's spare places count too). A statement '..UptoSaid' is the law's where the arguments, and the package variables that the reading takes, are together of bulk at most 1048576: NARROWER than '..Said'. Prove '..Said' where nothing that the law and all that it calls make is longer than what came in: it says more and counts as full. Else prove '..UptoSaid'. A law counts once. -/
mutual
def uptoBulk {H : Type} : DataW H → Nat
  | .lit (.string bytes) => bytes.length + 1
  | .lit _ => 1
  | .nil => 1
  | .ptr d => uptoBulk d + 1
  | .slice elems spare => uptoBulkAll elems + uptoBulkAll spare + 1
  | .agg parts => uptoBulkAll parts + 1
  | .iface _ d => uptoBulk d + 1
  | .map entries => uptoBulkEntries entries + 1
  | .held _ => 1
def uptoBulkAll {H : Type} : List (DataW H) → Nat
  | [] => 0
  | d :: r => uptoBulk d + uptoBulkAll r
def uptoBulkEntries {H : Type} : List (Lit × DataW H) → Nat
  | [] => 0
  | x :: r => uptoBulkEntry x + uptoBulkEntries r
def uptoBulkEntry {H : Type} : Lit × DataW H → Nat
  | (.string bytes, d) => bytes.length + uptoBulk d + 1
  | (_, d) => uptoBulk d + 1
 end
def uptoSmall : (H : Type) → List (DataW H) → Bool := fun _ ds => decide (uptoBulkAll ds ≤ 1048576)
def OpenSpec.upto (s : _root_.Go.ChangeSpec) : _root_.Go.OpenSpec := { _root_.Go.OpenSpec.ofChange s with cond := some uptoSmall }

/-- 'entrepotlaw07.StockBack', WHERE WHAT IT READS IS OF BULK AT MOST 1048576: true; the input reads as it did. -/
def stockBackUptoRow : OpenClaim := { program := "ytfogcaeflblpdaa", sum := "84900dda7123ffc39d892695065c01621c4beb8c9c030d89697a401629006f0e", func := "entrepot/entrepotlaw07.StockBack", spec := "stockBack", unfollowed := true, recurses := true, apart := false, narrowed := true }
def StockBackUptoSaid : Prop := stockBackUptoRow.holds Try.pinned (OpenSpec.upto stockBackSpec)

/-- 'entrepotlaw07.StockBalances', WHERE WHAT IT READS IS OF BULK AT MOST 1048576: true; the input reads as it did. -/
def stockBalancesUptoRow : OpenClaim := { program := "ytfogcaeflblpdaa", sum := "84900dda7123ffc39d892695065c01621c4beb8c9c030d89697a401629006f0e", func := "entrepot/entrepotlaw07.StockBalances", spec := "stockBalances", unfollowed := true, recurses := true, apart := false, narrowed := true }
def StockBalancesUptoSaid : Prop := stockBalancesUptoRow.holds Try.pinned (OpenSpec.upto stockBalancesSpec)

/-- 'entrepotlaw07.StockRefuses', WHERE WHAT IT READS IS OF BULK AT MOST 1048576: true; the input reads as it did. -/
def stockRefusesUptoRow : OpenClaim := { program := "ytfogcaeflblpdaa", sum := "84900dda7123ffc39d892695065c01621c4beb8c9c030d89697a401629006f0e", func := "entrepot/entrepotlaw07.StockRefuses", spec := "stockRefuses", unfollowed := true, recurses := true, apart := false, narrowed := true }
def StockRefusesUptoSaid : Prop := stockRefusesUptoRow.holds Try.pinned (OpenSpec.upto stockRefusesSpec)

/-- 'entrepotlaw07.StockNobody', WHERE WHAT IT READS IS OF BULK AT MOST 1048576: true; the input reads as it did. -/
def stockNobodyUptoRow : OpenClaim := { program := "ytfogcaeflblpdaa", sum := "84900dda7123ffc39d892695065c01621c4beb8c9c030d89697a401629006f0e", func := "entrepot/entrepotlaw07.StockNobody", spec := "stockNobody", inPlace := ["maps.clone"], unfollowed := true, recurses := true, apart := false, narrowed := true }
def StockNobodyUptoSaid : Prop := stockNobodyUptoRow.holds Try.pinned (OpenSpec.upto stockNobodySpec)

/-- 'entrepotlaw07.StockOffers', WHERE WHAT IT READS IS OF BULK AT MOST 1048576: true; the input reads as it did. -/
def stockOffersUptoRow : OpenClaim := { program := "ytfogcaeflblpdaa", sum := "84900dda7123ffc39d892695065c01621c4beb8c9c030d89697a401629006f0e", func := "entrepot/entrepotlaw07.StockOffers", spec := "stockOffers", inPlace := ["maps.clone"], unfollowed := true, recurses := true, apart := false, narrowed := true }
def StockOffersUptoSaid : Prop := stockOffersUptoRow.holds Try.pinned (OpenSpec.upto stockOffersSpec)

end Rows
end Go.Proofs.Ytfogcaeflblpdaa
