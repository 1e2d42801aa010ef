/-
  No cell of these rows narrows 'for every input' (looked for: loops, veiled, ifaces, maps, wideKeys, modest, calm, conditions, laid).
  DERIVED. THE GIVEN ROWS OF THIS SEAT. 2 by the template 'for every input the law returns true; each argument reads behind the call as it read before'; 0 by the template 'total and deterministic' (their statements: YtjjghhhhalendaaGreatTotals.lean).
  GIVEN WITH THE SEED: the statements are not yours to turn. If you find one false, say at which input.
  Laid BY PROGRAM, IN A SANDBOX (cutbox-rows.mjs): the forced cells as the released guide's own fill.sh prints them over the translation 463390e27b60d998… (all of the seat's roots in one cut). By AI agents, Wed Nov 11 2026. No macro, syntax, notation, axiom, sorry.
-/
import Derived.Test.YtjjghhhhalendaaGreatChecked
import GoSem.Claim
import GoSem.ClaimJoined
import GoSem.ClaimMapViews
import Derived.JoinedTies
import Derived.KernelRfl
namespace Go.Proofs.YtjjghhhhalendaaGreat
/- THE CELL 'sum', in the pinned program and in every row, IS THE sha256 OF THE DUMP (.gsa) THAT YtjjghhhhalendaaGreatProg.lean LOADS. Nothing in Lean hashes anything: it is a label: what it is worth is what the hold of that sum in a sandbox is worth. -/
noncomputable def Tryz.pinned : Pinned := { name := "ytjjghhhhalendaagreat", sum := "463390e27b60d998ab999a5db830153730d92ce1cb994322fbe7821bc7c7111a", checked := Tryz.checked }
namespace Rows
def none {H : Type} : Left H := { results := [], args := [] }

/-- 'entrepotlaw19.MovePacks': WHATEVER THE INPUT: true; the input reads as it did. -/
def movePacksSpec : ChangeSpec := { name := "movePacks", fn := fun _ => fun
  | [d] => { results := [.lit (.bool true)], args := [d] }
  | _ => none }
def movePacksRow : OpenClaim := { program := "ytjjghhhhalendaagreat", sum := "463390e27b60d998ab999a5db830153730d92ce1cb994322fbe7821bc7c7111a", func := "entrepot/entrepotlaw19.MovePacks", spec := "movePacks", inPlace := ["maps.clone"], unfollowed := true, recurses := true, apart := false }
def MovePacksSaid : Prop := movePacksRow.holds Tryz.pinned (OpenSpec.ofChange movePacksSpec)

/-- ITS FALSE NEIGHBOUR: 'it returns false'. Refute it at one input. -/
def movePacksWrong : ChangeSpec := { name := "movePacks", fn := fun _ => fun
  | [d] => { results := [.lit (.bool false)], args := [d] }
  | _ => none }
def MovePacksWrongFalsely : Prop := movePacksRow.holds Tryz.pinned (OpenSpec.ofChange movePacksWrong)

/-- 'entrepotlaw19.MoveUnpacks': WHATEVER THE INPUT: true; the input reads as it did. -/
def moveUnpacksSpec : ChangeSpec := { name := "moveUnpacks", fn := fun _ => fun
  | [d] => { results := [.lit (.bool true)], args := [d] }
  | _ => none }
def moveUnpacksRow : OpenClaim := { program := "ytjjghhhhalendaagreat", sum := "463390e27b60d998ab999a5db830153730d92ce1cb994322fbe7821bc7c7111a", func := "entrepot/entrepotlaw19.MoveUnpacks", spec := "moveUnpacks", inPlace := ["maps.clone"], unfollowed := true, recurses := true, apart := false }
def MoveUnpacksSaid : Prop := moveUnpacksRow.holds Tryz.pinned (OpenSpec.ofChange moveUnpacksSpec)

/-- ITS FALSE NEIGHBOUR: 'it returns false'. Refute it at one input. -/
def moveUnpacksWrong : ChangeSpec := { name := "moveUnpacks", fn := fun _ => fun
  | [d] => { results := [.lit (.bool false)], args := [d] }
  | _ => none }
def MoveUnpacksWrongFalsely : Prop := moveUnpacksRow.holds Tryz.pinned (OpenSpec.ofChange moveUnpacksWrong)

/- THE SECOND FORM. 'bulk': how many values and letters a reading holds, each counted each time it is reached (what is shared counts as often as it is met; a slice's spare places count too). A statement '..UptoSaid' is the law's where the arguments, and the package variables that the reading takes, are together of bulk at most 1048576: NARROWER than '..Said'. Prove '..Said' where nothing that the law and all that it calls make is longer than what came in: it says more and counts as full. Else prove '..UptoSaid'. A law counts once. -/
mutual
def uptoBulk {H : Type} : DataW H → Nat
  | .lit (.string bytes) => bytes.length + 1
  | .lit _ => 1
  | .nil => 1
  | .ptr d => uptoBulk d + 1
  | .slice elems spare => uptoBulkAll elems + uptoBulkAll spare + 1
  | .agg parts => uptoBulkAll parts + 1
  | .iface _ d => uptoBulk d + 1
  | .map entries => uptoBulkEntries entries + 1
  | .held _ => 1
def uptoBulkAll {H : Type} : List (DataW H) → Nat
  | [] => 0
  | d :: r => uptoBulk d + uptoBulkAll r
def uptoBulkEntries {H : Type} : List (Lit × DataW H) → Nat
  | [] => 0
  | x :: r => uptoBulkEntry x + uptoBulkEntries r
def uptoBulkEntry {H : Type} : Lit × DataW H → Nat
  | (.string bytes, d) => bytes.length + uptoBulk d + 1
  | (_, d) => uptoBulk d + 1
 end
def uptoSmall : (H : Type) → List (DataW H) → Bool := fun _ ds => decide (uptoBulkAll ds ≤ 1048576)
def OpenSpec.upto (s : _root_.Go.ChangeSpec) : _root_.Go.OpenSpec := { _root_.Go.OpenSpec.ofChange s with cond := some uptoSmall }

/-- 'entrepotlaw19.MovePacks', WHERE WHAT IT READS IS OF BULK AT MOST 1048576: true; the input reads as it did. -/
def movePacksUptoRow : OpenClaim := { program := "ytjjghhhhalendaagreat", sum := "463390e27b60d998ab999a5db830153730d92ce1cb994322fbe7821bc7c7111a", func := "entrepot/entrepotlaw19.MovePacks", spec := "movePacks", inPlace := ["maps.clone"], unfollowed := true, recurses := true, apart := false, narrowed := true }
def MovePacksUptoSaid : Prop := movePacksUptoRow.holds Tryz.pinned (OpenSpec.upto movePacksSpec)

/-- 'entrepotlaw19.MoveUnpacks', WHERE WHAT IT READS IS OF BULK AT MOST 1048576: true; the input reads as it did. -/
def moveUnpacksUptoRow : OpenClaim := { program := "ytjjghhhhalendaagreat", sum := "463390e27b60d998ab999a5db830153730d92ce1cb994322fbe7821bc7c7111a", func := "entrepot/entrepotlaw19.MoveUnpacks", spec := "moveUnpacks", inPlace := ["maps.clone"], unfollowed := true, recurses := true, apart := false, narrowed := true }
def MoveUnpacksUptoSaid : Prop := moveUnpacksUptoRow.holds Tryz.pinned (OpenSpec.upto moveUnpacksSpec)

end Rows
end Go.Proofs.YtjjghhhhalendaaGreat
