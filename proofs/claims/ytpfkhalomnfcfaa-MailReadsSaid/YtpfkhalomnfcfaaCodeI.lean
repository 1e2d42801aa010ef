/- items.Encode, Decode and the document's. No condition but that what comes in lies in memory. -/
import Derived.Test.YtpfkhalomnfcfaaReadI
namespace Go.Proofs.Ytpfkhalomnfcfaa
open Go.RowKit Go.Maps Go.Shelf
set_option linter.unusedVariables false
set_option linter.unusedSimpArgs false

/-- Bytes that were made, or none and an error. -/
def EncPost (ok : Bool) (code : List UInt8) (err : Int) (w : World) (e : Ending) (w' : World) : Prop :=
  Below w.heap.size w w' ∧ match ok with
    | false => e = .returned (.tuple #[.slice none 0 0, .int .i64 err])
    | true => ∃ A c, e = .returned (.tuple #[.slice A code.length c, .int .i64 0]) ∧ code.length ≤ c ∧ c ≤ maxLen ∧ RB w' A code.length code ∧ ∀ ad, A = some ad → w.heap.size ≤ ad.block ∧ ad.block < w'.heap.size

theorem foot_new {g : Nat} {i : Nat} (h : MF g (.slice none 0 0) i) : i = g := by
  rcases h with h | h
  · exact h
  · simp [Value.ownBlock] at h

/-- What any bytes are as a list. -/
def DecPost (r : Option (List It)) (w : World) (e : Ending) (w' : World) : Prop :=
  Below w.heap.size w w' ∧ match r with
    | none => e = .returned (.tuple #[.slice none 0 0, .int .i64 10])
    | some l => ∃ v, e = .returned (.tuple #[v, .int .i64 0]) ∧ OI w.heap.size w' v l

theorem decL_of {b : List UInt8} {l : List It} {st : Option (List UInt8)} (h : takeL (some b) = (l, st)) : decL b = if st = some [] then some l else none := by
  unfold decL
  rw [h]

def RDecPost (r : Option (List It)) (w : World) (e : Ending) (w' : World) : Prop :=
  Below w.heap.size w w' ∧ match r with
    | none => e = .returned (.tuple #[.slice none 0 0, .bool false])
    | some l => ∃ v, e = .returned (.tuple #[v, .bool true]) ∧ OI w.heap.size w' v l

end Go.Proofs.Ytpfkhalomnfcfaa
