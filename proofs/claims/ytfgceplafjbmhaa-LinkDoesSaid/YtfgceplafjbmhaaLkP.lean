/- Ends of links: what becomes of them: pure. No condition. -/
import Derived.Test.YtfgceplafjbmhaaWait
namespace Go.Proofs.Ytfgceplafjbmhaa
open Go.RowKit
set_option linter.unusedVariables false
set_option linter.unusedSimpArgs false

/-- A body that was sent. -/
structure Bd where
  seq : Int
  text : List UInt8
  tries : Int
  due : Int
/-- A packet. -/
structure Pk where
  seq : Int
  ack : Int
  body : List UInt8
def pk0 : Pk := ⟨0, 0, []⟩
def upT (t : Int) : Int := if t < topI then t + 1 else t
def tickB (now : Int) (b : Bd) : Bd := if b.due ≤ now then ⟨b.seq, b.text, upT b.tries, nextN now 2 16 b.tries⟩ else b
def tickP (mark now : Int) (l : List Bd) : List Pk := l.filterMap fun b => if b.due ≤ now then some ⟨b.seq, mark, b.text⟩ else none
def onL (ack : Int) (l : List Bd) : List Bd := l.filter fun b => !decide (b.seq ≤ ack)
def mayP (p : Pk) : Bool := decide (0 ≤ p.seq) && decide (p.seq ≤ 1099511627776) && decide (0 ≤ p.ack) && decide (p.ack ≤ 1099511627776) && decide (p.body.length ≤ 2048) && (decide (0 < p.seq) || decide (p.body = []))
/-- A new body, tried once. -/
def newB (seq : Int) (text : List UInt8) (now : Int) : Bd := ⟨seq, text, 1, nextN now 2 16 0⟩
theorem tickP_snoc (mark now : Int) (l : List Bd) (b : Bd) : tickP mark now (l ++ [b]) = if b.due ≤ now then tickP mark now l ++ [⟨b.seq, mark, b.text⟩] else tickP mark now l := by
  unfold tickP
  rw [List.filterMap_append]
  by_cases h : b.due ≤ now <;> simp [h]
theorem tickP_le (mark now : Int) (l : List Bd) : (tickP mark now l).length ≤ l.length := List.length_filterMap_le _ _
theorem onL_le (ack : Int) (l : List Bd) : (onL ack l).length ≤ l.length := List.length_filter_le _ _
theorem upT_bd (t : Int) (h0 : 0 ≤ t) (h : t ≤ 9223372036854775807) : 1 ≤ upT t ∧ upT t ≤ 9223372036854775807 := by
  unfold upT topI
  split <;> omega
/-- What an end's bodies are: ints as they come, texts not too long. -/
structure okB (b : Bd) : Prop where
  text : b.text.length ≤ 2048
  t0 : 1 ≤ b.tries
  t1 : b.tries ≤ 9223372036854775807
  d0 : -9223372036854775808 ≤ b.due
  d1 : b.due ≤ 9223372036854775807
theorem okB.tick {b : Bd} (h : okB b) (now : Int) (h0 : -9223372036854775808 ≤ now) : okB (tickB now b) := by
  unfold tickB
  split
  · have h1 := upT_bd b.tries (by have := h.t0; omega) h.t1
    have h2 := nextN_in now 2 16 b.tries h0
    exact ⟨h.text, h1.1, h1.2, h2.1, h2.2⟩
  · exact h
theorem okB.new (seq : Int) (text : List UInt8) (now : Int) (h : text.length ≤ 2048) (h0 : -9223372036854775808 ≤ now) : okB (newB seq text now) := by
  have h2 := nextN_in now 2 16 0 h0
  exact ⟨h, by simp [newB], by simp [newB], h2.1, h2.2⟩
end Go.Proofs.Ytfgceplafjbmhaa
