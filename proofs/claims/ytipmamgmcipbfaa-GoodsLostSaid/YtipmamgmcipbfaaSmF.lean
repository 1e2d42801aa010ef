/- The stock's calls: several texts as one (StlA). No condition but those told at each. -/
import Derived.Test.YtipmamgmcipbfaaSmD
namespace Go.Proofs.Ytipmamgmcipbfaa
section
open Go.RowKit Go.Maps Go.Shelf Go.Sort
set_option linter.unusedVariables false
set_option linter.unusedSimpArgs false

/-- What rows there are behind Do; which goods are known. -/
def doF (f : List UInt8 → Row) (ks : List (List UInt8)) (k : Int) (l : List It) : List UInt8 → Row := if doE f ks k l = 0 then putsF f (pairsR k f l) else f
def doK (f : List UInt8 → Row) (ks : List (List UInt8)) (k : Int) (l : List It) : List (List UInt8) := if doE f ks k l = 0 then putsK ks (pairsR k f l) else ks
def cntF (f : List UInt8 → Row) (ks : List (List UInt8)) (s : List UInt8) (n : Int) : List UInt8 → Row := if cntE f ks s n = 0 then fun k => if k = s then cntR (f s) n else f k else f
def cntV (f : List UInt8 → Row) (ks : List (List UInt8)) (s : List UInt8) (n : Int) : Int := if cntE f ks s n = 0 then moreR (f s) n else 0
theorem cntE_in {f : List UInt8 → Row} {ks : List (List UInt8)} {s : List UInt8} {n : Int} (h : cntE f ks s n = 0) : s ∈ ks := by
  unfold cntE at h
  split at h
  · cases h
  · split at h
    · cases h
    · rename_i h2
      exact Classical.not_not.1 h2
theorem addS_in {ks : List (List UInt8)} {s : List UInt8} (h : s ∈ ks) : addS ks s = ks := by unfold addS; rw [if_pos h]
theorem do_u (k : Int) (A : Option Addr) (n c : Nat) (l : List It) (w : World) {p b N : Nat} {f : List UInt8 → Row} {ks : List (List UInt8)} (h : ST w p b N f ks) (hl : IL w A n l) (hn : n ≤ 1048576) (hw : ∀ x ∈ l, x.1.length ≤ maxLen) (hN : N ≤ 140737488355328) (hks : ks.length ≤ 1099511627776) :
    Calls Try.prog 20 #[.pointer (some ⟨p, 0, none⟩), .int .i64 k, .slice A n c] w fun e w' => e = .returned (.int .i64 (doE f ks k l)) ∧ (∃ N', N' ≤ N + n ∧ ST w' p b N' (doF f ks k l) (doK f ks k l)) ∧ Keep (fun i => i = b) w w' := by
  have hln := hl.len
  refine (do_any k A n c l w h hl (by omega) hw (by unfold maxLen; omega) hks).mono ?_
  rintro e w' ⟨rfl, ⟨h1, h2⟩ | ⟨h1, h2, h3⟩⟩
  · unfold doF doK
    rw [if_neg h1, if_neg h1]
    exact ⟨rfl, ⟨N, by omega, h.below h2⟩, Keep.ofB h2⟩
  · unfold doF doK
    rw [if_pos h1, if_pos h1]
    exact ⟨rfl, ⟨_, by omega, h2⟩, h3⟩
theorem count_u (s : List UInt8) (n : Int) (w : World) {p b N : Nat} {f : List UInt8 → Row} {ks : List (List UInt8)} (h : ST w p b N f ks) (hsl : s.length ≤ maxLen) (hN : N ≤ 140737488355328) :
    Calls Try.prog 19 #[.pointer (some ⟨p, 0, none⟩), .string ⟨s.toArray⟩, .int .i64 n] w fun e w' => e = .returned (.tuple #[.int .i64 (cntV f ks s n), .int .i64 (cntE f ks s n)]) ∧ (∃ N', N' ≤ N + 1 ∧ ST w' p b N' (cntF f ks s n) ks) ∧ Keep (fun i => i = b) w w' := by
  refine (count_any s n w h hsl (by unfold maxLen; omega)).mono ?_
  rintro e w' ⟨rfl, ⟨h1, h2⟩ | ⟨h1, h2, h3⟩⟩
  · unfold cntF cntV
    rw [if_neg h1, if_neg h1]
    exact ⟨rfl, ⟨N, by omega, h.below h2⟩, Keep.ofB h2⟩
  · unfold cntF cntV
    rw [if_pos h1, if_pos h1]
    rw [addS_in (cntE_in h1)] at h2
    exact ⟨rfl, ⟨_, Nat.le_refl _, h2⟩, h3⟩
end
end Go.Proofs.Ytipmamgmcipbfaa
