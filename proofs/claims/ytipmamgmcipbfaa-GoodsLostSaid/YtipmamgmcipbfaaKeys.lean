/- slices.Sorted(maps.Keys(m)) at maps of sums; listed. No condition but the map's size. -/
import Derived.Test.YtipmamgmcipbfaaShelf
import Derived.Test.YtipmamgmcipbfaaOfI
import Derived.Maps.OwnOps
namespace Go.Proofs.Ytipmamgmcipbfaa
open Go.RowKit Go.Maps Go.Shelf Go.Sort
set_option linter.unusedVariables false
set_option linter.unusedSimpArgs false

/-- A row of strings that the call owns. -/
def KS (w : World) (v : Value) (ks : List (List UInt8)) : Prop := w.ownsRow 0 9 1 v ks.length (ks.map encStr)
theorem KS.kept {S : Nat → Prop} {w w' : World} {v : Value} {ks : List (List UInt8)} (h : KS w v ks) (k : Keep S w w') (hs : ∀ g, v.ownBlock = some g → ¬ S g) : KS w' v ks := by
  refine ⟨h.1, ?_⟩
  rcases h.2 with hn | ⟨g, cap, cur, rfl, hb, hgg, rest⟩
  · exact .inl hn
  · refine .inr ⟨g, cap, cur, rfl, hb, ?_, rest⟩
    rw [k.block g (Array.getElem?_eq_some_iff.1 hgg).1 (hs g rfl)]
    exact hgg
theorem KS.ne {base : Nat} {w : World} {v u : Value} {ks : List (List UInt8)} {l : List It} (h : KS w v ks) (ho : OI base w u l) : ∀ g, v.ownBlock = some g → ¬ u.ownBlock = some g := by
  intro g hv hu
  rcases h.2 with ⟨rfl, _⟩ | ⟨g1, cap, cur, rfl, _, hgg, _⟩
  · simp [Value.ownBlock] at hv
  · have e : g1 = g := by simpa [Value.ownBlock] using hv
    subst e
    rcases ho.2 with ⟨rfl, _⟩ | ⟨g2, cap2, cur2, rfl, _, hg2, _⟩
    · simp [Value.ownBlock] at hu
    · have e : g2 = g1 := by simpa [Value.ownBlock] using hu
      subst e
      rw [hgg] at hg2
      injection hg2 with h1
      injection h1 with _ h3
      exact absurd h3 (by decide)
theorem KS.at_ {w : World} {A : Option Addr} {n c : Nat} {ks : List (List UInt8)} (h : KS w (.slice A n c) ks) {k : Nat} (hk : k < n) (hn : ks.length = n) : ∃ b off s, A = some ⟨b, off, none⟩ ∧ ks[k]? = some s ∧ w.cell? ⟨b, off + k, none⟩ = some (.string ⟨s.toArray⟩) := by
  rcases h.2 with ⟨e, h0⟩ | ⟨g, cap, cur, e, _, hgg, _⟩
  · omega
  · injection e with e1 e2 e3
    subst e1
    have hl : k < ks.length := by omega
    refine ⟨g, 0, ks[k], rfl, List.getElem?_eq_getElem hl, ?_⟩
    have hj := World.ownsRow.cells h (g := g) (by simp [Value.ownBlock]) k (encStr ks[k]) (by rw [List.getElem?_map, List.getElem?_eq_getElem hl]; rfl)
    rwa [Addr.add_lit] at hj
end Go.Proofs.Ytipmamgmcipbfaa
