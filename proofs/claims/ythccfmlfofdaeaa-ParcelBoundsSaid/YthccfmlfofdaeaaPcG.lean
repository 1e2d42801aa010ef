/- Parcels: All's closure; grow, a list put to one that another covers. -/
import Derived.Test.YthccfmlfofdaeaaPcN
namespace Go.Proofs.Ythccfmlfofdaeaa
open Go.RowKit Go.Maps Go.Shelf Go.Sort
set_option linter.unusedVariables false
set_option linter.unusedSimpArgs false

set_option maxRecDepth 100000 in
/-- What grow leaves: done, with the sum in the cell, or nothing done. -/
def Grown (B : Nat) (w w' : World) (ad : Addr) (pe : Int) (cv : Bool) (R : List It) (e : Int) : Prop :=
  (e = 0 ∧ pe = 0 ∧ cv = true ∧ ∃ W v, OI B W v R ∧ Below B w W ∧ w' = W.setCell ad v) ∨
  (e = 50 ∧ (pe = 0 ∧ cv = true → False) ∧ Below B w w')
set_option maxRecDepth 100000 in
set_option maxHeartbeats 1600000 in
theorem grow_any {w : World} {rb i : Nat} {ty : Nat} {cs : List Value} (hB : Blk w rb ty cs.toArray) (sA A mA : Option Addr) (sn sc n c mn mc : Nat) (ls ll lm : List It)
    (hc : w.cell? ⟨rb, i, none⟩ = some (.slice sA sn sc)) (h1 : IL w sA sn ls) (h2 : IL w A n ll) (h3 : IL w mA mn lm) (hn : sn ≤ 500000) (hn2 : n ≤ 500000) (hn3 : mn ≤ 500000) (hw : WL ls) (hw2 : WL ll) (hwp : plusE ls ll = 0 → WL (plusR ls ll)) (hfew : (plusR ls ll).length ≤ 500000) :
    Calls Try.prog 23 #[.pointer (some ⟨rb, i, none⟩), .slice A n c, .slice mA mn mc] w fun e w' => ∃ x, e = .returned (.int .i64 x) ∧ Grown w.heap.size w w' ⟨rb, i, none⟩ (plusE ls ll) (coversL lm (plusR ls ll)) (plusR ls ll) x := by
  have hpl := plus_any sA A sn sc n c ls ll w h1 h2 hn hn2 hw hw2
  generalize plusE ls ll = pe at hpl hwp ⊢
  have hlt := hB.lt
  obtain ⟨cv, hcvE⟩ : ∃ cv, coversL lm (plusR ls ll) = cv := ⟨_, rfl⟩
  rw [hcvE]
  have HC := Lib.hid hcvE
  clear hcvE
  have hsz0 := Below.refl w.heap.size w
  by_cases hpe : pe = 0
  · subst hpe
    have hwq := hwp rfl
    clear hwp
    go_enter Try.func23, Try.ntmps23
    go_wp2_with fail
    refine hpl.mono ?_
    rintro e w1 ⟨v, rfl, ho, hb⟩
    obtain ⟨A7, c7, rfl, hc7, hm7, hi7, ha7⟩ := ho.form
    have hcv := covers_any mA A7 mn mc _ c7 lm (plusR ls ll) w1 (h3.below hb) hi7 (by omega) (by omega) hwq
    rw [HC.out] at hcv
    clear hpl
    go_wp2_with fail
    refine hcv.mono ?_
    rintro e w2 ⟨rfl, hb2⟩
    have hbb := hb.trans (hb2.mono hb.size)
    have hc2 : w2.cell? ⟨rb, i, none⟩ = some (.slice sA sn sc) := by rw [hbb.cell hlt]; exact hc
    have hfz := (hB.kept (Keep.of_below hbb) (Nat.not_le.2 hlt)).frozen i
    clear hcv
    cases cv
    · go_wp2
      go_ret
      exact ⟨_, rfl, .inr ⟨rfl, fun h => (by cases h.2), hbb⟩⟩
    · go_wp2
      go_ret
      exact ⟨_, rfl, .inl ⟨rfl, rfl, rfl, w2, _, ho.below hb2, hbb, rfl⟩⟩
  · have hn0 : (pe == 0) = false := by simpa using hpe
    go_enter Try.func23, Try.ntmps23
    go_wp2_with fail
    refine hpl.mono ?_
    rintro e w1 ⟨v, rfl, ho, hb⟩
    clear hpl
    go_wp2
    go_ret
    exact ⟨_, rfl, .inr ⟨rfl, fun h => hpe h.1, hb⟩⟩
set_option maxRecDepth 100000 in
theorem pall_make (q : Option Addr) (w : World) : Calls Try.prog 14 #[.pointer q] w fun e w' => e = .returned (.func (.func 28) #[] #[.pointer (some ⟨w.heap.size, 0, none⟩)]) ∧ w' = w.alloc (.cells #[.pointer q] 23) := by
  go_enter Try.func14, Try.ntmps14
  go_wp2
  go_ret
  exact ⟨rfl, rfl⟩
theorem kmap_make (q : Option Nat) (w : World) : Calls Try.prog 39 #[.map q] w fun e w' => e = .returned (.func (.func 46) #[] #[.pointer (some ⟨w.heap.size, 0, none⟩)]) ∧ w' = w.alloc (.cells #[.map q] 79) := by
  go_enter Try.func39, Try.ntmps39
  go_wp2
  go_ret
  exact ⟨rfl, rfl⟩
theorem krising_make (q : Option Nat) (w : World) : Calls Try.prog 47 #[.map q] w fun e w' => e = .returned (.func (.func 52) #[] #[.pointer (some ⟨w.heap.size, 0, none⟩)]) ∧ w' = w.alloc (.cells #[.map q] 48) := by
  go_enter Try.func47, Try.ntmps47
  go_wp2
  go_ret
  exact ⟨rfl, rfl⟩
end Go.Proofs.Ythccfmlfofdaeaa
