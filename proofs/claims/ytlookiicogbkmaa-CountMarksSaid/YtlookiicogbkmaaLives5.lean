/- The contract of the statements' own check (count): it returns true and only makes memory. No condition. -/
import Derived.Test.YtlookiicogbkmaaShare
namespace Go.Proofs.Ytlookiicogbkmaa
open Go.RowKit Go.Sort Go.Lib Go.Shelf
set_option linter.unusedVariables false
set_option linter.unusedSimpArgs false

theorem places_same : ∀ i : Fin 3, (placesOf (fun _ : Fin 3 => 1))[i.1]! = i := by decide +kernel

theorem Blk.made (w : World) (cs : Array Value) (t : TypeId) : Blk (w.alloc (.cells cs t)) w.heap.size t cs := Blk.new w t cs

theorem share_lives (A : Option Addr) (w : World) (h : IR w A 3 [1, 1, 1]) :
    Calls Try.prog 18 #[.int .i64 10, .slice A 3 3] w fun e w' => ∃ bp, e = .returned (.tuple #[.slice (some ⟨bp, 0, none⟩) 3 3, .int .i64 0]) ∧ w.heap.size ≤ bp ∧ Below w.heap.size w w' ∧ Blk w' bp 3 #[.int .i64 4, .int .i64 3, .int .i64 3] := by
  refine (share_any 10 3 1 A 3 [1, 1, 1] 3 w h (by decide) (by omega) (by omega) (by omega) (by omega) (by omega) (by decide) (by omega) (fun _ => 3) (fun _ => 1) (fun j => j) (fun k x W hx => ?_) (by decide) (by omega) (fun j hj => hj) (fun W br hbr hc => ?_)).mono ?_
  · have hx1 : x = 1 := by
      match k, hx with
      | 0, hx => simpa using hx.symm
      | 1, hx => simpa using hx.symm
      | 2, hx => simpa using hx.symm
    subst hx1
    exact portion_small 10 1 3 (by omega) (by omega) (by omega) (by omega) (by omega) (by omega) W
  · refine (greatest_any 2 3 rfl (by omega) (fun _ => 1) br 3 W hbr (by omega) (fun i => hc i.1 i.2)).mono ?_
    rintro e w' ⟨rfl, hb, hp⟩
    refine ⟨rfl, hb, fun j hj => ?_⟩
    have := hp ⟨j, hj⟩
    rw [this]
    have hs := places_same ⟨j, hj⟩
    simp only at hs
    rw [hs]
    rfl
  · rintro e w' ⟨bp, rfl, h1, h2, h3⟩
    exact ⟨bp, rfl, h1, h2, h3⟩

set_option maxRecDepth 100000 in
set_option maxHeartbeats 1600000 in
theorem lives_any (w : World) : Calls Try.prog 12 #[] w fun e w' => e = .returned (.bool true) ∧ Below w.heap.size w w' := by
  go_enter Try.func12, Try.ntmps12
  go_wp2_with fail
  refine (share_lives _ _ (IR.made w _ _ _ [1, 1, 1] rfl)).mono ?_
  rintro e w1 ⟨bp, rfl, hbp, hb1, hB1⟩
  have hb01 := ((Below.refl w.heap.size w).alloc (Nat.le_refl _) (.cells (([1, 1, 1] : List Int).map (Value.int .i64)).toArray 3)).trans (hb1.mono (by simp))
  have c0 := hB1.cell 0
  have c2 := hB1.cell 2
  simp at c0 c2
  go_wp2_with fail
  refine (move_any 5 1 2 _).mono ?_
  rintro e w2 ⟨rfl, hb2⟩
  have hm : moveVal 5 1 2 = .tuple #[.int .i64 3, .int .i64 3, .int .i64 0] := by simp [moveVal, may]
  rw [hm]
  have hb02 := hb01.trans (hb2.mono hb01.size)
  have hlt1 := hB1.lt
  have c0' := (hb2.cell (p := ⟨bp, 0, none⟩) hlt1).trans c0
  have c2' := (hb2.cell (p := ⟨bp, 2, none⟩) hlt1).trans c2
  have hlt2 : bp < w2.heap.size := Nat.lt_of_lt_of_le hlt1 hb2.size
  clear hm hb2 c0 c2 hB1 hb1 hb01 hlt1
  go_wp2_with fail
  refine (less_any 1 2 _).mono ?_
  rintro e w3 ⟨rfl, hb3⟩
  have hl : lessVal 1 2 = .tuple #[.int .i64 0, .int .i64 51] := by simp [lessVal, may]
  rw [hl]
  have hb03 := hb02.trans (hb3.mono hb02.size)
  have c0 := (hb3.cell (p := ⟨bp, 0, none⟩) hlt2).trans c0'
  have c2 := (hb3.cell (p := ⟨bp, 2, none⟩) hlt2).trans c2'
  have hlt3 : bp < w3.heap.size := Nat.lt_of_lt_of_le hlt2 hb3.size
  clear hl hb3 c0' c2' hb02 hlt2
  go_wp2_with fail
  refine (new_any _).mono ?_
  rintro e w4 ⟨rfl, hb4, ht4⟩
  have hb04 := hb03.trans (hb4.mono hb03.size)
  have c0' := (hb4.cell (p := ⟨bp, 0, none⟩) hlt3).trans c0
  have c2' := (hb4.cell (p := ⟨bp, 2, none⟩) hlt3).trans c2
  have hg : w.heap.size ≤ w3.heap.size := hb03.size
  generalize w3.heap.size = g at *
  clear hb4 c0 c2 hb03
  have hmk := Mark_in g 0 5 (by omega) (by omega) 0 5 w4 (ht4.mark 0 (by omega)) (ht4.frozen 0) (by rfl)
  have ht5 := ht4.set_mark 0 (by omega) 5
  have hb05 := hb04.setCell (p := ⟨g, 0, none⟩) hg (.int .i64 5)
  go_wp2_with fail
  refine hmk.mono ?_
  rintro e w5 ⟨rfl, rfl⟩
  go_wp2_with fail
  refine (Start_first g _ _ ht5).mono ?_
  rintro e w6 ⟨rfl, hk6, ht6⟩
  have hb06 := hb05.trans (hk6.below hb05.size fun k hk e => by omega)
  clear hmk ht5 hb05 hk6 ht4 hb04
  go_wp2_with fail
  refine (Start_again g _ 0 _ ht6).mono ?_
  rintro e w7 ⟨rfl, hb7⟩
  have hb07 := hb06.trans (hb7.mono hb06.size)
  clear hb06 hb7 ht6
  go_wp2
  go_ret
  exact ⟨rfl, hb07⟩
end Go.Proofs.Ytlookiicogbkmaa
