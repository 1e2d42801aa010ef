/- What must come of every program (plan). No condition. -/
import Derived.Test.YtkofaobdpmbcaaaPlF
namespace Go.Proofs.Ytkofaobdpmbcaaa
open Go.RowKit Go.Maps Go.Shelf
set_option linter.unusedVariables false
set_option linter.unusedSimpArgs false

def pW : List It := [([97], 5)]
def pO : List (List It) := [[([97], 3)], [([97], 9)]]
theorem pl_mays : mayS pW pO = true := by decide +kernel
theorem pl_given : givenO pW pO = [[([97], 3)], [([97], 2)]] := by decide +kernel
theorem pl_left : leftO pW pO = [] := by decide +kernel
theorem pl_few : fewestO pW pO = [1] := by decide +kernel
theorem pl_vis : visitO 2 3 = [2, 0, 1] := by decide +kernel
theorem pl_en : enoughO pW pO = true := by decide +kernel
theorem pl_miss : missO pW [[([97], 3)]] = [([97], 2)] := by decide +kernel
theorem wl_one (n : Int) (h : (Lit.int .i64 n).wf = true) : WL [([97], n)] := fun x hx => by
  simp at hx
  subst hx
  exact ⟨by simp [maxLen], h⟩
theorem RL.two (w : World) (g : Nat) (A1 A2 : Option Addr) (l1 l2 : List It) (c1 c2 : Nat) (h0 : w.cell? ⟨g, 0, none⟩ = some (.slice A1 l1.length c1)) (h1 : w.cell? ⟨g, 1, none⟩ = some (.slice A2 l2.length c2))
    (i1 : IL w A1 l1.length l1) (i2 : IL w A2 l2.length l2) (k1 : l1.length ≤ c1 ∧ c1 ≤ 9223372036854775807) (k2 : l2.length ≤ c2 ∧ c2 ≤ 9223372036854775807) (w1 : WL l1) (w2 : WL l2) : RL w.heap.size w (some ⟨g, 0, none⟩) 2 [l1, l2] :=
  ⟨rfl, fun i l hi => by
    match i, hi with
    | 0, hi =>
      simp at hi
      subst hi
      exact ⟨g, 0, A1, c1, rfl, h0, i1, k1.1, k1.2, w1, fun ad ha hl => i1.lt ad ha hl⟩
    | 1, hi =>
      simp at hi
      subst hi
      exact ⟨g, 0, A2, c2, rfl, h1, i2, k2.1, k2.2, w2, fun ad ha hl => i2.lt ad ha hl⟩⟩
theorem OJ.at_ {base : Nat} {w : World} {v : Value} {l : List Int} (h : OJ base w v l) {k : Nat} {x : Int} (hx : l[k]? = some x) : ∃ b off c, v = .slice (some ⟨b, off, none⟩) l.length c ∧ w.cell? ⟨b, off + k, none⟩ = some (.int .i64 x) := by
  obtain ⟨A, c, rfl, h1, h2, hr, _⟩ := h.form
  obtain ⟨b, off, rfl, hc⟩ := hr.at_ k x hx
  exact ⟨b, off, c, rfl, hc⟩

set_option maxRecDepth 100000 in
set_option maxHeartbeats 6400000 in
theorem plives_any (w : World) : Calls Try.prog 9 #[] w fun e w' => e = .returned (.bool true) ∧ Below w.heap.size w w' := by
  obtain ⟨w0, hw0⟩ : ∃ w0, (((w.alloc (.cells #[.string ⟨#[97]⟩, .int .i64 5] 40)).alloc (.cells #[.string ⟨#[97]⟩, .int .i64 3] 40)).alloc (.cells #[.string ⟨#[97]⟩, .int .i64 9] 40)).alloc (.cells #[.slice (some ⟨w.heap.size + 1, 0, none⟩) 1 1, .slice (some ⟨w.heap.size + 1 + 1, 0, none⟩) 1 1] 26) = w0 := ⟨_, rfl⟩
  have hb0 : Below w.heap.size w w0 := by
    rw [← hw0]
    exact (((((Below.refl w.heap.size w).alloc (Nat.le_refl _) _).alloc (by simp only [World.size_alloc]; omega) _).alloc (by simp only [World.size_alloc]; omega) _)).alloc (by simp only [World.size_alloc]; omega) _
  have hs0 : w0.heap.size = w.heap.size + 4 := by rw [← hw0]; simp only [World.size_alloc]
  have hil0 : IL w0 (some ⟨w.heap.size, 0, none⟩) 1 pW := by
    rw [← hw0]
    exact (((IL.one w [97] 5 _).alloc _).alloc _).alloc _
  have hi1 : IL w0 (some ⟨w.heap.size + 1, 0, none⟩) 1 [([97], 3)] := by
    rw [← hw0]
    have h := IL.one (w.alloc (.cells #[.string ⟨#[97]⟩, .int .i64 5] 40)) [97] 3 40
    rw [World.size_alloc] at h
    exact (h.alloc _).alloc _
  have hi2 : IL w0 (some ⟨w.heap.size + 1 + 1, 0, none⟩) 1 [([97], 9)] := by
    rw [← hw0]
    have h := IL.one ((w.alloc (.cells #[.string ⟨#[97]⟩, .int .i64 5] 40)).alloc (.cells #[.string ⟨#[97]⟩, .int .i64 3] 40)) [97] 9 40
    rw [World.size_alloc, World.size_alloc] at h
    exact h.alloc _
  have hbk : Blk w0 (w.heap.size + 1 + 1 + 1) 26 #[.slice (some ⟨w.heap.size + 1, 0, none⟩) 1 1, .slice (some ⟨w.heap.size + 1 + 1, 0, none⟩) 1 1] := by
    rw [← hw0]
    have h := Blk.new (((w.alloc (.cells #[.string ⟨#[97]⟩, .int .i64 5] 40)).alloc (.cells #[.string ⟨#[97]⟩, .int .i64 3] 40)).alloc (.cells #[.string ⟨#[97]⟩, .int .i64 9] 40)) 26 #[.slice (some ⟨w.heap.size + 1, 0, none⟩) 1 1, .slice (some ⟨w.heap.size + 1 + 1, 0, none⟩) 1 1]
    rw [World.size_alloc, World.size_alloc, World.size_alloc] at h
    exact h
  have hr0 : RL w0.heap.size w0 (some ⟨w.heap.size + 1 + 1 + 1, 0, none⟩) 2 pO := RL.two w0 _ _ _ _ _ 1 1 (hbk.cell 0) (hbk.cell 1) hi1 hi2 ⟨by simp, by omega⟩ ⟨by simp, by omega⟩ (wl_one 3 (by decide)) (wl_one 9 (by decide))
  have hwl : WL pW := wl_one 5 (by decide)
  have key1 := psplit_any (some ⟨w.heap.size, 0, none⟩) 1 1 pW (some ⟨w.heap.size + 1 + 1 + 1, 0, none⟩) 2 2 pO _ w0 hil0 hwl hr0 (by omega) (by omega)
  unfold SplitPost at key1
  rw [pl_mays, pl_given, pl_left] at key1
  go_enter Try.func9, Try.ntmps9
  go_wp2_with fail
  try rw [hw0]
  clear hi1 hi2 hbk hw0
  refine key1.mono ?_
  rintro e w1 ⟨hx1, v1, u1, rfl, hG1, hO1⟩
  clear key1
  have hb1 := hb0.trans (hx1.mono hb0.size)
  have hil1 := hil0.below hx1
  have hr1 := hr0.below hx1
  obtain ⟨AO, cO, rfl, _⟩ := hO1.form
  clear hO1
  obtain ⟨AG, cG, rfl, hG2, hG3, hGr⟩ := hG1.form
  obtain ⟨gb, goff, lx, Ax, cx, rfl, hlx, hgc, hgi, _, _, _, _⟩ := hGr.place (k := 1) (by simp)
  simp at hlx
  subst hlx
  obtain ⟨ib, ioff, rfl, hic⟩ := hgi.N0
  clear hG1 hG2 hG3 hGr hgi
  have key2 := pfewest_any (some ⟨w.heap.size, 0, none⟩) 1 1 pW (some ⟨w.heap.size + 1 + 1 + 1, 0, none⟩) 2 2 pO _ w1 hil1 hwl hr1 hx1.size (by omega) (by omega)
  rw [pl_few] at key2
  go_wp2_with fail
  refine key2.mono ?_
  rintro e w2 ⟨v2, rfl, hf2, hx2⟩
  clear key2
  have hb2 := hb1.trans (hx2.mono hb1.size)
  have hil2 := hil1.below hx2
  have hr2 := hr1.below hx2
  have hgc2 := (hx2.cell (p := ⟨gb, goff + 1, none⟩) (World.block_lt_of_cell? _ _ hgc)).trans hgc
  have hic2 := (hx2.cell (p := ⟨ib, ioff + 1, none⟩) (World.block_lt_of_cell? _ _ hic)).trans hic
  obtain ⟨fb, foff, fc, rfl, hfc⟩ := hf2.at_ (k := 0) (x := 1) rfl
  clear hgc hic hf2 hil1 hr1
  have key3 := pvisit_any 2 3 w2
  rw [pl_vis] at key3
  go_wp2_with fail
  refine key3.mono ?_
  rintro e w3 ⟨v3, rfl, hv3, hx3⟩
  clear key3
  have hb3 := hb2.trans (hx3.mono hb2.size)
  have hil3 := hil2.below hx3
  have hr3 := hr2.below hx3
  have hgc3 := (hx3.cell (p := ⟨gb, goff + 1, none⟩) (World.block_lt_of_cell? _ _ hgc2)).trans hgc2
  have hic3 := (hx3.cell (p := ⟨ib, ioff + 1, none⟩) (World.block_lt_of_cell? _ _ hic2)).trans hic2
  have hfc3 := (hx3.cell (p := ⟨fb, foff + 0, none⟩) (World.block_lt_of_cell? _ _ hfc)).trans hfc
  obtain ⟨vb, voff, vc, rfl, hvc⟩ := hv3.at_ (k := 1) (x := 0) rfl
  clear hgc2 hic2 hfc hv3 hil2 hr2
  rw [Nat.add_zero] at hfc3
  have key4 := penough_any (some ⟨w.heap.size, 0, none⟩) 1 1 pW (some ⟨w.heap.size + 1 + 1 + 1, 0, none⟩) 2 2 pO _ w3 hil3 hwl hr3 (by omega) (by omega)
  rw [pl_en] at key4
  go_wp2_with fail
  refine key4.mono ?_
  rintro e w4 ⟨rfl, hx4⟩
  clear key4
  have hb4 := hb3.trans (hx4.mono hb3.size)
  have key5 := pmissing_any (some ⟨w.heap.size, 0, none⟩) 1 1 pW (some ⟨w.heap.size + 1 + 1 + 1, 0, none⟩) 1 2 [[([97], 3)]] _ w4 (hil3.below hx4) hwl ((hr3.below hx4).take 1 (by omega)) (by omega) (by omega)
  rw [pl_miss] at key5
  go_wp2_with fail
  refine key5.mono ?_
  rintro e w5 ⟨v5, rfl, ho5, hx5⟩
  have hb5 := hb4.trans (hx5.mono hb4.size)
  obtain ⟨A5, c5, rfl, _⟩ := ho5.form
  go_wp2
  go_ret
  exact ⟨rfl, hb5⟩
end Go.Proofs.Ytkofaobdpmbcaaa
