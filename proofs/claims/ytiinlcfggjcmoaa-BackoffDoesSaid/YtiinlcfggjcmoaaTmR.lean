/- Timers, sorted: the map gone over, the row put in order. No condition but that keys and times are ints. -/
import Derived.Test.YtiinlcfggjcmoaaTmS
namespace Go.Proofs.Ytiinlcfggjcmoaa
open Go.RowKit Go.Maps Go.Sort Go.Shelf
set_option linter.unusedVariables false
set_option linter.unusedSimpArgs false

/-- What has come. -/
def CameRel (x : List Tm) (left : Lit → Bool) (cnt N : Nat) (l : List Tm) : Prop := l.Nodup ∧ (∀ t, t ∈ l ↔ t ∈ x ∧ left (.int .i64 t.1) = false) ∧ l.length + cnt ≤ N
theorem came_start {D : DataW Unit} {x : List Tm} (h : DT D x) : CameRel x (has D) (Maps.size D) x.length [] :=
  ⟨List.nodup_nil, fun t => ⟨fun h => (by cases h), fun ⟨h1, h2⟩ => by rw [h.has_, decide_eq_true (List.mem_map_of_mem (f := (·.1)) h1)] at h2; cases h2⟩, by rw [h.size_]; simp⟩
theorem came_more {x : List Tm} {left : Lit → Bool} {cnt cnt' N : Nat} {l : List Tm} {u : Tm} (hx : OrdT x) (h : CameRel x left cnt N l) (hu : u ∈ x) (hl : left (.int .i64 u.1) = true) (hc : cnt' < cnt) : CameRel x (fun z => left z && !z.sameKey (.int .i64 u.1)) cnt' N (l ++ [u]) := by
  obtain ⟨h1, h2, h3⟩ := h
  refine ⟨?_, fun t => ?_, by rw [List.length_append]; simp; omega⟩
  · rw [List.nodup_append]
    refine ⟨h1, by simp, fun a ha b hb e => ?_⟩
    simp at hb
    subst hb
    subst e
    have := ((h2 a).1 ha).2
    rw [hl] at this
    cases this
  · rw [List.mem_append, List.mem_singleton, h2]
    constructor
    · rintro (⟨h4, h5⟩ | rfl)
      · exact ⟨h4, by simp only [h5, Bool.false_and]⟩
      · refine ⟨hu, ?_⟩
        have : (Lit.int .i64 t.1).sameKey (.int .i64 t.1) = true := by simp [Lit.sameKey]
        simp only [this, Bool.not_true, Bool.and_false]
    · rintro ⟨h4, h5⟩
      rcases left_split h5 with h6 | h6
      · exact .inl ⟨h4, h6⟩
      · exact .inr (key_one hx h4 hu h6)
theorem came_end {x : List Tm} {left : Lit → Bool} {cnt N : Nat} {l : List Tm} (hx : OrdT x) (h : CameRel x left cnt N l) (hl : ∀ z, left z = false) : l.Perm x :=
  perm_of hx h.1 fun t => by rw [h.2.1]; simp [hl]
def SortRel (w : World) (x : List Tm) (D : DataW Unit) (b N : Nat) (s3 : Value) (wr : World) : Prop :=
  ∃ (left : Lit → Bool) (cnt : Nat) (l : List Tm), wr.ranges Try.prog 3 (plainElem Try.prog 3) b w.heap.size N D left cnt ∧ TO w.heap.size wr s3 l ∧ Hid (CameRel x left cnt x.length l) ∧ RowKit.Below w.heap.size w wr
def SortedPost (w : World) (x : List Tm) (e : Ending) (w' : World) : Prop := ∃ v, e = .returned v ∧ TO w.heap.size w' v x ∧ RowKit.Below w.heap.size w w'
set_option maxRecDepth 100000 in
set_option maxHeartbeats 3200000 in
theorem sorted_any {w : World} {p b N : Nat} {x : List Tm} (h : TM w p b N x) (hN : N ≤ 1048576) :
    Calls Try.prog 27 #[.pointer (some ⟨p, 0, none⟩)] w (SortedPost w x) := by
  have hx := h.ord
  have hxl := h.size
  obtain ⟨D, hm, hd⟩ := h.mp
  go_enter Try.func27, Try.ntmps27
  go_wp2_with fail
  refine (tall_any h).mono ?_
  rintro e w' ⟨rfl, hww⟩
  subst w'
  go_wp2_with (at_range; refine wpList_range_own _ rfl _ 51 rfl 3 3 kI Try.underlying51 (plainElem Try.prog 3) b N D rfl hm ?_; intro w0 hrg0 hg0 hs0)
  go_frame
  have k0 : Keep (fun _ => False) w w0 := (Keep.of_grown hg0).mono fun k _ e => by cases e
  have b0 : RowKit.Below w.heap.size w w0 := k0.below (Nat.le_refl _) (fun _ _ => id)
  have r0 := Lib.hid (came_start hd)
  clear hg0 k0 hm
  go_loopw [3] (fun s3 wr => SortRel w x D b N s3 wr) (fun _ wr => wr.rangeLeft b w.heap.size)
  case atStart => exact ⟨_, _, [], hrg0, TO.nil _ _, r0, b0⟩
  case round =>
    obtain ⟨left, cnt, l, hrg, hO, hR, hb⟩ := hrel
    clear hrg0 b0 r0 hs0
    have hsz := hb.size
    have hmeas := hrg.left_eq
    have hrlt := hrg.lt
    have hlt := hO.lt
    obtain ⟨A, c, rfl, _⟩ := hO.form
    obtain ⟨n, hn⟩ : ∃ n, l.length = n := ⟨_, rfl⟩
    rw [hn] at hO hlt ⊢
    have hnx : n + cnt ≤ x.length := by rw [← hn]; exact hR.out.2.2
    go_wp2_with (at_next; refine wpList_next_ranges_ii _ rfl _ rfl 3 3 .i64 .i64 kI Try.underlying3 Try.underlying3 b w.heap.size N D left cnt rfl hrg ?_ ?_)
    · intro hc0 hl0
      have hp := came_end hx hR.out hl0
      have hnn : n ≤ 1048576 := by omega
      clear hrg hc0 hl0 hmeas hrlt hR hn
      go_wp2_with fail
      refine (sortT_any hO hx hp hnn).mono ?_
      rintro e w2 ⟨rfl, hO2, hK2⟩
      have hb2 := hb.trans (hK2.below (B := w.heap.size) hsz (fun i hi e => by have := (hlt i e).1; omega))
      clear hO hp hK2 hb
      go_wp2
      go_ret
      exact ⟨_, rfl, hO2, hb2⟩
    · intro kk ca w2 cnt2 hwk hwc hlk hat hrg2 hlt2 hg2 hs2 hen
      have hmem := hd.mem_of kk ca hat
      have hnext := Lib.hid (came_more hx hR.out hmem hlk hlt2)
      have k2 : Keep (fun k => k = w.heap.size) wr w2 := (Keep.of_grown hg2).mono fun i _ e => (Option.some.inj e).symm
      have hOr := hO.blk
      have hne : ∀ g, (Value.slice A n c).ownBlock = some g → g ≠ w.heap.size := fun g hg e => by
        obtain ⟨o, h1, h2⟩ := hOr g hg
        rw [e] at h1
        obtain ⟨es, clock, since, seen, c0, _, _, _, _, hit, _⟩ := hrg
        rw [hit] at h1
        cases h1
        cases h2
      have hO2 := hO.kept k2 (fun g hg e => hne g hg e)
      have hb2 := hb.trans (k2.below (B := w.heap.size) hsz (fun i hi e => by omega))
      have hz2 := k2.size
      have hbn : ∀ g, (Value.slice A n c).ownBlock = some g → g ≠ b := fun g hg e => by
        obtain ⟨o, h1, h2⟩ := hOr g hg
        rw [e] at h1
        obtain ⟨es, clock, since, seen, c0, hbm, _⟩ := hrg
        rw [hbm] at h1
        cases h1
        cases h2
      clear hrg hat hlk hg2 k2 hO hb hs2 hR hmem hOr
      have hrg3 := hrg2.alloc (.cells #[.int .i64 kk, .int .i64 ca] 56)
      have hO3 := hO2.alloc (.cells #[.int .i64 kk, .int .i64 ca] 56)
      have hb3 := hb2.alloc hb2.size (.cells #[.int .i64 kk, .int .i64 ca] 56)
      have hn3 := Blk.new w2 56 #[.int .i64 kk, .int .i64 ca]
      have hz3 := hb3.size
      go_wp2_with (at_builtin; refine wpAppTO rfl (.tmp 14) (.tmp 18) rfl w.heap.size _ l rfl hO3 ⟨w2.heap.size, 0, none⟩ rfl (kk, ca) (fun j u hu => by rw [Addr.add_lit, Nat.zero_add, hn3.cell]; simpa [tmC] using hu) (by omega) hz3 ?_; intro v4 w4 hO4 hK4 e4)
      have hrg4 := hrg3.kept (row := (Value.slice A n c).ownBlock) ⟨hK4.os, hK4.tape, hK4.output, hK4.size, fun k hk hne => hK4.block k hk fun e => hne e.symm⟩ (fun e => hbn b e.symm rfl) (fun e => hne _ e.symm rfl)
      have hb4 := hb3.trans (hK4.below (B := w.heap.size) hz3 (fun i hi e => by have := (hlt i e).1; omega))
      clear hrg2 hrg3 hO2 hO3 hn3 hb2 hb3 hK4
      go_wp2
      go_roundw
      case measure => rw [hrg4.left_eq, hmeas]; exact hlt2
      case rel =>
        first
        | exact ⟨_, cnt2, _, hrg4, hO4, hnext, hb4⟩
        | ((repeat apply Exists.intro); exact ⟨⟨_, cnt2, _, hrg4, hO4, hnext, hb4⟩, rfl⟩)
end Go.Proofs.Ytiinlcfggjcmoaa
