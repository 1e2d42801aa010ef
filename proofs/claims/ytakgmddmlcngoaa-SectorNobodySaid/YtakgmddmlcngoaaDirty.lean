/- What is dirty, as a function; settle over it; slices of ints; clear. No condition but the bounds of what is counted. -/
import Derived.Test.YtakgmddmlcngoaaSettle
import Derived.Maps.Views
namespace Go.Proofs.Ytakgmddmlcngoaa
open Go.RowKit Go.Maps Go.MapKept
set_option linter.unusedVariables false
set_option linter.unusedSimpArgs false

/-- The slice value with address A and n elements reads as the ints l. -/
structure IR (w : World) (A : Option Addr) (n : Nat) (l : List Int) : Prop where
  len : l.length = n
  at_ : ∀ j x, l[j]? = some x → ∃ b off, A = some ⟨b, off, none⟩ ∧ w.cell? ⟨b, off + j, none⟩ = some (.int .i64 x)
theorem IR.nil (w : World) (A : Option Addr) : IR w A 0 [] := ⟨rfl, fun j x h => by simp at h⟩
theorem IR.kept {S : Nat → Prop} {w w' : World} {A : Option Addr} {n : Nat} {l : List Int} (h : IR w A n l) (k : Keep S w w') (hs : ∀ ad, A = some ad → 0 < n → ¬ S ad.block) : IR w' A n l :=
  ⟨h.len, fun j x hx => by
    obtain ⟨b, off, e, hc⟩ := h.at_ j x hx
    have hj := (List.getElem?_eq_some_iff.1 hx).1
    rw [h.len] at hj
    exact ⟨b, off, e, k.cell hc (hs ⟨b, off, none⟩ e (by omega))⟩⟩
theorem IR.below {w w' : World} {A : Option Addr} {n : Nat} {l : List Int} (h : IR w A n l) (k : Below w.heap.size w w') : IR w' A n l :=
  ⟨h.len, fun j x hx => by
    obtain ⟨b, off, e, hc⟩ := h.at_ j x hx
    exact ⟨b, off, e, (k.cell (World.block_lt_of_cell? _ _ hc)).trans hc⟩⟩
theorem IR.place {w : World} {A : Option Addr} {n : Nat} {l : List Int} (h : IR w A n l) {k : Nat} (hk : k < n) : ∃ b off x, A = some ⟨b, off, none⟩ ∧ l[k]? = some x ∧ w.cell? ⟨b, off + k, none⟩ = some (.int .i64 x) := by
  have hl : k < l.length := by rw [h.len]; exact hk
  obtain ⟨b, off, e, hc⟩ := h.at_ k _ (List.getElem?_eq_getElem hl)
  exact ⟨b, off, _, e, List.getElem?_eq_getElem hl, hc⟩
theorem IR.made (w : World) (cs : Array Value) (t : TypeId) (fr : Nat × Nat) (l : List Int) (h : cs = (l.map (Value.int .i64)).toArray) : IR (w.alloc (.cells cs t fr)) (some ⟨w.heap.size, 0, none⟩) l.length l := by
  subst h
  refine ⟨rfl, fun j x hx => ⟨_, _, rfl, ?_⟩⟩
  rw [cell_of_row _ _ _ _ _ _ (heap_alloc_new w _)]
  simp [hx]

theorem key_lit (i : Int) : WideAt.IsKeyLit (Lit.int .i64 i) := by simp [WideAt.IsKeyLit]
/-- The map reads as: sector k was written last with these bytes, or not. -/
structure REP (n : Nat) (D : DataW Value) (dm : Nat → Option (List UInt8)) : Prop where
  isMap : IsMap D
  yes : ∀ k l, dm k = some l → k < n ∧ l.length = 64 ∧ D.atKey (.int .i64 (k : Int)) (.held zeroBlock) = .held (.agg (l.map bv).toArray) ∧ Maps.has D (.int .i64 (k : Int)) = true
  no : ∀ i : Int, (∀ k : Nat, i = (k : Int) → dm k = none) → Maps.has D (.int .i64 i) = false
theorem REP.start (n : Nat) : REP n (.map []) (fun _ => none) :=
  ⟨isMap_empty, fun k l h => (nomatch h), fun i _ => rfl⟩
theorem REP.put {n : Nat} {D : DataW Value} {dm : Nat → Option (List UInt8)} (h : REP n D dm) (k : Nat) (l : List UInt8) (hk : k < n) (hl : l.length = 64) :
    REP n (D.put (.int .i64 (k : Int)) (.held (.agg (l.map bv).toArray))) (fun j => if j = k then some l else dm j) := by
  have hne : ∀ i : Int, i ≠ (k : Int) → Lit.int .i64 i ≠ Lit.int .i64 (k : Int) := fun i hi e => hi (by injection e)
  refine ⟨?_, fun j l' hj => ?_, fun i hi => ?_⟩
  · obtain ⟨es, rfl⟩ := h.isMap
    exact ⟨_, rfl⟩
  · by_cases e : j = k
    · subst e
      simp at hj
      subst hj
      exact ⟨hk, hl, atKey_put_same h.isMap (key_lit _) _ _, has_put_same h.isMap (key_lit _) _⟩
    · rw [if_neg e] at hj
      obtain ⟨h1, h2, h3, h4⟩ := h.yes j l' hj
      exact ⟨h1, h2, by rw [atKey_put_other (hne _ (by omega))]; exact h3, by rw [has_put_other (hne _ (by omega))]; exact h4⟩
  · have e : i ≠ (k : Int) := fun e => by have := hi k e; simp at this
    rw [has_put_other (hne _ e)]
    exact h.no i fun j hj => by
      have := hi j hj
      rwa [if_neg (by omega)] at this

/-- What is sure, where sector i is settled with m bytes of what was written last. -/
def settleS (dm : Nat → Option (List UInt8)) (s : List (List UInt8)) (i : Int) (m : Nat) : List (List UInt8) :=
  if 0 ≤ i then (match dm i.toNat, s[i.toNat]? with
    | some l, some s0 => s.set i.toNat (l.take m ++ s0.drop m)
    | _, _ => s) else s

theorem settle_any (g n bm gs N m : Nat) (left wr fl i : Int) (sure : List (List UInt8)) (D : DataW Value) (dm : Nat → Option (List UInt8)) (w : World) (hd : DEV w g n bm gs left wr fl sure D N) (hr : REP n D dm) (hn : n ≤ 16384) (hm : m ≤ 64) (hwf : (Lit.int .i64 i).wf = true) :
    Calls Try.prog 52 #[.pointer (some ⟨g, 0, none⟩), .int .i64 i, .int .i64 (m : Int)] w fun e w' => e = .returned (.tuple #[]) ∧ Keep (fun i => i = gs) w w' ∧ DEV w' g n bm gs left wr fl (settleS dm sure i m) D N := by
  have hno : (∀ k : Nat, i = (k : Int) → dm k = none) → settleS dm sure i m = sure → Calls Try.prog 52 #[.pointer (some ⟨g, 0, none⟩), .int .i64 i, .int .i64 (m : Int)] w fun e w' => e = .returned (.tuple #[]) ∧ Keep (fun i => i = gs) w w' ∧ DEV w' g n bm gs left wr fl (settleS dm sure i m) D N := fun h1 h2 => by
    have h3 := hr.no i h1
    refine (settle_no g n bm gs N left wr fl i m sure D w hd hwf (atKey_of_not_has h3 _) h3).mono ?_
    rintro e w' ⟨rfl, hb⟩
    rw [h2]
    exact ⟨rfl, (Keep.of_below hb).mono fun k hk e => absurd hk (by omega), hd.below hb⟩
  by_cases h0 : 0 ≤ i
  · obtain ⟨k, rfl⟩ : ∃ k : Nat, i = (k : Int) := ⟨i.toNat, by omega⟩
    cases hk : dm k with
    | none => exact hno (fun j hj => by rw [show j = k by omega]; exact hk) (by simp [settleS, hk])
    | some l =>
      obtain ⟨h1, h2, h3, h4⟩ := hr.yes k l hk
      have hks : k < sure.length := by rw [hd.len]; exact h1
      have hs : settleS dm sure (k : Int) m = sure.set k (l.take m ++ sure[k].drop m) := by
        unfold settleS
        rw [if_pos h0, Int.toNat_natCast, hk, List.getElem?_eq_getElem hks]
      rw [hs]
      exact settle_yes g n bm gs N k m left wr fl sure D l sure[k] w hd hn h1 hm h2 (List.getElem?_eq_getElem hks) h3 h4
  · exact hno (fun k hk => absurd hk (by omega)) (by simp [settleS, h0])

theorem run_clear (w : World) (bm N : Nat) (D : DataW Value) (h : w.ownsMap Try.prog 3 bR bm N D) (ty : TypeId) :
    ∃ w', (Builtin.clear_ #[79] ty #[.map (some bm)]).run Try.prog w = .ok (.tuple #[]) w' ∧ Keep (fun k => k = bm) w w' ∧ w'.ownsMap Try.prog 3 bR bm 0 (.map []) := by
  obtain ⟨es, clock, hb, F, hn, hD⟩ := h
  refine ⟨_, by simp [Builtin.clear_, run_underlying Try.underlying79, MapKept.run_getObj_map hb, MapKept.run_setObj_map _ hb, Result.andThen]; rfl, ?_, ?_⟩
  · refine ⟨rfl, rfl, rfl, by simp, fun k hk hn => ?_⟩
    show (w.heap.setIfInBounds bm _)[k]? = _
    rw [Array.getElem?_setIfInBounds, if_neg (fun e => hn e.symm)]
  · have hlt := (Array.getElem?_eq_some_iff.1 hb).1
    refine ⟨#[], clock, ?_, ⟨by simp, stamped_empty clock, by simp⟩, Nat.le_refl _, rfl⟩
    show (w.heap.setIfInBounds bm _)[bm]? = _
    rw [Array.getElem?_setIfInBounds, if_pos rfl, if_pos hlt]

set_option maxRecDepth 100000 in
set_option maxHeartbeats 1600000 in
theorem crash_ok (g n bm gs N m : Nat) (A : Option Addr) (q c : Nat) (keep : List Int) (left wt fl torn : Int) (sure : List (List UInt8)) (D : DataW Value) (dm : Nat → Option (List UInt8)) (w : World) (hd : DEV w g n bm gs left wt fl sure D N) (hr : REP n D dm) (hn : n ≤ 16384) (hm : m ≤ 64)
    (hk : IR w A q keep) (hkw : ∀ x ∈ keep, (Lit.int .i64 x).wf = true) (htw : (Lit.int .i64 torn).wf = true) (hA : ∀ ad, A = some ad → 0 < q → ad.block ≠ gs) (hq : q ≤ 9223372036854775807) :
    Calls Try.prog 22 #[.pointer (some ⟨g, 0, none⟩), .slice A q c, .int .i64 torn, .int .i64 (m : Int)] w fun e w' => e = .returned (.int .i64 0) ∧ Keep (fun i => i = g ∨ i = bm ∨ i = gs) w w' ∧
      DEV w' g n bm gs (-1) wt fl (settleS dm (keep.foldl (fun s i => settleS dm s i 64) sure) torn m) (.map []) 0 := by
  have hm0 : ¬ (m : Int) < 0 := by omega
  have hm1 : ¬ (64 : Int) < (m : Int) := by omega
  go_enter Try.func22, Try.ntmps22
  go_wp2
  go_loopw [21] (fun v wr1 => ∃ k : Nat, v = .int .i64 (k : Int) ∧ k ≤ q ∧ Keep (fun i => i = gs) w wr1 ∧ DEV wr1 g n bm gs left wt fl ((keep.take k).foldl (fun s i => settleS dm s i 64) sure) D N) (fun v _ => q - (intOf v).toNat)
  case atStart => exact ⟨0, by go_num, by omega, Keep.refl _ _, hd⟩
  case round =>
    obtain ⟨k, rfl, hkq, hK, hdv⟩ := hrel
    by_cases hlt : k < q
    · have hlz : (k : Int) < (q : Int) := by omega
      obtain ⟨b, off, x, rfl, hx, hcell0⟩ := hk.place hlt
      have hcell := hK.cell hcell0 (hA ⟨b, off, none⟩ rfl (by omega))
      have hset := settle_any g n bm gs N 64 left wt fl x _ D dm _ hdv hr hn (by omega) (hkw x (List.mem_of_getElem? hx))
      have htake : (keep.take (k + 1)).foldl (fun s i => settleS dm s i 64) sure = settleS dm ((keep.take k).foldl (fun s i => settleS dm s i 64) sure) x 64 := by
        rw [List.take_add_one, hx]
        simp [List.foldl_append]
      generalize (keep.take k).foldl (fun s i => settleS dm s i 64) sure = S0 at *
      go_wp2_with (go_at_call 52; refine hset.mono ?_; rintro e w2 ⟨rfl, hk2, hd2⟩)
      go_roundw
      case measure => simp [intOf]; omega
      case rel => exact ⟨k + 1, by go_num, by omega, hK.trans hk2 (fun i _ e => e), by rw [htake]; exact hd2⟩
    · have hlz : ¬ (k : Int) < (q : Int) := by omega
      rw [List.take_of_length_le (by rw [hk.len]; omega)] at hdv
      have hset := settle_any g n bm gs N m left wt fl torn _ D dm _ hdv hr hn hm htw
      go_wp2_with (go_at_call 52; refine hset.mono ?_; rintro e w2 ⟨rfl, hk2, hd2⟩; obtain ⟨h0, h1, h2, h3, h4⟩ := hd2.db.cells; obtain ⟨w3, hcl, hk3, hmp3⟩ := run_clear w2 bm N D hd2.mp 0; have hd3 := hd2.db.kept hk3 hd2.gb; obtain ⟨i0, i1, i2, i3, i4⟩ := hd3.cells; have f2 := Blk.frozen hd3 2)
      go_ret
      have hks := (Keep.refl (fun i => i = g) w3).setCell (p := ⟨g, 2, none⟩) (fun _ => rfl) (.int .i64 (-1))
      have hrow3 := hd2.row.kept hk3 (fun e => hd2.bg e.symm)
      have k1 : Keep (fun i => i = g ∨ i = bm ∨ i = gs) w w2 := (hK.trans hk2 (fun i _ e => e)).mono fun i _ e => .inr (.inr e)
      have k2 : Keep (fun i => i = g ∨ i = bm ∨ i = gs) w w3 := k1.trans hk3 fun i _ e => .inr (.inl e)
      exact ⟨rfl, k2.trans hks fun i _ e => .inl e, ⟨hd3.set_left (-1), hd2.len, hd2.each, hrow3.kept hks (fun e => hd2.gg e.symm), ownsMap_kept hmp3 hks (fun e => hd2.gb e.symm), hd2.gb, hd2.gg, hd2.bg⟩⟩
end Go.Proofs.Ytakgmddmlcngoaa
