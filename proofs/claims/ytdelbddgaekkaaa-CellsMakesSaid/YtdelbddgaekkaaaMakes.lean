/- 'CellsMakes' returns true for every input: the row of this law, proved. No condition. -/
import Derived.Test.YtdelbddgaekkaaaOps
import Derived.ProofKit
import Derived.OpenShut
import Derived.ShutString
import Derived.ChangeOld
import Derived.SizedLaws
namespace Go.Proofs.Ytdelbddgaekkaaa
open Go.RowKit
set_option linter.unusedVariables false
set_option linter.unusedSimpArgs false
theorem makes_step {B gm gx : Nat} {w W0 w4 w5 : World} {v v2 v4 v5 : Value} {l l5 x : List UInt8} {long long5 : Bool} (hmk : MK B W0 gm v (rst l long)) (hrk : RM B W0 gx v2 l long) (hdis : ∀ q, MF gm v q → ¬ MF gx v2 q)
    (h4 : MK B w4 gm v4 (put (rst l long) x)) (hF4 : Foot (MF gm v) W0 (MF gm v4) w4) (h5 : RM B w5 gx v5 l5 long5) (hr5 : rst l5 long5 = put (rst l long) x) (hF5 : Foot (MF gx v2) w4 (MF gx v5) w5)
    (hb : Below B w W0) (hB : B ≤ W0.heap.size) :
    MK B w5 gm v4 (rst l5 long5) ∧ RM B w5 gx v5 l5 long5 ∧ (∀ q, MF gm v4 q → ¬ MF gx v5 q) ∧ Below B w w5 := by
  have hd2 : ∀ q, MF gm v4 q → ¬ MF gx v2 q := fun q hq hx => by
    rcases hF4.grow q hq with h | h
    · exact hdis q h hx
    · have := (hrk.foot q hx).2
      omega
  refine ⟨by rw [hr5]; exact h4.kept hF5.keep hd2, h5, fun q hq hx => ?_, ?_⟩
  · rcases hF5.grow q hx with h | h
    · exact hd2 q hq h
    · have := (h4.foot q hq).2
      omega
  · have hB4 := hF4.keep.size
    exact (hb.trans (hF4.below hB fun i hi => (hmk.foot i hi).1)).trans (hF5.below (by omega) fun i hi => (hrk.foot i hi).1)

theorem makes_cells {S : Nat → Prop} {w w4 : World} {cs : Array Value} {t : TypeId} (hk : Keep S (w.alloc (.cells cs t)) w4) (hs : ∀ i, S i → i < w.heap.size) : Blk w4 w.heap.size t cs :=
  (Blk.new w t cs).kept hk fun h => by have := hs _ h; omega

set_option maxRecDepth 100000 in
set_option maxHeartbeats 4000000 in
theorem cellsMakes_walk {w : World} (A : Option Addr) (len cap : Nat) (f : Nat → OpV) (ho : OPS w A len f) (hc : len ≤ cap) (hm : cap ≤ 9223372036854775807) :
    Calls Try.prog 6 #[.slice A len cap] w fun e w' => e = .returned (.bool true) ∧ Below w.heap.size w w' := by
  go_enter Try.func6, Try.ntmps6
  go_wp2_with fail
  refine (new_any w).mono ?_
  rintro e w1 ⟨rfl, hm1, hb1⟩
  have hz1 := hb1.size
  have hm2 := hm1.alloc_ (.cells #[.slice none 0 0, .bool false] 38)
  have hb2 := hb1.alloc hz1 (.cells #[.slice none 0 0, .bool false] 38)
  have hr2 : RM w.heap.size (w1.alloc (.cells #[.slice none 0 0, .bool false] 38)) w1.heap.size (.slice none 0 0) [] false := ⟨Blk.new _ _ _, hz1, OB.nil _ _, by simp⟩
  have hgm : w.heap.size < w1.heap.size := hm1.blk.lt
  clear hm1 hb1
  go_wp2_with fail
  refine (lives_any _).mono ?_
  rintro e w3 ⟨rfl, hb3⟩
  have hm3 := hm2.kept (Keep.of_below hb3) fun i hi => by have := (hm2.foot i hi).2; omega
  have hr3 := hr2.kept (Keep.of_below hb3) fun i hi => by have := (hr2.foot i hi).2; omega
  have hb3' := hb2.trans (hb3.mono (by simp; omega))
  have hgx := hr3.blk.lt
  clear hm2 hr2 hb2 hb3
  go_wp2_with fail
  go_loopw [3, 5] (fun p i wr => p = .pointer (some ⟨w.heap.size, 0, none⟩) ∧ ∃ k : Nat, k ≤ len ∧ i = .int .i64 (k : Int) ∧ ∃ v v2 l long, MK w.heap.size wr w.heap.size v (rst l long) ∧ RM w.heap.size wr w1.heap.size v2 l long ∧ (∀ q, MF w.heap.size v q → ¬ MF w1.heap.size v2 q) ∧ Below w.heap.size w wr)
    (fun _ i _ => len - (intOf i).toNat)
  case atStart =>
    refine ⟨rfl, 0, Nat.zero_le _, rfl, .slice none 0 0, .slice none 0 0, [], false, hm3, hr3, ?_, hb3'⟩
    rintro q (rfl | hq) (hq2 | hq2)
    · omega
    all_goals simp [Value.ownBlock] at *
  case round =>
    obtain ⟨rfl, k, hk, rfl, v, v2, l, long, hmk, hrk, hdis, hbk⟩ := hrel
    clear hm3 hr3 hb3'
    have hzk := hbk.size
    by_cases hlt : k < len
    · obtain ⟨hok, hat⟩ := ho
      obtain ⟨b, off, rfl, hbl, hcells⟩ := hat (by omega)
      obtain ⟨c0, c1, c2, c3, c4⟩ := (hcells k hlt).below hbk hbl
      obtain ⟨hn0, hn1, hss⟩ := hok k hlt
      clear hat hcells hok
      generalize f k = o at *
      have hmA := hmk.alloc_ (.cells #[.int .i64 o.k, .int .i64 o.n, .string o.s, .int .i64 o.le, .int .i64 o.mo] 40)
      have hrA := hrk.kept ((Keep.refl (fun _ => False) wr).alloc (.cells #[.int .i64 o.k, .int .i64 o.n, .string o.s, .int .i64 o.le, .int .i64 o.mo] 40)) fun _ _ => id
      have hbA := hbk.alloc hzk (.cells #[.int .i64 o.k, .int .i64 o.n, .string o.s, .int .i64 o.le, .int .i64 o.mo] 40)
      have hzA := hbA.size
      go_wp2_with fail
      · refine (mnum_any w.heap.size w.heap.size v _ o.n _ hmA hn0 hn1).mono ?_
        rintro e w4 ⟨v4, rfl, hm4, hk4, hf4⟩
        have hF4 := Foot.mk hk4 hf4
        have hB4 := makes_cells hk4 fun i hi => (hmk.foot i hi).2
        have hc4 := hB4.cell 1
        simp at hc4
        have hr4 := hrA.kept hk4 fun i hi hmi => hdis i hmi hi
        clear hk4 hf4
        go_wp2_with fail
        refine (rnum_any w.heap.size w1.heap.size v2 l long o.n w4 hr4 hn0 hn1).mono ?_
        rintro e w5 ⟨v5, l5, long5, rfl, hr5, hp5, hF5⟩
        have R := makes_step hmA hrA hdis hm4 hF4 hr5 hp5 hF5 hbA hzA
        clear hm4 hF4 hr5 hp5 hF5 hr4 hB4
        go_wp2_with fail
        go_roundw
        case rel => exact ⟨rfl, k + 1, by omega, by go_num, v4, v5, l5, long5, R⟩
        case measure => simp [intOf]; omega
      · refine (mtext_any w.heap.size w.heap.size v _ o.s _ hmA (by omega)).mono ?_
        rintro e w4 ⟨v4, rfl, hm4, hk4, hf4⟩
        have hF4 := Foot.mk hk4 hf4
        have hB4 := makes_cells hk4 fun i hi => (hmk.foot i hi).2
        have hc4 := hB4.cell 2
        simp at hc4
        have hr4 := hrA.kept hk4 fun i hi hmi => hdis i hmi hi
        clear hk4 hf4
        go_wp2_with fail
        refine (rtext_any w.heap.size w1.heap.size v2 l long o.s w4 hr4 hss).mono ?_
        rintro e w5 ⟨v5, l5, long5, rfl, hr5, hp5, hF5⟩
        have R := makes_step hmA hrA hdis hm4 hF4 hr5 hp5 hF5 hbA hzA
        clear hm4 hF4 hr5 hp5 hF5 hr4 hB4
        go_wp2_with fail
        go_roundw
        case rel => exact ⟨rfl, k + 1, by omega, by go_num, v4, v5, l5, long5, R⟩
        case measure => simp [intOf]; omega
      · refine (mflag_any w.heap.size w.heap.size v _ (o.n == 1) _ hmA ).mono ?_
        rintro e w4 ⟨v4, rfl, hm4, hk4, hf4⟩
        have hF4 := Foot.mk hk4 hf4
        have hB4 := makes_cells hk4 fun i hi => (hmk.foot i hi).2
        have hc4 := hB4.cell 1
        simp at hc4
        have hr4 := hrA.kept hk4 fun i hi hmi => hdis i hmi hi
        clear hk4 hf4
        go_wp2_with fail
        refine (rflag_any w.heap.size w1.heap.size v2 l long (o.n == 1) w4 hr4 ).mono ?_
        rintro e w5 ⟨v5, l5, long5, rfl, hr5, hp5, hF5⟩
        have R := makes_step hmA hrA hdis hm4 hF4 hr5 hp5 hF5 hbA hzA
        clear hm4 hF4 hr5 hp5 hF5 hr4 hB4
        go_wp2_with fail
        go_roundw
        case rel => exact ⟨rfl, k + 1, by omega, by go_num, v4, v5, l5, long5, R⟩
        case measure => simp [intOf]; omega
      · go_roundw
        case rel => exact ⟨rfl, k + 1, by omega, by go_num, v, v2, l, long, hmA, hrA, hdis, hbA⟩
        case measure => simp [intOf]; omega
    · obtain rfl : k = len := by omega
      have hgd := hrk.own
      obtain ⟨A2, c2, rfl, hl2, hm2, hr2, had2⟩ := hgd.form
      have hxb := hrk.blk
      cases long with
      | true =>
        go_wp2_with fail
        refine (mdone_any _ _ _ _ wr hmk).mono ?_
        rintro e w6 ⟨hb6, rfl⟩
        have hx6 := (hxb.kept (Keep.of_below hb6) (by have := hxb.lt; omega)).cell 1
        simp at hx6
        have hb6' := hbk.trans (hb6.mono hzk)
        clear hb6
        go_wp2
        go_ret
        exact ⟨rfl, hb6'⟩
      | false =>
        go_wp2_with fail
        refine (mdone_any _ _ _ _ wr hmk).mono ?_
        rintro e w6 ⟨hb6, A6, c6, rfl, hl6, hc6, hr6, hA6⟩
        have hx6 := (hxb.kept (Keep.of_below hb6) (by have := hxb.lt; omega)).cell 1
        have hx60 := (hxb.kept (Keep.of_below hb6) (by have := hxb.lt; omega)).cell 0
        simp at hx6 hx60
        have hs1 := fun q => run_str (w6.drewN q) A6 _ c6 _ (hr6.drewN q)
        have hs2 := fun q => run_str (w6.drewN q) A2 _ c2 _ ((hr2.below hb6).drewN q)
        have hb6' := hbk.trans (hb6.mono hzk)
        clear hb6
        go_wp2_with fail
        go_quiet (fail)
        go_wp2
        go_ret
        exact ⟨rfl, Below.drewN hb6' _⟩

namespace cellsMakesDone
open Go.ChangeShapes Go.WideShapes Go.ChangeAt
set_option maxRecDepth 100000 in
theorem lifted (os : Os) (started : os.Started) (H : Type) (enc : TypeId × Value → H) :
    ReturnsInHanded {} Try.checked os 6 .any (Rows.cellsMakesSpec.pre6 enc Try.prog Try.f6 Rows.cellsMakesRow.domain false) (Rows.cellsMakesSpec.post enc Try.prog Try.f6 false true false false) := by
  refine returnsInHanded_of_change_sized (C := Try.checked) own started (by kernel_rfl) Try.func6
    (ChangeSpec.witness6 (enc := enc) (C := Try.checked) false ⟨#[], #[Value.slice none 0 0], []⟩ 8 (by kernel_rfl) (by kernel_rfl) (by kernel_rfl) (by kernel_rfl)) ?_
  intro W base args ds gs before hval0 hW hcnd hsz0 _
  have hsz : (DataW.weightsEach Try.prog (Try.f6.params.toList ++ Rows.cellsMakesSpec.plain.varTypes Try.prog) (ds ++ gs)).all (· ≤ reachBytes) = true := hsz0
  clear hsz0
  have hval : ∀ (j : Nat) t v, Try.f6.params[j]? = some t → args[j]? = some v → Value.okWide Try.prog W .any base t v := hval0
  have hW' := hW
  obtain ⟨p, q, hA0, hV, rfl, hfz, hnd⟩ := hW
  have hA : DataW.TrodAll enc Try.prog W 0 (fun _ => true) true Try.f6.params.toList args.toList ds p := hA0
  rw [Try.params6] at hA hval hsz
  obtain ⟨v0, vs0, d0, ds0, p0, q0, hargs, rfl, rfl, h0, r0⟩ := trodAll_cons hA
  obtain ⟨rfl, rfl, rfl⟩ := trodAll_nil r0
  obtain rfl : args = #[v0] := by cases args; simp_all
  obtain ⟨rfl, rfl⟩ := trodVars_none hV
  obtain ⟨a0, len0, cap0, rfl⟩ := okWide_slice Try.underlying33 (hval 0 33 v0 rfl rfl)
  have k0 := h0
  have lt0 : ∀ x ∈ p0, x.block < W.heap.size := by obtain ⟨m, hm⟩ := k0; exact DataW.trod_lt m _ _ _ hm
  obtain ⟨f0, ho0, hc0, hm0⟩ := ops_open h0 hsz (j := 0) rfl rfl
  clear hA0 hval0
  refine (cellsMakes_walk (w := W) a0 len0 cap0 f0 ho0 hc0 hm0).mono fun e W' ⟨he, bel⟩ => ?_
  subst he
  exact ⟨_, rfl, _, _, _, [], _, [], hW', trodAll_mk1 (shut_bool Try.underlying4 _), (trodAll_cons_mk (Below.trod laidOut (by kernel_rfl) (of_decide_eq_true (by kernel_rfl)) k0 bel lt0) trodAll_mk0), rfl, bel.frame _, fun h => by cases h⟩

theorem over : Rows.cellsMakesRow.holds Try.pinned (OpenSpec.ofChange Rows.cellsMakesSpec) :=
  OpenClaim.holds_of_wide 6 Try.f6 rfl rfl rfl rfl rfl rfl rfl ⟨rfl, rfl, rfl, rfl, rfl⟩ rfl rfl rfl rfl rfl (by kernel_rfl) Try.func6 (by kernel_rfl)
    (of_decide_eq_true (by kernel_rfl)) (by unfold Func.isWrapper; first | (rw [if_pos (by decide +kernel)]; kernel_rfl) | (rw [if_neg (by decide +kernel)]; exact ⟨rfl, rfl⟩))
    (fun os started H enc _ => lifted os started H enc)

/-- The statement. -/
theorem proved : Rows.CellsMakesSaid := over
end cellsMakesDone
end Go.Proofs.Ytdelbddgaekkaaa
