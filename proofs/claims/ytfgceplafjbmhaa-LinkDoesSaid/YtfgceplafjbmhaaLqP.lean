/- An end's code; the document's Pack. No condition but that the end lies in memory, and is one that may be. -/
import Derived.Test.YtfgceplafjbmhaaLqR
import Derived.Test.YtfgceplafjbmhaaLkR
namespace Go.Proofs.Ytfgceplafjbmhaa
open Go.RowKit
set_option linter.unusedVariables false
set_option linter.unusedSimpArgs false

def rowE (b : Bd) : List UInt8 := (numCell (b.text.length : Int) ++ b.text) ++ (numCell b.tries ++ numCell b.due)
def rowsE (l : List Bd) : List UInt8 := l.flatMap rowE
/-- Its code. -/
def encE (l : List Bd) (sent mark : Int) : List UInt8 := numCell sent ++ (numCell mark ++ (numCell (l.length : Int) ++ rowsE l))
theorem rowsE_snoc (l : List Bd) (x : Bd) : rowsE (l ++ [x]) = rowsE l ++ rowE x := by simp [rowsE]
theorem rowE_len {b : Bd} (h : b.text.length ≤ 2048) : (rowE b).length ≤ 2075 := by
  have := numCell_len (b.text.length : Int)
  have := numCell_len b.tries
  have := numCell_len b.due
  unfold rowE
  rw [List.length_append, List.length_append, List.length_append]
  omega
theorem rowsE_len (l : List Bd) (h : ∀ b ∈ l, b.text.length ≤ 2048) : (rowsE l).length ≤ l.length * 2075 := by
  induction l with
  | nil => simp [rowsE]
  | cons x l ih =>
    have := rowE_len (h x (by simp))
    have := ih fun b hb => h b (by simp [hb])
    have he : rowsE (x :: l) = rowE x ++ rowsE l := by simp [rowsE]
    rw [he, List.length_append, List.length_cons]
    omega
/-- What may be packed. -/
structure InvE (l : List Bd) (sent mark : Int) : Prop where
  ok : ∀ b ∈ l, okB b
  len : l.length ≤ 64
  s0 : 0 ≤ sent ∧ sent ≤ 9223372036854775807
  m0 : 0 ≤ mark ∧ mark ≤ 9223372036854775807
theorem RM.low {base B : Nat} {w : World} {g : Nat} {v : Value} {l : List UInt8} {long : Bool} (h : RM base w g v l long) (hB : B ≤ base) : RM B w g v l long := ⟨h.blk, Nat.le_trans hB h.ge, h.own.mono hB, h.short⟩
theorem rst_some {l x : List UInt8} {long : Bool} (h : rst l long = some x) : long = false ∧ l = x := by
  unfold rst at h
  cases long
  · simp at h
    exact ⟨rfl, h⟩
  · simp at h
theorem RefPost.low {B : Nat} {w W : World} {g : Nat} {v v' : Value} {l : List UInt8} {long : Bool} (hm : RM B w g v l long) (hf : Foot (MF g v) w (MF g v') W) : Below B w W := by
  have h0 := hm.foot
  exact hf.1.below (B := B) (by have := (h0 g (.inl rfl)).1; have := (h0 g (.inl rfl)).2; omega) (fun i hi e => by have := (h0 i e).1; omega)
/-- What Pack answers. -/
def PackPost (w : World) (c : List UInt8) (e : Ending) (w' : World) : Prop :=
  ∃ A cap, e = .returned (.slice A c.length cap) ∧ c.length ≤ cap ∧ cap ≤ maxLen ∧ RB w' A c.length c ∧ Below w.heap.size w w' ∧ ∀ ad, A = some ad → w.heap.size ≤ ad.block
set_option maxRecDepth 100000 in
set_option maxHeartbeats 3200000 in
theorem rpackE_any {F : Nat → Prop} {w : World} {q : Nat} {l : List Bd} {sent mark : Int} (h : QN F w q l sent mark) (hI : InvE l sent mark) :
    Calls Try.prog 37 #[.pointer (some ⟨q, 0, none⟩)] w (PackPost w (encE l sent mark)) := by
  have hll := hI.len
  have hs0 := hI.s0
  have hm0' := hI.m0
  have hok := hI.ok
  have hn1 := numCell_len sent
  have hn2 := numCell_len mark
  have hn3 := numCell_len (l.length : Int)
  obtain ⟨v, xs, h, hxl⟩ := h
  have hlen : xs.length = l.length := by rw [← hxl, List.length_map]
  obtain ⟨H2, hH2⟩ : ∃ x, numCell sent ++ numCell mark = x := ⟨_, rfl⟩
  obtain ⟨HC, hHC⟩ : ∃ x, H2 ++ numCell (l.length : Int) = x := ⟨_, rfl⟩
  have hH2l : H2.length ≤ 18 := by rw [← hH2, List.length_append]; omega
  have hHL : HC.length ≤ 27 := by rw [← hHC, List.length_append]; omega
  have hp1 : put (rst [] false) (numCell sent) = some (numCell sent) := put_fits [] _ (by simp; omega)
  have hp2 : put (some (numCell sent)) (numCell mark) = some H2 := by rw [put_fits _ _ (by omega), hH2]
  have hp3 : put (some H2) (numCell (l.length : Int)) = some HC := by rw [put_fits _ _ (by omega), hHC]
  have hhid := Lib.hid (show encE l sent mark = HC ++ rowsE l by rw [← hHC, ← hH2]; unfold encE; simp only [List.append_assoc])
  obtain ⟨A, c, rfl, hfm⟩ := h.own.form
  clear hfm hHC hH2
  have hB0 := Blk.new w 108 #[.slice none 0 0, .bool false]
  have hb0 := (Below.refl w.heap.size w).alloc (Nat.le_refl _) (.cells #[.slice none 0 0, .bool false] 108)
  obtain ⟨q0, q1, q2⟩ := (h.below hb0).fields
  obtain ⟨N, hN⟩ : ∃ N, l.length = N := ⟨_, rfl⟩
  rw [hN] at hlen hll hn3 hp3
  rw [hlen] at h q0
  go_enter Try.func37, Try.ntmps37
  go_wp2_with fail
  have hm0 : RM w.heap.size (w.alloc (.cells #[.slice none 0 0, .bool false] 108)) w.heap.size (.slice none 0 0) [] false := ⟨hB0, Nat.le_refl _, OB.nil _ _, by simp⟩
  refine (rnum_any w.heap.size _ _ _ _ sent _ hm0 (by omega) (by omega)).mono ?_
  rintro e w1 ⟨v1, l1, long1, rfl, hm1, hr1, hf1⟩
  rw [hp1] at hr1
  have hb1 := hb0.trans (RefPost.low hm0 hf1)
  obtain ⟨q3, q4, q5⟩ := (h.below hb1).fields
  clear hm0 hB0 hf1 hb0 q0 q1 q2
  go_wp2_with fail
  refine (rnum_any w.heap.size _ _ _ _ mark _ hm1 (by omega) (by omega)).mono ?_
  rintro e w2 ⟨v2, l2, long2, rfl, hm2, hr2, hf2⟩
  rw [hr1, hp2] at hr2
  have hb2 := hb1.trans (RefPost.low hm1 hf2)
  obtain ⟨q6, q7, q8⟩ := (h.below hb2).fields
  clear hm1 hr1 hf2 hb1 q3 q4 q5
  go_wp2_with fail
  refine (rnum_any w.heap.size _ _ _ _ (N : Int) _ hm2 (by omega) (by omega)).mono ?_
  rintro e w3 ⟨v3, l3, long3, rfl, hm3, hr3, hf3⟩
  rw [hr2, hp3] at hr3
  have hb3 := hb2.trans (RefPost.low hm2 hf3)
  clear hm2 hr2 hf3 hb2 q6 q7 q8 hp1 hp2 hp3
  go_wp2
  go_loopw [4] (fun i wr => ∃ (k : Nat) (v' : Value) (l' : List UInt8) (long' : Bool), i = .int .i64 (k : Int) ∧ k ≤ N ∧ RM w.heap.size wr w.heap.size v' l' long' ∧ rst l' long' = some (HC ++ rowsE (l.take k)) ∧ Below w.heap.size w wr) (fun i _ => N - (intOf i).toNat)
  case atStart => exact ⟨0, v3, l3, long3, by go_num, by omega, hm3, by rw [hr3]; simp [rowsE], hb3⟩
  case round =>
    obtain ⟨k, v', l', long', rfl, hk, hm, hr, hb⟩ := hrel
    clear hm3 hr3 hb3
    have hV := h.below hb
    obtain ⟨q0, q1, q2⟩ := hV.fields
    by_cases hlt : k < N
    · as_aux_lemma =>
      have hlz : (k : Int) < (N : Int) := by omega
      have hk0 : (0 : Int) ≤ (k : Int) := by omega
      obtain ⟨g, x, rfl, hx, c0, c1, c2, c3⟩ := hV.own.place hlt
      have hxl2 : l[k]? = some x.b := by rw [← hxl, List.getElem?_map, hx]; rfl
      have hob := hok x.b (List.mem_of_getElem? hxl2)
      have hsb := h.bod x (List.mem_of_getElem? hx)
      obtain ⟨xq, ⟨xA, xn, xc, xt⟩, xtr, xd⟩ := x
      dsimp only [Sl.v] at c0 c1 c2 c3
      have ht1 : xt.length ≤ 2048 := hob.text
      have htr0 : 1 ≤ xtr := hob.t0
      have htr1 : xtr ≤ 9223372036854775807 := hob.t1
      have htd0 : -9223372036854775808 ≤ xd := hob.d0
      have htd1 : xd ≤ 9223372036854775807 := hob.d1
      have hrx : RB w xA xn xt := hsb.1
      have htk : l.take (k + 1) = l.take k ++ [⟨xq, xt, xtr, xd⟩] := by rw [List.take_add_one, hxl2]; rfl
      have hL1 := rowsE_len (l.take k) (fun b hb => (hok b (List.mem_of_mem_take hb)).text)
      have hLt : (l.take k).length ≤ 63 := by rw [List.length_take]; omega
      have hL0 := numCell_len (xt.length : Int)
      have hL2 := numCell_len xtr
      have hL3 := numCell_len xd
      obtain ⟨R0, hR0⟩ : ∃ x, HC ++ rowsE (l.take k) = x := ⟨_, rfl⟩
      have hR0l : R0.length ≤ 27 + 63 * 2075 := by rw [← hR0, List.length_append]; omega
      have hput1 : put (some R0) (numCell (xt.length : Int) ++ xt) = some (R0 ++ (numCell (xt.length : Int) ++ xt)) := put_fits _ _ (by rw [List.length_append]; omega)
      have hput2 : put (some (R0 ++ (numCell (xt.length : Int) ++ xt))) (numCell xtr) = some (R0 ++ (numCell (xt.length : Int) ++ xt) ++ numCell xtr) := put_fits _ _ (by rw [List.length_append, List.length_append]; omega)
      have hput3 : put (some (R0 ++ (numCell (xt.length : Int) ++ xt) ++ numCell xtr)) (numCell xd) = some (HC ++ rowsE (l.take (k + 1))) := by
        rw [put_fits _ _ (by rw [List.length_append, List.length_append, List.length_append]; omega), htk, rowsE_snoc, ← hR0]
        unfold rowE
        simp only [List.append_assoc]
      rw [hR0] at hr
      clear htk hL1 hLt hR0 hob hxl2 hsb
      have hxn := hrx.1
      subst hxn
      have hst := run_str wr xA xt.length xc xt (hrx.below hb)
      go_wp2_with fail
      refine (rtext_any w.heap.size _ _ _ _ ⟨xt.toArray⟩ _ hm (by show xt.toArray.size ≤ _; simp; omega)).mono ?_
      rintro e w4 ⟨v4, l4, long4, rfl, hm4, hr4, hf4⟩
      rw [show numCell ((ByteArray.mk xt.toArray).size : Int) ++ (ByteArray.mk xt.toArray).data.toList = numCell (xt.length : Int) ++ xt from by show numCell ((xt.toArray.size : Nat) : Int) ++ xt.toArray.toList = _; simp] at hr4
      rw [hr, hput1] at hr4
      have hb4 := hb.trans (RefPost.low hm hf4)
      obtain ⟨d0, d1, d2⟩ := (h.below hb4).fields
      obtain ⟨g', x', hge, hx', e0, e1, e2, e3⟩ := (h.below hb4).own.place hlt
      cases hge
      rw [hx] at hx'
      cases hx'
      dsimp only [Sl.v] at e0 e1 e2 e3
      clear hm hr hf4 hb hV q0 q1 q2 c0 c1 c2 c3 hput1 hst
      go_wp2_with fail
      refine (rnum_any w.heap.size _ _ _ _ xtr _ hm4 (by omega) (by omega)).mono ?_
      rintro e w5 ⟨v5, l5, long5, rfl, hm5, hr5, hf5⟩
      rw [hr4, hput2] at hr5
      have hb5 := hb4.trans (RefPost.low hm4 hf5)
      obtain ⟨q0, q1, q2⟩ := (h.below hb5).fields
      obtain ⟨g', x', hge, hx', c0, c1, c2, c3⟩ := (h.below hb5).own.place hlt
      cases hge
      rw [hx] at hx'
      cases hx'
      dsimp only [Sl.v] at c0 c1 c2 c3
      clear hm4 hr4 hf5 hb4 d0 d1 d2 e0 e1 e2 e3 hput2
      go_wp2_with fail
      refine (rnum_any w.heap.size _ _ _ _ xd _ hm5 (by omega) (by omega)).mono ?_
      rintro e w6 ⟨v6, l6, long6, rfl, hm6, hr6, hf6⟩
      rw [hr5, hput3] at hr6
      have hb6 := hb5.trans (RefPost.low hm5 hf6)
      clear hm5 hr5 hf6 hb5 q0 q1 q2 c0 c1 c2 c3 hput3 hx
      go_wp2
      go_roundw
      case measure => simp [intOf]; omega
      case rel => exact ⟨k + 1, v6, l6, long6, by go_num, by omega, hm6, hr6, hb6⟩
    · as_aux_lemma =>
      have hlz : ¬ (k : Int) < (N : Int) := by omega
      have hkn : k = N := by omega
      rw [show l.take k = l from List.take_of_length_le (by omega), ← hhid.out] at hr
      obtain ⟨rfl, rfl⟩ := rst_some hr
      obtain ⟨A', c', rfl, h1, h2, h3, h4⟩ := hm.own.form
      have p0 := hm.blk.cell 0
      simp at p0
      clear hkn hr hhid hV
      go_wp2
      go_ret
      exact ⟨A', c', rfl, h1, h2, h3, hb, fun ad e => (h4 ad e).1⟩
end Go.Proofs.Ytfgceplafjbmhaa
