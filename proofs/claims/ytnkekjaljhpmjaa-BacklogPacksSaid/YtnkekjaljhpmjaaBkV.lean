/- The document's Pack of a backlog. No condition but that it lies in memory, and is one that may be. -/
import Derived.Test.YtnkekjaljhpmjaaBkY
import Derived.Test.YtnkekjaljhpmjaaBkH
namespace Go.Proofs.Ytnkekjaljhpmjaa
open Go.RowKit
set_option linter.unusedVariables false
set_option linter.unusedSimpArgs false

theorem RM.low {base B : Nat} {w : World} {g : Nat} {v : Value} {l : List UInt8} {long : Bool} (h : RM base w g v l long) (hB : B ≤ base) : RM B w g v l long := ⟨h.blk, Nat.le_trans hB h.ge, h.own.mono hB, h.short⟩
theorem rst_some {l x : List UInt8} {long : Bool} (h : rst l long = some x) : long = false ∧ l = x := by
  unfold rst at h
  cases long
  · simp at h
    exact ⟨rfl, h⟩
  · simp at h
theorem RefPost.low {B : Nat} {w W : World} {g : Nat} {v v' : Value} {l : List UInt8} {long : Bool} (hm : RM B w g v l long) (hf : Foot (MF g v) w (MF g v') W) : Below B w W := by
  have h0 := hm.foot
  exact hf.1.below (B := B) (by have := (h0 g (.inl rfl)).1; have := (h0 g (.inl rfl)).2; omega) (fun i hi e => by have := (h0 i e).1; omega)
set_option maxRecDepth 100000 in
set_option maxHeartbeats 3200000 in
theorem rpack_any {F : Nat → Prop} {w : World} {p : Nat} {l : List Wt} {o : Int} (h : QK F w p l o) (hI : InvC l o) :
    Calls Try.prog 29 #[.pointer (some ⟨p, 0, none⟩)] w (PackPost w (encB l o)) := by
  have hll := hI.len
  have ho0 := hI.o0
  have hone := hI.one
  have hn1 := numCell_len o
  have hn2 := numCell_len (l.length : Int)
  have hp1 : put (rst [] false) (numCell o) = some (numCell o) := put_some (by simp; omega)
  have hp2 : put (some (numCell o)) (numCell (l.length : Int)) = some (headC l o) := put_some (by omega)
  unfold topM at ho0 hone
  obtain ⟨v, h⟩ := h
  obtain ⟨A, c, rfl, hfm⟩ := h.own.form
  clear hfm
  have hB0 := Blk.new w 78 #[.slice none 0 0, .bool false]
  have hb0 := (Below.refl w.heap.size w).alloc (Nat.le_refl _) (.cells #[.slice none 0 0, .bool false] 78)
  obtain ⟨q0, q1⟩ := (h.below hb0).fields
  obtain ⟨N, hN⟩ : ∃ N, l.length = N := ⟨_, rfl⟩
  rw [hN] at h hll q0 hn2
  obtain ⟨HC, hHC⟩ : ∃ x, headC l o = x := ⟨_, rfl⟩
  have hHL : HC.length ≤ 18 := by rw [← hHC]; unfold headC; rw [List.length_append, hN]; omega
  rw [hHC, hN] at hp2
  have hhid := Lib.hid (show encB l o = HC ++ rowsC l by rw [← hHC]; unfold headC encB; rw [List.append_assoc])
  clear hHC
  go_enter Try.func29, Try.ntmps29
  go_wp2_with fail
  have hm0 : RM w.heap.size (w.alloc (.cells #[.slice none 0 0, .bool false] 78)) w.heap.size (.slice none 0 0) [] false := ⟨hB0, Nat.le_refl _, OB.nil _ _, by simp⟩
  refine (rnum_any w.heap.size _ _ _ _ o _ hm0 (by omega) (by omega)).mono ?_
  rintro e w1 ⟨v1, l1, long1, rfl, hm1, hr1, hf1⟩
  rw [hp1] at hr1
  have hb1 := hb0.trans (RefPost.low hm0 hf1)
  obtain ⟨q2, q3⟩ := (h.below hb1).fields
  clear hm0 hB0 hf1 hb0 q0 q1
  go_wp2_with fail
  refine (rnum_any w.heap.size _ _ _ _ (N : Int) _ hm1 (by omega) (by omega)).mono ?_
  rintro e w2 ⟨v2, l2, long2, rfl, hm2, hr2, hf2⟩
  rw [hr1, hp2] at hr2
  have hb2 := hb1.trans (RefPost.low hm1 hf2)
  clear hm1 hr1 hf2 hb1 q2 q3 hp1 hp2
  go_wp2
  go_loopw [4] (fun i wr => ∃ (k : Nat) (v' : Value) (l' : List UInt8) (long' : Bool), i = .int .i64 (k : Int) ∧ k ≤ N ∧ RM w.heap.size wr w.heap.size v' l' long' ∧ rst l' long' = some (HC ++ rowsC (l.take k)) ∧ Below w.heap.size w wr) (fun i _ => N - (intOf i).toNat)
  case atStart => exact ⟨0, v2, l2, long2, by go_num, by omega, hm2, by rw [hr2]; simp [rowsC], hb2⟩
  case round =>
    obtain ⟨k, v', l', long', rfl, hk, hm, hr, hb⟩ := hrel
    clear hm2 hr2 hb2
    have hV := h.below hb
    obtain ⟨q0, q1⟩ := hV.fields
    by_cases hlt : k < N
    · have hlz : (k : Int) < (N : Int) := by omega
      have hk0 : (0 : Int) ≤ (k : Int) := by omega
      obtain ⟨g, x, rfl, hx, c0, c1⟩ := hV.own.place hlt
      have hxm := hone x (List.mem_of_getElem? hx)
      have htk : l.take (k + 1) = l.take k ++ [x] := by rw [List.take_add_one, hx]; rfl
      have hL1 := rowsC_len (l.take k)
      have hL0 := numCell_len x.k
      have hL2 := numCell_len (flagN x.r)
      have hLt : (l.take k).length ≤ 256 := by rw [List.length_take]; omega
      have hput1 : put (some (HC ++ rowsC (l.take k))) (numCell x.k) = some (HC ++ rowsC (l.take k) ++ numCell x.k) := put_some (by rw [List.length_append]; omega)
      have hput2 : put (some (HC ++ rowsC (l.take k) ++ numCell x.k)) (numCell (flagN x.r)) = some (HC ++ rowsC (l.take (k + 1))) := by
        rw [put_some (by rw [List.length_append, List.length_append]; omega), htk, rowsC_snoc]
        unfold rowC
        simp only [List.append_assoc]
      clear htk hL1 hLt
      go_wp2_with fail
      refine (rnum_any w.heap.size _ _ _ _ x.k _ hm (by omega) (by omega)).mono ?_
      rintro e w3 ⟨v3, l3, long3, rfl, hm3, hr3, hf3⟩
      rw [hr, hput1] at hr3
      have hb3 := hb.trans (RefPost.low hm hf3)
      obtain ⟨d0, d1⟩ := (h.below hb3).fields
      obtain ⟨g', x', hge, hx', e0, e1⟩ := (h.below hb3).own.place hlt
      cases hge
      rw [hx] at hx'
      cases hx'
      clear hm hr hf3 hb hV q0 q1 c0 c1 hput1
      go_wp2_with fail
      refine (rflag_any w.heap.size _ _ _ _ x.r _ hm3).mono ?_
      rintro e w4 ⟨v4, l4, long4, rfl, hm4, hr4, hf4⟩
      rw [hr3, hput2] at hr4
      have hb4 := hb3.trans (RefPost.low hm3 hf4)
      clear hm3 hr3 hf4 hb3 d0 d1 e0 e1 hput2 hx
      go_wp2
      go_roundw
      case measure => simp [intOf]; omega
      case rel => exact ⟨k + 1, v4, l4, long4, by go_num, by omega, hm4, hr4, hb4⟩
    · have hlz : ¬ (k : Int) < (N : Int) := by omega
      have hkn : k = N := by omega
      rw [show l.take k = l from List.take_of_length_le (by omega), ← hhid.out] at hr
      obtain ⟨rfl, rfl⟩ := rst_some hr
      obtain ⟨A', c', rfl, h1, h2, h3, h4⟩ := hm.own.form
      have p0 := hm.blk.cell 0
      simp at p0
      clear hkn hr hhid hV
      go_wp2
      go_ret
      exact ⟨A', c', rfl, h1, h2, h3, hb, fun ad e => (h4 ad e).1⟩
end Go.Proofs.Ytnkekjaljhpmjaa
