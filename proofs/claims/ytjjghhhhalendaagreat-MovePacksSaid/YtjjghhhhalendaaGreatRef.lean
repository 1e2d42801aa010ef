/- The contracts of the document's maker. No condition. -/
import Derived.Test.YtjjghhhhalendaaGreatLink
namespace Go.Proofs.YtjjghhhhalendaaGreat
open Go.RowKit
set_option linter.unusedVariables false

structure RM (base : Nat) (w : World) (g : Nat) (v : Value) (l : List UInt8) (long : Bool) : Prop where
  blk : Blk w g 86 #[v, .bool long]
  ge : base ≤ g
  own : OB base w v l
  short : l.length ≤ 262144
theorem RM.kept {S : Nat → Prop} {base : Nat} {w w' : World} {g : Nat} {v : Value} {l : List UInt8} {long : Bool} (h : RM base w g v l long) (k : Keep S w w') (hs : ∀ i, MF g v i → ¬ S i) : RM base w' g v l long :=
  ⟨h.blk.kept k (hs g (.inl rfl)), h.ge, h.own.kept k fun i hi => hs i (.inr hi), h.short⟩
theorem RM.foot {base : Nat} {w : World} {g : Nat} {v : Value} {l : List UInt8} {long : Bool} (h : RM base w g v l long) : ∀ i, MF g v i → base ≤ i ∧ i < w.heap.size := by
  rintro i (rfl | hi)
  · exact ⟨h.ge, h.blk.lt⟩
  · exact h.own.lt i hi

def rst (l : List UInt8) (long : Bool) : Option (List UInt8) := if long then none else some l

def RefPost (base : Nat) (w : World) (g : Nat) (v : Value) (st : Option (List UInt8)) (e : Ending) (w' : World) : Prop :=
  ∃ v' l' long', e = .returned (.tuple #[]) ∧ RM base w' g v' l' long' ∧ rst l' long' = st ∧ Foot (MF g v) w (MF g v') w'

theorem RefPost.after {base : Nat} {w w1 : World} {g : Nat} {v : Value} {st : Option (List UInt8)} {e : Ending} {w' : World} (hb : Below w.heap.size w w1) (h : RefPost base w1 g v st e w') : RefPost base w g v st e w' := by
  obtain ⟨v', l', long', he, hm, hr, hf⟩ := h
  exact ⟨v', l', long', he, hm, hr, (Foot.of_below hb).trans hf⟩

set_option maxHeartbeats 1600000 in
theorem rput_any (base : Nat) (g : Nat) (v : Value) (l : List UInt8) (long : Bool) (A : Option Addr) (n c : Nat) (x : List UInt8) (w : World) (hm : RM base w g v l long) (hr : RB w A n x) (hs : n ≤ 140737488355328) :
    Calls Tryz.prog 66 #[.pointer (some ⟨g, 0, none⟩), .slice A n c] w (RefPost base w g v (put (rst l long) x)) := by
  have hc0 := hm.blk.cell 0
  have hc1 := hm.blk.cell 1
  have hf0 := hm.blk.frozen 0
  have hf1 := hm.blk.frozen 1
  simp at hc0 hc1
  have ho := hm.own
  have hsh := hm.short
  have hlt := Nat.le_trans hm.ge (Nat.le_of_lt hm.blk.lt)
  obtain ⟨A0, cap0, rfl, hl0, hm0, hr0, had0⟩ := ho.form
  have hxs := hr.1
  have hlong : ∀ (b : Bool), RefPost base w g (.slice A0 l.length cap0) none (.returned (.tuple #[])) (w.setCell ⟨g, 1, none⟩ (.bool true)) := fun b =>
    ⟨.slice A0 l.length cap0, l, true, rfl, ⟨by simpa using hm.blk.set_ 1 (.bool true), hm.ge, ho.kept ((Keep.refl (fun k => k = g) w).setCell (fun _ => rfl) _) fun i hi hig => by
      subst hig
      exact ho.ne_blk hm.blk (by decide) hi, hsh⟩, rfl, ⟨(Keep.refl _ w).setCell (fun _ => .inl rfl) _, fun i hi => .inl hi⟩⟩
  cases long with
  | true =>
    go_enter Tryz.func66, Tryz.ntmps66
    go_wp2
    go_end0
    exact hlong true
  | false =>
    by_cases hbig : 262144 < l.length + n
    · have e : Hid (put (rst l false) x = none) := Lib.hid (by show (if 262144 < l.length + x.length then none else some (l ++ x)) = none; rw [hxs, if_pos hbig])
      have hd : decide ((262144 : Int) - (l.length : Int) < (n : Int)) = true := decide_eq_true (by omega)
      go_enter Tryz.func66, Tryz.ntmps66
      go_wp2
      go_end0
      rw [e.out]
      exact hlong true
    · have e : Hid (put (rst l false) x = some (l ++ x)) := Lib.hid (by show (if 262144 < l.length + x.length then none else some (l ++ x)) = some (l ++ x); rw [hxs, if_neg hbig])
      have hd : decide ((262144 : Int) - (l.length : Int) < (n : Int)) = false := decide_eq_false (by omega)
      have ho1 : OB w.heap.size (w.alloc (.cells #[] 5)) (.slice (some ⟨w.heap.size, 0, none⟩) 0 0) [] := OB.built w.heap.size w [] (Nat.le_refl _) (by simp [maxLen])
      have hw1 := (Below.refl w.heap.size w).alloc (Nat.le_refl _) (.cells #[] 5)
      have hc0a : (w.alloc (.cells #[] 5)).cell? ⟨g, 0, none⟩ = some (.slice A0 l.length cap0) := by simpa using (hm.blk.alloc (.cells #[] 5)).cell 0
      go_enter Tryz.func66, Tryz.ntmps66
      go_wp2_with (first
        | (at_builtin; refine wpApp rfl (.tmp 23) (.tmp 27) rfl w.heap.size _ [] rfl ho1 A0 l.length cap0 l rfl (hr0.alloc _) (by simp; omega) (by simp) ?_; intro v1 w1 hg1; have hw2 := hw1.trans (hg1.below ho1 (by simp)); have hz2 := hg1.keep.size)
        | (at_builtin; go_must (refine wpApp rfl (.tmp 28) (.tmp 29) rfl w.heap.size v1 _ rfl hg1.own A n c x rfl (hr.below hw2) (by simp; omega) (Nat.le_trans (by simp) hz2) ?_); intro v2 w2 hg2; have hg := hg1.trans hg2; have hw3 := hw2.trans (hg2.below hg1.own (Nat.le_trans (by simp) hz2)); have hb2 := hm.blk.kept (Keep.of_below hw3) (by have := hm.blk.lt; omega); have hc2 := hb2.cell 0; have hf2 := hb2.frozen 0; simp at hc2; obtain ⟨A2, cap2, hv2, _, _, _, _⟩ := hg2.own.form; clear hg2; subst hv2))
      go_end0
      rw [e.out]
      have hlen : ([] ++ l ++ x).length = l.length + n := by rw [List.nil_append, List.length_append, hxs]
      rw [hlen] at hg
      have hown := hg.own
      have hge : ∀ i, (Value.slice A2 (l.length + n) cap2).ownBlock = some i → w.heap.size ≤ i := fun i hi => (hown.lt i hi).1
      refine ⟨.slice A2 (l.length + n) cap2, l ++ x, false, rfl, ⟨?_, hm.ge, ?_, ?_⟩, rfl, ⟨?_, ?_⟩⟩
      · simpa using hb2.set_ 0 (.slice A2 (l.length + n) cap2)
      · have h1 := (hown.mono hlt).kept ((Keep.refl (fun k => k = g) w2).setCell (p := ⟨g, 0, none⟩) (fun _ => rfl) (.slice A2 (l.length + n) cap2)) fun i hi hig => by
          subst hig
          exact (hown.mono hlt).ne_blk hb2 (by decide) hi
        simpa using h1
      · rw [List.length_append, hxs]
        omega
      · exact (Keep.mk (S := MF g (.slice A0 l.length cap0)) hw3.os hw3.tape hw3.output hw3.size fun i hi _ => hw3.block i hi).setCell (fun _ => .inl rfl) _
      · rintro i (rfl | hi)
        · exact .inl (.inl rfl)
        · exact .inr (hge i hi)

theorem rnum_any (base : Nat) (g : Nat) (v : Value) (l : List UInt8) (long : Bool) (n : Int) (w : World) (hm : RM base w g v l long) (h0 : -9223372036854775808 ≤ n) (h1 : n ≤ 9223372036854775807) :
    Calls Tryz.prog 41 #[.pointer (some ⟨g, 0, none⟩), .int .i64 n] w (RefPost base w g v (put (rst l long) (numCell n))) := by
  have h9 := numCell_len n
  go_enter Tryz.func41, Tryz.ntmps41
  go_wp2_with fail
  refine (refNum_any n w h0 h1).mono ?_
  rintro e w1 ⟨v1, rfl, ho1, hb1⟩
  obtain ⟨A1, cap1, rfl, _, _, hr1, _⟩ := ho1.form
  have hm1 := hm.kept (Keep.of_below hb1) fun i hi => by have := (hm.foot i hi).2; omega
  clear ho1
  go_wp2_with fail
  refine (rput_any base g v l long A1 _ cap1 (numCell n) w1 hm1 hr1 (by omega)).mono ?_
  rintro e w2 hp
  obtain ⟨v', l', long', rfl, r1, r2, r3⟩ := hp.after hb1
  clear hp
  go_wp2_with fail
  go_end0
  exact ⟨v', l', long', rfl, r1, r2, r3⟩

theorem rtext_any (base : Nat) (g : Nat) (v : Value) (l : List UInt8) (long : Bool) (s : ByteArray) (w : World) (hm : RM base w g v l long) (hs : s.size ≤ 140737488351232) :
    Calls Tryz.prog 68 #[.pointer (some ⟨g, 0, none⟩), .string s] w (RefPost base w g v (put (rst l long) (numCell s.size ++ s.data.toList))) := by
  have h9 := numCell_len s.size
  go_enter Tryz.func68, Tryz.ntmps68
  go_wp2_with fail
  refine (refNum_any s.size w (by omega) (by omega)).mono ?_
  rintro e w1 ⟨v1, rfl, ho1, hb1⟩
  have hz1 := hb1.size
  go_wp2_with (at_builtin; refine wpAppStr rfl (.tmp 7) (.tmp 8) rfl w.heap.size v1 _ rfl ho1 s rfl (by omega) hz1 ?_; intro v2 w2 hg2; have hb2 := hb1.trans (hg2.below ho1 hz1); obtain ⟨A2, cap2, hv2, _, _, hr2, _⟩ := hg2.own.form; clear hg2; subst hv2)
  have hm2 := hm.kept (Keep.of_below hb2) fun i hi => by have := (hm.foot i hi).2; omega
  have hxl : (numCell (s.size : Int) ++ s.data.toList).length = (numCell (s.size : Int)).length + s.size := by
    rw [List.length_append]
    rfl
  rw [hxl] at hr2
  refine (rput_any base g v l long A2 _ cap2 (numCell s.size ++ s.data.toList) w2 hm2 hr2 (by omega)).mono ?_
  rintro e w3 hp
  obtain ⟨v', l', long', rfl, r1, r2, r3⟩ := hp.after hb2
  clear hp
  go_wp2_with fail
  go_end0
  exact ⟨v', l', long', rfl, r1, r2, r3⟩

theorem rflag_any (base : Nat) (g : Nat) (v : Value) (l : List UInt8) (long : Bool) (b : Bool) (w : World) (hm : RM base w g v l long) :
    Calls Tryz.prog 43 #[.pointer (some ⟨g, 0, none⟩), .bool b] w (RefPost base w g v (put (rst l long) (numCell (flagN b)))) := by
  cases b
  · go_enter Tryz.func43, Tryz.ntmps43
    go_wp2_with fail
    refine (rnum_any base g v l long 0 w hm (by omega) (by omega)).mono ?_
    rintro e w2 ⟨v', l', long', rfl, r1, r2, r3⟩
    go_wp2_with fail
    go_end0
    exact ⟨v', l', long', rfl, r1, r2, r3⟩
  · go_enter Tryz.func43, Tryz.ntmps43
    go_wp2_with fail
    refine (rnum_any base g v l long 1 w hm (by omega) (by omega)).mono ?_
    rintro e w2 ⟨v', l', long', rfl, r1, r2, r3⟩
    go_wp2_with fail
    go_end0
    exact ⟨v', l', long', rfl, r1, r2, r3⟩
end Go.Proofs.YtjjghhhhalendaaGreat
