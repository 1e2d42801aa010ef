/- The contracts of a maker's calls. No condition. -/
import Derived.Test.YtfpcnenohidfpaaGreatFirst
namespace Go.Proofs.YtfpcnenohidfpaaGreat
open Go.RowKit
set_option linter.unusedVariables false

/-- A maker's state: its bytes; none: too long. -/
def put (st : Option (List UInt8)) (x : List UInt8) : Option (List UInt8) :=
  match st with
  | none => none
  | some l => if 262144 < l.length + x.length then none else some (l ++ x)

structure MK (base : Nat) (w : World) (g : Nat) (v : Value) (st : Option (List UInt8)) : Prop where
  blk : Blk w g 112 #[v, .bool st.isNone]
  ge : base ≤ g
  own : OB base w v (st.getD [])
  short : (st.getD []).length ≤ 262144

/-- What a maker's call may write. -/
def MF (g : Nat) (v : Value) (k : Nat) : Prop := k = g ∨ v.ownBlock = some k

section
variable {base : Nat} {w w' : World} {g : Nat} {v : Value} {st : Option (List UInt8)}
theorem MK.kept {S : Nat → Prop} (h : MK base w g v st) (k : Keep S w w') (hs : ∀ i, MF g v i → ¬ S i) : MK base w' g v st :=
  ⟨h.blk.kept k (hs g (.inl rfl)), h.ge, h.own.kept k fun i hi => hs i (.inr hi), h.short⟩
theorem MK.foot (h : MK base w g v st) : ∀ i, MF g v i → base ≤ i ∧ i < w.heap.size := by
  rintro i (rfl | hi)
  · exact ⟨h.ge, h.blk.lt⟩
  · exact h.own.lt i hi
end

/-- What a call on a maker comes to. -/
def MakerPost (base : Nat) (w : World) (g : Nat) (v : Value) (st : Option (List UInt8)) (e : Ending) (w' : World) : Prop :=
  ∃ v', e = .returned (.pointer (some ⟨g, 0, none⟩)) ∧ MK base w' g v' st ∧ Keep (MF g v) w w' ∧ ∀ i, MF g v' i → MF g v i ∨ w.heap.size ≤ i

theorem new_any (w : World) :
    Calls Tryz.prog 29 #[] w fun e w' => e = .returned (.pointer (some ⟨w.heap.size, 0, none⟩)) ∧ MK w.heap.size w' w.heap.size (.slice none 0 0) (some []) ∧ Below w.heap.size w w' := by
  go_enter Tryz.func29, Tryz.ntmps29
  go_wp2
  go_ret
  exact ⟨rfl, ⟨Blk.new _ _ _, Nat.le_refl _, OB.nil _ _, by simp⟩, (Below.refl _ _).alloc (Nat.le_refl _) _⟩

theorem mput_long {base : Nat} {w : World} {g : Nat} {v : Value} {st : Option (List UInt8)} (hm : MK base w g v st) :
    MakerPost base w g v none (.returned (.pointer (some ⟨g, 0, none⟩))) ((w.setCell ⟨g, 0, none⟩ (.slice none 0 0)).setCell ⟨g, 1, none⟩ (.bool true)) := by
  refine ⟨.slice none 0 0, rfl, ⟨?_, hm.ge, OB.nil _ _, by simp⟩, ((Keep.refl _ _).setCell (fun _ => .inl rfl) _).setCell (fun _ => .inl rfl) _, ?_⟩
  · simpa using (hm.blk.set_ 0 (.slice none 0 0)).set_ 1 (.bool true)
  · rintro i (rfl | hi)
    · exact .inl (.inl rfl)
    · simp [Value.ownBlock] at hi

set_option maxHeartbeats 800000 in
theorem mput_any (base : Nat) (g : Nat) (v : Value) (st : Option (List UInt8)) (A : Option Addr) (n c : Nat) (x : List UInt8) (s : ByteArray) (w : World) (hm : MK base w g v st) (hr : RB w A n x) (hs : n ≤ 70368744177664) (hs' : s.size ≤ 140737488355328) :
    Calls Tryz.prog 57 #[.pointer (some ⟨g, 0, none⟩), .slice A n c, .string s] w (MakerPost base w g v (put st (x ++ s.data.toList))) := by
  have hc0 := hm.blk.cell 0
  have hc1 := hm.blk.cell 1
  have hf0 := hm.blk.frozen 0
  have hf1 := hm.blk.frozen 1
  cases st with
  | none =>
    simp at hc0 hc1
    go_enter Tryz.func57, Tryz.ntmps57
    go_wp2
    go_ret
    exact mput_long hm
  | some l =>
    simp at hc0 hc1
    have ho := hm.own
    have hsh := hm.short
    rw [Option.getD_some] at ho hsh
    obtain ⟨A0, cap0, hv, hl0, hm0, hr0, had0⟩ := ho.form
    have hxs : (x ++ s.data.toList).length = n + s.size := by
      rw [List.length_append, hr.1]
      rfl
    by_cases hbig : 262144 < l.length + (n + s.size)
    · have e : Hid (put (some l) (x ++ s.data.toList) = none) := Lib.hid (by unfold put; simp only []; rw [hxs, if_pos hbig])
      have hnone : MK base w g v (some l) := hm
      obtain rfl := hv
      go_enter Tryz.func57, Tryz.ntmps57
      go_wp2
      go_ret
      rw [e.out]
      exact mput_long hm
    · have e : Hid (put (some l) (x ++ s.data.toList) = some (l ++ (x ++ s.data.toList))) := Lib.hid (by unfold put; simp only []; rw [hxs, if_neg hbig])
      have hd : decide ((262144 : Int) - (l.length : Int) < (n : Int) + (s.size : Int)) = false := decide_eq_false (by omega)
      obtain rfl := hv
      have hne := ho.ne_blk hm.blk (by decide)
      have hlt := Nat.le_trans hm.ge (Nat.le_of_lt hm.blk.lt)
      go_enter Tryz.func57, Tryz.ntmps57
      go_wp2_with (first
        | (at_builtin; refine wpApp rfl (.tmp 38) (.tmp 39) rfl base _ l rfl ho A n c x rfl hr (by omega) hlt ?_; intro v1 w1 hg1)
        | (at_builtin; refine wpAppStr rfl (.tmp 40) (.tmp 41) rfl base v1 (l ++ x) rfl hg1.own s rfl (by rw [List.length_append, hr.1]; omega) (Nat.le_trans hlt hg1.keep.size) ?_; intro v2 w2 hg2; have hg := hg1.trans hg2; have hb2 := hm.blk.kept hg.keep hne; have hc2 := hb2.cell 0; have hf2 := hb2.frozen 0; simp at hc2; obtain ⟨A2, cap2, hv2, _, _, _, _⟩ := hg2.own.form; clear hg2; subst hv2))
      go_ret
      rw [e.out, ← List.append_assoc]
      have hlen : (l ++ x ++ s.data.toList).length = l.length + (n + s.size) := by rw [List.append_assoc, List.length_append, hxs]
      rw [hlen] at hg
      refine ⟨.slice A2 (l.length + (n + s.size)) cap2, rfl, ⟨?_, hm.ge, ?_, ?_⟩, ?_, ?_⟩
      · simpa using hb2.set_ 0 (.slice A2 (l.length + (n + s.size)) cap2)
      · exact hg.own.kept ((Keep.refl (fun k => k = g) w2).setCell (fun _ => rfl) _) fun i hi hig => by
          subst hig
          exact hg.own.ne_blk hb2 (by decide) hi
      · rw [Option.getD_some, List.append_assoc, List.length_append, hxs]
        omega
      · exact (hg.keep.mono fun k _ hk => .inr hk).setCell (fun _ => .inl rfl) _
      · rintro i (rfl | hi)
        · exact .inl (.inl rfl)
        · rcases hg.lies with h | ⟨q, h, hq⟩
          · exact .inl (.inr (h.symm.trans hi))
          · rw [h] at hi
            injection hi with hi
            exact .inr (by omega)

theorem mput_nil (A : Option Addr) (n c : Nat) (s : ByteArray) (w : World) :
    Calls Tryz.prog 57 #[.pointer none, .slice A n c, .string s] w fun e w' => e = .returned (.pointer none) ∧ w = w' := by
  go_enter Tryz.func57, Tryz.ntmps57
  go_wp2
  go_ret
  exact ⟨rfl, rfl⟩

/-- A maker's call behind calls that only make memory. -/
theorem MakerPost.after {base : Nat} {w w1 : World} {g : Nat} {v : Value} {st : Option (List UInt8)} {e : Ending} {w' : World} (hb : Below w.heap.size w w1) (h : MakerPost base w1 g v st e w') : MakerPost base w g v st e w' := by
  obtain ⟨v', he, hm, hk, hf⟩ := h
  refine ⟨v', he, hm, ⟨hk.os.trans hb.os, hk.tape.trans hb.tape, hk.output.trans hb.output, Nat.le_trans hb.size hk.size, fun i hi hn => (hk.block i (Nat.lt_of_lt_of_le hi hb.size) hn).trans (hb.block i hi)⟩, fun i hi => ?_⟩
  rcases hf i hi with h | h
  · exact .inl h
  · exact .inr (Nat.le_trans hb.size h)

def emptyS : ByteArray := ByteArray.mk #[]

theorem mnum_any (base : Nat) (g : Nat) (v : Value) (st : Option (List UInt8)) (n : Int) (w : World) (hm : MK base w g v st) (h0 : -9223372036854775808 ≤ n) (h1 : n ≤ 9223372036854775807) :
    Calls Tryz.prog 30 #[.pointer (some ⟨g, 0, none⟩), .int .i64 n] w (MakerPost base w g v (put st (numCell n))) := by
  have h9 := numCell_len n
  go_enter Tryz.func30, Tryz.ntmps30
  go_wp2_with fail
  refine (num_any n w h0 h1).mono ?_
  rintro e w1 ⟨v1, rfl, hg1⟩
  have hb1 := hg1.fresh
  obtain ⟨A1, cap1, rfl, _, _, hr1, _⟩ := hg1.own.form
  have hm1 := hm.kept (Keep.of_below hb1) fun i hi => by have := (hm.foot i hi).2; omega
  clear hg1
  go_wp2_with fail
  refine (mput_any base g v st A1 _ cap1 (numCell n) ⟨#[]⟩ w1 hm1 hr1 (by omega) (by decide)).mono ?_
  rintro e w2 hp
  have hp' := hp.after hb1
  rw [show numCell n ++ (ByteArray.mk #[]).data.toList = numCell n from List.append_nil _] at hp'
  obtain ⟨v', rfl, r1, r2, r3⟩ := hp'
  clear hp
  go_wp2_with fail
  go_ret
  exact ⟨v', rfl, r1, r2, r3⟩

theorem mtext_any (base : Nat) (g : Nat) (v : Value) (st : Option (List UInt8)) (s : ByteArray) (w : World) (hm : MK base w g v st) (hs : s.size ≤ 140737488355328) :
    Calls Tryz.prog 32 #[.pointer (some ⟨g, 0, none⟩), .string s] w (MakerPost base w g v (put st (numCell s.size ++ s.data.toList))) := by
  have h9 := numCell_len s.size
  go_enter Tryz.func32, Tryz.ntmps32
  go_wp2_with fail
  refine (num_any _ w (by omega) (by omega)).mono ?_
  rintro e w1 ⟨v1, rfl, hg1⟩
  have hb1 := hg1.fresh
  obtain ⟨A1, cap1, rfl, _, _, hr1, _⟩ := hg1.own.form
  have hm1 := hm.kept (Keep.of_below hb1) fun i hi => by have := (hm.foot i hi).2; omega
  clear hg1
  go_wp2_with fail
  refine (mput_any base g v st A1 _ cap1 (numCell s.size) s w1 hm1 hr1 (by omega) hs).mono ?_
  rintro e w2 hp
  have hp' := hp.after hb1
  obtain ⟨v', rfl, r1, r2, r3⟩ := hp'
  clear hp
  go_wp2_with fail
  go_ret
  exact ⟨v', rfl, r1, r2, r3⟩

def flagN (b : Bool) : Int := if b then 1 else 0

theorem fresh_any (A : Option Addr) (n c : Nat) (l : List UInt8) (w : World) (hr : RB w A n l) (hn : n ≤ 140737488355328) :
    Calls Tryz.prog 34 #[.slice A n c] w fun e w' => ∃ v', e = .returned v' ∧ Grew w.heap.size w (.slice none 0 0) w' v' l := by
  go_enter Tryz.func34, Tryz.ntmps34
  go_wp2_with (at_builtin; refine wpApp rfl _ (.tmp 3) rfl w.heap.size _ [] rfl (OB.nil _ _) A n c l rfl hr (by simp; omega) (Nat.le_refl _) ?_; intro v1 w1 hg1)
  go_ret
  exact ⟨v1, rfl, hg1⟩

/-- What Done answers. -/
def DonePost (st : Option (List UInt8)) (w : World) (e : Ending) (w' : World) : Prop :=
  Below w.heap.size w w' ∧ match st with
    | none => e = .returned (.tuple #[.slice none 0 0, .int .i64 3])
    | some l => ∃ A c, e = .returned (.tuple #[.slice A l.length c, .int .i64 0]) ∧ l.length ≤ c ∧ c ≤ maxLen ∧ RB w' A l.length l ∧ ∀ ad, A = some ad → w.heap.size ≤ ad.block ∧ ad.block < w'.heap.size

set_option maxHeartbeats 800000 in
theorem mdone_any (base : Nat) (g : Nat) (v : Value) (st : Option (List UInt8)) (w : World) (hm : MK base w g v st) :
    Calls Tryz.prog 33 #[.pointer (some ⟨g, 0, none⟩)] w (DonePost st w) := by
  have hc0 := hm.blk.cell 0
  have hc1 := hm.blk.cell 1
  cases st with
  | none =>
    simp at hc0 hc1
    go_enter Tryz.func33, Tryz.ntmps33
    go_wp2
    go_ret2
    exact ⟨Below.refl _ _, rfl⟩
  | some l =>
    simp at hc0 hc1
    have ho := hm.own
    have hsh := hm.short
    rw [Option.getD_some] at ho hsh
    obtain ⟨A0, cap0, rfl, hl0, hm0, hr0, had0⟩ := ho.form
    go_enter Tryz.func33, Tryz.ntmps33
    go_wp2_with fail
    refine (fresh_any A0 _ cap0 l w hr0 (by omega)).mono ?_
    rintro e w1 ⟨v1, rfl, hg1⟩
    have hb1 := hg1.fresh
    obtain ⟨A1, cap1, rfl, h1, h2, h3, h4⟩ := hg1.own.form
    clear hg1
    go_wp2_with fail
    go_ret2
    exact ⟨hb1, A1, cap1, rfl, h1, h2, h3, fun ad had => ⟨(h4 ad had).1, (h4 ad had).2.1⟩⟩
end Go.Proofs.YtfpcnenohidfpaaGreat
