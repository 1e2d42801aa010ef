/- items.Encode, Decode and the document's. No condition but that what comes in lies in memory. -/
import Derived.Test.YtejpabeamjhmjaaReadI
namespace Go.Proofs.Ytejpabeamjhmjaa
open Go.RowKit Go.Maps Go.Shelf
set_option linter.unusedVariables false
set_option linter.unusedSimpArgs false

/-- Bytes that were made, or none and an error. -/
def EncPost (ok : Bool) (code : List UInt8) (err : Int) (w : World) (e : Ending) (w' : World) : Prop :=
  Below w.heap.size w w' ∧ match ok with
    | false => e = .returned (.tuple #[.slice none 0 0, .int .i64 err])
    | true => ∃ A c, e = .returned (.tuple #[.slice A code.length c, .int .i64 0]) ∧ code.length ≤ c ∧ c ≤ maxLen ∧ RB w' A code.length code ∧ ∀ ad, A = some ad → w.heap.size ≤ ad.block ∧ ad.block < w'.heap.size

theorem foot_new {g : Nat} {i : Nat} (h : MF g (.slice none 0 0) i) : i = g := by
  rcases h with h | h
  · exact h
  · simp [Value.ownBlock] at h

set_option maxHeartbeats 800000 in
theorem iencode_any (A : Option Addr) (n c : Nat) (l : List It) (w : World) (hl : IL w A n l) (hn : n ≤ 9223372036854775807) :
    Calls Try.prog 24 #[.slice A n c] w (EncPost (mayL l) (encL l) 60 w) := by
  cases hm : mayL l with
  | false =>
    go_enter Try.func24, Try.ntmps24
    go_wp2_with fail
    refine (mayI_any A n c l w hl hn).mono ?_
    rintro e w1 ⟨rfl, hb1⟩
    rw [hm]
    go_wp2
    go_ret2
    exact ⟨hb1, rfl⟩
  | true =>
    have hlen := encL_len l hm
    have hfit := putL_fits [] l (by simp; omega)
    rw [List.nil_append] at hfit
    go_enter Try.func24, Try.ntmps24
    go_wp2_with fail
    refine (mayI_any A n c l w hl hn).mono ?_
    rintro e w1 ⟨rfl, hb1⟩
    rw [hm]
    have hz1 := hb1.size
    go_wp2_with fail
    refine (new_any w1).mono ?_
    rintro e w2 ⟨rfl, hm2, hb2⟩
    have hb02 := hb1.trans (hb2.mono hz1)
    have hz2 := hb2.size
    go_wp2_with fail
    refine (iput_any w1.heap.size w1.heap.size _ _ A n c l w2 hm2 (hl.below hb02) (mayL_SI hm) hn (fun ad h h' e => by have := hl.lt ad h h'; have := foot_new e; omega)).mono ?_
    rintro e w3 ⟨v3, rfl, hm3, hk3, hf3⟩
    rw [hfit] at hm3
    have hb03 := hb02.trans (hk3.below (B := w.heap.size) (by omega) (fun k hk e => by have := foot_new e; omega))
    have hz3 := hk3.size
    go_wp2_with fail
    refine (mdone_any w1.heap.size w1.heap.size v3 _ w3 hm3).mono ?_
    rintro e w4 ⟨hb4, A4, c4, rfl, h1, h2, h3, h4⟩
    go_wp2
    go_ret2
    exact ⟨hb03.trans (hb4.mono (by omega)), A4, c4, rfl, h1, h2, h3, fun ad had => ⟨by have := (h4 ad had).1; omega, (h4 ad had).2⟩⟩

/-- What any bytes are as a list. -/
def DecPost (r : Option (List It)) (w : World) (e : Ending) (w' : World) : Prop :=
  Below w.heap.size w w' ∧ match r with
    | none => e = .returned (.tuple #[.slice none 0 0, .int .i64 10])
    | some l => ∃ v, e = .returned (.tuple #[v, .int .i64 0]) ∧ OI w.heap.size w' v l

theorem decL_of {b : List UInt8} {l : List It} {st : Option (List UInt8)} (h : takeL (some b) = (l, st)) : decL b = if st = some [] then some l else none := by
  unfold decL
  rw [h]

set_option maxHeartbeats 800000 in
theorem idecode_any (A : Option Addr) (n c : Nat) (b : List UInt8) (w : World) (hr : RB w A n b) (hn : n ≤ 140737488355328) :
    Calls Try.prog 25 #[.slice A n c] w (DecPost (decL b) w) := by
  obtain ⟨l, st, hT⟩ : ∃ l st, takeL (some b) = (l, st) := ⟨_, _, rfl⟩
  have hD := Lib.hid (decL_of hT)
  go_enter Try.func25, Try.ntmps25
  go_wp2_with fail
  refine (take_any A n c b w hr hn).mono ?_
  rintro e w1 ⟨g, A1, c1, rfl, hg1, ht1, hb1, hA1⟩
  have hz1 := hb1.size
  go_wp2_with fail
  refine (itake_any w1 g A1 c1 (some b) ht1).mono ?_
  rintro e w2 ⟨v2, A2, c2, rfl, hO2, ht2, hk2, hs2⟩
  rw [hT] at hO2 ht2
  dsimp only at hO2 ht2
  have hb02 := hb1.trans (hk2.below (B := w.heap.size) (by omega) (fun k hk e => by omega))
  go_wp2_with fail
  refine (tdone_any w2 g A2 c2 st ht2).mono ?_
  rintro e w3 ⟨rfl, rfl⟩
  by_cases hst : st = some []
  · have hd : tdoneN st = 0 := by unfold tdoneN; rw [if_pos hst]
    rw [hd]
    go_wp2
    go_ret2
    refine ⟨hb02, ?_⟩
    rw [hD.out, if_pos hst]
    exact ⟨v2, rfl, hO2.mono hz1⟩
  · have hd : tdoneN st = 10 := by unfold tdoneN; rw [if_neg hst]
    rw [hd]
    go_wp2
    go_ret2
    refine ⟨hb02, ?_⟩
    rw [hD.out, if_neg hst]
    rfl

set_option maxRecDepth 100000 in
set_option maxHeartbeats 800000 in
theorem riencode_any (A : Option Addr) (n c : Nat) (l : List It) (w : World) (hl : IL w A n l) (hn : n ≤ 9223372036854775807) (hm : mayL l = true) :
    Calls Try.prog 26 #[.slice A n c] w fun e w' => Below w.heap.size w w' ∧ ∃ v, e = .returned v ∧ OB w.heap.size w' v (encL l) := by
  have hlen := encL_len l hm
  have hfit := putL_fits [] l (by simp; omega)
  rw [List.nil_append] at hfit
  have hm1 : RM w.heap.size (w.alloc (.cells #[.slice none 0 0, .bool false] 85)) w.heap.size (.slice none 0 0) [] false := ⟨Blk.new _ _ _, Nat.le_refl _, OB.nil _ _, by simp⟩
  go_enter Try.func26, Try.ntmps26
  go_wp2_with fail
  refine (riput_any w.heap.size w.heap.size _ _ _ A n c l _ hm1 (hl.alloc _) (mayL_SI hm) hn (fun ad h h' e => by have := hl.lt ad h h'; have := foot_new e; omega)).mono ?_
  rintro e w2 ⟨v2, l2, long2, rfl, hm2, hr2, hf2⟩
  rw [show rst [] false = some [] from rfl, hfit] at hr2
  have hb02 := ((Below.refl w.heap.size w).alloc (Nat.le_refl _) (.cells #[.slice none 0 0, .bool false] 85)).trans (hf2.keep.below (B := w.heap.size) (by simp) (fun k hk e => by have := foot_new e; omega))
  cases long2 with
  | true => cases hr2
  | false =>
    simp only [rst] at hr2
    injection hr2 with hr2
    subst hr2
    have hc0 := hm2.blk.cell 0
    simp at hc0
    go_wp2
    go_ret
    exact ⟨hb02, v2, rfl, hm2.own⟩

def RDecPost (r : Option (List It)) (w : World) (e : Ending) (w' : World) : Prop :=
  Below w.heap.size w w' ∧ match r with
    | none => e = .returned (.tuple #[.slice none 0 0, .bool false])
    | some l => ∃ v, e = .returned (.tuple #[v, .bool true]) ∧ OI w.heap.size w' v l

set_option maxHeartbeats 800000 in
theorem ridecode_any (A : Option Addr) (n c : Nat) (b : List UInt8) (w : World) (hr : RB w A n b) (hc : n ≤ c) (hm : c ≤ 9223372036854775807) :
    Calls Try.prog 27 #[.slice A n c] w (RDecPost (decL b) w) := by
  have hln := hr.1
  subst hln
  have ht1 : TK 47 (w.alloc (.cells #[.slice A b.length c, .bool false] 47)) w.heap.size A c b false :=
    ⟨Blk.new _ _ _, hr.alloc _, ⟨hc, hm⟩, fun hp ad ha => by have := hr.addr_lt ha hp; omega⟩
  go_enter Try.func27, Try.ntmps27
  go_wp2_with fail
  refine (rread_any _ w.heap.size A c b false ht1).mono ?_
  rintro e w2 ⟨v2, ok, A2, c2, l2, bad2, lr, rfl, hO2, ht2, hk2, hs2, hl2, hyes, hno⟩
  rw [World.size_alloc] at hO2
  rw [show rst b false = some b from rfl] at hyes hno
  have hb02 := ((Below.refl w.heap.size w).alloc (Nat.le_refl _) (.cells #[.slice A b.length c, .bool false] 47)).trans (hk2.below (B := w.heap.size) (by simp) (fun k hk e => by omega))
  have hc0 := ht2.blk.cell 0
  simp at hc0
  cases ok with
  | false =>
    have hd : Hid (decL b = none) := Lib.hid (by unfold decL; rw [hno rfl]; simp)
    clear hyes hno
    go_wp2
    go_ret2
    refine ⟨hb02, ?_⟩
    rw [hd.out]
    rfl
  | true =>
    obtain ⟨hT, rfl⟩ := hyes rfl
    clear hyes hno
    have hD := Lib.hid (decL_of hT)
    clear hT
    cases l2 with
    | nil =>
      have hD2 : Hid (decL b = some lr) := Lib.hid (by rw [hD.out, if_pos rfl])
      clear hD
      simp at hc0
      go_wp2
      go_ret2
      refine ⟨hb02, ?_⟩
      rw [hD2.out]
      exact ⟨v2, rfl, hO2.mono (by omega)⟩
    | cons x r =>
      obtain ⟨q, hq⟩ : ∃ q, q = (x :: r).length := ⟨_, rfl⟩
      have hq0 : (0 : Int) < (q : Int) := by rw [hq, List.length_cons]; omega
      rw [← hq] at hc0
      clear hq
      go_wp2
      go_ret2
      refine ⟨hb02, ?_⟩
      rw [hD.out, if_neg (by simp)]
      rfl
end Go.Proofs.Ytejpabeamjhmjaa
