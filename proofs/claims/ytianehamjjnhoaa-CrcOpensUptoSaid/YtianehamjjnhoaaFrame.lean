/- Frame of a table, and the document's. No condition. -/
import Derived.Test.YtianehamjjnhoaaRefMix
import Derived.Test.YtianehamjjnhoaaPut
import Derived.Test.YtianehamjjnhoaaSum
import Derived.Laws.MakeOwn
namespace Go.Proofs.Ytianehamjjnhoaa
open Go.RowKit
set_option linter.unusedVariables false
set_option linter.unusedSimpArgs false

theorem run_make_bytes (w : World) (base cap : Nat) (hb : base ≤ w.heap.size) (hc : cap ≤ 140737488355328) :
    ∃ w', (Instr.makeSlice 23 (.int .i64 0) (.int .i64 (cap : Int))).run Try.prog w = .ok (.slice (some ⟨w.heap.size, 0, none⟩) 0 cap) w' ∧ OB base w' (.slice (some ⟨w.heap.size, 0, none⟩) 0 cap) [] ∧ Keep (fun _ => False) w w' := by
  obtain ⟨i, hi, hz, hs, hb1⟩ := info_parts u8_info
  obtain ⟨w', h1, h2, h3⟩ := run_make_own (P := Try.prog) w base 23 5 i (.int .u8 0) 1 Try.underlying23 hi hz hs .i64 .i64 cap (by rw [hb1]; omega) (by simp only [maxLen]; omega) hb
  exact ⟨w', h1, h2, (Keep.of_grown h3).mono fun k _ h => by cases h⟩

/-- A frame. -/
def frameOf (sl : Nat) (l : List UInt8) : List UInt8 := hb (l.length + 1) 4 4 ++ hb (sumOn 0 l) 4 4 ++ hb (mixOf sl l) 8 8 ++ l
theorem frameOf_len (sl : Nat) (l : List UInt8) : (frameOf sl l).length = 16 + l.length := by
  unfold frameOf
  simp only [List.length_append, hb_len]
theorem sumOn_lt (s : Nat) (l : List UInt8) (h : s < 4294967296) : sumOn s l < 4294967296 := flip_lt (steps_lt (flip_lt h) l)
theorem V4.out_ok {v : V4} (h : v.Ok) : W64 v.out := ((h.fin4.a.xor h.fin4.b).xor h.fin4.c).xor h.fin4.d
theorem mixOf_ok (sl : Nat) (l : List UInt8) (h : W64 sl) : W64 (mixOf sl l) := V4.out_ok (((mixInit_ok h).st _ _).tk (lastw_ok l))

set_option maxRecDepth 100000 in
set_option maxHeartbeats 1600000 in
theorem frame_long (g : Value) (sl : Nat) (A : Option Addr) (n c : Nat) (w : World) (hn : 65536 < n) :
    Calls Try.prog 18 #[g, .int .u64 (sl : Int), .slice A n c] w fun e w' => e = .returned (.tuple #[.slice none 0 0, .int .u64 0, .int .i64 3]) ∧ w = w' := by
  go_enter Try.func18, Try.ntmps18
  go_wp2_with fail
  go_ret3
  exact ⟨rfl, rfl⟩

set_option maxRecDepth 100000 in
set_option maxHeartbeats 1600000 in
theorem frame_any (g sl : Nat) (A : Option Addr) (n c : Nat) (l : List UInt8) (w : World) (hs : W64 sl) (ht : TT w g) (hr : RB w A n l) (hn : n ≤ 65536) (hnc : n ≤ c) (hc : c ≤ 9223372036854775807) (hA : 0 < n → ∀ ad, A = some ad → ¬ ad.block = g) :
    Calls Try.prog 18 #[.pointer (some ⟨g, 0, none⟩), .int .u64 (sl : Int), .slice A n c] w fun e w' => ∃ v', e = .returned (.tuple #[v', .int .u64 (mixOf sl l : Int), .int .i64 0]) ∧ OB w.heap.size w' v' (frameOf sl l) ∧ Keep (fun k => k = g) w w' ∧ TT w' g := by
  have HL := Lib.hid hr.1
  have hgl := ht.lt
  obtain ⟨m, hm⟩ : ∃ m : Nat, m = n + 1 := ⟨_, rfl⟩
  have hmi : (n : Int) + 1 = (m : Int) := by omega
  have hmm : m < 18446744073709551616 := by omega
  have HM : Hid (m = l.length + 1) := Lib.hid (by rw [hm, HL.out])
  clear hm
  go_enter Try.func18, Try.ntmps18
  go_wp2_with fail
  refine (mix_any sl A n c l _ hs hr hnc hc).mono ?_
  rintro e w1 ⟨rfl, hk1⟩
  obtain ⟨w2, hmk, ho2, hk2⟩ := run_make_bytes w1 w.heap.size (16 + n) hk1.size (by omega)
  have HW := Lib.hid hk1.size
  rw [show ((16 + n : Nat) : Int) = 16 + (n : Int) by omega] at hmk
  go_wp2_with fail
  --MADE
  clear hmk
  have hk12 := hk1.trans hk2 (fun _ _ h => h)
  refine (putHigh_any w.heap.size _ [] m 4 _ ho2 hk12.size (by simp) hmm (by omega)).mono ?_
  rintro e w3 ⟨v3, rfl, hg3⟩
  have hk13 : Keep (fun _ => False) w w3 := hk12.trans hg3.keep (fun i hi h => by have := (ho2.lt i h).1; omega)
  have ho3 := hg3.own
  clear hg3 ho2 hk2 hk12 hmi
  rw [List.nil_append] at ho3
  have ht3 := ht.kept hk13 id
  go_wp2_with fail
  refine (sum_any g A n c l _ ht3 (hr.kept hk13 fun _ _ => id) (by omega) hA).mono ?_
  rintro e w4 ⟨rfl, hk4, f, ht4⟩
  have ho4 := ho3.kept hk4 (fun k h => by have := (ho3.lt k h).1; omega)
  have hk14 : Keep (fun k => k = g) w w4 := (hk13.mono fun _ _ h => h.elim).trans hk4 (fun _ _ h => h)
  clear ho3 ht3
  have hsl := sumOn_lt 0 l (by omega)
  go_wp2_with fail
  --SUM
  refine (putHigh_any w.heap.size v3 _ (sumOn 0 l) 4 _ ho4 hk14.size (by simp [hb_len]) (Nat.lt_trans (sumOn_lt 0 l (by omega)) (by omega)) (by omega)).mono ?_
  rintro e w5 ⟨v5, rfl, hg5⟩
  have hk15 : Keep (fun k => k = g) w w5 := hk14.trans hg5.keep (fun i hi h => by have := (ho4.lt i h).1; omega)
  have ht5 : TT w5 g := TT.kept (.inr ⟨f, ht4⟩) hg5.keep (fun h => by have := (ho4.lt g h).1; omega)
  have ho5 := hg5.own
  clear hg5 ho4 ht4
  go_wp2_with fail
  refine (putHigh_any w.heap.size v5 _ (mixOf sl l) 8 _ ho5 hk15.size (by simp [hb_len]) (mixOf_ok sl l hs) (by omega)).mono ?_
  rintro e w6 ⟨v6, rfl, hg6⟩
  have hk16 : Keep (fun k => k = g) w w6 := hk15.trans hg6.keep (fun i hi h => by have := (ho5.lt i h).1; omega)
  have ht6 : TT w6 g := ht5.kept hg6.keep (fun h => by have := (ho5.lt g h).1; omega)
  have ho6 := hg6.own
  have hr6 := hr.keptN hk16 hA
  clear hg6 ho5 ht5
  go_wp2_with (at_builtin; refine wpApp rfl (.tmp 36) (.tmp 37) rfl w.heap.size v6 _ rfl ho6 A n c l rfl hr6 (by simp [hb_len]; omega) hk16.size ?_; intro v7 w7 hg7)
  --END
  have hk17 : Keep (fun k => k = g) w w7 := hk16.trans hg7.keep (fun i hi h => by have := (ho6.lt i h).1; omega)
  have ht7 : TT w7 g := ht6.kept hg7.keep (fun h => by have := (ho6.lt g h).1; omega)
  have ho7 := hg7.own
  rw [HM.out] at ho7
  go_ret3
  exact ⟨_, rfl, ho7, hk17, ht7⟩
end Go.Proofs.Ytianehamjjnhoaa
