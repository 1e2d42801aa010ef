/- mail.Same and the reference's: are two mails the same? No condition but that their items lie in memory. -/
import Derived.Test.YtpfkhalomnfcfaaMaM
namespace Go.Proofs.Ytpfkhalomnfcfaa
open Go.RowKit Go.Maps Go.Shelf
set_option linter.unusedVariables false
set_option linter.unusedSimpArgs false

theorem two_mails (w : World) (cs cs2 : Array Value) : Blk ((w.alloc (.cells cs 29)).alloc (.cells cs2 29)) w.heap.size 29 cs ∧ Blk ((w.alloc (.cells cs 29)).alloc (.cells cs2 29)) (w.heap.size + 1) 29 cs2 ∧ Below w.heap.size w ((w.alloc (.cells cs 29)).alloc (.cells cs2 29)) := by
  refine ⟨(Blk.new _ _ _).alloc _, ?_, ((Below.refl w.heap.size w).alloc (Nat.le_refl _) _).alloc (by simp only [World.size_alloc]; omega) _⟩
  have := Blk.new (w.alloc (.cells cs 29)) 29 cs2
  rw [World.size_alloc] at this
  exact this

set_option maxRecDepth 100000 in
set_option maxHeartbeats 12800000 in
theorem msame_any (x z : MV) (A : Option Addr) (cap : Nat) (B : Option Addr) (capb : Nat) (A2 : Option Addr) (cap2 : Nat) (B2 : Option Addr) (capb2 : Nat) (w : World) (hl : IL w A x.l.length x.l) (hal : IL w B x.a.l.length x.a.l) (hl2 : IL w A2 z.l.length z.l) (hal2 : IL w B2 z.a.l.length z.a.l) (hn : x.l.length ≤ 9223372036854775807) (hn2 : x.a.l.length ≤ 9223372036854775807) :
    Calls Try.prog 15 #[x.v A cap B capb, z.v A2 cap2 B2 capb2] w fun e w' => e = .returned (.bool (sameM x z)) ∧ Below w.heap.size w w' := by
  obtain ⟨k, o, l, ⟨a1, a2, a3, a4, a5, a6, a7, ag, al⟩, ⟨yc, ym, ye, yn⟩⟩ := x
  obtain ⟨k2, o2, l2, ⟨b1, b2, b3, b4, b5, b6, b7, ag2, al2⟩, ⟨yc2, ym2, ye2, yn2⟩⟩ := z
  dsimp only at hl hal hl2 hal2 hn hn2
  have hS : sameM ⟨k, o, l, ⟨a1, a2, a3, a4, a5, a6, a7, ag, al⟩, ⟨yc, ym, ye, yn⟩⟩ ⟨k2, o2, l2, ⟨b1, b2, b3, b4, b5, b6, b7, ag2, al2⟩, ⟨yc2, ym2, ye2, yn2⟩⟩ = (decide (k = k2) && (decide (o = o2) && (decide (l = l2) && (sameA ⟨a1, a2, a3, a4, a5, a6, a7, ag, al⟩ ⟨b1, b2, b3, b4, b5, b6, b7, ag2, al2⟩ && sameY ⟨yc, ym, ye, yn⟩ ⟨yc2, ym2, ye2, yn2⟩)))) := rfl
  obtain ⟨hbx, hbz, hb⟩ := two_mails w #[.int .i64 k, .int .i64 o, .slice A l.length cap, .int .i64 a1, .int .i64 a2, .int .i64 a3, .int .i64 a4, .int .i64 a5, .int .i64 a6, .int .i64 a7, .string ⟨ag.toArray⟩, .slice B al.length capb, .int .i64 yc, .int .i64 ym, .int .i64 ye, .int .i64 yn] #[.int .i64 k2, .int .i64 o2, .slice A2 l2.length cap2, .int .i64 b1, .int .i64 b2, .int .i64 b3, .int .i64 b4, .int .i64 b5, .int .i64 b6, .int .i64 b7, .string ⟨ag2.toArray⟩, .slice B2 al2.length capb2, .int .i64 yc2, .int .i64 ym2, .int .i64 ye2, .int .i64 yn2]
  have hil := (hl.alloc (.cells #[.int .i64 k, .int .i64 o, .slice A l.length cap, .int .i64 a1, .int .i64 a2, .int .i64 a3, .int .i64 a4, .int .i64 a5, .int .i64 a6, .int .i64 a7, .string ⟨ag.toArray⟩, .slice B al.length capb, .int .i64 yc, .int .i64 ym, .int .i64 ye, .int .i64 yn] 29)).alloc (.cells #[.int .i64 k2, .int .i64 o2, .slice A2 l2.length cap2, .int .i64 b1, .int .i64 b2, .int .i64 b3, .int .i64 b4, .int .i64 b5, .int .i64 b6, .int .i64 b7, .string ⟨ag2.toArray⟩, .slice B2 al2.length capb2, .int .i64 yc2, .int .i64 ym2, .int .i64 ye2, .int .i64 yn2] 29)
  have hial := (hal.alloc (.cells #[.int .i64 k, .int .i64 o, .slice A l.length cap, .int .i64 a1, .int .i64 a2, .int .i64 a3, .int .i64 a4, .int .i64 a5, .int .i64 a6, .int .i64 a7, .string ⟨ag.toArray⟩, .slice B al.length capb, .int .i64 yc, .int .i64 ym, .int .i64 ye, .int .i64 yn] 29)).alloc (.cells #[.int .i64 k2, .int .i64 o2, .slice A2 l2.length cap2, .int .i64 b1, .int .i64 b2, .int .i64 b3, .int .i64 b4, .int .i64 b5, .int .i64 b6, .int .i64 b7, .string ⟨ag2.toArray⟩, .slice B2 al2.length capb2, .int .i64 yc2, .int .i64 ym2, .int .i64 ye2, .int .i64 yn2] 29)
  have hil2 := (hl2.alloc (.cells #[.int .i64 k, .int .i64 o, .slice A l.length cap, .int .i64 a1, .int .i64 a2, .int .i64 a3, .int .i64 a4, .int .i64 a5, .int .i64 a6, .int .i64 a7, .string ⟨ag.toArray⟩, .slice B al.length capb, .int .i64 yc, .int .i64 ym, .int .i64 ye, .int .i64 yn] 29)).alloc (.cells #[.int .i64 k2, .int .i64 o2, .slice A2 l2.length cap2, .int .i64 b1, .int .i64 b2, .int .i64 b3, .int .i64 b4, .int .i64 b5, .int .i64 b6, .int .i64 b7, .string ⟨ag2.toArray⟩, .slice B2 al2.length capb2, .int .i64 yc2, .int .i64 ym2, .int .i64 ye2, .int .i64 yn2] 29)
  have hial2 := (hal2.alloc (.cells #[.int .i64 k, .int .i64 o, .slice A l.length cap, .int .i64 a1, .int .i64 a2, .int .i64 a3, .int .i64 a4, .int .i64 a5, .int .i64 a6, .int .i64 a7, .string ⟨ag.toArray⟩, .slice B al.length capb, .int .i64 yc, .int .i64 ym, .int .i64 ye, .int .i64 yn] 29)).alloc (.cells #[.int .i64 k2, .int .i64 o2, .slice A2 l2.length cap2, .int .i64 b1, .int .i64 b2, .int .i64 b3, .int .i64 b4, .int .i64 b5, .int .i64 b6, .int .i64 b7, .string ⟨ag2.toArray⟩, .slice B2 al2.length capb2, .int .i64 yc2, .int .i64 ym2, .int .i64 ye2, .int .i64 yn2] 29)
  clear hl hal hl2 hal2
  obtain ⟨v1, q1⟩ : ∃ b, decide (k = k2) = b := ⟨_, rfl⟩
  obtain ⟨v2, q2⟩ : ∃ b, decide (o = o2) = b := ⟨_, rfl⟩
  obtain ⟨v3, q3⟩ : ∃ b, decide (l = l2) = b := ⟨_, rfl⟩
  obtain ⟨v4, q4⟩ : ∃ b, sameA ⟨a1, a2, a3, a4, a5, a6, a7, ag, al⟩ ⟨b1, b2, b3, b4, b5, b6, b7, ag2, al2⟩ = b := ⟨_, rfl⟩
  obtain ⟨v5, q5⟩ : ∃ b, sameY ⟨yc, ym, ye, yn⟩ ⟨yc2, ym2, ye2, yn2⟩ = b := ⟨_, rfl⟩
  have e1 : (k == k2) = v1 := by rw [← q1]; by_cases h : k = k2 <;> simp [h]
  have e2 : (o == o2) = v2 := by rw [← q2]; by_cases h : o = o2 <;> simp [h]
  have e5 := run_ans_eql ⟨yc, ym, ye, yn⟩ ⟨yc2, ym2, ye2, yn2⟩ v5 q5
  dsimp only at e5
  rw [q1, q2, q3, q4, q5] at hS
  rw [hS]
  clear hS q1 q2 q5
  unfold MV.v MV.cs
  dsimp only
  have hSx := boxM hbx
  have hSz := boxM hbz
  cases v1 with
  | false =>
    go_enter Try.func15, Try.ntmps15
    go_wp2
    go_ret
    exact ⟨rfl, hb⟩
  | true =>
  cases v2 with
  | false =>
    go_enter Try.func15, Try.ntmps15
    go_wp2
    go_ret
    exact ⟨rfl, hb⟩
  | true =>
  go_enter Try.func15, Try.ntmps15
  go_wp2_with fail
  refine (equal_any A A2 l.length cap l2.length cap2 l l2 _ hil hil2 hn).mono ?_
  rintro e w1 ⟨rfl, q, rfl⟩
  rw [q3]
  have hx := below_drewN ((w.alloc (.cells #[.int .i64 k, .int .i64 o, .slice A l.length cap, .int .i64 a1, .int .i64 a2, .int .i64 a3, .int .i64 a4, .int .i64 a5, .int .i64 a6, .int .i64 a7, .string ⟨ag.toArray⟩, .slice B al.length capb, .int .i64 yc, .int .i64 ym, .int .i64 ye, .int .i64 yn] 29)).alloc (.cells #[.int .i64 k2, .int .i64 o2, .slice A2 l2.length cap2, .int .i64 b1, .int .i64 b2, .int .i64 b3, .int .i64 b4, .int .i64 b5, .int .i64 b6, .int .i64 b7, .string ⟨ag2.toArray⟩, .slice B2 al2.length capb2, .int .i64 yc2, .int .i64 ym2, .int .i64 ye2, .int .i64 yn2] 29)) q
  have hb1 := hb.trans (hx.mono hb.size)
  have hbx1 := hbx.kept (Keep.of_below hx) (fun h => absurd hbx.lt (Nat.not_lt.2 h))
  have hbz1 := hbz.kept (Keep.of_below hx) (fun h => absurd hbz.lt (Nat.not_lt.2 h))
  have hial1 := hial.below hx
  have hial21 := hial2.below hx
  clear hSx hSz hbx hbz hial hial2 hil hil2 hb
  generalize ((w.alloc (.cells #[.int .i64 k, .int .i64 o, .slice A l.length cap, .int .i64 a1, .int .i64 a2, .int .i64 a3, .int .i64 a4, .int .i64 a5, .int .i64 a6, .int .i64 a7, .string ⟨ag.toArray⟩, .slice B al.length capb, .int .i64 yc, .int .i64 ym, .int .i64 ye, .int .i64 yn] 29)).alloc (.cells #[.int .i64 k2, .int .i64 o2, .slice A2 l2.length cap2, .int .i64 b1, .int .i64 b2, .int .i64 b3, .int .i64 b4, .int .i64 b5, .int .i64 b6, .int .i64 b7, .string ⟨ag2.toArray⟩, .slice B2 al2.length capb2, .int .i64 yc2, .int .i64 ym2, .int .i64 ye2, .int .i64 yn2] 29)).drewN q = w1 at hb1 hbx1 hbz1 hial1 hial21 ⊢
  have hSx := boxM hbx1
  have hSz := boxM hbz1
  cases v3 with
  | false =>
    go_wp2
    go_ret
    exact ⟨rfl, hb1⟩
  | true =>
  have key := asksame_any ⟨a1, a2, a3, a4, a5, a6, a7, ag, al⟩ ⟨b1, b2, b3, b4, b5, b6, b7, ag2, al2⟩ B B2 capb capb2 w1 hial1 hial21 hn2
  rw [q4] at key
  unfold AV.v at key
  dsimp only at key
  go_wp2_with fail
  refine key.mono ?_
  rintro e w2 ⟨rfl, hx2⟩
  clear key
  have hb2 := hb1.trans (hx2.mono hb1.size)
  have hbx2 := hbx1.kept (Keep.of_below hx2) (fun h => absurd hbx1.lt (Nat.not_lt.2 h))
  have hbz2 := hbz1.kept (Keep.of_below hx2) (fun h => absurd hbz1.lt (Nat.not_lt.2 h))
  clear hSx hSz hbx1 hbz1
  have hSx := boxM hbx2
  have hSz := boxM hbz2
  cases v4 with
  | false =>
    go_wp2
    go_ret
    exact ⟨rfl, hb2⟩
  | true =>
  have e5' := e5 w2
  go_wp2
  go_ret
  exact ⟨rfl, hb2⟩

set_option maxRecDepth 100000 in
set_option maxHeartbeats 12800000 in
theorem rmsame_any (x z : MV) (A : Option Addr) (cap : Nat) (B : Option Addr) (capb : Nat) (A2 : Option Addr) (cap2 : Nat) (B2 : Option Addr) (capb2 : Nat) (w : World) (hl : IL w A x.l.length x.l) (hal : IL w B x.a.l.length x.a.l) (hl2 : IL w A2 z.l.length z.l) (hal2 : IL w B2 z.a.l.length z.a.l) (hn : x.l.length ≤ 9223372036854775807) (hn2 : x.a.l.length ≤ 9223372036854775807) :
    Calls Try.prog 13 #[x.v A cap B capb, z.v A2 cap2 B2 capb2] w fun e w' => e = .returned (.bool (sameM x z)) ∧ Below w.heap.size w w' := by
  obtain ⟨k, o, l, ⟨a1, a2, a3, a4, a5, a6, a7, ag, al⟩, ⟨yc, ym, ye, yn⟩⟩ := x
  obtain ⟨k2, o2, l2, ⟨b1, b2, b3, b4, b5, b6, b7, ag2, al2⟩, ⟨yc2, ym2, ye2, yn2⟩⟩ := z
  dsimp only at hl hal hl2 hal2 hn hn2
  have hS : sameM ⟨k, o, l, ⟨a1, a2, a3, a4, a5, a6, a7, ag, al⟩, ⟨yc, ym, ye, yn⟩⟩ ⟨k2, o2, l2, ⟨b1, b2, b3, b4, b5, b6, b7, ag2, al2⟩, ⟨yc2, ym2, ye2, yn2⟩⟩ = (decide (k = k2) && (decide (o = o2) && (decide (l = l2) && (sameA ⟨a1, a2, a3, a4, a5, a6, a7, ag, al⟩ ⟨b1, b2, b3, b4, b5, b6, b7, ag2, al2⟩ && sameY ⟨yc, ym, ye, yn⟩ ⟨yc2, ym2, ye2, yn2⟩)))) := rfl
  obtain ⟨hbx, hbz, hb⟩ := two_mails w #[.int .i64 k, .int .i64 o, .slice A l.length cap, .int .i64 a1, .int .i64 a2, .int .i64 a3, .int .i64 a4, .int .i64 a5, .int .i64 a6, .int .i64 a7, .string ⟨ag.toArray⟩, .slice B al.length capb, .int .i64 yc, .int .i64 ym, .int .i64 ye, .int .i64 yn] #[.int .i64 k2, .int .i64 o2, .slice A2 l2.length cap2, .int .i64 b1, .int .i64 b2, .int .i64 b3, .int .i64 b4, .int .i64 b5, .int .i64 b6, .int .i64 b7, .string ⟨ag2.toArray⟩, .slice B2 al2.length capb2, .int .i64 yc2, .int .i64 ym2, .int .i64 ye2, .int .i64 yn2]
  have hil := (hl.alloc (.cells #[.int .i64 k, .int .i64 o, .slice A l.length cap, .int .i64 a1, .int .i64 a2, .int .i64 a3, .int .i64 a4, .int .i64 a5, .int .i64 a6, .int .i64 a7, .string ⟨ag.toArray⟩, .slice B al.length capb, .int .i64 yc, .int .i64 ym, .int .i64 ye, .int .i64 yn] 29)).alloc (.cells #[.int .i64 k2, .int .i64 o2, .slice A2 l2.length cap2, .int .i64 b1, .int .i64 b2, .int .i64 b3, .int .i64 b4, .int .i64 b5, .int .i64 b6, .int .i64 b7, .string ⟨ag2.toArray⟩, .slice B2 al2.length capb2, .int .i64 yc2, .int .i64 ym2, .int .i64 ye2, .int .i64 yn2] 29)
  have hial := (hal.alloc (.cells #[.int .i64 k, .int .i64 o, .slice A l.length cap, .int .i64 a1, .int .i64 a2, .int .i64 a3, .int .i64 a4, .int .i64 a5, .int .i64 a6, .int .i64 a7, .string ⟨ag.toArray⟩, .slice B al.length capb, .int .i64 yc, .int .i64 ym, .int .i64 ye, .int .i64 yn] 29)).alloc (.cells #[.int .i64 k2, .int .i64 o2, .slice A2 l2.length cap2, .int .i64 b1, .int .i64 b2, .int .i64 b3, .int .i64 b4, .int .i64 b5, .int .i64 b6, .int .i64 b7, .string ⟨ag2.toArray⟩, .slice B2 al2.length capb2, .int .i64 yc2, .int .i64 ym2, .int .i64 ye2, .int .i64 yn2] 29)
  have hil2 := (hl2.alloc (.cells #[.int .i64 k, .int .i64 o, .slice A l.length cap, .int .i64 a1, .int .i64 a2, .int .i64 a3, .int .i64 a4, .int .i64 a5, .int .i64 a6, .int .i64 a7, .string ⟨ag.toArray⟩, .slice B al.length capb, .int .i64 yc, .int .i64 ym, .int .i64 ye, .int .i64 yn] 29)).alloc (.cells #[.int .i64 k2, .int .i64 o2, .slice A2 l2.length cap2, .int .i64 b1, .int .i64 b2, .int .i64 b3, .int .i64 b4, .int .i64 b5, .int .i64 b6, .int .i64 b7, .string ⟨ag2.toArray⟩, .slice B2 al2.length capb2, .int .i64 yc2, .int .i64 ym2, .int .i64 ye2, .int .i64 yn2] 29)
  have hial2 := (hal2.alloc (.cells #[.int .i64 k, .int .i64 o, .slice A l.length cap, .int .i64 a1, .int .i64 a2, .int .i64 a3, .int .i64 a4, .int .i64 a5, .int .i64 a6, .int .i64 a7, .string ⟨ag.toArray⟩, .slice B al.length capb, .int .i64 yc, .int .i64 ym, .int .i64 ye, .int .i64 yn] 29)).alloc (.cells #[.int .i64 k2, .int .i64 o2, .slice A2 l2.length cap2, .int .i64 b1, .int .i64 b2, .int .i64 b3, .int .i64 b4, .int .i64 b5, .int .i64 b6, .int .i64 b7, .string ⟨ag2.toArray⟩, .slice B2 al2.length capb2, .int .i64 yc2, .int .i64 ym2, .int .i64 ye2, .int .i64 yn2] 29)
  clear hl hal hl2 hal2
  obtain ⟨v1, q1⟩ : ∃ b, decide (k = k2) = b := ⟨_, rfl⟩
  obtain ⟨v2, q2⟩ : ∃ b, decide (o = o2) = b := ⟨_, rfl⟩
  obtain ⟨v3, q3⟩ : ∃ b, decide (l = l2) = b := ⟨_, rfl⟩
  obtain ⟨v4, q4⟩ : ∃ b, sameA ⟨a1, a2, a3, a4, a5, a6, a7, ag, al⟩ ⟨b1, b2, b3, b4, b5, b6, b7, ag2, al2⟩ = b := ⟨_, rfl⟩
  obtain ⟨v5, q5⟩ : ∃ b, sameY ⟨yc, ym, ye, yn⟩ ⟨yc2, ym2, ye2, yn2⟩ = b := ⟨_, rfl⟩
  have e1 : (k == k2) = v1 := by rw [← q1]; by_cases h : k = k2 <;> simp [h]
  have e2 : (o == o2) = v2 := by rw [← q2]; by_cases h : o = o2 <;> simp [h]
  have e5 := run_ans_eql ⟨yc, ym, ye, yn⟩ ⟨yc2, ym2, ye2, yn2⟩ v5 q5
  dsimp only at e5
  rw [q1, q2, q3, q4, q5] at hS
  rw [hS]
  clear hS q1 q2 q5
  unfold MV.v MV.cs
  dsimp only
  have hSx := boxM hbx
  have hSz := boxM hbz
  cases v1 with
  | false =>
    go_enter Try.func13, Try.ntmps13
    go_wp2
    go_ret
    exact ⟨rfl, hb⟩
  | true =>
  cases v2 with
  | false =>
    go_enter Try.func13, Try.ntmps13
    go_wp2
    go_ret
    exact ⟨rfl, hb⟩
  | true =>
  go_enter Try.func13, Try.ntmps13
  go_wp2_with fail
  refine (same_b A A2 l.length cap l2.length cap2 l l2 _ hil hil2 hn).mono ?_
  rintro e w1 ⟨rfl, hx⟩
  rw [q3]
  have hb1 := hb.trans (hx.mono hb.size)
  have hbx1 := hbx.kept (Keep.of_below hx) (fun h => absurd hbx.lt (Nat.not_lt.2 h))
  have hbz1 := hbz.kept (Keep.of_below hx) (fun h => absurd hbz.lt (Nat.not_lt.2 h))
  have hial1 := hial.below hx
  have hial21 := hial2.below hx
  clear hSx hSz hbx hbz hial hial2 hil hil2 hb
  have hSx := boxM hbx1
  have hSz := boxM hbz1
  cases v3 with
  | false =>
    go_wp2
    go_ret
    exact ⟨rfl, hb1⟩
  | true =>
  have key := rsame_any ⟨a1, a2, a3, a4, a5, a6, a7, ag, al⟩ ⟨b1, b2, b3, b4, b5, b6, b7, ag2, al2⟩ B B2 capb capb2 w1 hial1 hial21 hn2
  rw [q4] at key
  unfold AV.v at key
  dsimp only at key
  go_wp2_with fail
  refine key.mono ?_
  rintro e w2 ⟨rfl, hx2⟩
  clear key
  have hb2 := hb1.trans (hx2.mono hb1.size)
  have hbx2 := hbx1.kept (Keep.of_below hx2) (fun h => absurd hbx1.lt (Nat.not_lt.2 h))
  have hbz2 := hbz1.kept (Keep.of_below hx2) (fun h => absurd hbz1.lt (Nat.not_lt.2 h))
  clear hSx hSz hbx1 hbz1
  have hSx := boxM hbx2
  have hSz := boxM hbz2
  cases v4 with
  | false =>
    go_wp2
    go_ret
    exact ⟨rfl, hb2⟩
  | true =>
  have e5' := e5 w2
  go_wp2
  go_ret
  exact ⟨rfl, hb2⟩
end Go.Proofs.Ytpfkhalomnfcfaa
