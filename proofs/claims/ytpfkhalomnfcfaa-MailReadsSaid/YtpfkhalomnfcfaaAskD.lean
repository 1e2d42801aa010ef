/- ask.Decode. No condition but that the bytes lie in memory. -/
import Derived.Test.YtpfkhalomnfcfaaAskS
import Derived.LoopN
namespace Go.Proofs.Ytpfkhalomnfcfaa
open Go.RowKit Go.Maps Go.Shelf
set_option linter.unusedVariables false
set_option linter.unusedSimpArgs false

/-- What is taken of bytes as a request. -/
structure Taken (b : List UInt8) (x : AV) (s : Option (List UInt8)) (s1 s2 s3 s4 s5 s6 s7 s8 : Option (List UInt8)) : Prop where
  e1 : tnum (some b) (-9223372036854775808) 9223372036854775807 = (x.c, s1)
  e2 : tnum s1 (-9223372036854775808) 9223372036854775807 = (x.m, s2)
  e3 : tnum s2 (-9223372036854775808) 9223372036854775807 = (x.k, s3)
  e4 : tnum s3 (-9223372036854775808) 9223372036854775807 = (x.o, s4)
  e5 : tnum s4 (-9223372036854775808) 9223372036854775807 = (x.r, s5)
  e6 : tnum s5 (-9223372036854775808) 9223372036854775807 = (x.t, s6)
  e7 : tnum s6 (-9223372036854775808) 9223372036854775807 = (x.n, s7)
  e8 : ttext s7 16 = (x.g, s8)
  e9 : takeL s8 = (x.l, s)
def nextN (st : Option (List UInt8)) : Int × Option (List UInt8) := tnum st (-9223372036854775808) 9223372036854775807
def takeA (b : List UInt8) : AV × Option (List UInt8) :=
  match nextN (some b) with
  | (c, s1) => match nextN s1 with
    | (m, s2) => match nextN s2 with
      | (k, s3) => match nextN s3 with
        | (o, s4) => match nextN s4 with
          | (r, s5) => match nextN s5 with
            | (t, s6) => match nextN s6 with
              | (n, s7) => match ttext s7 16 with
                | (g, s8) => match takeL s8 with
                  | (l, s9) => (⟨c, m, k, o, r, t, n, g, l⟩, s9)
def decA (b : List UInt8) : Option AV := if (takeA b).2 = some [] then (if mayA (takeA b).1 = true then some (takeA b).1 else none) else none
theorem Taken.eq {b : List UInt8} {x : AV} {s s1 s2 s3 s4 s5 s6 s7 s8 : Option (List UInt8)} (h : Taken b x s s1 s2 s3 s4 s5 s6 s7 s8) : takeA b = (x, s) := by
  obtain ⟨e1, e2, e3, e4, e5, e6, e7, e8, e9⟩ := h
  unfold takeA nextN
  rw [e1]
  dsimp only
  rw [e2]
  dsimp only
  rw [e3]
  dsimp only
  rw [e4]
  dsimp only
  rw [e5]
  dsimp only
  rw [e6]
  dsimp only
  rw [e7]
  dsimp only
  rw [e8]
  dsimp only
  rw [e9]
theorem Taken.ex (b : List UInt8) : ∃ x s s1 s2 s3 s4 s5 s6 s7 s8, Taken b x s s1 s2 s3 s4 s5 s6 s7 s8 := by
  obtain ⟨c, s1, e1⟩ : ∃ c s, tnum (some b) (-9223372036854775808) 9223372036854775807 = (c, s) := ⟨_, _, rfl⟩
  obtain ⟨m, s2, e2⟩ : ∃ c s, tnum s1 (-9223372036854775808) 9223372036854775807 = (c, s) := ⟨_, _, rfl⟩
  obtain ⟨k, s3, e3⟩ : ∃ c s, tnum s2 (-9223372036854775808) 9223372036854775807 = (c, s) := ⟨_, _, rfl⟩
  obtain ⟨o, s4, e4⟩ : ∃ c s, tnum s3 (-9223372036854775808) 9223372036854775807 = (c, s) := ⟨_, _, rfl⟩
  obtain ⟨r, s5, e5⟩ : ∃ c s, tnum s4 (-9223372036854775808) 9223372036854775807 = (c, s) := ⟨_, _, rfl⟩
  obtain ⟨t, s6, e6⟩ : ∃ c s, tnum s5 (-9223372036854775808) 9223372036854775807 = (c, s) := ⟨_, _, rfl⟩
  obtain ⟨n, s7, e7⟩ : ∃ c s, tnum s6 (-9223372036854775808) 9223372036854775807 = (c, s) := ⟨_, _, rfl⟩
  obtain ⟨g, s8, e8⟩ : ∃ c s, ttext s7 16 = (c, s) := ⟨_, _, rfl⟩
  obtain ⟨l, s9, e9⟩ : ∃ c s, takeL s8 = (c, s) := ⟨_, _, rfl⟩
  exact ⟨⟨c, m, k, o, r, t, n, g, l⟩, s9, s1, s2, s3, s4, s5, s6, s7, s8, e1, e2, e3, e4, e5, e6, e7, e8, e9⟩
theorem Taken.dec {b : List UInt8} {x : AV} {s s1 s2 s3 s4 s5 s6 s7 s8 : Option (List UInt8)} (h : Taken b x s s1 s2 s3 s4 s5 s6 s7 s8) : decA b = if s = some [] then (if mayA x = true then some x else none) else none := by
  unfold decA
  rw [h.eq]
def x0 : AV := ⟨0, 0, 0, 0, 0, 0, 0, [], []⟩
def zeroA : Array Value := #[.int .i64 0, .int .i64 0, .int .i64 0, .int .i64 0, .int .i64 0, .int .i64 0, .int .i64 0, .string ⟨#[]⟩, .slice none 0 0]
def ptrs (B : Nat) : Array Value := #[.pointer (some ⟨B, 0, none⟩), .pointer (some ⟨B, 1, none⟩), .pointer (some ⟨B, 2, none⟩), .pointer (some ⟨B, 3, none⟩), .pointer (some ⟨B, 4, none⟩), .pointer (some ⟨B, 5, none⟩), .pointer (some ⟨B, 6, none⟩)]

/-- A taker, a request that is being filled, its result. -/
structure DS (w w1 : World) (g : Nat) (cs : Array Value) (W : World) (A : Option Addr) (c : Nat) (st : Option (List UInt8)) : Prop where
  pt : PT W g A c st
  old : OldA w1.heap.size A st
  bel : Below w.heap.size w W
  ba : Blk W w1.heap.size 24 cs
  bp : Blk W (w1.heap.size + 1) 106 (ptrs w1.heap.size)
  b0 : Blk W w.heap.size 24 zeroA
  g0 : w.heap.size < g
  g1 : g < w1.heap.size
section
variable {w w1 : World} {g : Nat} {cs : Array Value} {W W' : World} {A A' : Option Addr} {c c' : Nat} {st st' : Option (List UInt8)}
theorem DS.step (h : DS w w1 g cs W A c st) (ht : PT W' g A' c' st') (hk : Keep (fun k => k = g) W W') (hs : SameBlock A A') (hl : (st'.getD []).length ≤ (st.getD []).length) : DS w w1 g cs W' A' c' st' := by
  have h0 := h.g0
  have h1 := h.g1
  refine ⟨ht, h.old.next hs hl, h.bel.trans (hk.below (B := w.heap.size) h.bel.size (fun k hk e => by omega)), h.ba.kept hk (by omega), h.bp.kept hk (by omega), h.b0.kept hk (by omega), h0, h1⟩
theorem DS.put (h : DS w w1 g cs W A c st) (i : Nat) (u : Value) : DS w w1 g (cs.setIfInBounds i u) (W.setCell ⟨w1.heap.size, i, none⟩ u) A c st := by
  have h0 := h.g0
  have h1 := h.g1
  have hk : Keep (fun k => k = w1.heap.size) W (W.setCell ⟨w1.heap.size, i, none⟩ u) := (Keep.refl (fun k => k = w1.heap.size) W).setCell (p := ⟨w1.heap.size, i, none⟩) (fun _ => rfl) u
  refine ⟨h.pt.keep h.old hk (by omega) (fun j hj => by omega), h.old, h.bel.trans (hk.below (B := w.heap.size) h.bel.size (fun k hk e => by omega)), h.ba.set_ i u, h.bp.kept hk (by omega), h.b0.kept hk (by omega), h0, h1⟩
end
theorem fill9 {W : World} {B : Nat} {t : TypeId} {a0 a1 a2 a3 a4 a5 a6 a7 a8 : Value} (h : Blk W B t #[a0, a1, a2, a3, a4, a5, a6, a7, a8]) (b0 b1 b2 b3 b4 b5 b6 b7 b8 : Value) : Blk (((((((((W.setCell ⟨B, 0, none⟩ b0).setCell ⟨B, 1, none⟩ b1).setCell ⟨B, 2, none⟩ b2).setCell ⟨B, 3, none⟩ b3).setCell ⟨B, 4, none⟩ b4).setCell ⟨B, 5, none⟩ b5).setCell ⟨B, 6, none⟩ b6).setCell ⟨B, 7, none⟩ b7).setCell ⟨B, 8, none⟩ b8) B t #[b0, b1, b2, b3, b4, b5, b6, b7, b8] := by
  simpa using (((((((((h.set_ 0 b0).set_ 1 b1).set_ 2 b2).set_ 3 b3).set_ 4 b4).set_ 5 b5).set_ 6 b6).set_ 7 b7).set_ 8 b8)
theorem Keep.at_ {w0 W : World} {B : Nat} (h : Keep (fun k => k = B) w0 W) (i : Nat) (u : Value) : Keep (fun k => k = B) w0 (W.setCell ⟨B, i, none⟩ u) := h.setCell (p := ⟨B, i, none⟩) (fun _ => rfl) u
theorem keep9 (W : World) (B : Nat) (b0 b1 b2 b3 b4 b5 b6 b7 b8 : Value) : Keep (fun k => k = B) W (((((((((W.setCell ⟨B, 0, none⟩ b0).setCell ⟨B, 1, none⟩ b1).setCell ⟨B, 2, none⟩ b2).setCell ⟨B, 3, none⟩ b3).setCell ⟨B, 4, none⟩ b4).setCell ⟨B, 5, none⟩ b5).setCell ⟨B, 6, none⟩ b6).setCell ⟨B, 7, none⟩ b7).setCell ⟨B, 8, none⟩ b8) :=
  (((((((((Keep.refl _ W).at_ 0 b0).at_ 1 b1).at_ 2 b2).at_ 3 b3).at_ 4 b4).at_ 5 b5).at_ 6 b6).at_ 7 b7).at_ 8 b8
/-- What any bytes are as a request. -/
def DecAPost (r : Option AV) (w : World) (e : Ending) (w' : World) : Prop :=
  Below w.heap.size w w' ∧ match r with
    | none => e = .returned (.tuple #[x0.v none 0, .int .i64 10])
    | some x => ∃ A cap, e = .returned (.tuple #[x.v A cap, .int .i64 0]) ∧ IL w' A x.l.length x.l

set_option maxRecDepth 100000 in
set_option maxHeartbeats 6400000 in
theorem askdecode_any (A : Option Addr) (n c : Nat) (b : List UInt8) (w : World) (hr : RB w A n b) (hn : n ≤ 140737488355328) :
    Calls Try.prog 40 #[.slice A n c] w (DecAPost (decA b) w) := by
  obtain ⟨x, s9, s1, s2, s3, s4, s5, s6, s7, s8, HT⟩ := Taken.ex b
  have HD := Lib.hid HT.dec
  have hlen1 : (s1.getD []).length ≤ b.length := by have := tnum_len (some b) (-9223372036854775808) 9223372036854775807; rw [HT.e1] at this; exact this
  have hlen2 : (s2.getD []).length ≤ (s1.getD []).length := by have := tnum_len s1 (-9223372036854775808) 9223372036854775807; rw [HT.e2] at this; exact this
  have hlen3 : (s3.getD []).length ≤ (s2.getD []).length := by have := tnum_len s2 (-9223372036854775808) 9223372036854775807; rw [HT.e3] at this; exact this
  have hlen4 : (s4.getD []).length ≤ (s3.getD []).length := by have := tnum_len s3 (-9223372036854775808) 9223372036854775807; rw [HT.e4] at this; exact this
  have hlen5 : (s5.getD []).length ≤ (s4.getD []).length := by have := tnum_len s4 (-9223372036854775808) 9223372036854775807; rw [HT.e5] at this; exact this
  have hlen6 : (s6.getD []).length ≤ (s5.getD []).length := by have := tnum_len s5 (-9223372036854775808) 9223372036854775807; rw [HT.e6] at this; exact this
  have hlen7 : (s7.getD []).length ≤ (s6.getD []).length := by have := tnum_len s6 (-9223372036854775808) 9223372036854775807; rw [HT.e7] at this; exact this
  have hlen8 : (s8.getD []).length ≤ (s7.getD []).length := by have := ttext_len s7 16; rw [HT.e8] at this; exact this
  have K1 := fun W g A' c' h => tnum_any W g A' c' (some b) (-9223372036854775808) 9223372036854775807 h
  rw [HT.e1] at K1
  replace K1 := Lib.hid K1
  have K2 := fun W g A' c' h => tnum_any W g A' c' s1 (-9223372036854775808) 9223372036854775807 h
  rw [HT.e2] at K2
  replace K2 := Lib.hid K2
  have K3 := fun W g A' c' h => tnum_any W g A' c' s2 (-9223372036854775808) 9223372036854775807 h
  rw [HT.e3] at K3
  replace K3 := Lib.hid K3
  have K4 := fun W g A' c' h => tnum_any W g A' c' s3 (-9223372036854775808) 9223372036854775807 h
  rw [HT.e4] at K4
  replace K4 := Lib.hid K4
  have K5 := fun W g A' c' h => tnum_any W g A' c' s4 (-9223372036854775808) 9223372036854775807 h
  rw [HT.e5] at K5
  replace K5 := Lib.hid K5
  have K6 := fun W g A' c' h => tnum_any W g A' c' s5 (-9223372036854775808) 9223372036854775807 h
  rw [HT.e6] at K6
  replace K6 := Lib.hid K6
  have K7 := fun W g A' c' h => tnum_any W g A' c' s6 (-9223372036854775808) 9223372036854775807 h
  rw [HT.e7] at K7
  replace K7 := Lib.hid K7
  have K8 := fun W g A' c' h => ttext_any W g A' c' s7 16 h
  rw [HT.e8] at K8
  replace K8 := Lib.hid K8
  have K9 := fun W g A' c' h => itake_any W g A' c' s8 h
  rw [HT.e9] at K9
  replace K9 := Lib.hid K9
  have hlen9 : (s9.getD []).length ≤ (s8.getD []).length := by
    cases hs9 : s9 with
    | none => simp
    | some r9 =>
      have h9 := HT.e9
      rw [hs9] at h9
      rw [(takeL_some h9).2]
      simp
  replace HT := Lib.hid HT
  clear HT
  obtain ⟨xc, xm, xk, xo, xr, xt, xn, xg, xl⟩ := x
  dsimp only at K1 K2 K3 K4 K5 K6 K7 K8 K9 HD
  go_enter Try.func40, Try.ntmps40
  go_wp2_with fail
  refine (take_any A n c b _ (hr.alloc _) hn).mono ?_
  rintro e w1 ⟨g, A1, c1, rfl, hg1, ht1, hb1, hA1⟩
  have hg0 : w.heap.size < g := by have := hg1; simp at this; omega
  have h00 : DS w w1 g zeroA ((w1.alloc (.cells zeroA 24)).alloc (.cells (ptrs w1.heap.size) 106)) A1 c1 (some b) := by
    have hz : w.heap.size + 1 ≤ w1.heap.size := by have := hb1.size; simpa using this
    have k : Keep (fun _ => False) w1 ((w1.alloc (.cells zeroA 24)).alloc (.cells (ptrs w1.heap.size) 106)) := ((Keep.refl _ w1).alloc _).alloc _
    have hbw : Below w.heap.size w w1 := ((Below.refl w.heap.size w).alloc (Nat.le_refl _) (.cells zeroA 24)).trans (hb1.mono (by simp))
    refine ⟨ht1.keep ht1.lt k id (fun _ _ => id), ht1.lt, hbw.trans (k.below (by omega) (fun _ _ => id)), (Blk.new _ _ _).alloc _, ?_, ((Blk.new w 24 zeroA).kept (Keep.of_below hb1) (by simp)).kept k id, hg0, ht1.blk.lt⟩
    have := Blk.new (w1.alloc (.cells zeroA 24)) 106 (ptrs w1.heap.size)
    simpa using this
  go_wp2_with fail
  refine wp_loop_rounds 9 ?_
  rw [rounds_succ]
  have hp1 := h00.bp.cell 0
  simp [ptrs] at hp1
  go_wp2_with fail
  refine (K1.out _ g _ _ h00.pt).mono ?_
  rintro e W1 ⟨A2, c2, rfl, ht, hk, hs⟩
  have hd := h00.step ht hk hs hlen1
  have hf1 := hd.ba.frozen 0
  have hc1 := hd.ba.cell 0
  simp [zeroA] at hc1
  have h1 : DS w w1 g #[.int .i64 xc, .int .i64 0, .int .i64 0, .int .i64 0, .int .i64 0, .int .i64 0, .int .i64 0, .string ⟨#[]⟩, .slice none 0 0] (W1.setCell ⟨w1.heap.size, 0, none⟩ (.int .i64 xc)) A2 c2 s1 := by simpa [zeroA] using hd.put 0 (.int .i64 xc)
  clear ht hk hs hd K1 hlen1 h00
  go_wp2_with fail
  clear hp1 hf1 hc1
  rw [rounds_succ]
  have hp2 := h1.bp.cell 1
  simp [ptrs] at hp2
  go_wp2_with fail
  refine (K2.out _ g _ _ h1.pt).mono ?_
  rintro e W2 ⟨A3, c3, rfl, ht, hk, hs⟩
  have hd := h1.step ht hk hs hlen2
  have hf2 := hd.ba.frozen 1
  have hc2 := hd.ba.cell 1
  simp [zeroA] at hc2
  have h2 : DS w w1 g #[.int .i64 xc, .int .i64 xm, .int .i64 0, .int .i64 0, .int .i64 0, .int .i64 0, .int .i64 0, .string ⟨#[]⟩, .slice none 0 0] (W2.setCell ⟨w1.heap.size, 1, none⟩ (.int .i64 xm)) A3 c3 s2 := by simpa [zeroA] using hd.put 1 (.int .i64 xm)
  clear ht hk hs hd K2 hlen2 h1
  go_wp2_with fail
  clear hp2 hf2 hc2
  rw [rounds_succ]
  have hp3 := h2.bp.cell 2
  simp [ptrs] at hp3
  go_wp2_with fail
  refine (K3.out _ g _ _ h2.pt).mono ?_
  rintro e W3 ⟨A4, c4, rfl, ht, hk, hs⟩
  have hd := h2.step ht hk hs hlen3
  have hf3 := hd.ba.frozen 2
  have hc3 := hd.ba.cell 2
  simp [zeroA] at hc3
  have h3 : DS w w1 g #[.int .i64 xc, .int .i64 xm, .int .i64 xk, .int .i64 0, .int .i64 0, .int .i64 0, .int .i64 0, .string ⟨#[]⟩, .slice none 0 0] (W3.setCell ⟨w1.heap.size, 2, none⟩ (.int .i64 xk)) A4 c4 s3 := by simpa [zeroA] using hd.put 2 (.int .i64 xk)
  clear ht hk hs hd K3 hlen3 h2
  go_wp2_with fail
  clear hp3 hf3 hc3
  rw [rounds_succ]
  have hp4 := h3.bp.cell 3
  simp [ptrs] at hp4
  go_wp2_with fail
  refine (K4.out _ g _ _ h3.pt).mono ?_
  rintro e W4 ⟨A5, c5, rfl, ht, hk, hs⟩
  have hd := h3.step ht hk hs hlen4
  have hf4 := hd.ba.frozen 3
  have hc4 := hd.ba.cell 3
  simp [zeroA] at hc4
  have h4 : DS w w1 g #[.int .i64 xc, .int .i64 xm, .int .i64 xk, .int .i64 xo, .int .i64 0, .int .i64 0, .int .i64 0, .string ⟨#[]⟩, .slice none 0 0] (W4.setCell ⟨w1.heap.size, 3, none⟩ (.int .i64 xo)) A5 c5 s4 := by simpa [zeroA] using hd.put 3 (.int .i64 xo)
  clear ht hk hs hd K4 hlen4 h3
  go_wp2_with fail
  clear hp4 hf4 hc4
  rw [rounds_succ]
  have hp5 := h4.bp.cell 4
  simp [ptrs] at hp5
  go_wp2_with fail
  refine (K5.out _ g _ _ h4.pt).mono ?_
  rintro e W5 ⟨A6, c6, rfl, ht, hk, hs⟩
  have hd := h4.step ht hk hs hlen5
  have hf5 := hd.ba.frozen 4
  have hc5 := hd.ba.cell 4
  simp [zeroA] at hc5
  have h5 : DS w w1 g #[.int .i64 xc, .int .i64 xm, .int .i64 xk, .int .i64 xo, .int .i64 xr, .int .i64 0, .int .i64 0, .string ⟨#[]⟩, .slice none 0 0] (W5.setCell ⟨w1.heap.size, 4, none⟩ (.int .i64 xr)) A6 c6 s5 := by simpa [zeroA] using hd.put 4 (.int .i64 xr)
  clear ht hk hs hd K5 hlen5 h4
  go_wp2_with fail
  clear hp5 hf5 hc5
  rw [rounds_succ]
  have hp6 := h5.bp.cell 5
  simp [ptrs] at hp6
  go_wp2_with fail
  refine (K6.out _ g _ _ h5.pt).mono ?_
  rintro e W6 ⟨A7, c7, rfl, ht, hk, hs⟩
  have hd := h5.step ht hk hs hlen6
  have hf6 := hd.ba.frozen 5
  have hc6 := hd.ba.cell 5
  simp [zeroA] at hc6
  have h6 : DS w w1 g #[.int .i64 xc, .int .i64 xm, .int .i64 xk, .int .i64 xo, .int .i64 xr, .int .i64 xt, .int .i64 0, .string ⟨#[]⟩, .slice none 0 0] (W6.setCell ⟨w1.heap.size, 5, none⟩ (.int .i64 xt)) A7 c7 s6 := by simpa [zeroA] using hd.put 5 (.int .i64 xt)
  clear ht hk hs hd K6 hlen6 h5
  go_wp2_with fail
  clear hp6 hf6 hc6
  rw [rounds_succ]
  have hp7 := h6.bp.cell 6
  simp [ptrs] at hp7
  go_wp2_with fail
  refine (K7.out _ g _ _ h6.pt).mono ?_
  rintro e W7 ⟨A8, c8, rfl, ht, hk, hs⟩
  have hd := h6.step ht hk hs hlen7
  have hf7 := hd.ba.frozen 6
  have hc7 := hd.ba.cell 6
  simp [zeroA] at hc7
  have h7 : DS w w1 g #[.int .i64 xc, .int .i64 xm, .int .i64 xk, .int .i64 xo, .int .i64 xr, .int .i64 xt, .int .i64 xn, .string ⟨#[]⟩, .slice none 0 0] (W7.setCell ⟨w1.heap.size, 6, none⟩ (.int .i64 xn)) A8 c8 s7 := by simpa [zeroA] using hd.put 6 (.int .i64 xn)
  clear ht hk hs hd K7 hlen7 h6
  go_wp2_with fail
  clear hp7 hf7 hc7
  rw [rounds_succ]
  go_wp2_with fail
  refine (K8.out _ g _ _ h7.pt).mono ?_
  rintro e W8 ⟨A9, c9, rfl, ht, hk, hs⟩
  have hd := h7.step ht hk hs hlen8
  have hf7 := hd.ba.frozen 7
  have hc7 := hd.ba.cell 7
  simp [zeroA] at hc7
  have h8 : DS w w1 g #[.int .i64 xc, .int .i64 xm, .int .i64 xk, .int .i64 xo, .int .i64 xr, .int .i64 xt, .int .i64 xn, .string ⟨xg.toArray⟩, .slice none 0 0] (W8.setCell ⟨w1.heap.size, 7, none⟩ (.string ⟨xg.toArray⟩)) A9 c9 s8 := by simpa [zeroA] using hd.put 7 (.string ⟨xg.toArray⟩)
  clear ht hk hs hd K8 hlen8 h7
  rw [strV_eq]
  go_wp2_with fail
  clear hf7 hc7
  refine (K9.out _ g _ _ h8.pt).mono ?_
  rintro e W9 ⟨v9, A10, c10, rfl, hO, ht, hk, hs⟩
  obtain ⟨AL, cL, rfl, hl1, hl2, hil, hal⟩ := hO.form
  have hba8 := h8.ba.lt
  have hd := h8.step ht hk hs hlen9
  have hf8 := hd.ba.frozen 8
  have hc8 := hd.ba.cell 8
  simp [zeroA] at hc8
  have h9 : DS w w1 g #[.int .i64 xc, .int .i64 xm, .int .i64 xk, .int .i64 xo, .int .i64 xr, .int .i64 xt, .int .i64 xn, .string ⟨xg.toArray⟩, .slice AL xl.length cL] (W9.setCell ⟨w1.heap.size, 8, none⟩ (.slice AL xl.length cL)) A10 c10 s9 := by simpa [zeroA] using hd.put 8 (.slice AL xl.length cL)
  have hil9 : IL (W9.setCell ⟨w1.heap.size, 8, none⟩ (.slice AL xl.length cL)) AL xl.length xl := hil.kept ((Keep.refl (fun k => k = w1.heap.size) W9).setCell (p := ⟨w1.heap.size, 8, none⟩) (fun _ => rfl) _) (fun ad h1 h2 e => by have := (hal ad h1).1; omega)
  clear ht hk hs hd K9 hlen9 h8 hO hil
  go_wp2_with fail
  clear hf8 hc8
  generalize W9.setCell ⟨w1.heap.size, 8, none⟩ (.slice AL xl.length cL) = WF at h9 hil9 ⊢
  refine (tdone_any WF g A10 c10 s9 h9.pt).mono ?_
  rintro e w' ⟨rfl, rfl⟩
  have hS9 := boxS (c := xc) (m := xm) (k := xk) (o := xo) (r := xr) (t := xt) (n := xn) (g := xg) (l := xl) (A := AL) (cap := cL) h9.ba
  have hS0 := boxS (c := 0) (m := 0) (k := 0) (o := 0) (r := 0) (t := 0) (n := 0) (g := []) (l := []) (A := none) (cap := 0) h9.b0
  have hF0 := fun i => h9.b0.frozen i
  have hLEN : xl.length ≤ 9223372036854775807 := by unfold maxLen at hl2; omega
  have hbel := h9.bel
  by_cases hst : s9 = some []
  case neg =>
    have hd : tdoneN s9 = 10 := by unfold tdoneN; rw [if_neg hst]
    rw [hd]
    go_wp2
    have hbE := fill9 (h9.b0) (.int .i64 0) (.int .i64 0) (.int .i64 0) (.int .i64 0) (.int .i64 0) (.int .i64 0) (.int .i64 0) (.string ⟨#[]⟩) (.slice none 0 0)
    have hkE := keep9 WF w.heap.size (.int .i64 0) (.int .i64 0) (.int .i64 0) (.int .i64 0) (.int .i64 0) (.int .i64 0) (.int .i64 0) (.string ⟨#[]⟩) (.slice none 0 0)
    generalize (((((((((WF.setCell ⟨w.heap.size, 0, none⟩ (.int .i64 0)).setCell ⟨w.heap.size, 1, none⟩ (.int .i64 0)).setCell ⟨w.heap.size, 2, none⟩ (.int .i64 0)).setCell ⟨w.heap.size, 3, none⟩ (.int .i64 0)).setCell ⟨w.heap.size, 4, none⟩ (.int .i64 0)).setCell ⟨w.heap.size, 5, none⟩ (.int .i64 0)).setCell ⟨w.heap.size, 6, none⟩ (.int .i64 0)).setCell ⟨w.heap.size, 7, none⟩ (.string ⟨#[]⟩)).setCell ⟨w.heap.size, 8, none⟩ (.slice none 0 0)) = WE at hbE hkE ⊢
    have hE := boxS (c := 0) (m := 0) (k := 0) (o := 0) (r := 0) (t := 0) (n := 0) (g := []) (l := []) (A := none) (cap := 0) hbE
    clear hS0 hF0 hS9
    obtain ⟨j0, j1, j2, j3, j4, j5, j6, j7, j8⟩ := hE
    refine bodyPost_ret (v := .tuple #[.agg #[.int .i64 0, .int .i64 0, .int .i64 0, .int .i64 0, .int .i64 0, .int .i64 0, .int .i64 0, .string ⟨#[]⟩, .slice none 0 0], .int .i64 10]) (by simp [results, Try.results40, go_sem, j0, j1, j2, j3, j4, j5, j6, j7, j8]) rfl ?_
    refine ⟨hbel.trans (hkE.below (B := w.heap.size) hbel.size (fun k hk e => by omega)), ?_⟩
    rw [HD.out, if_neg hst]
    rfl
  have hd : tdoneN s9 = 0 := by unfold tdoneN; rw [if_pos hst]
  rw [hd]
  have hkey := askmay_any ⟨xc, xm, xk, xo, xr, xt, xn, xg, xl⟩ AL cL WF hil9 hLEN
  unfold AV.v at hkey
  dsimp only at hkey
  go_wp2_with fail
  refine hkey.mono ?_
  rintro e WG ⟨rfl, hxG⟩
  have hbG := h9.b0.kept (Keep.of_below hxG) (by have := h9.b0.lt; omega)
  have haG := h9.ba.kept (Keep.of_below hxG) (by have := h9.ba.lt; omega)
  have hilG := hil9.below hxG
  have hbelG := hbel.trans (hxG.mono hbel.size)
  have hS9 := boxS (c := xc) (m := xm) (k := xk) (o := xo) (r := xr) (t := xt) (n := xn) (g := xg) (l := xl) (A := AL) (cap := cL) haG
  have hS0 := boxS (c := 0) (m := 0) (k := 0) (o := 0) (r := 0) (t := 0) (n := 0) (g := []) (l := []) (A := none) (cap := 0) hbG
  have hF0 := fun i => hbG.frozen i
  clear hkey
  cases hm : mayA ⟨xc, xm, xk, xo, xr, xt, xn, xg, xl⟩ with
  | false =>
    go_wp2
    have hbE := fill9 (hbG) (.int .i64 0) (.int .i64 0) (.int .i64 0) (.int .i64 0) (.int .i64 0) (.int .i64 0) (.int .i64 0) (.string ⟨#[]⟩) (.slice none 0 0)
    have hkE := keep9 WG w.heap.size (.int .i64 0) (.int .i64 0) (.int .i64 0) (.int .i64 0) (.int .i64 0) (.int .i64 0) (.int .i64 0) (.string ⟨#[]⟩) (.slice none 0 0)
    generalize (((((((((WG.setCell ⟨w.heap.size, 0, none⟩ (.int .i64 0)).setCell ⟨w.heap.size, 1, none⟩ (.int .i64 0)).setCell ⟨w.heap.size, 2, none⟩ (.int .i64 0)).setCell ⟨w.heap.size, 3, none⟩ (.int .i64 0)).setCell ⟨w.heap.size, 4, none⟩ (.int .i64 0)).setCell ⟨w.heap.size, 5, none⟩ (.int .i64 0)).setCell ⟨w.heap.size, 6, none⟩ (.int .i64 0)).setCell ⟨w.heap.size, 7, none⟩ (.string ⟨#[]⟩)).setCell ⟨w.heap.size, 8, none⟩ (.slice none 0 0)) = WE at hbE hkE ⊢
    have hE := boxS (c := 0) (m := 0) (k := 0) (o := 0) (r := 0) (t := 0) (n := 0) (g := []) (l := []) (A := none) (cap := 0) hbE
    clear hS0 hF0 hS9
    obtain ⟨j0, j1, j2, j3, j4, j5, j6, j7, j8⟩ := hE
    refine bodyPost_ret (v := .tuple #[.agg #[.int .i64 0, .int .i64 0, .int .i64 0, .int .i64 0, .int .i64 0, .int .i64 0, .int .i64 0, .string ⟨#[]⟩, .slice none 0 0], .int .i64 10]) (by simp [results, Try.results40, go_sem, j0, j1, j2, j3, j4, j5, j6, j7, j8]) rfl ?_
    refine ⟨hbelG.trans (hkE.below (B := w.heap.size) hbelG.size (fun k hk e => by omega)), ?_⟩
    rw [HD.out, if_pos hst, if_neg (by rw [hm]; simp)]
    rfl
  | true =>
    go_wp2
    have hbE := fill9 (hbG) (.int .i64 xc) (.int .i64 xm) (.int .i64 xk) (.int .i64 xo) (.int .i64 xr) (.int .i64 xt) (.int .i64 xn) (.string ⟨xg.toArray⟩) (.slice AL xl.length cL)
    have hkE := keep9 WG w.heap.size (.int .i64 xc) (.int .i64 xm) (.int .i64 xk) (.int .i64 xo) (.int .i64 xr) (.int .i64 xt) (.int .i64 xn) (.string ⟨xg.toArray⟩) (.slice AL xl.length cL)
    generalize (((((((((WG.setCell ⟨w.heap.size, 0, none⟩ (.int .i64 xc)).setCell ⟨w.heap.size, 1, none⟩ (.int .i64 xm)).setCell ⟨w.heap.size, 2, none⟩ (.int .i64 xk)).setCell ⟨w.heap.size, 3, none⟩ (.int .i64 xo)).setCell ⟨w.heap.size, 4, none⟩ (.int .i64 xr)).setCell ⟨w.heap.size, 5, none⟩ (.int .i64 xt)).setCell ⟨w.heap.size, 6, none⟩ (.int .i64 xn)).setCell ⟨w.heap.size, 7, none⟩ (.string ⟨xg.toArray⟩)).setCell ⟨w.heap.size, 8, none⟩ (.slice AL xl.length cL)) = WE at hbE hkE ⊢
    have hE := boxS (c := xc) (m := xm) (k := xk) (o := xo) (r := xr) (t := xt) (n := xn) (g := xg) (l := xl) (A := AL) (cap := cL) hbE
    clear hS0 hF0 hS9
    obtain ⟨j0, j1, j2, j3, j4, j5, j6, j7, j8⟩ := hE
    refine bodyPost_ret (v := .tuple #[.agg #[.int .i64 xc, .int .i64 xm, .int .i64 xk, .int .i64 xo, .int .i64 xr, .int .i64 xt, .int .i64 xn, .string ⟨xg.toArray⟩, .slice AL xl.length cL], .int .i64 0]) (by simp [results, Try.results40, go_sem, j0, j1, j2, j3, j4, j5, j6, j7, j8]) rfl ?_
    refine ⟨hbelG.trans (hkE.below (B := w.heap.size) hbelG.size (fun k hk e => by omega)), ?_⟩
    rw [HD.out, if_pos hst, if_pos hm]
    exact ⟨AL, cL, rfl, hilG.kept hkE (fun ad h1 h2 e => by have := (hal ad h1).1; have := h9.g0; have := h9.g1; omega)⟩
end Go.Proofs.Ytpfkhalomnfcfaa
