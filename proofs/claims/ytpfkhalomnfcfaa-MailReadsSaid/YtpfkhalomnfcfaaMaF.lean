/- mail.Encode, whole; what is taken of bytes as mail. No condition but that its items lie in memory. -/
import Derived.Test.YtpfkhalomnfcfaaMaE
namespace Go.Proofs.Ytpfkhalomnfcfaa
open Go.RowKit Go.Maps Go.Shelf
set_option linter.unusedVariables false
set_option linter.unusedSimpArgs false

set_option maxRecDepth 100000 in
set_option maxHeartbeats 6400000 in
theorem menc_any (x : MV) (A : Option Addr) (cap : Nat) (B : Option Addr) (capb : Nat) (w : World) (hl : IL w A x.l.length x.l) (hal : IL w B x.a.l.length x.a.l) (hn : x.l.length ≤ 9223372036854775807) (hn2 : x.a.l.length ≤ 9223372036854775807) (hyn : -9223372036854775808 ≤ x.y.n ∧ x.y.n ≤ 9223372036854775807) :
    Calls Try.prog 8 #[x.v A cap B capb] w (EncPost (mayM x) (encM x) 1 w) := by
  cases hx : mayM x with
  | true =>
    cases h3 : hasB (hasM x.k) 97 with
    | true =>
      cases h4 : hasB (hasM x.k) 121 with
      | true => exact menc_TT x A cap B capb w hl hal hn hn2 hx h3 h4 hyn
      | false => exact menc_TF x A cap B capb w hl hal hn hn2 hx h3 h4 hyn
    | false =>
      cases h4 : hasB (hasM x.k) 121 with
      | true => exact menc_FT x A cap B capb w hl hal hn hn2 hx h3 h4 hyn
      | false => exact menc_FF x A cap B capb w hl hal hn hn2 hx h3 h4 hyn
  | false =>
    have key1 := fun W h1 h2 => mmay_any x A cap B capb W h1 h2 hn hn2
    rw [hx] at key1
    obtain ⟨k, o, l, ⟨a1, a2, a3, a4, a5, a6, a7, ag, al⟩, ⟨yc, ym, ye, yn⟩⟩ := x
    dsimp only at hl hal
    have hbx0 : Blk (w.alloc (.cells #[.int .i64 k, .int .i64 o, .slice A l.length cap, .int .i64 a1, .int .i64 a2, .int .i64 a3, .int .i64 a4, .int .i64 a5, .int .i64 a6, .int .i64 a7, .string ⟨ag.toArray⟩, .slice B al.length capb, .int .i64 yc, .int .i64 ym, .int .i64 ye, .int .i64 yn] 29)) w.heap.size 29 #[.int .i64 k, .int .i64 o, .slice A l.length cap, .int .i64 a1, .int .i64 a2, .int .i64 a3, .int .i64 a4, .int .i64 a5, .int .i64 a6, .int .i64 a7, .string ⟨ag.toArray⟩, .slice B al.length capb, .int .i64 yc, .int .i64 ym, .int .i64 ye, .int .i64 yn] := Blk.new _ _ _
    have hb0 := (Below.refl w.heap.size w).alloc (Nat.le_refl _) (.cells #[.int .i64 k, .int .i64 o, .slice A l.length cap, .int .i64 a1, .int .i64 a2, .int .i64 a3, .int .i64 a4, .int .i64 a5, .int .i64 a6, .int .i64 a7, .string ⟨ag.toArray⟩, .slice B al.length capb, .int .i64 yc, .int .i64 ym, .int .i64 ye, .int .i64 yn] 29)
    have key2 := key1 _ (hl.alloc (.cells #[.int .i64 k, .int .i64 o, .slice A l.length cap, .int .i64 a1, .int .i64 a2, .int .i64 a3, .int .i64 a4, .int .i64 a5, .int .i64 a6, .int .i64 a7, .string ⟨ag.toArray⟩, .slice B al.length capb, .int .i64 yc, .int .i64 ym, .int .i64 ye, .int .i64 yn] 29)) (hal.alloc (.cells #[.int .i64 k, .int .i64 o, .slice A l.length cap, .int .i64 a1, .int .i64 a2, .int .i64 a3, .int .i64 a4, .int .i64 a5, .int .i64 a6, .int .i64 a7, .string ⟨ag.toArray⟩, .slice B al.length capb, .int .i64 yc, .int .i64 ym, .int .i64 ye, .int .i64 yn] 29))
    clear key1
    unfold MV.v MV.cs at key2
    dsimp only at key2
    have hS := boxM hbx0
    unfold MV.v MV.cs
    dsimp only
    go_enter Try.func8, Try.ntmps8
    go_wp2_with fail
    refine key2.mono ?_
    rintro e w1 ⟨rfl, hx1⟩
    go_wp2
    go_ret2
    exact ⟨hb0.trans (hx1.mono hb0.size), rfl⟩

theorem takeNum_any (w : World) (g : Nat) (A : Option Addr) (c : Nat) (st : Option (List UInt8)) (h : PT w g A c st) :
    Calls Try.prog 37 #[.pointer (some ⟨g, 0, none⟩)] w (TPost w g A (nextN st).2 (.int .i64 (nextN st).1)) := by
  go_enter Try.func37, Try.ntmps37
  go_wp2_with fail
  refine (tnum_any w g A c st (-9223372036854775808) 9223372036854775807 h).mono ?_
  rintro e w1 ⟨A', c', rfl, hp, hk, hs⟩
  go_wp2
  go_ret
  exact ⟨A', c', rfl, hp, hk, hs⟩

/-- What is taken as an answer. -/
structure TakenY (s : Option (List UInt8)) (y : AN) (s1 s2 s3 s4 : Option (List UInt8)) : Prop where
  e1 : nextN s = (y.c, s1)
  e2 : nextN s1 = (y.m, s2)
  e3 : nextN s2 = (y.e, s3)
  e4 : nextN s3 = (y.n, s4)
theorem TakenY.ex (s : Option (List UInt8)) : ∃ y s1 s2 s3 s4, TakenY s y s1 s2 s3 s4 :=
  ⟨⟨(nextN s).1, (nextN (nextN s).2).1, (nextN (nextN (nextN s).2).2).1, (nextN (nextN (nextN (nextN s).2).2).2).1⟩, _, _, _, _, rfl, rfl, rfl, rfl⟩
theorem nextN_len (s : Option (List UInt8)) : ((nextN s).2.getD []).length ≤ (s.getD []).length := tnum_len s _ _
set_option maxRecDepth 100000 in
set_option maxHeartbeats 3200000 in
theorem takeAns_any (w : World) (g : Nat) (A : Option Addr) (c : Nat) (s : Option (List UInt8)) (y : AN) (s1 s2 s3 s4 : Option (List UInt8)) (hT : TakenY s y s1 s2 s3 s4) (h : PT w g A c s) (hlt : OldA w.heap.size A s) :
    Calls Try.prog 41 #[.pointer (some ⟨g, 0, none⟩)] w fun e w' => ∃ A' c', e = .returned (.agg y.cs) ∧ PT w' g A' c' s4 ∧ Keep (fun k => k = g) w w' ∧ SameBlock A A' := by
  obtain ⟨e1, e2, e3, e4⟩ := hT
  have k0 : Keep (fun _ => False) w (w.alloc (.cells #[.int .i64 0, .int .i64 0, .int .i64 0, .int .i64 0] 27)) := (Keep.refl _ w).alloc _
  have hz0 : (w.alloc (.cells #[.int .i64 0, .int .i64 0, .int .i64 0, .int .i64 0] 27)).heap.size = w.heap.size + 1 := by simp
  have h0 : PT (w.alloc (.cells #[.int .i64 0, .int .i64 0, .int .i64 0, .int .i64 0] 27)) g A c s := h.keep hlt k0 id (fun _ _ => id)
  have hb0 : Blk (w.alloc (.cells #[.int .i64 0, .int .i64 0, .int .i64 0, .int .i64 0] 27)) w.heap.size 27 #[.int .i64 0, .int .i64 0, .int .i64 0, .int .i64 0] := Blk.new _ _ _
  have hgl := h.blk.lt
  have K1 := fun W A c h => takeNum_any W g A c s h
  rw [e1] at K1
  have K2 := fun W A c h => takeNum_any W g A c s1 h
  rw [e2] at K2
  have K3 := fun W A c h => takeNum_any W g A c s2 h
  rw [e3] at K3
  have K4 := fun W A c h => takeNum_any W g A c s3 h
  rw [e4] at K4
  replace K1 := Lib.hid K1
  replace K2 := Lib.hid K2
  replace K3 := Lib.hid K3
  replace K4 := Lib.hid K4
  obtain ⟨yc, ym, ye, yn⟩ := y
  unfold AN.cs
  dsimp only at K1 K2 K3 K4 ⊢
  have l1 := nextN_len s
  rw [e1] at l1
  have l2 := nextN_len s1
  rw [e2] at l2
  have l3 := nextN_len s2
  rw [e3] at l3
  have l4 := nextN_len s3
  rw [e4] at l4
  clear e1 e2 e3 e4
  go_enter Try.func41, Try.ntmps41
  go_wp2_with fail
  refine (K1.out _ _ _ h0).mono ?_
  rintro e w1 ⟨A1, c1, rfl, h1, kk1, hs1⟩
  clear h0
  have hb1 := hb0.kept kk1 (by omega)
  go_wp2_with fail
  refine (K2.out _ _ _ h1).mono ?_
  rintro e w2 ⟨A2, c2, rfl, h2, kk2, hs2⟩
  clear h1
  have hb2 := hb1.kept kk2 (by omega)
  go_wp2_with fail
  refine (K3.out _ _ _ h2).mono ?_
  rintro e w3 ⟨A3, c3, rfl, h3, kk3, hs3⟩
  clear h2
  have hb3 := hb2.kept kk3 (by omega)
  go_wp2_with fail
  refine (K4.out _ _ _ h3).mono ?_
  rintro e w4 ⟨A4, c4, rfl, h4, kk4, hs4⟩
  clear h3
  have hb4 := hb3.kept kk4 (by omega)
  have kk : Keep (fun k => k = g) w w4 := ((((k0.mono (T := fun k => k = g) (fun _ _ h => h.elim)).trans kk1 (fun _ _ h => h)).trans kk2 (fun _ _ h => h)).trans kk3 (fun _ _ h => h)).trans kk4 (fun _ _ h => h)
  have hss := ((hs1.trans hs2).trans hs3).trans hs4
  have q0 := hb4.cell 0
  have q1 := hb4.cell 1
  have q2 := hb4.cell 2
  have q3 := hb4.cell 3
  have p0 := hb4.frozen 0
  have p1 := hb4.frozen 1
  have p2 := hb4.frozen 2
  have p3 := hb4.frozen 3
  simp at q0 q1 q2 q3
  clear hb0 hb1 hb2 hb3 kk1 kk2 kk3 kk4 hs1 hs2 hs3 hs4 K1 K2 K3 K4
  go_wp2
  have hbE : Blk ((((w4.setCell ⟨w.heap.size, 0, none⟩ (.int .i64 yc)).setCell ⟨w.heap.size, 1, none⟩ (.int .i64 ym)).setCell ⟨w.heap.size, 2, none⟩ (.int .i64 ye)).setCell ⟨w.heap.size, 3, none⟩ (.int .i64 yn)) w.heap.size 27 #[.int .i64 yc, .int .i64 ym, .int .i64 ye, .int .i64 yn] := by
    simpa using (((hb4.set_ 0 (.int .i64 yc)).set_ 1 (.int .i64 ym)).set_ 2 (.int .i64 ye)).set_ 3 (.int .i64 yn)
  have hkE : Keep (fun k => k = w.heap.size) w4 ((((w4.setCell ⟨w.heap.size, 0, none⟩ (.int .i64 yc)).setCell ⟨w.heap.size, 1, none⟩ (.int .i64 ym)).setCell ⟨w.heap.size, 2, none⟩ (.int .i64 ye)).setCell ⟨w.heap.size, 3, none⟩ (.int .i64 yn)) :=
    ((((Keep.refl _ w4).at_ 0 _).at_ 1 _).at_ 2 _).at_ 3 _
  generalize ((((w4.setCell ⟨w.heap.size, 0, none⟩ (.int .i64 yc)).setCell ⟨w.heap.size, 1, none⟩ (.int .i64 ym)).setCell ⟨w.heap.size, 2, none⟩ (.int .i64 ye)).setCell ⟨w.heap.size, 3, none⟩ (.int .i64 yn)) = WE at hbE hkE ⊢
  have j0 := hbE.cell 0
  have j1 := hbE.cell 1
  have j2 := hbE.cell 2
  have j3 := hbE.cell 3
  simp at j0 j1 j2 j3
  refine bodyPost_ret (v := .agg #[.int .i64 yc, .int .i64 ym, .int .i64 ye, .int .i64 yn]) (by simp [results, Try.results41, go_sem, j0, j1, j2, j3]) rfl ?_
  refine ⟨A4, c4, rfl, h4.keep (B := w.heap.size) (hlt.next hss (by omega)) hkE (by omega) (fun i hi => by omega), ?_, hss⟩
  exact kk.trans hkE (fun i hi e => by omega)
end Go.Proofs.Ytpfkhalomnfcfaa
