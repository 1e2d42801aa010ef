/- mail.Decode. No condition but that the bytes lie in memory. -/
import Derived.Test.YtefgcknnnglkpaaMaB
import Derived.Test.YtefgcknnnglkpaaAskD2
namespace Go.Proofs.Ytefgcknnnglkpaa
open Go.RowKit Go.Maps Go.Shelf
set_option linter.unusedVariables false
set_option linter.unusedSimpArgs false

def zeroM : Array Value := #[.int .i64 0, .int .i64 0, .slice none 0 0, .int .i64 0, .int .i64 0, .int .i64 0, .int .i64 0, .int .i64 0, .int .i64 0, .int .i64 0, .string ⟨#[]⟩, .slice none 0 0, .int .i64 0, .int .i64 0, .int .i64 0, .int .i64 0]
/-- A taker, mail that is being filled, its result. -/
structure DM (w w1 : World) (g : Nat) (cs : Array Value) (W : World) (A : Option Addr) (c : Nat) (st : Option (List UInt8)) : Prop where
  pt : PT W g A c st
  old : OldA w1.heap.size A st
  bel : Below w.heap.size w W
  ba : Blk W w1.heap.size 29 cs
  b0 : Blk W w.heap.size 29 zeroM
  g0 : w.heap.size < g
  g1 : g < w1.heap.size
section
variable {w w1 : World} {g : Nat} {cs : Array Value} {W W' : World} {A A' : Option Addr} {c c' : Nat} {st st' : Option (List UInt8)}
theorem DM.step (h : DM w w1 g cs W A c st) (ht : PT W' g A' c' st') (hk : Keep (fun k => k = g) W W') (hs : SameBlock A A') (hl : (st'.getD []).length ≤ (st.getD []).length) : DM w w1 g cs W' A' c' st' := by
  have h0 := h.g0
  have h1 := h.g1
  exact ⟨ht, h.old.next hs hl, h.bel.trans (hk.below (B := w.heap.size) h.bel.size (fun k hk e => by omega)), h.ba.kept hk (by omega), h.b0.kept hk (by omega), h0, h1⟩
theorem DM.put (h : DM w w1 g cs W A c st) (i : Nat) (u : Value) : DM w w1 g (cs.setIfInBounds i u) (W.setCell ⟨w1.heap.size, i, none⟩ u) A c st := by
  have h0 := h.g0
  have h1 := h.g1
  have hk : Keep (fun k => k = w1.heap.size) W (W.setCell ⟨w1.heap.size, i, none⟩ u) := (Keep.refl (fun k => k = w1.heap.size) W).setCell (p := ⟨w1.heap.size, i, none⟩) (fun _ => rfl) u
  exact ⟨h.pt.keep h.old hk (by omega) (fun j hj => by omega), h.old, h.bel.trans (hk.below (B := w.heap.size) h.bel.size (fun k hk e => by omega)), h.ba.set_ i u, h.b0.kept hk (by omega), h0, h1⟩
theorem DM.setM (h : DM w w1 g cs W A c st) {cs' : Array Value} (hb : Blk W' w1.heap.size 29 cs') (hk : Keep (fun k => k = w1.heap.size) W W') : DM w w1 g cs' W' A c st := by
  have h0 := h.g0
  have h1 := h.g1
  exact ⟨h.pt.keep h.old hk (by omega) (fun j hj => by omega), h.old, h.bel.trans (hk.below (B := w.heap.size) h.bel.size (fun k hk e => by omega)), hb, h.b0.kept hk (by omega), h0, h1⟩
theorem DM.below (h : DM w w1 g cs W A c st) (k : Below W.heap.size W W') : DM w w1 g cs W' A c st := by
  have h0 := h.g0
  have h1 := h.g1
  have h2 := h.ba.lt
  have kk := Keep.of_below k
  exact ⟨h.pt.keep h.old kk (by omega) (fun j hj => by omega), h.old, h.bel.trans (k.mono h.bel.size), h.ba.kept kk (by omega), h.b0.kept kk (by omega), h0, h1⟩
end
theorem IL.put {W : World} {A : Option Addr} {n : Nat} {l : List It} (h : IL W A n l) {B : Nat} (hA : ∀ ad, A = some ad → B < ad.block) (i : Nat) (u : Value) : IL (W.setCell ⟨B, i, none⟩ u) A n l :=
  h.kept ((Keep.refl (fun k => k = B) W).setCell (p := ⟨B, i, none⟩) (fun _ => rfl) u) (fun ad h1 _ e => by have := hA ad h1; omega)
theorem IL.setM {W W' : World} {A : Option Addr} {n : Nat} {l : List It} (h : IL W A n l) {B : Nat} (hA : ∀ ad, A = some ad → B < ad.block) (k : Keep (fun k => k = B) W W') : IL W' A n l :=
  h.kept k (fun ad h1 _ e => by have := hA ad h1; omega)
theorem IL.keepG {W W' : World} {A : Option Addr} {n : Nat} {l : List It} (h : IL W A n l) {B g : Nat} (hA : ∀ ad, A = some ad → B < ad.block) (hg : g < B) (k : Keep (fun k => k = g) W W') : IL W' A n l :=
  h.kept k (fun ad h1 _ e => by have := hA ad h1; omega)
theorem Keep.at16 {w0 W : World} {B : Nat} (h : Keep (fun k => k = B) w0 W) (i : Nat) (u : Value) : Keep (fun k => k = B) w0 (W.setCell ⟨B, i, none⟩ u) := h.setCell (p := ⟨B, i, none⟩) (fun _ => rfl) u
theorem fill16 {W : World} {B : Nat} {t : TypeId} {a0 a1 a2 a3 a4 a5 a6 a7 a8 a9 a10 a11 a12 a13 a14 a15 : Value} (h : Blk W B t #[a0, a1, a2, a3, a4, a5, a6, a7, a8, a9, a10, a11, a12, a13, a14, a15]) (b0 b1 b2 b3 b4 b5 b6 b7 b8 b9 b10 b11 b12 b13 b14 b15 : Value) : Blk ((((((((((((((((W.setCell ⟨B, 0, none⟩ (b0)).setCell ⟨B, 1, none⟩ (b1)).setCell ⟨B, 2, none⟩ (b2)).setCell ⟨B, 3, none⟩ (b3)).setCell ⟨B, 4, none⟩ (b4)).setCell ⟨B, 5, none⟩ (b5)).setCell ⟨B, 6, none⟩ (b6)).setCell ⟨B, 7, none⟩ (b7)).setCell ⟨B, 8, none⟩ (b8)).setCell ⟨B, 9, none⟩ (b9)).setCell ⟨B, 10, none⟩ (b10)).setCell ⟨B, 11, none⟩ (b11)).setCell ⟨B, 12, none⟩ (b12)).setCell ⟨B, 13, none⟩ (b13)).setCell ⟨B, 14, none⟩ (b14)).setCell ⟨B, 15, none⟩ (b15)) B t #[b0, b1, b2, b3, b4, b5, b6, b7, b8, b9, b10, b11, b12, b13, b14, b15] := by
  simpa using ((((((((((((((((h.set_ 0 b0).set_ 1 b1).set_ 2 b2).set_ 3 b3).set_ 4 b4).set_ 5 b5).set_ 6 b6).set_ 7 b7).set_ 8 b8).set_ 9 b9).set_ 10 b10).set_ 11 b11).set_ 12 b12).set_ 13 b13).set_ 14 b14).set_ 15 b15)
theorem keep16 (W : World) (B : Nat) (b0 b1 b2 b3 b4 b5 b6 b7 b8 b9 b10 b11 b12 b13 b14 b15 : Value) : Keep (fun k => k = B) W ((((((((((((((((W.setCell ⟨B, 0, none⟩ (b0)).setCell ⟨B, 1, none⟩ (b1)).setCell ⟨B, 2, none⟩ (b2)).setCell ⟨B, 3, none⟩ (b3)).setCell ⟨B, 4, none⟩ (b4)).setCell ⟨B, 5, none⟩ (b5)).setCell ⟨B, 6, none⟩ (b6)).setCell ⟨B, 7, none⟩ (b7)).setCell ⟨B, 8, none⟩ (b8)).setCell ⟨B, 9, none⟩ (b9)).setCell ⟨B, 10, none⟩ (b10)).setCell ⟨B, 11, none⟩ (b11)).setCell ⟨B, 12, none⟩ (b12)).setCell ⟨B, 13, none⟩ (b13)).setCell ⟨B, 14, none⟩ (b14)).setCell ⟨B, 15, none⟩ (b15)) := ((((((((((((((((Keep.refl _ W).at16 0 b0).at16 1 b1).at16 2 b2).at16 3 b3).at16 4 b4).at16 5 b5).at16 6 b6).at16 7 b7).at16 8 b8).at16 9 b9).at16 10 b10).at16 11 b11).at16 12 b12).at16 13 b13).at16 14 b14).at16 15 b15
theorem text_le {st : Option (List UInt8)} {b : Int} {g : List UInt8} {s : Option (List UInt8)} (hb : 0 ≤ b) (h : ttext st b = (g, s)) : (g.length : Int) ≤ b := by
  cases s with
  | some r => exact (text_taken h).2
  | none =>
    cases hf : ft (st.getD []) with
    | none =>
      rw [pt_none_ft st b hf] at h
      cases h
      simpa using hb
    | some p =>
      obtain ⟨k, m⟩ := p
      rw [pt_some_ft b hf] at h
      split at h
      · cases h
        simpa using hb
      · cases h
theorem nextN_in {st : Option (List UInt8)} {n : Int} {r : Option (List UInt8)} (h : nextN st = (n, r)) : -9223372036854775808 ≤ n ∧ n ≤ 9223372036854775807 := by
  unfold nextN at h
  cases hf : first (st.getD []) with
  | none =>
    rw [pt_none_first st _ _ hf] at h
    cases h
    omega
  | some p =>
    obtain ⟨m, k⟩ := p
    rw [pt_some_first _ _ hf] at h
    split at h
    · cases h
      omega
    · cases h
      omega
theorem OldA.mono {B B' : Nat} {A : Option Addr} {st : Option (List UInt8)} (h : OldA B A st) (hb : B ≤ B') : OldA B' A st := fun hp ad ha => Nat.lt_of_lt_of_le (h hp ad ha) hb
theorem box16 {W : World} {B : Nat} {t : TypeId} {b0 b1 b2 b3 b4 b5 b6 b7 b8 b9 b10 b11 b12 b13 b14 b15 : Value} (h : Blk W B t #[b0, b1, b2, b3, b4, b5, b6, b7, b8, b9, b10, b11, b12, b13, b14, b15]) : W.cell? ⟨B, 0, none⟩ = some b0 ∧ W.cell? ⟨B, 1, none⟩ = some b1 ∧ W.cell? ⟨B, 2, none⟩ = some b2 ∧ W.cell? ⟨B, 3, none⟩ = some b3 ∧ W.cell? ⟨B, 4, none⟩ = some b4 ∧ W.cell? ⟨B, 5, none⟩ = some b5 ∧ W.cell? ⟨B, 6, none⟩ = some b6 ∧ W.cell? ⟨B, 7, none⟩ = some b7 ∧ W.cell? ⟨B, 8, none⟩ = some b8 ∧ W.cell? ⟨B, 9, none⟩ = some b9 ∧ W.cell? ⟨B, 10, none⟩ = some b10 ∧ W.cell? ⟨B, 11, none⟩ = some b11 ∧ W.cell? ⟨B, 12, none⟩ = some b12 ∧ W.cell? ⟨B, 13, none⟩ = some b13 ∧ W.cell? ⟨B, 14, none⟩ = some b14 ∧ W.cell? ⟨B, 15, none⟩ = some b15 :=
  ⟨h.cell 0, h.cell 1, h.cell 2, h.cell 3, h.cell 4, h.cell 5, h.cell 6, h.cell 7, h.cell 8, h.cell 9, h.cell 10, h.cell 11, h.cell 12, h.cell 13, h.cell 14, h.cell 15⟩
theorem mres {W : World} {B : Nat} {b0 b1 b2 b3 b4 b5 b6 b7 b8 b9 b10 b11 b12 b13 b14 b15 : Value} (hb : Blk W B 29 #[b0, b1, b2, b3, b4, b5, b6, b7, b8, b9, b10, b11, b12, b13, b14, b15]) (tmps : Array Value) (e : Value) (h0 : tmps.getD 2 undef = .pointer (some ⟨B, 0, none⟩)) (h1 : tmps.getD 3 undef = e) :
    (results Try.f11 tmps).run Try.prog W = .ok (.tuple #[.agg #[b0, b1, b2, b3, b4, b5, b6, b7, b8, b9, b10, b11, b12, b13, b14, b15], e]) W := by
  obtain ⟨j0, j1, j2, j3, j4, j5, j6, j7, j8, j9, j10, j11, j12, j13, j14, j15⟩ := box16 hb
  have g0 := h0
  have g1 := h1
  simp at g0 g1
  simp [results, Try.results11, go_sem, h0, h1, g0, g1, j0, j1, j2, j3, j4, j5, j6, j7, j8, j9, j10, j11, j12, j13, j14, j15]
theorem ans_info : (Try.prog.info? 27).map (·.size) = some 4 := by kernel_rfl
def errV (b v : Value) : Prop := v = .int .i64 (match b with | .bool true => 0 | _ => 10)
set_option maxRecDepth 100000 in
set_option maxHeartbeats 25600000 in
theorem mdec_any (A : Option Addr) (n c : Nat) (b : List UInt8) (w : World) (hr : RB w A n b) (hn : n ≤ 140737488355328) :
    Calls Try.prog 11 #[.slice A n c] w (DecM b w errV) := by
  obtain ⟨k, o, l, S, s1, s2, s3, s4, T⟩ := TakenM.ex b
  obtain ⟨y, t1, t2, t3, t4, TY⟩ := TakenY.ex s4
  have hlen1 : (s1.getD []).length ≤ b.length := by have := nextN_len (some b); rw [T.e1] at this; exact this
  have hlen2 : (s2.getD []).length ≤ (s1.getD []).length := by have := nextN_len s1; rw [T.e2] at this; exact this
  have hlen3 : (s3.getD []).length ≤ (s2.getD []).length := by
    have h3 := T.e3
    cases hs3 : s3 with
    | none => simp
    | some r3 =>
      rw [hs3] at h3
      rw [(takeL_some h3).2]
      simp
  have hlen4 : (s4.getD []).length ≤ (s3.getD []).length := by have := ttext_len s3 2048; rw [T.e4] at this; exact this
  have hlent : (t4.getD []).length ≤ (s4.getD []).length := by
    have l1 := nextN_len s4
    rw [TY.e1] at l1
    have l2 := nextN_len t1
    rw [TY.e2] at l2
    have l3 := nextN_len t2
    rw [TY.e3] at l3
    have l4 := nextN_len t3
    rw [TY.e4] at l4
    dsimp only at l1 l2 l3 l4
    omega
  have hS2k : S.length ≤ 2048 := by
    have h5 := text_le (by omega) T.e4
    omega
  have hSl : S.length ≤ maxLen := by
    have h5 := text_le (by omega) T.e4
    unfold maxLen
    omega
  
  have hD := fun sE y' (hy : match hasB (hasM k) 121 with | true => TakenY s4 y' t1 t2 t3 sE | false => y' = y0 ∧ sE = s4) => dec_iff T (y := y') (t1 := t1) (t2 := t2) (t3 := t3) (sE := sE) hy
  replace hD := Lib.hid hD
  have KY := Lib.hid TY
  have e1 := T.e1
  have e2 := T.e2
  have e3 := T.e3
  have e4 := T.e4
  have K1 := fun g W A c h => takeNum_any W g A c (some b) h
  rw [e1] at K1
  replace K1 := Lib.hid K1
  have K2 := fun g W A c h => takeNum_any W g A c s1 h
  rw [e2] at K2
  replace K2 := Lib.hid K2
  have K3 := fun g W A c h => itake_any W g A c s2 h
  rw [e3] at K3
  replace K3 := Lib.hid K3
  have K4 := fun g W A c h => ttext_any W g A c s3 2048 h
  rw [e4] at K4
  replace K4 := Lib.hid K4
  have hyn : -9223372036854775808 ≤ y.n ∧ y.n ≤ 9223372036854775807 := nextN_in TY.e4
  clear T TY e1 e2 e3 e4
  obtain ⟨yc, ym, ye, yn⟩ := y
  dsimp only at hyn K1 K2 K3 K4
  go_enter Try.func11, Try.ntmps11
  go_wp2_with fail
  refine (take_any A n c b _ (hr.alloc _) hn).mono ?_
  rintro e w1 ⟨g, A1, c1, rfl, hg1, ht1, hb1, hA1⟩
  have hg0 : w.heap.size < g := by have := hg1; simp at this; omega
  have h00 : DM w w1 g zeroM (w1.alloc (.cells zeroM 29)) A1 c1 (some b) := by
    have hz : w.heap.size + 1 ≤ w1.heap.size := by have := hb1.size; simpa using this
    have k : Keep (fun _ => False) w1 (w1.alloc (.cells zeroM 29)) := (Keep.refl _ w1).alloc _
    have hbw : Below w.heap.size w w1 := ((Below.refl w.heap.size w).alloc (Nat.le_refl _) (.cells zeroM 29)).trans (hb1.mono (by simp))
    exact ⟨ht1.keep ht1.lt k id (fun _ _ => id), ht1.lt, hbw.trans (k.below (by omega) (fun _ _ => id)), Blk.new _ _ _, ((Blk.new w 29 zeroM).kept (Keep.of_below hb1) (by simp)).kept k id, hg0, ht1.blk.lt⟩
  have hgB := h00.g1
  unfold zeroM at h00
  clear ht1 hb1 hA1 hg1
  go_wp2_with fail
  refine (K1.out _ _ _ _ h00.pt).mono ?_
  rintro e W1 ⟨A2, c2, rfl, ht, hk, hs⟩
  have h1 := h00.step ht hk hs hlen1
  clear ht hk hs h00 K1
  go_wp2_with fail
  refine (K2.out _ _ _ _ h1.pt).mono ?_
  rintro e W2 ⟨A3, c3, rfl, ht, hk, hs⟩
  have h2 := h1.step ht hk hs hlen2
  clear ht hk hs h1 K2
  have f0 := h2.ba.frozen 0
  have f1 := h2.ba.frozen 1
  have q0 := h2.ba.cell 0
  have q1 := h2.ba.cell 1
  simp at q0 q1
  have h2b : DM w w1 g #[.int .i64 k, .int .i64 o, .slice none 0 0, .int .i64 0, .int .i64 0, .int .i64 0, .int .i64 0, .int .i64 0, .int .i64 0, .int .i64 0, .string ⟨#[]⟩, .slice none 0 0, .int .i64 0, .int .i64 0, .int .i64 0, .int .i64 0] ((W2.setCell ⟨w1.heap.size, 0, none⟩ (.int .i64 k)).setCell ⟨w1.heap.size, 1, none⟩ (.int .i64 o)) A3 c3 s2 := by simpa using (h2.put 0 (.int .i64 k)).put 1 (.int .i64 o)
  clear h2
  go_wp2_with fail
  refine (K3.out _ _ _ _ h2b.pt).mono ?_
  rintro e W3 ⟨v3, A4, c4, rfl, hO, ht, hk, hs⟩
  obtain ⟨AL, cL, rfl, hl1, hl2, hil, hal⟩ := hO.form
  have hB1 := h2b.ba.lt
  have halB : ∀ ad, AL = some ad → w1.heap.size < ad.block := fun ad ha => by have := (hal ad ha).1; omega
  have h3 := h2b.step ht hk hs hlen3
  have hcL : cL ≤ 9223372036854775807 := by unfold maxLen at hl2; omega
  clear ht hk hs h2b K3 hO hal f0 f1 q0 q1 hB1
  have f2 := h3.ba.frozen 2
  have q2 := h3.ba.cell 2
  simp at q2
  have h3b : DM w w1 g #[.int .i64 k, .int .i64 o, .slice AL l.length cL, .int .i64 0, .int .i64 0, .int .i64 0, .int .i64 0, .int .i64 0, .int .i64 0, .int .i64 0, .string ⟨#[]⟩, .slice none 0 0, .int .i64 0, .int .i64 0, .int .i64 0, .int .i64 0] (W3.setCell ⟨w1.heap.size, 2, none⟩ (.slice AL l.length cL)) A4 c4 s3 := by simpa using h3.put 2 (.slice AL l.length cL)
  have hil3 := hil.put halB 2 (.slice AL l.length cL)
  clear h3 hil
  go_wp2_with fail
  refine (K4.out _ _ _ _ h3b.pt).mono ?_
  rintro e W4 ⟨A5, c5, rfl, ht, hk, hs⟩
  have h4 := h3b.step ht hk hs hlen4
  have hil4 := hil3.keepG halB hgB hk
  clear ht hk hs h3b hil3 K4 f2 q2
  rw [strV_eq]
  have hLEN : l.length ≤ 9223372036854775807 := by omega
  cases hS : S with
  | nil =>
    subst hS
    have hask : askOf [] = some x0 := rfl
    have q9 := h4.ba.cell 0
    simp at q9
    go_wp2_with fail
    have hk9 := mhas1_any k 121 W4
    have q9 := h4.ba.cell 0
    simp at q9
    cases hY : hasB (hasM k) 121 with
    | true =>
      rw [hY] at hk9 hD
      go_wp2_with fail
      refine hk9.mono ?_
      rintro e w' ⟨rfl, hww⟩
      subst w'
      go_wp2_with fail
      refine (takeAns_any W4 g A5 c5 s4 ⟨yc, ym, ye, yn⟩ t1 t2 t3 t4 KY.out h4.pt (h4.old.mono (Nat.le_of_lt h4.ba.lt))).mono ?_
      rintro e WY ⟨AY, cY, rfl, ht, hk, hs⟩
      unfold AN.cs
      dsimp only
      have hy1 := h4.step ht hk hs hlent
      have ily1 := hil4.keepG halB hgB hk
      clear ht hk hs
      have hD2 := hD.out t4 ⟨yc, ym, ye, yn⟩ KY.out
      replace hD2 := Lib.hid hD2
      go_wp2_with (refine wpStoreM 27 12 #[.int .i64 yc, .int .i64 ym, .int .i64 ye, .int .i64 yn] rfl (.tmp 35) (.tmp 34) rfl rfl rfl hy1.ba (by simp) ans_info rfl (fun WX hbX hkX => ?_); have hy : DM w w1 g #[.int .i64 k, .int .i64 o, .slice AL l.length cL, .int .i64 0, .int .i64 0, .int .i64 0, .int .i64 0, .int .i64 0, .int .i64 0, .int .i64 0, .string ⟨#[]⟩, .slice none 0 0, .int .i64 yc, .int .i64 ym, .int .i64 ye, .int .i64 yn] WX AY cY t4 := hy1.setM hbX hkX; have ily := ily1.setM halB hkX; clear hbX hkX)
      refine (tdone_any WX g AY cY t4 hy.pt).mono ?_
      rintro e w' ⟨rfl, hww⟩
      subst w'
      by_cases hE : t4 = some []
      case neg =>
        have hd : tdoneN t4 = 10 := by unfold tdoneN; rw [if_neg hE]
        rw [hd]
        go_wp2_with (refine wpStoreM 29 0 #[.int .i64 0, .int .i64 0, .slice none 0 0, .int .i64 0, .int .i64 0, .int .i64 0, .int .i64 0, .int .i64 0, .int .i64 0, .int .i64 0, .string ⟨#[]⟩, .slice none 0 0, .int .i64 0, .int .i64 0, .int .i64 0, .int .i64 0] rfl (.tmp 2) (.tmp 48) rfl rfl rfl hy.b0 (by simp [zeroM]) mail_info rfl (fun WE hbE hkE => ?_))
        have hbE2 : Blk WE w.heap.size 29 #[.int .i64 0, .int .i64 0, .slice none 0 0, .int .i64 0, .int .i64 0, .int .i64 0, .int .i64 0, .int .i64 0, .int .i64 0, .int .i64 0, .string ⟨#[]⟩, .slice none 0 0, .int .i64 0, .int .i64 0, .int .i64 0, .int .i64 0] := hbE
        clear hbE
        refine bodyPost_ret (mres hbE2 _ _ rfl rfl) rfl ?_
        have hbl := hy.bel
        refine ⟨hbl.trans (hkE.below (B := w.heap.size) hbl.size (fun k hk e => by omega)), ?_⟩
        refine .inr ⟨fun x hx hxn hb => ?_, _, rfl, rfl⟩
        exact hE (hD2.out.2 x hx hxn hb).2.1
      have hd : tdoneN t4 = 0 := by unfold tdoneN; rw [if_pos hE]
      rw [hd]
      have key := mmay_any ⟨k, o, l, x0, ⟨yc, ym, ye, yn⟩⟩ AL cL none 0 WX ily (IL.nil _ _) hLEN (Nat.zero_le _)
      unfold MV.v MV.cs x0 at key
      dsimp only at key
      obtain ⟨mm, hmm⟩ : ∃ m, mayM ⟨k, o, l, x0, ⟨yc, ym, ye, yn⟩⟩ = m := ⟨_, rfl⟩
      rw [show mayM ⟨k, o, l, ⟨0, 0, 0, 0, 0, 0, 0, [], []⟩, ⟨yc, ym, ye, yn⟩⟩ = mm from hmm] at key
      go_wp2_with (refine wpLoadM 29 (by rfl) (.tmp 5) rfl rfl hy.ba _ Try.underlying29 rfl mail_info ?_)
      refine key.mono ?_
      rintro e WG ⟨rfl, hxG⟩
      clear key
      have hyG := hy.below hxG
      have ilG := ily.below hxG
      cases mm with
      | false =>
        have hy := hyG
        go_wp2_with (refine wpStoreM 29 0 #[.int .i64 0, .int .i64 0, .slice none 0 0, .int .i64 0, .int .i64 0, .int .i64 0, .int .i64 0, .int .i64 0, .int .i64 0, .int .i64 0, .string ⟨#[]⟩, .slice none 0 0, .int .i64 0, .int .i64 0, .int .i64 0, .int .i64 0] rfl (.tmp 2) (.tmp 48) rfl rfl rfl hy.b0 (by simp [zeroM]) mail_info rfl (fun WE hbE hkE => ?_))
        have hbE2 : Blk WE w.heap.size 29 #[.int .i64 0, .int .i64 0, .slice none 0 0, .int .i64 0, .int .i64 0, .int .i64 0, .int .i64 0, .int .i64 0, .int .i64 0, .int .i64 0, .string ⟨#[]⟩, .slice none 0 0, .int .i64 0, .int .i64 0, .int .i64 0, .int .i64 0] := hbE
        clear hbE
        refine bodyPost_ret (mres hbE2 _ _ rfl rfl) rfl ?_
        have hbl := hy.bel
        refine ⟨hbl.trans (hkE.below (B := w.heap.size) hbl.size (fun k hk e => by omega)), ?_⟩
        refine .inr ⟨fun x hx hxn hb => ?_, _, rfl, rfl⟩
        have hq := hD2.out.2 x hx hxn hb
        have h1 := hq.1
        rw [hask] at h1
        injection h1 with h1
        have h2 := hq.2.2
        rw [← h1] at h2
        rw [h2, hmm] at hx
        cases hx
      | true =>
        go_wp2_with (first | (refine wpLoadM 29 (by rfl) (.tmp 5) rfl rfl hyG.ba _ Try.underlying29 rfl mail_info ?_) | (refine wpStoreM 29 0 #[.int .i64 k, .int .i64 o, .slice AL l.length cL, .int .i64 0, .int .i64 0, .int .i64 0, .int .i64 0, .int .i64 0, .int .i64 0, .int .i64 0, .string ⟨#[]⟩, .slice none 0 0, .int .i64 yc, .int .i64 ym, .int .i64 ye, .int .i64 yn] rfl (.tmp 2) (.tmp 49) rfl rfl rfl hyG.b0 (by simp [zeroM]) mail_info rfl (fun WE hbE hkE => ?_)))
        have hbE2 : Blk WE w.heap.size 29 #[.int .i64 k, .int .i64 o, .slice AL l.length cL, .int .i64 0, .int .i64 0, .int .i64 0, .int .i64 0, .int .i64 0, .int .i64 0, .int .i64 0, .string ⟨#[]⟩, .slice none 0 0, .int .i64 yc, .int .i64 ym, .int .i64 ye, .int .i64 yn] := hbE
        clear hbE
        refine bodyPost_ret (mres hbE2 _ _ rfl rfl) rfl ?_
        have hbl := hyG.bel
        refine ⟨hbl.trans (hkE.below (B := w.heap.size) hbl.size (fun k hk e => by omega)), ?_⟩
        have hltG := hyG.ba.lt
        have hwG := hyG.g0
        have hwG1 := hyG.g1
        refine .inl ⟨⟨k, o, l, x0, ⟨yc, ym, ye, yn⟩⟩, AL, cL, none, 0, hmm, hyn, hD2.out.1 _ hask hE hmm, ilG.kept hkE (fun ad h1 _ e => by have := halB ad h1; omega), IL.nil _ _, _, rfl, rfl⟩
    | false =>
      rw [hY] at hk9 hD
      go_wp2_with fail
      refine hk9.mono ?_
      rintro e w' ⟨rfl, hww⟩
      subst w'
      have hy := h4
      have ily := hil4
      have hD2 := hD.out s4 y0 ⟨rfl, rfl⟩
      replace hD2 := Lib.hid hD2
      go_wp2_with fail
      refine (tdone_any W4 g A5 c5 s4 hy.pt).mono ?_
      rintro e w' ⟨rfl, hww⟩
      subst w'
      by_cases hE : s4 = some []
      case neg =>
        have hd : tdoneN s4 = 10 := by unfold tdoneN; rw [if_neg hE]
        rw [hd]
        go_wp2_with (refine wpStoreM 29 0 #[.int .i64 0, .int .i64 0, .slice none 0 0, .int .i64 0, .int .i64 0, .int .i64 0, .int .i64 0, .int .i64 0, .int .i64 0, .int .i64 0, .string ⟨#[]⟩, .slice none 0 0, .int .i64 0, .int .i64 0, .int .i64 0, .int .i64 0] rfl (.tmp 2) (.tmp 48) rfl rfl rfl hy.b0 (by simp [zeroM]) mail_info rfl (fun WE hbE hkE => ?_))
        have hbE2 : Blk WE w.heap.size 29 #[.int .i64 0, .int .i64 0, .slice none 0 0, .int .i64 0, .int .i64 0, .int .i64 0, .int .i64 0, .int .i64 0, .int .i64 0, .int .i64 0, .string ⟨#[]⟩, .slice none 0 0, .int .i64 0, .int .i64 0, .int .i64 0, .int .i64 0] := hbE
        clear hbE
        refine bodyPost_ret (mres hbE2 _ _ rfl rfl) rfl ?_
        have hbl := hy.bel
        refine ⟨hbl.trans (hkE.below (B := w.heap.size) hbl.size (fun k hk e => by omega)), ?_⟩
        refine .inr ⟨fun x hx hxn hb => ?_, _, rfl, rfl⟩
        exact hE (hD2.out.2 x hx hxn hb).2.1
      have hd : tdoneN s4 = 0 := by unfold tdoneN; rw [if_pos hE]
      rw [hd]
      have key := mmay_any ⟨k, o, l, x0, y0⟩ AL cL none 0 W4 ily (IL.nil _ _) hLEN (Nat.zero_le _)
      unfold MV.v MV.cs y0 x0 at key
      dsimp only at key
      obtain ⟨mm, hmm⟩ : ∃ m, mayM ⟨k, o, l, x0, y0⟩ = m := ⟨_, rfl⟩
      rw [show mayM ⟨k, o, l, ⟨0, 0, 0, 0, 0, 0, 0, [], []⟩, ⟨0, 0, 0, 0⟩⟩ = mm from hmm] at key
      go_wp2_with (refine wpLoadM 29 (by rfl) (.tmp 5) rfl rfl hy.ba _ Try.underlying29 rfl mail_info ?_)
      refine key.mono ?_
      rintro e WG ⟨rfl, hxG⟩
      clear key
      have hyG := hy.below hxG
      have ilG := ily.below hxG
      cases mm with
      | false =>
        have hy := hyG
        go_wp2_with (refine wpStoreM 29 0 #[.int .i64 0, .int .i64 0, .slice none 0 0, .int .i64 0, .int .i64 0, .int .i64 0, .int .i64 0, .int .i64 0, .int .i64 0, .int .i64 0, .string ⟨#[]⟩, .slice none 0 0, .int .i64 0, .int .i64 0, .int .i64 0, .int .i64 0] rfl (.tmp 2) (.tmp 48) rfl rfl rfl hy.b0 (by simp [zeroM]) mail_info rfl (fun WE hbE hkE => ?_))
        have hbE2 : Blk WE w.heap.size 29 #[.int .i64 0, .int .i64 0, .slice none 0 0, .int .i64 0, .int .i64 0, .int .i64 0, .int .i64 0, .int .i64 0, .int .i64 0, .int .i64 0, .string ⟨#[]⟩, .slice none 0 0, .int .i64 0, .int .i64 0, .int .i64 0, .int .i64 0] := hbE
        clear hbE
        refine bodyPost_ret (mres hbE2 _ _ rfl rfl) rfl ?_
        have hbl := hy.bel
        refine ⟨hbl.trans (hkE.below (B := w.heap.size) hbl.size (fun k hk e => by omega)), ?_⟩
        refine .inr ⟨fun x hx hxn hb => ?_, _, rfl, rfl⟩
        have hq := hD2.out.2 x hx hxn hb
        have h1 := hq.1
        rw [hask] at h1
        injection h1 with h1
        have h2 := hq.2.2
        rw [← h1] at h2
        rw [h2, hmm] at hx
        cases hx
      | true =>
        go_wp2_with (first | (refine wpLoadM 29 (by rfl) (.tmp 5) rfl rfl hyG.ba _ Try.underlying29 rfl mail_info ?_) | (refine wpStoreM 29 0 #[.int .i64 k, .int .i64 o, .slice AL l.length cL, .int .i64 0, .int .i64 0, .int .i64 0, .int .i64 0, .int .i64 0, .int .i64 0, .int .i64 0, .string ⟨#[]⟩, .slice none 0 0, .int .i64 0, .int .i64 0, .int .i64 0, .int .i64 0] rfl (.tmp 2) (.tmp 49) rfl rfl rfl hyG.b0 (by simp [zeroM]) mail_info rfl (fun WE hbE hkE => ?_)))
        have hbE2 : Blk WE w.heap.size 29 #[.int .i64 k, .int .i64 o, .slice AL l.length cL, .int .i64 0, .int .i64 0, .int .i64 0, .int .i64 0, .int .i64 0, .int .i64 0, .int .i64 0, .string ⟨#[]⟩, .slice none 0 0, .int .i64 0, .int .i64 0, .int .i64 0, .int .i64 0] := hbE
        clear hbE
        refine bodyPost_ret (mres hbE2 _ _ rfl rfl) rfl ?_
        have hbl := hyG.bel
        refine ⟨hbl.trans (hkE.below (B := w.heap.size) hbl.size (fun k hk e => by omega)), ?_⟩
        have hltG := hyG.ba.lt
        have hwG := hyG.g0
        have hwG1 := hyG.g1
        refine .inl ⟨⟨k, o, l, x0, y0⟩, AL, cL, none, 0, hmm, ⟨by show (-9223372036854775808 : Int) ≤ 0; omega, by show (0 : Int) ≤ 9223372036854775807; omega⟩, hD2.out.1 _ hask hE hmm, ilG.kept hkE (fun ad h1 _ e => by have := halB ad h1; omega), IL.nil _ _, _, rfl, rfl⟩
  | cons c0 r0 =>
    have hne : S ≠ [] := by rw [hS]; simp
    have hSd : askOf S = decA S := by rw [hS]; rfl
    rw [← hS]
    clear hS
    have hS1 : (S == []) = false := beq_eq_false_iff_ne.2 hne
    have hS2 : (S != []) = true := bne_iff_ne.2 hne
    have hS3 : decide (¬ S = []) = true := decide_eq_true hne
    obtain ⟨cB, W5, hcv, hrB, hx5, hlt5, hcB1, hcB2⟩ := run_bts W4 S hSl
    have h5 := h4.below hx5
    have hil5 := hil4.below hx5
    have hB5 := h5.ba.lt
    have key5 := askdecode2_any (some ⟨W4.heap.size, 0, none⟩) S.length cB S W5 hrB (by omega)
    go_wp2_with fail
    refine key5.mono ?_
    rintro e W6 ⟨hx6, hd6⟩
    clear key5
    have h6 := h5.below hx6
    have hil6 := hil5.below hx6
    cases hdec : decA S with
    | none =>
      rw [hdec] at hd6 hSd
      dsimp only at hd6
      subst hd6
      unfold x0
      unfold AV.v
      dsimp only
      go_wp2_with (refine wpStoreM 24 3 #[.int .i64 0, .int .i64 0, .int .i64 0, .int .i64 0, .int .i64 0, .int .i64 0, .int .i64 0, .string ⟨#[]⟩, .slice none 0 0] rfl (.tmp 29) (.tmp 27) rfl rfl rfl h6.ba (by simp) ask_info9 rfl (fun W7 hb7 hk7 => ?_); have h7 : DM w w1 g #[.int .i64 k, .int .i64 o, .slice AL l.length cL, .int .i64 0, .int .i64 0, .int .i64 0, .int .i64 0, .int .i64 0, .int .i64 0, .int .i64 0, .string ⟨#[]⟩, .slice none 0 0, .int .i64 0, .int .i64 0, .int .i64 0, .int .i64 0] W7 A5 c5 s4 := h6.setM hb7 hk7; have hil7 := hil6.setM halB hk7; have q9 := h7.ba.cell 0; simp at q9)
      clear h4 hil4 h5 hil5 h6 hil6 hb7 hk7
      have hk9 := mhas1_any k 121 W7
      have q9 := h7.ba.cell 0
      simp at q9
      cases hY : hasB (hasM k) 121 with
      | true =>
        rw [hY] at hk9 hD
        go_wp2_with fail
        refine hk9.mono ?_
        rintro e w' ⟨rfl, hww⟩
        subst w'
        go_wp2_with fail
        refine (takeAns_any W7 g A5 c5 s4 ⟨yc, ym, ye, yn⟩ t1 t2 t3 t4 KY.out h7.pt (h7.old.mono (Nat.le_of_lt h7.ba.lt))).mono ?_
        rintro e WY ⟨AY, cY, rfl, ht, hk, hs⟩
        unfold AN.cs
        dsimp only
        have hy1 := h7.step ht hk hs hlent
        have ily1 := hil7.keepG halB hgB hk
        clear ht hk hs
        have hD2 := hD.out t4 ⟨yc, ym, ye, yn⟩ KY.out
        replace hD2 := Lib.hid hD2
        go_wp2_with (first | (refine wpStoreM 27 12 #[.int .i64 yc, .int .i64 ym, .int .i64 ye, .int .i64 yn] rfl (.tmp 35) (.tmp 34) rfl rfl rfl hy1.ba (by simp) ans_info rfl (fun WX hbX hkX => ?_); have hy : DM w w1 g #[.int .i64 k, .int .i64 o, .slice AL l.length cL, .int .i64 0, .int .i64 0, .int .i64 0, .int .i64 0, .int .i64 0, .int .i64 0, .int .i64 0, .string ⟨#[]⟩, .slice none 0 0, .int .i64 yc, .int .i64 ym, .int .i64 ye, .int .i64 yn] WX AY cY t4 := hy1.setM hbX hkX; have ily := ily1.setM halB hkX; clear hbX hkX) | (refine wpStoreM 29 0 #[.int .i64 0, .int .i64 0, .slice none 0 0, .int .i64 0, .int .i64 0, .int .i64 0, .int .i64 0, .int .i64 0, .int .i64 0, .int .i64 0, .string ⟨#[]⟩, .slice none 0 0, .int .i64 0, .int .i64 0, .int .i64 0, .int .i64 0] rfl (.tmp 2) (.tmp 48) rfl rfl rfl hy.b0 (by simp [zeroM]) mail_info rfl (fun WE hbE hkE => ?_)))
        have hbE2 : Blk WE w.heap.size 29 #[.int .i64 0, .int .i64 0, .slice none 0 0, .int .i64 0, .int .i64 0, .int .i64 0, .int .i64 0, .int .i64 0, .int .i64 0, .int .i64 0, .string ⟨#[]⟩, .slice none 0 0, .int .i64 0, .int .i64 0, .int .i64 0, .int .i64 0] := hbE
        clear hbE
        refine bodyPost_ret (mres hbE2 _ _ rfl rfl) rfl ?_
        have hbl := hy.bel
        refine ⟨hbl.trans (hkE.below (B := w.heap.size) hbl.size (fun k hk e => by omega)), ?_⟩
        refine .inr ⟨fun x hx hxn hb => ?_, _, rfl, rfl⟩
        have hq := (hD2.out.2 x hx hxn hb).1
        rw [hSd] at hq
        cases hq
      | false =>
        rw [hY] at hk9 hD
        go_wp2_with fail
        refine hk9.mono ?_
        rintro e w' ⟨rfl, hww⟩
        subst w'
        have hy := h7
        have ily := hil7
        have hD2 := hD.out s4 y0 ⟨rfl, rfl⟩
        replace hD2 := Lib.hid hD2
        go_wp2_with (refine wpStoreM 29 0 #[.int .i64 0, .int .i64 0, .slice none 0 0, .int .i64 0, .int .i64 0, .int .i64 0, .int .i64 0, .int .i64 0, .int .i64 0, .int .i64 0, .string ⟨#[]⟩, .slice none 0 0, .int .i64 0, .int .i64 0, .int .i64 0, .int .i64 0] rfl (.tmp 2) (.tmp 48) rfl rfl rfl hy.b0 (by simp [zeroM]) mail_info rfl (fun WE hbE hkE => ?_))
        have hbE2 : Blk WE w.heap.size 29 #[.int .i64 0, .int .i64 0, .slice none 0 0, .int .i64 0, .int .i64 0, .int .i64 0, .int .i64 0, .int .i64 0, .int .i64 0, .int .i64 0, .string ⟨#[]⟩, .slice none 0 0, .int .i64 0, .int .i64 0, .int .i64 0, .int .i64 0] := hbE
        clear hbE
        refine bodyPost_ret (mres hbE2 _ _ rfl rfl) rfl ?_
        have hbl := hy.bel
        refine ⟨hbl.trans (hkE.below (B := w.heap.size) hbl.size (fun k hk e => by omega)), ?_⟩
        refine .inr ⟨fun x hx hxn hb => ?_, _, rfl, rfl⟩
        have hq := (hD2.out.2 x hx hxn hb).1
        rw [hSd] at hq
        cases hq
    | some a =>
      rw [hdec] at hd6 hSd
      obtain ⟨a1, a2, a3, a4, a5, a6, a7, ag, al⟩ := a
      obtain ⟨AA, cA, rfl, hia, hA6⟩ := hd6
      have hALN : al.length ≤ 9223372036854775807 := by have := (mayL_okI (mayA_facts (decA_ok hdec).1).2.2.2.2.2.2.2.2).1; dsimp only at this; omega
      unfold AV.v
      dsimp only
      have haaB : ∀ ad, AA = some ad → w1.heap.size < ad.block := fun ad h => by have := hA6 ad h; omega
      go_wp2_with (refine wpStoreM 24 3 #[.int .i64 a1, .int .i64 a2, .int .i64 a3, .int .i64 a4, .int .i64 a5, .int .i64 a6, .int .i64 a7, .string ⟨ag.toArray⟩, .slice AA al.length cA] rfl (.tmp 29) (.tmp 27) rfl rfl rfl h6.ba (by simp) ask_info9 rfl (fun W7 hb7 hk7 => ?_); have h7 : DM w w1 g #[.int .i64 k, .int .i64 o, .slice AL l.length cL, .int .i64 a1, .int .i64 a2, .int .i64 a3, .int .i64 a4, .int .i64 a5, .int .i64 a6, .int .i64 a7, .string ⟨ag.toArray⟩, .slice AA al.length cA, .int .i64 0, .int .i64 0, .int .i64 0, .int .i64 0] W7 A5 c5 s4 := h6.setM hb7 hk7; have hil7 := hil6.setM halB hk7; have hia7 := hia.setM haaB hk7; have q9 := h7.ba.cell 0; simp at q9)
      clear h4 hil4 h5 hil5 h6 hil6 hb7 hk7
      have hk9 := mhas1_any k 121 W7
      have q9 := h7.ba.cell 0
      simp at q9
      cases hY : hasB (hasM k) 121 with
      | true =>
        rw [hY] at hk9 hD
        go_wp2_with fail
        refine hk9.mono ?_
        rintro e w' ⟨rfl, hww⟩
        subst w'
        go_wp2_with fail
        refine (takeAns_any W7 g A5 c5 s4 ⟨yc, ym, ye, yn⟩ t1 t2 t3 t4 KY.out h7.pt (h7.old.mono (Nat.le_of_lt h7.ba.lt))).mono ?_
        rintro e WY ⟨AY, cY, rfl, ht, hk, hs⟩
        unfold AN.cs
        dsimp only
        have hy1 := h7.step ht hk hs hlent
        have ily1 := hil7.keepG halB hgB hk
        have ial1 := hia7.keepG haaB hgB hk
        clear ht hk hs
        have hD2 := hD.out t4 ⟨yc, ym, ye, yn⟩ KY.out
        replace hD2 := Lib.hid hD2
        go_wp2_with (refine wpStoreM 27 12 #[.int .i64 yc, .int .i64 ym, .int .i64 ye, .int .i64 yn] rfl (.tmp 35) (.tmp 34) rfl rfl rfl hy1.ba (by simp) ans_info rfl (fun WX hbX hkX => ?_); have hy : DM w w1 g #[.int .i64 k, .int .i64 o, .slice AL l.length cL, .int .i64 a1, .int .i64 a2, .int .i64 a3, .int .i64 a4, .int .i64 a5, .int .i64 a6, .int .i64 a7, .string ⟨ag.toArray⟩, .slice AA al.length cA, .int .i64 yc, .int .i64 ym, .int .i64 ye, .int .i64 yn] WX AY cY t4 := hy1.setM hbX hkX; have ily := ily1.setM halB hkX; have ial := ial1.setM haaB hkX; clear hbX hkX)
        refine (tdone_any WX g AY cY t4 hy.pt).mono ?_
        rintro e w' ⟨rfl, hww⟩
        subst w'
        by_cases hE : t4 = some []
        case neg =>
          have hd : tdoneN t4 = 10 := by unfold tdoneN; rw [if_neg hE]
          rw [hd]
          go_wp2_with (refine wpStoreM 29 0 #[.int .i64 0, .int .i64 0, .slice none 0 0, .int .i64 0, .int .i64 0, .int .i64 0, .int .i64 0, .int .i64 0, .int .i64 0, .int .i64 0, .string ⟨#[]⟩, .slice none 0 0, .int .i64 0, .int .i64 0, .int .i64 0, .int .i64 0] rfl (.tmp 2) (.tmp 48) rfl rfl rfl hy.b0 (by simp [zeroM]) mail_info rfl (fun WE hbE hkE => ?_))
          have hbE2 : Blk WE w.heap.size 29 #[.int .i64 0, .int .i64 0, .slice none 0 0, .int .i64 0, .int .i64 0, .int .i64 0, .int .i64 0, .int .i64 0, .int .i64 0, .int .i64 0, .string ⟨#[]⟩, .slice none 0 0, .int .i64 0, .int .i64 0, .int .i64 0, .int .i64 0] := hbE
          clear hbE
          refine bodyPost_ret (mres hbE2 _ _ rfl rfl) rfl ?_
          have hbl := hy.bel
          refine ⟨hbl.trans (hkE.below (B := w.heap.size) hbl.size (fun k hk e => by omega)), ?_⟩
          refine .inr ⟨fun x hx hxn hb => ?_, _, rfl, rfl⟩
          exact hE (hD2.out.2 x hx hxn hb).2.1
        have hd : tdoneN t4 = 0 := by unfold tdoneN; rw [if_pos hE]
        rw [hd]
        have key := mmay_any ⟨k, o, l, ⟨a1, a2, a3, a4, a5, a6, a7, ag, al⟩, ⟨yc, ym, ye, yn⟩⟩ AL cL AA cA WX ily ial hLEN hALN
        unfold MV.v MV.cs at key
        dsimp only at key
        obtain ⟨mm, hmm⟩ : ∃ m, mayM ⟨k, o, l, ⟨a1, a2, a3, a4, a5, a6, a7, ag, al⟩, ⟨yc, ym, ye, yn⟩⟩ = m := ⟨_, rfl⟩
        rw [show mayM ⟨k, o, l, ⟨a1, a2, a3, a4, a5, a6, a7, ag, al⟩, ⟨yc, ym, ye, yn⟩⟩ = mm from hmm] at key
        go_wp2_with (refine wpLoadM 29 (by rfl) (.tmp 5) rfl rfl hy.ba _ Try.underlying29 rfl mail_info ?_)
        refine key.mono ?_
        rintro e WG ⟨rfl, hxG⟩
        clear key
        have hyG := hy.below hxG
        have ilG := ily.below hxG
        have iaG := ial.below hxG
        cases mm with
        | false =>
          have hy := hyG
          go_wp2_with (refine wpStoreM 29 0 #[.int .i64 0, .int .i64 0, .slice none 0 0, .int .i64 0, .int .i64 0, .int .i64 0, .int .i64 0, .int .i64 0, .int .i64 0, .int .i64 0, .string ⟨#[]⟩, .slice none 0 0, .int .i64 0, .int .i64 0, .int .i64 0, .int .i64 0] rfl (.tmp 2) (.tmp 48) rfl rfl rfl hy.b0 (by simp [zeroM]) mail_info rfl (fun WE hbE hkE => ?_))
          have hbE2 : Blk WE w.heap.size 29 #[.int .i64 0, .int .i64 0, .slice none 0 0, .int .i64 0, .int .i64 0, .int .i64 0, .int .i64 0, .int .i64 0, .int .i64 0, .int .i64 0, .string ⟨#[]⟩, .slice none 0 0, .int .i64 0, .int .i64 0, .int .i64 0, .int .i64 0] := hbE
          clear hbE
          refine bodyPost_ret (mres hbE2 _ _ rfl rfl) rfl ?_
          have hbl := hy.bel
          refine ⟨hbl.trans (hkE.below (B := w.heap.size) hbl.size (fun k hk e => by omega)), ?_⟩
          refine .inr ⟨fun x hx hxn hb => ?_, _, rfl, rfl⟩
          have hq := hD2.out.2 x hx hxn hb
          have h1 := hq.1
          rw [hSd] at h1
          injection h1 with h1
          have h2 := hq.2.2
          rw [← h1] at h2
          rw [h2, hmm] at hx
          cases hx
        | true =>
          go_wp2_with (first | (refine wpLoadM 29 (by rfl) (.tmp 5) rfl rfl hyG.ba _ Try.underlying29 rfl mail_info ?_) | (refine wpStoreM 29 0 #[.int .i64 k, .int .i64 o, .slice AL l.length cL, .int .i64 a1, .int .i64 a2, .int .i64 a3, .int .i64 a4, .int .i64 a5, .int .i64 a6, .int .i64 a7, .string ⟨ag.toArray⟩, .slice AA al.length cA, .int .i64 yc, .int .i64 ym, .int .i64 ye, .int .i64 yn] rfl (.tmp 2) (.tmp 49) rfl rfl rfl hyG.b0 (by simp [zeroM]) mail_info rfl (fun WE hbE hkE => ?_)))
          have hbE2 : Blk WE w.heap.size 29 #[.int .i64 k, .int .i64 o, .slice AL l.length cL, .int .i64 a1, .int .i64 a2, .int .i64 a3, .int .i64 a4, .int .i64 a5, .int .i64 a6, .int .i64 a7, .string ⟨ag.toArray⟩, .slice AA al.length cA, .int .i64 yc, .int .i64 ym, .int .i64 ye, .int .i64 yn] := hbE
          clear hbE
          refine bodyPost_ret (mres hbE2 _ _ rfl rfl) rfl ?_
          have hbl := hyG.bel
          refine ⟨hbl.trans (hkE.below (B := w.heap.size) hbl.size (fun k hk e => by omega)), ?_⟩
          have hltG := hyG.ba.lt
          have hwG := hyG.g0
          have hwG1 := hyG.g1
          refine .inl ⟨⟨k, o, l, ⟨a1, a2, a3, a4, a5, a6, a7, ag, al⟩, ⟨yc, ym, ye, yn⟩⟩, AL, cL, AA, cA, hmm, hyn, hD2.out.1 _ hSd hE hmm, ilG.kept hkE (fun ad h1 _ e => by have := halB ad h1; omega), iaG.kept hkE (fun ad h1 _ e => by have := haaB ad h1; omega), _, rfl, rfl⟩
      | false =>
        rw [hY] at hk9 hD
        go_wp2_with fail
        refine hk9.mono ?_
        rintro e w' ⟨rfl, hww⟩
        subst w'
        have hy := h7
        have ily := hil7
        have ial := hia7
        have hD2 := hD.out s4 y0 ⟨rfl, rfl⟩
        replace hD2 := Lib.hid hD2
        go_wp2_with fail
        refine (tdone_any W7 g A5 c5 s4 hy.pt).mono ?_
        rintro e w' ⟨rfl, hww⟩
        subst w'
        by_cases hE : s4 = some []
        case neg =>
          have hd : tdoneN s4 = 10 := by unfold tdoneN; rw [if_neg hE]
          rw [hd]
          go_wp2_with (refine wpStoreM 29 0 #[.int .i64 0, .int .i64 0, .slice none 0 0, .int .i64 0, .int .i64 0, .int .i64 0, .int .i64 0, .int .i64 0, .int .i64 0, .int .i64 0, .string ⟨#[]⟩, .slice none 0 0, .int .i64 0, .int .i64 0, .int .i64 0, .int .i64 0] rfl (.tmp 2) (.tmp 48) rfl rfl rfl hy.b0 (by simp [zeroM]) mail_info rfl (fun WE hbE hkE => ?_))
          have hbE2 : Blk WE w.heap.size 29 #[.int .i64 0, .int .i64 0, .slice none 0 0, .int .i64 0, .int .i64 0, .int .i64 0, .int .i64 0, .int .i64 0, .int .i64 0, .int .i64 0, .string ⟨#[]⟩, .slice none 0 0, .int .i64 0, .int .i64 0, .int .i64 0, .int .i64 0] := hbE
          clear hbE
          refine bodyPost_ret (mres hbE2 _ _ rfl rfl) rfl ?_
          have hbl := hy.bel
          refine ⟨hbl.trans (hkE.below (B := w.heap.size) hbl.size (fun k hk e => by omega)), ?_⟩
          refine .inr ⟨fun x hx hxn hb => ?_, _, rfl, rfl⟩
          exact hE (hD2.out.2 x hx hxn hb).2.1
        have hd : tdoneN s4 = 0 := by unfold tdoneN; rw [if_pos hE]
        rw [hd]
        have key := mmay_any ⟨k, o, l, ⟨a1, a2, a3, a4, a5, a6, a7, ag, al⟩, y0⟩ AL cL AA cA W7 ily ial hLEN hALN
        unfold MV.v MV.cs y0 at key
        dsimp only at key
        obtain ⟨mm, hmm⟩ : ∃ m, mayM ⟨k, o, l, ⟨a1, a2, a3, a4, a5, a6, a7, ag, al⟩, y0⟩ = m := ⟨_, rfl⟩
        rw [show mayM ⟨k, o, l, ⟨a1, a2, a3, a4, a5, a6, a7, ag, al⟩, ⟨0, 0, 0, 0⟩⟩ = mm from hmm] at key
        go_wp2_with (refine wpLoadM 29 (by rfl) (.tmp 5) rfl rfl hy.ba _ Try.underlying29 rfl mail_info ?_)
        refine key.mono ?_
        rintro e WG ⟨rfl, hxG⟩
        clear key
        have hyG := hy.below hxG
        have ilG := ily.below hxG
        have iaG := ial.below hxG
        cases mm with
        | false =>
          have hy := hyG
          go_wp2_with (refine wpStoreM 29 0 #[.int .i64 0, .int .i64 0, .slice none 0 0, .int .i64 0, .int .i64 0, .int .i64 0, .int .i64 0, .int .i64 0, .int .i64 0, .int .i64 0, .string ⟨#[]⟩, .slice none 0 0, .int .i64 0, .int .i64 0, .int .i64 0, .int .i64 0] rfl (.tmp 2) (.tmp 48) rfl rfl rfl hy.b0 (by simp [zeroM]) mail_info rfl (fun WE hbE hkE => ?_))
          have hbE2 : Blk WE w.heap.size 29 #[.int .i64 0, .int .i64 0, .slice none 0 0, .int .i64 0, .int .i64 0, .int .i64 0, .int .i64 0, .int .i64 0, .int .i64 0, .int .i64 0, .string ⟨#[]⟩, .slice none 0 0, .int .i64 0, .int .i64 0, .int .i64 0, .int .i64 0] := hbE
          clear hbE
          refine bodyPost_ret (mres hbE2 _ _ rfl rfl) rfl ?_
          have hbl := hy.bel
          refine ⟨hbl.trans (hkE.below (B := w.heap.size) hbl.size (fun k hk e => by omega)), ?_⟩
          refine .inr ⟨fun x hx hxn hb => ?_, _, rfl, rfl⟩
          have hq := hD2.out.2 x hx hxn hb
          have h1 := hq.1
          rw [hSd] at h1
          injection h1 with h1
          have h2 := hq.2.2
          rw [← h1] at h2
          rw [h2, hmm] at hx
          cases hx
        | true =>
          go_wp2_with (first | (refine wpLoadM 29 (by rfl) (.tmp 5) rfl rfl hyG.ba _ Try.underlying29 rfl mail_info ?_) | (refine wpStoreM 29 0 #[.int .i64 k, .int .i64 o, .slice AL l.length cL, .int .i64 a1, .int .i64 a2, .int .i64 a3, .int .i64 a4, .int .i64 a5, .int .i64 a6, .int .i64 a7, .string ⟨ag.toArray⟩, .slice AA al.length cA, .int .i64 0, .int .i64 0, .int .i64 0, .int .i64 0] rfl (.tmp 2) (.tmp 49) rfl rfl rfl hyG.b0 (by simp [zeroM]) mail_info rfl (fun WE hbE hkE => ?_)))
          have hbE2 : Blk WE w.heap.size 29 #[.int .i64 k, .int .i64 o, .slice AL l.length cL, .int .i64 a1, .int .i64 a2, .int .i64 a3, .int .i64 a4, .int .i64 a5, .int .i64 a6, .int .i64 a7, .string ⟨ag.toArray⟩, .slice AA al.length cA, .int .i64 0, .int .i64 0, .int .i64 0, .int .i64 0] := hbE
          clear hbE
          refine bodyPost_ret (mres hbE2 _ _ rfl rfl) rfl ?_
          have hbl := hyG.bel
          refine ⟨hbl.trans (hkE.below (B := w.heap.size) hbl.size (fun k hk e => by omega)), ?_⟩
          have hltG := hyG.ba.lt
          have hwG := hyG.g0
          have hwG1 := hyG.g1
          refine .inl ⟨⟨k, o, l, ⟨a1, a2, a3, a4, a5, a6, a7, ag, al⟩, y0⟩, AL, cL, AA, cA, hmm, ⟨by show (-9223372036854775808 : Int) ≤ 0; omega, by show (0 : Int) ≤ 9223372036854775807; omega⟩, hD2.out.1 _ hSd hE hmm, ilG.kept hkE (fun ad h1 _ e => by have := halB ad h1; omega), iaG.kept hkE (fun ad h1 _ e => by have := haaB ad h1; omega), _, rfl, rfl⟩
end Go.Proofs.Ytefgcknnnglkpaa
