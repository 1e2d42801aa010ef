/- The reference's Read and Decode of requests. No condition but that the bytes lie in memory. -/
import Derived.Test.YtpfkhalomnfcfaaRAskM
namespace Go.Proofs.Ytpfkhalomnfcfaa
open Go.RowKit Go.Maps Go.Shelf
set_option linter.unusedVariables false
set_option linter.unusedSimpArgs false

/-- What the reference takes: within bounds. -/
structure RTaken (st : Option (List UInt8)) (x : AV) (s1 s2 s3 s4 s5 s6 s7 s8 : Option (List UInt8)) : Prop where
  e1 : tnum st 0 63 = (x.c, s1)
  e2 : tnum s1 1 4294967296 = (x.m, s2)
  e3 : tnum s2 0 99 = (x.k, s3)
  e4 : tnum s3 0 1099511627776 = (x.o, s4)
  e5 : tnum s4 0 7 = (x.r, s5)
  e6 : tnum s5 0 7 = (x.t, s6)
  e7 : tnum s6 0 1099511627776 = (x.n, s7)
  e8 : ttext s7 16 = (x.g, s8)
theorem wide_num {st : Option (List UInt8)} {a b n : Int} {r : List UInt8} (h : tnum st a b = (n, some r)) : tnum st (-9223372036854775808) 9223372036854775807 = (n, some r) := by
  obtain ⟨rfl, h1, h2, h3, h4⟩ := num_taken h
  exact take_num n r h3 h4 _ _ h3 h4
theorem decA_some {b : List UInt8} {x : AV} (h : decA b = some x) : mayA x = true ∧ b = encA x := by
  obtain ⟨y, s, s1, s2, s3, s4, s5, s6, s7, s8, T⟩ := Taken.ex b
  rw [T.dec] at h
  split at h
  case isFalse => cases h
  case isTrue hs =>
    split at h
    case isFalse => cases h
    case isTrue hm =>
      cases h
      refine ⟨hm, ?_⟩
      subst hs
      obtain ⟨_, h9⟩ := takeL_some T.e9
      rw [List.append_nil] at h9
      have e8 := T.e8
      rw [h9] at e8
      obtain ⟨h8, _⟩ := text_taken e8
      have e7 := T.e7
      rw [h8] at e7
      obtain ⟨h7, _⟩ := num_taken e7
      have e6 := T.e6
      rw [h7] at e6
      obtain ⟨h6, _⟩ := num_taken e6
      have e5 := T.e5
      rw [h6] at e5
      obtain ⟨h5, _⟩ := num_taken e5
      have e4 := T.e4
      rw [h5] at e4
      obtain ⟨h4, _⟩ := num_taken e4
      have e3 := T.e3
      rw [h4] at e3
      obtain ⟨h3, _⟩ := num_taken e3
      have e2 := T.e2
      rw [h3] at e2
      obtain ⟨h2, _⟩ := num_taken e2
      have e1 := T.e1
      rw [h2] at e1
      obtain ⟨h1, _⟩ := num_taken e1
      injection h1 with h1
      rw [h1, encA_flat]
/-- Of a code the reference takes what the code is of. -/
theorem RTaken.enc {x y : AV} {s1 s2 s3 s4 s5 s6 s7 s8 : Option (List UInt8)} (hm : mayA x = true) (T : RTaken (some (encA x)) y s1 s2 s3 s4 s5 s6 s7 s8) :
    y.c = x.c ∧ y.m = x.m ∧ y.k = x.k ∧ y.o = x.o ∧ y.r = x.r ∧ y.t = x.t ∧ y.n = x.n ∧ y.g = x.g ∧ takeL s8 = (x.l, some []) := by
  obtain ⟨f1, f2, f3, f4, f5, f6, f7, f8, f9⟩ := mayA_facts hm
  obtain ⟨e1, e2, e3, e4, e5, e6, e7, e8⟩ := T
  rw [encA_flat] at e1
  rw [take_num x.c _ (by omega) (by omega) _ _ (by omega) (by omega)] at e1
  obtain ⟨c1, q1⟩ := Prod.mk.inj e1
  rw [← q1] at e2
  rw [take_num x.m _ (by omega) (by omega) _ _ (by omega) (by omega)] at e2
  obtain ⟨c2, q2⟩ := Prod.mk.inj e2
  rw [← q2] at e3
  rw [take_num x.k _ (by omega) (by omega) _ _ (by omega) (by omega)] at e3
  obtain ⟨c3, q3⟩ := Prod.mk.inj e3
  rw [← q3] at e4
  rw [take_num x.o _ (by omega) (by omega) _ _ (by omega) (by omega)] at e4
  obtain ⟨c4, q4⟩ := Prod.mk.inj e4
  rw [← q4] at e5
  rw [take_num x.r _ (by omega) (by omega) _ _ (by omega) (by omega)] at e5
  obtain ⟨c5, q5⟩ := Prod.mk.inj e5
  rw [← q5] at e6
  rw [take_num x.t _ (by omega) (by omega) _ _ (by omega) (by omega)] at e6
  obtain ⟨c6, q6⟩ := Prod.mk.inj e6
  rw [← q6] at e7
  rw [take_num x.n _ (by omega) (by omega) _ _ (by omega) (by omega)] at e7
  obtain ⟨c7, q7⟩ := Prod.mk.inj e7
  rw [← q7, take_text x.g _ 16 (by omega) (by omega)] at e8
  obtain ⟨c8, q8⟩ := Prod.mk.inj e8
  refine ⟨c1.symm, c2.symm, c3.symm, c4.symm, c5.symm, c6.symm, c7.symm, c8.symm, ?_⟩
  rw [← q8]
  have := takeL_enc x.l f9 []
  rw [List.append_nil] at this
  exact this
theorem RTaken.none_ {b : List UInt8} {y : AV} {s1 s2 s3 s4 s5 s6 s7 s8 : Option (List UInt8)} (T : RTaken (some b) y s1 s2 s3 s4 s5 s6 s7 s8) (h : (takeL s8).2 ≠ some [] ∨ (takeL s8 = (y.l, some []) ∧ mayA y = false)) : decA b = none := by
  cases hd : decA b with
  | none => rfl
  | some x =>
    exfalso
    obtain ⟨hm, rfl⟩ := decA_some hd
    obtain ⟨c1, c2, c3, c4, c5, c6, c7, c8, c9⟩ := T.enc hm
    rcases h with h | ⟨h, h2⟩
    · exact h (by rw [c9])
    · rw [c9] at h
      have hl := (Prod.mk.inj h).1
      have hyx : y = x := by
        obtain ⟨_, _, _, _, _, _, _, _, _⟩ := y
        obtain ⟨_, _, _, _, _, _, _, _, _⟩ := x
        dsimp only at c1 c2 c3 c4 c5 c6 c7 c8 hl
        subst c1 c2 c3 c4 c5 c6 c7 c8 hl
        rfl
      rw [hyx, hm] at h2
      cases h2
theorem RTaken.some_ {b : List UInt8} {y : AV} {s1 s2 s3 s4 s5 s6 s7 s8 : Option (List UInt8)} (T : RTaken (some b) y s1 s2 s3 s4 s5 s6 s7 s8) (h : takeL s8 = (y.l, some [])) (hm : mayA y = true) : decA b = some y := by
  obtain ⟨e1, e2, e3, e4, e5, e6, e7, e8⟩ := T
  obtain ⟨_, h9⟩ := takeL_some h
  rw [List.append_nil] at h9
  have i8 := e8
  rw [h9] at i8
  obtain ⟨h8, _⟩ := text_taken i8
  have i7 := e7
  rw [h8] at i7
  obtain ⟨h7, _⟩ := num_taken i7
  have i6 := e6
  rw [h7] at i6
  obtain ⟨h6, _⟩ := num_taken i6
  have i5 := e5
  rw [h6] at i5
  obtain ⟨h5, _⟩ := num_taken i5
  have i4 := e4
  rw [h5] at i4
  obtain ⟨h4, _⟩ := num_taken i4
  have i3 := e3
  rw [h4] at i3
  obtain ⟨h3, _⟩ := num_taken i3
  have i2 := e2
  rw [h3] at i2
  obtain ⟨h2, _⟩ := num_taken i2
  have i1 := e1
  rw [h2] at i1
  obtain ⟨h1, _⟩ := num_taken i1
  have T2 : Taken b y (some []) s1 s2 s3 s4 s5 s6 s7 s8 := by
    refine ⟨?_, ?_, ?_, ?_, ?_, ?_, ?_, e8, h⟩
    · rw [h2] at e1 ⊢
      exact wide_num e1
    · rw [h3] at e2 ⊢
      exact wide_num e2
    · rw [h4] at e3 ⊢
      exact wide_num e3
    · rw [h5] at e4 ⊢
      exact wide_num e4
    · rw [h6] at e5 ⊢
      exact wide_num e5
    · rw [h7] at e6 ⊢
      exact wide_num e6
    · rw [h8] at e7 ⊢
      exact wide_num e7
  rw [T2.dec, if_pos rfl, if_pos hm]

theorem text_short {st : Option (List UInt8)} {g : List UInt8} {s : Option (List UInt8)} (h : ttext st 16 = (g, s)) : g.length ≤ 9223372036854775807 := by
  cases s with
  | some r =>
    have := (text_taken h).2
    omega
  | none =>
    cases hf : ft (st.getD []) with
    | none =>
      rw [pt_none_ft st 16 hf] at h
      cases h
      simp
    | some p =>
      obtain ⟨k, m⟩ := p
      rw [pt_some_ft 16 hf] at h
      split at h
      · cases h
        simp
      · cases h
theorem may_wl {l : List It} (h : mayL l = true) : WL l := fun x hx => by
  obtain ⟨h1, h2, h3⟩ := (mayL_okI h).2 x hx
  exact ⟨by unfold maxLen; omega, wf_mk (by omega) (by omega)⟩
/-- The reference's taker, a request that is being filled, its result. -/
structure DR (w : World) (g : Nat) (A0 : Option Addr) (cs : Array Value) (W : World) (A : Option Addr) (c : Nat) (l : List UInt8) (bad : Bool) (st : Option (List UInt8)) : Prop where
  tk : TK 80 W g A c l bad
  eq : rst l bad = st
  old : OldA w.heap.size A (some l)
  keep : Keep (fun k => k = g) w W
  ba : Blk W (w.heap.size + 1) 24 cs
  b0 : Blk W w.heap.size 24 zeroA
  gl : g < w.heap.size
  same : SameBlock A0 A
section
variable {w : World} {g : Nat} {A0 : Option Addr} {cs : Array Value} {W W' : World} {A A' : Option Addr} {c c' : Nat} {l l' : List UInt8} {bad bad' : Bool} {st st' : Option (List UInt8)}
theorem DR.step (h : DR w g A0 cs W A c l bad st) (ht : TK 80 W' g A' c' l' bad') (he : rst l' bad' = st') (hk : Keep (fun k => k = g) W W') (hs : SameBlock A A') (hl : l'.length ≤ l.length) : DR w g A0 cs W' A' c' l' bad' st' := by
  have h0 := h.gl
  exact ⟨ht, he, h.old.less hs hl, h.keep.trans hk (fun i _ e => e), h.ba.kept hk (by omega), h.b0.kept hk (by omega), h0, h.same.trans hs⟩
theorem DR.put (h : DR w g A0 cs W A c l bad st) (i : Nat) (u : Value) : DR w g A0 (cs.setIfInBounds i u) (W.setCell ⟨w.heap.size + 1, i, none⟩ u) A c l bad st := by
  have h0 := h.gl
  have hk : Keep (fun k => k = w.heap.size + 1) W (W.setCell ⟨w.heap.size + 1, i, none⟩ u) := (Keep.refl (fun k => k = w.heap.size + 1) W).setCell (p := ⟨w.heap.size + 1, i, none⟩) (fun _ => rfl) u
  exact ⟨h.tk.keep h.old hk (by omega) (fun j hj => by omega), h.eq, h.old, h.keep.trans hk (fun i hi e => by omega), h.ba.set_ i u, h.b0.kept hk (by omega), h0, h.same⟩
end

/-- What the reference's Read comes to. -/
def RReadPost (w : World) (g : Nat) (A0 : Option Addr) (st : Option (List UInt8)) (e : Ending) (w' : World) : Prop :=
  ∃ (y : AV) (AL : Option Addr) (cL : Nat) (ok : Bool) (A' : Option Addr) (c' : Nat) (l' : List UInt8) (bad' : Bool) (s1 s2 s3 s4 s5 s6 s7 s8 : Option (List UInt8)), e = .returned (.tuple #[y.v AL cL, .bool ok]) ∧ RTaken st y s1 s2 s3 s4 s5 s6 s7 s8 ∧ IL w' AL y.l.length y.l ∧ (∀ ad, AL = some ad → w.heap.size ≤ ad.block) ∧ TK 80 w' g A' c' l' bad' ∧ Keep (fun k => k = g) w w' ∧ SameBlock A0 A' ∧
    (ok = true → takeL s8 = (y.l, some l') ∧ mayA y = true ∧ bad' = false) ∧ (ok = false → (takeL s8).2 = none ∨ ∃ r, takeL s8 = (y.l, some r) ∧ mayA y = false)

set_option maxRecDepth 100000 in
set_option maxHeartbeats 6400000 in
theorem raskread_any (w : World) (g : Nat) (A : Option Addr) (c : Nat) (b : List UInt8) (bad : Bool) (h : TK 80 w g A c b bad) :
    Calls Try.prog 77 #[.pointer (some ⟨g, 0, none⟩)] w (RReadPost w g A (rst b bad)) := by
  obtain ⟨xc, s1, E1⟩ : ∃ n s, tnum (rst b bad) 0 63 = (n, s) := ⟨_, _, rfl⟩
  obtain ⟨xm, s2, E2⟩ : ∃ n s, tnum s1 1 4294967296 = (n, s) := ⟨_, _, rfl⟩
  obtain ⟨xk, s3, E3⟩ : ∃ n s, tnum s2 0 99 = (n, s) := ⟨_, _, rfl⟩
  obtain ⟨xo, s4, E4⟩ : ∃ n s, tnum s3 0 1099511627776 = (n, s) := ⟨_, _, rfl⟩
  obtain ⟨xr, s5, E5⟩ : ∃ n s, tnum s4 0 7 = (n, s) := ⟨_, _, rfl⟩
  obtain ⟨xt, s6, E6⟩ : ∃ n s, tnum s5 0 7 = (n, s) := ⟨_, _, rfl⟩
  obtain ⟨xn, s7, E7⟩ : ∃ n s, tnum s6 0 1099511627776 = (n, s) := ⟨_, _, rfl⟩
  obtain ⟨xg, s8, E8⟩ : ∃ n s, ttext s7 16 = (n, s) := ⟨_, _, rfl⟩
  have K1 : Hid (∀ (W : World) (A' : Option Addr) (c' : Nat) (l' : List UInt8) (bad' : Bool), TK 80 W g A' c' l' bad' → rst l' bad' = (rst b bad) → Calls Try.prog 48 #[.pointer (some ⟨g, 0, none⟩), .int .i64 0, .int .i64 63] W (RTPost W g A' l'.length s1 (.int .i64 xc))) := Lib.hid (fun W A' c' l' bad' h1 h2 => by have := rtnum_any W g A' c' l' bad' 0 63 h1; rw [h2, E1] at this; exact this)
  have K2 : Hid (∀ (W : World) (A' : Option Addr) (c' : Nat) (l' : List UInt8) (bad' : Bool), TK 80 W g A' c' l' bad' → rst l' bad' = s1 → Calls Try.prog 48 #[.pointer (some ⟨g, 0, none⟩), .int .i64 1, .int .i64 4294967296] W (RTPost W g A' l'.length s2 (.int .i64 xm))) := Lib.hid (fun W A' c' l' bad' h1 h2 => by have := rtnum_any W g A' c' l' bad' 1 4294967296 h1; rw [h2, E2] at this; exact this)
  have K3 : Hid (∀ (W : World) (A' : Option Addr) (c' : Nat) (l' : List UInt8) (bad' : Bool), TK 80 W g A' c' l' bad' → rst l' bad' = s2 → Calls Try.prog 48 #[.pointer (some ⟨g, 0, none⟩), .int .i64 0, .int .i64 99] W (RTPost W g A' l'.length s3 (.int .i64 xk))) := Lib.hid (fun W A' c' l' bad' h1 h2 => by have := rtnum_any W g A' c' l' bad' 0 99 h1; rw [h2, E3] at this; exact this)
  have K4 : Hid (∀ (W : World) (A' : Option Addr) (c' : Nat) (l' : List UInt8) (bad' : Bool), TK 80 W g A' c' l' bad' → rst l' bad' = s3 → Calls Try.prog 48 #[.pointer (some ⟨g, 0, none⟩), .int .i64 0, .int .i64 1099511627776] W (RTPost W g A' l'.length s4 (.int .i64 xo))) := Lib.hid (fun W A' c' l' bad' h1 h2 => by have := rtnum_any W g A' c' l' bad' 0 1099511627776 h1; rw [h2, E4] at this; exact this)
  have K5 : Hid (∀ (W : World) (A' : Option Addr) (c' : Nat) (l' : List UInt8) (bad' : Bool), TK 80 W g A' c' l' bad' → rst l' bad' = s4 → Calls Try.prog 48 #[.pointer (some ⟨g, 0, none⟩), .int .i64 0, .int .i64 7] W (RTPost W g A' l'.length s5 (.int .i64 xr))) := Lib.hid (fun W A' c' l' bad' h1 h2 => by have := rtnum_any W g A' c' l' bad' 0 7 h1; rw [h2, E5] at this; exact this)
  have K6 : Hid (∀ (W : World) (A' : Option Addr) (c' : Nat) (l' : List UInt8) (bad' : Bool), TK 80 W g A' c' l' bad' → rst l' bad' = s5 → Calls Try.prog 48 #[.pointer (some ⟨g, 0, none⟩), .int .i64 0, .int .i64 7] W (RTPost W g A' l'.length s6 (.int .i64 xt))) := Lib.hid (fun W A' c' l' bad' h1 h2 => by have := rtnum_any W g A' c' l' bad' 0 7 h1; rw [h2, E6] at this; exact this)
  have K7 : Hid (∀ (W : World) (A' : Option Addr) (c' : Nat) (l' : List UInt8) (bad' : Bool), TK 80 W g A' c' l' bad' → rst l' bad' = s6 → Calls Try.prog 48 #[.pointer (some ⟨g, 0, none⟩), .int .i64 0, .int .i64 1099511627776] W (RTPost W g A' l'.length s7 (.int .i64 xn))) := Lib.hid (fun W A' c' l' bad' h1 h2 => by have := rtnum_any W g A' c' l' bad' 0 1099511627776 h1; rw [h2, E7] at this; exact this)
  have K8 : Hid (∀ (W : World) (A' : Option Addr) (c' : Nat) (l' : List UInt8) (bad' : Bool), TK 80 W g A' c' l' bad' → rst l' bad' = s7 → Calls Try.prog 50 #[.pointer (some ⟨g, 0, none⟩), .int .i64 16] W (RTPost W g A' l'.length s8 (strV xg))) := Lib.hid (fun W A' c' l' bad' h1 h2 => by have := rttext_any W g A' c' l' bad' 16 h1; rw [h2, E8] at this; exact this)
  have RT : ∀ xl, Hid (RTaken (rst b bad) ⟨xc, xm, xk, xo, xr, xt, xn, xg, xl⟩ s1 s2 s3 s4 s5 s6 s7 s8) := fun xl => Lib.hid ⟨E1, E2, E3, E4, E5, E6, E7, E8⟩
  have hGLX : xg.length ≤ 9223372036854775807 := text_short E8
  clear E1 E2 E3 E4 E5 E6 E7 E8
  have hgl := h.blk.lt
  have h00 : DR w g A zeroA ((w.alloc (.cells zeroA 24)).alloc (.cells zeroA 24)) A c b bad (rst b bad) := by
    have k : Keep (fun k => k = g) w ((w.alloc (.cells zeroA 24)).alloc (.cells zeroA 24)) := ((Keep.refl _ w).alloc _).alloc _
    have k0 : Keep (fun _ => False) w ((w.alloc (.cells zeroA 24)).alloc (.cells zeroA 24)) := ((Keep.refl _ w).alloc _).alloc _
    refine ⟨h.keep h.lt k0 id (fun _ _ => id), rfl, h.lt, k, ?_, (Blk.new _ _ _).alloc _, hgl, SameBlock.refl A⟩
    have := Blk.new (w.alloc (.cells zeroA 24)) 24 zeroA
    rw [World.size_alloc] at this
    exact this
  go_enter Try.func77, Try.ntmps77
  go_wp2_with fail
  refine (K1.out _ _ _ _ _ h00.tk h00.eq).mono ?_
  rintro e W1 ⟨A2, c2, l2, bad2, rfl, ht, he, hk, hs, hle⟩
  have hd := h00.step ht he hk hs hle
  have hf1 := hd.ba.frozen 0
  have hc1 := hd.ba.cell 0
  simp [zeroA] at hc1
  have h1 : DR w g A #[.int .i64 xc, .int .i64 0, .int .i64 0, .int .i64 0, .int .i64 0, .int .i64 0, .int .i64 0, .string ⟨#[]⟩, .slice none 0 0] (W1.setCell ⟨w.heap.size + 1, 0, none⟩ (.int .i64 xc)) A2 c2 l2 bad2 s1 := by simpa [zeroA] using hd.put 0 (.int .i64 xc)
  clear ht he hk hs hle hd K1 
  go_wp2_with fail
  refine (K2.out _ _ _ _ _ h1.tk h1.eq).mono ?_
  rintro e W2 ⟨A3, c3, l3, bad3, rfl, ht, he, hk, hs, hle⟩
  have hd := h1.step ht he hk hs hle
  have hf2 := hd.ba.frozen 1
  have hc2 := hd.ba.cell 1
  simp [zeroA] at hc2
  have h2 : DR w g A #[.int .i64 xc, .int .i64 xm, .int .i64 0, .int .i64 0, .int .i64 0, .int .i64 0, .int .i64 0, .string ⟨#[]⟩, .slice none 0 0] (W2.setCell ⟨w.heap.size + 1, 1, none⟩ (.int .i64 xm)) A3 c3 l3 bad3 s2 := by simpa [zeroA] using hd.put 1 (.int .i64 xm)
  clear ht he hk hs hle hd K2 h1
  go_wp2_with fail
  refine (K3.out _ _ _ _ _ h2.tk h2.eq).mono ?_
  rintro e W3 ⟨A4, c4, l4, bad4, rfl, ht, he, hk, hs, hle⟩
  have hd := h2.step ht he hk hs hle
  have hf3 := hd.ba.frozen 2
  have hc3 := hd.ba.cell 2
  simp [zeroA] at hc3
  have h3 : DR w g A #[.int .i64 xc, .int .i64 xm, .int .i64 xk, .int .i64 0, .int .i64 0, .int .i64 0, .int .i64 0, .string ⟨#[]⟩, .slice none 0 0] (W3.setCell ⟨w.heap.size + 1, 2, none⟩ (.int .i64 xk)) A4 c4 l4 bad4 s3 := by simpa [zeroA] using hd.put 2 (.int .i64 xk)
  clear ht he hk hs hle hd K3 h2
  go_wp2_with fail
  refine (K4.out _ _ _ _ _ h3.tk h3.eq).mono ?_
  rintro e W4 ⟨A5, c5, l5, bad5, rfl, ht, he, hk, hs, hle⟩
  have hd := h3.step ht he hk hs hle
  have hf4 := hd.ba.frozen 3
  have hc4 := hd.ba.cell 3
  simp [zeroA] at hc4
  have h4 : DR w g A #[.int .i64 xc, .int .i64 xm, .int .i64 xk, .int .i64 xo, .int .i64 0, .int .i64 0, .int .i64 0, .string ⟨#[]⟩, .slice none 0 0] (W4.setCell ⟨w.heap.size + 1, 3, none⟩ (.int .i64 xo)) A5 c5 l5 bad5 s4 := by simpa [zeroA] using hd.put 3 (.int .i64 xo)
  clear ht he hk hs hle hd K4 h3
  go_wp2_with fail
  refine (K5.out _ _ _ _ _ h4.tk h4.eq).mono ?_
  rintro e W5 ⟨A6, c6, l6, bad6, rfl, ht, he, hk, hs, hle⟩
  have hd := h4.step ht he hk hs hle
  have hf5 := hd.ba.frozen 4
  have hc5 := hd.ba.cell 4
  simp [zeroA] at hc5
  have h5 : DR w g A #[.int .i64 xc, .int .i64 xm, .int .i64 xk, .int .i64 xo, .int .i64 xr, .int .i64 0, .int .i64 0, .string ⟨#[]⟩, .slice none 0 0] (W5.setCell ⟨w.heap.size + 1, 4, none⟩ (.int .i64 xr)) A6 c6 l6 bad6 s5 := by simpa [zeroA] using hd.put 4 (.int .i64 xr)
  clear ht he hk hs hle hd K5 h4
  go_wp2_with fail
  refine (K6.out _ _ _ _ _ h5.tk h5.eq).mono ?_
  rintro e W6 ⟨A7, c7, l7, bad7, rfl, ht, he, hk, hs, hle⟩
  have hd := h5.step ht he hk hs hle
  have hf6 := hd.ba.frozen 5
  have hc6 := hd.ba.cell 5
  simp [zeroA] at hc6
  have h6 : DR w g A #[.int .i64 xc, .int .i64 xm, .int .i64 xk, .int .i64 xo, .int .i64 xr, .int .i64 xt, .int .i64 0, .string ⟨#[]⟩, .slice none 0 0] (W6.setCell ⟨w.heap.size + 1, 5, none⟩ (.int .i64 xt)) A7 c7 l7 bad7 s6 := by simpa [zeroA] using hd.put 5 (.int .i64 xt)
  clear ht he hk hs hle hd K6 h5
  go_wp2_with fail
  refine (K7.out _ _ _ _ _ h6.tk h6.eq).mono ?_
  rintro e W7 ⟨A8, c8, l8, bad8, rfl, ht, he, hk, hs, hle⟩
  have hd := h6.step ht he hk hs hle
  have hf7 := hd.ba.frozen 6
  have hc7 := hd.ba.cell 6
  simp [zeroA] at hc7
  have h7 : DR w g A #[.int .i64 xc, .int .i64 xm, .int .i64 xk, .int .i64 xo, .int .i64 xr, .int .i64 xt, .int .i64 xn, .string ⟨#[]⟩, .slice none 0 0] (W7.setCell ⟨w.heap.size + 1, 6, none⟩ (.int .i64 xn)) A8 c8 l8 bad8 s7 := by simpa [zeroA] using hd.put 6 (.int .i64 xn)
  clear ht he hk hs hle hd K7 h6
  go_wp2_with fail
  refine (K8.out _ _ _ _ _ h7.tk h7.eq).mono ?_
  rintro e W8 ⟨A9, c9, l9, bad9, rfl, ht, he, hk, hs, hle⟩
  have hd := h7.step ht he hk hs hle
  have hf8 := hd.ba.frozen 7
  have hc8 := hd.ba.cell 7
  simp [zeroA] at hc8
  have h8 : DR w g A #[.int .i64 xc, .int .i64 xm, .int .i64 xk, .int .i64 xo, .int .i64 xr, .int .i64 xt, .int .i64 xn, .string ⟨xg.toArray⟩, .slice none 0 0] (W8.setCell ⟨w.heap.size + 1, 7, none⟩ (.string ⟨xg.toArray⟩)) A9 c9 l9 bad9 s8 := by simpa [zeroA] using hd.put 7 (.string ⟨xg.toArray⟩)
  clear ht he hk hs hle hd K8 h7
  rw [strV_eq]
  go_wp2_with fail
  refine (rread_any _ g A9 c9 l9 bad9 h8.tk).mono ?_
  rintro e W9 ⟨v9, ok, A10, c10, l10, bad10, lr, rfl, hO, ht, hk, hs, hle, hyes, hno⟩
  rw [h8.eq] at hyes hno
  obtain ⟨AL, cL, rfl, hl1, hl2, hil, hal⟩ := hO.form
  have hba8 := h8.ba.lt
  have hd := h8.step ht rfl hk hs hle
  have hf9 := hd.ba.frozen 8
  have hc9 := hd.ba.cell 8
  simp [zeroA] at hc9
  have h9 : DR w g A #[.int .i64 xc, .int .i64 xm, .int .i64 xk, .int .i64 xo, .int .i64 xr, .int .i64 xt, .int .i64 xn, .string ⟨xg.toArray⟩, .slice AL lr.length cL] (W9.setCell ⟨w.heap.size + 1, 8, none⟩ (.slice AL lr.length cL)) A10 c10 l10 bad10 (rst l10 bad10) := by simpa [zeroA] using hd.put 8 (.slice AL lr.length cL)
  have hil9 : IL (W9.setCell ⟨w.heap.size + 1, 8, none⟩ (.slice AL lr.length cL)) AL lr.length lr := hil.kept ((Keep.refl (fun k => k = w.heap.size + 1) W9).setCell (p := ⟨w.heap.size + 1, 8, none⟩) (fun _ => rfl) _) (fun ad h1 h2 e => by have := (hal ad h1).1; omega)
  have HYES := Lib.hid hyes
  have HNO := Lib.hid hno
  clear ht hk hs hle hd h8 hO hil hyes hno h00
  have hGL : xg.length ≤ 9223372036854775807 := hGLX
  have hLEN : lr.length ≤ 9223372036854775807 := by unfold maxLen at hl2; omega
  go_wp2_with fail
  generalize W9.setCell ⟨w.heap.size + 1, 8, none⟩ (.slice AL lr.length cL) = WF at h9 hil9 ⊢
  have hS9 := boxS (c := xc) (m := xm) (k := xk) (o := xo) (r := xr) (t := xt) (n := xn) (g := xg) (l := lr) (A := AL) (cap := cL) h9.ba
  have hsz9 := h9.keep.size
  have hlt9 := h9.ba.lt
  have hgl9 := h9.gl
  cases ok with
  | false =>
    have hno := HNO.out rfl
    have hbad9 := h9.tk.blk.cell 1
    simp at hbad9
    refine wp_region_held_drew (S := (fun w' => w'.cell? ⟨w.heap.size + 1, 0, none⟩ = some (.int .i64 xc) ∧ w'.cell? ⟨w.heap.size + 1, 1, none⟩ = some (.int .i64 xm) ∧ w'.cell? ⟨w.heap.size + 1, 2, none⟩ = some (.int .i64 xk) ∧ w'.cell? ⟨w.heap.size + 1, 3, none⟩ = some (.int .i64 xo) ∧ w'.cell? ⟨w.heap.size + 1, 4, none⟩ = some (.int .i64 xr) ∧ w'.cell? ⟨w.heap.size + 1, 5, none⟩ = some (.int .i64 xt) ∧ w'.cell? ⟨w.heap.size + 1, 6, none⟩ = some (.int .i64 xn) ∧ w'.cell? ⟨w.heap.size + 1, 7, none⟩ = some (.string ⟨xg.toArray⟩) ∧ w'.cell? ⟨w.heap.size + 1, 8, none⟩ = some (.slice AL lr.length cL) ∧ w'.cell? ⟨g, 1, none⟩ = some (.bool bad10))) (by kernel_rfl) ⟨hS9.1, hS9.2.1, hS9.2.2.1, hS9.2.2.2.1, hS9.2.2.2.2.1, hS9.2.2.2.2.2.1, hS9.2.2.2.2.2.2.1, hS9.2.2.2.2.2.2.2.1, hS9.2.2.2.2.2.2.2.2, hbad9⟩ (fun hHeld => ?_)
    refine wpAnyH_take (i := 0) (oi := ?oi0A) (v := ?v0A) ?hi0A (by kernel_rfl) (by kernel_rfl) (by kernel_rfl) ?hq0A (Or.inl ⟨?hw0A, ?hy0A⟩) (by assumption) ?rest0A
    case hi0A => (simp only [List.getElem?_toArray, List.getElem?_cons_succ, List.getElem?_cons_zero]; rfl)
    case hq0A => exact fun _ _ _ h => h
    case hw0A => rfl
    case hy0A => (intro w hSw; (try dsimp only at hSw); go_simp <;> with_reducible rfl)
    try simp only [Act.put, List.setIfInBounds_toArray, List.set_cons_zero, List.set_cons_succ]
    refine wpAnyH_take (i := 1) (oi := ?oi1A) (v := ?v1A) ?hi1A (by kernel_rfl) (by kernel_rfl) (by kernel_rfl) ?hq1A (Or.inl ⟨?hw1A, ?hy1A⟩) (by assumption) ?rest1A
    case hi1A => (simp only [List.getElem?_toArray, List.getElem?_cons_succ, List.getElem?_cons_zero]; rfl)
    case hq1A => exact fun _ _ _ h => h
    case hw1A => rfl
    case hy1A => (intro w hSw; (try dsimp only at hSw); go_simp <;> with_reducible rfl)
    try simp only [Act.put, List.setIfInBounds_toArray, List.set_cons_zero, List.set_cons_succ]
    refine wpAnyH_take (i := 2) (oi := ?oi2A) (v := ?v2A) ?hi2A (by kernel_rfl) (by kernel_rfl) (by kernel_rfl) ?hq2A (Or.inl ⟨?hw2A, ?hy2A⟩) (by assumption) ?rest2A
    case hi2A => (simp only [List.getElem?_toArray, List.getElem?_cons_succ, List.getElem?_cons_zero]; rfl)
    case hq2A => exact fun _ _ _ h => h
    case hw2A => rfl
    case hy2A => (intro w hSw; (try dsimp only at hSw); go_simp <;> with_reducible rfl)
    try simp only [Act.put, List.setIfInBounds_toArray, List.set_cons_zero, List.set_cons_succ]
    refine wpAnyH_take (i := 3) (oi := ?oi3A) (v := undef) ?hi3A (by kernel_rfl) (by kernel_rfl) (by kernel_rfl) ?hq3A (Or.inr ⟨?hw3A, rfl⟩) (by assumption) ?rest3A
    case hi3A => (simp only [List.getElem?_toArray, List.getElem?_cons_succ, List.getElem?_cons_zero]; rfl)
    case hq3A => exact fun _ _ _ h => h
    case hw3A => rfl
    try simp only [Act.put, List.setIfInBounds_toArray, List.set_cons_zero, List.set_cons_succ]
    refine wpAnyH_take (i := 4) (oi := ?oi4A) (v := undef) ?hi4A (by kernel_rfl) (by kernel_rfl) (by kernel_rfl) ?hq4A (Or.inr ⟨?hw4A, rfl⟩) (by assumption) ?rest4A
    case hi4A => (simp only [List.getElem?_toArray, List.getElem?_cons_succ, List.getElem?_cons_zero]; rfl)
    case hq4A => exact fun _ _ _ h => h
    case hw4A => rfl
    try simp only [Act.put, List.setIfInBounds_toArray, List.set_cons_zero, List.set_cons_succ]
    refine wpAnyH_take (i := 5) (oi := ?oi5A) (v := undef) ?hi5A (by kernel_rfl) (by kernel_rfl) (by kernel_rfl) ?hq5A (Or.inr ⟨?hw5A, rfl⟩) (by assumption) ?rest5A
    case hi5A => (simp only [List.getElem?_toArray, List.getElem?_cons_succ, List.getElem?_cons_zero]; rfl)
    case hq5A => exact fun _ _ _ h => h
    case hw5A => rfl
    try simp only [Act.put, List.setIfInBounds_toArray, List.set_cons_zero, List.set_cons_succ]
    refine wpAnyH_take (i := 6) (oi := ?oi6A) (v := undef) ?hi6A (by kernel_rfl) (by kernel_rfl) (by kernel_rfl) ?hq6A (Or.inr ⟨?hw6A, rfl⟩) (by assumption) ?rest6A
    case hi6A => (simp only [List.getElem?_toArray, List.getElem?_cons_succ, List.getElem?_cons_zero]; rfl)
    case hq6A => exact fun _ _ _ h => h
    case hw6A => rfl
    try simp only [Act.put, List.setIfInBounds_toArray, List.set_cons_zero, List.set_cons_succ]
    refine wpAnyH_take (i := 7) (oi := ?oi7A) (v := undef) ?hi7A (by kernel_rfl) (by kernel_rfl) (by kernel_rfl) ?hq7A (Or.inr ⟨?hw7A, rfl⟩) (by assumption) ?rest7A
    case hi7A => (simp only [List.getElem?_toArray, List.getElem?_cons_succ, List.getElem?_cons_zero]; rfl)
    case hq7A => exact fun _ _ _ h => h
    case hw7A => rfl
    try simp only [Act.put, List.setIfInBounds_toArray, List.set_cons_zero, List.set_cons_succ]
    refine wpAnyH_take (i := 8) (oi := ?oi8A) (v := ?v8A) ?hi8A (by kernel_rfl) (by kernel_rfl) (by kernel_rfl) ?hq8A (Or.inl ⟨?hw8A, ?hy8A⟩) (by assumption) ?rest8A
    case hi8A => (simp only [List.getElem?_toArray, List.getElem?_cons_succ, List.getElem?_cons_zero]; rfl)
    case hq8A => exact fun _ _ _ h => h
    case hw8A => rfl
    case hy8A => (intro w hSw; (try dsimp only at hSw); go_simp <;> with_reducible rfl)
    try simp only [Act.put, List.setIfInBounds_toArray, List.set_cons_zero, List.set_cons_succ]
    refine wpAnyH_take (i := 9) (oi := ?oi9A) (v := ?v9A) ?hi9A (by kernel_rfl) (by kernel_rfl) (by kernel_rfl) ?hq9A (Or.inl ⟨?hw9A, ?hy9A⟩) (by assumption) ?rest9A
    case hi9A => (simp only [List.getElem?_toArray, List.getElem?_cons_succ, List.getElem?_cons_zero]; rfl)
    case hq9A => exact fun _ _ _ h => h
    case hw9A => rfl
    case hy9A => (intro w hSw; (try dsimp only at hSw); go_simp <;> with_reducible rfl)
    try simp only [Act.put, List.setIfInBounds_toArray, List.set_cons_zero, List.set_cons_succ]
    refine wpAnyH_take (i := 10) (oi := ?oi10A) (v := undef) ?hi10A (by kernel_rfl) (by kernel_rfl) (by kernel_rfl) ?hq10A (Or.inr ⟨?hw10A, rfl⟩) (by assumption) ?rest10A
    case hi10A => (simp only [List.getElem?_toArray, List.getElem?_cons_succ, List.getElem?_cons_zero]; rfl)
    case hq10A => exact fun _ _ _ h => h
    case hw10A => rfl
    try simp only [Act.put, List.setIfInBounds_toArray, List.set_cons_zero, List.set_cons_succ]
    refine wpAnyH_take (i := 11) (oi := ?oi11A) (v := undef) ?hi11A (by kernel_rfl) (by kernel_rfl) (by kernel_rfl) ?hq11A (Or.inr ⟨?hw11A, rfl⟩) (by assumption) ?rest11A
    case hi11A => (simp only [List.getElem?_toArray, List.getElem?_cons_succ, List.getElem?_cons_zero]; rfl)
    case hq11A => exact fun _ _ _ h => h
    case hw11A => rfl
    try simp only [Act.put, List.setIfInBounds_toArray, List.set_cons_zero, List.set_cons_succ]
    refine wpAnyH_take (i := 12) (oi := ?oi12A) (v := ?v12A) ?hi12A (by kernel_rfl) (by kernel_rfl) (by kernel_rfl) ?hq12A (Or.inl ⟨?hw12A, ?hy12A⟩) (by assumption) ?rest12A
    case hi12A => (simp only [List.getElem?_toArray, List.getElem?_cons_succ, List.getElem?_cons_zero]; rfl)
    case hq12A => exact fun _ _ _ h => h
    case hw12A => rfl
    case hy12A => (intro w hSw; (try dsimp only at hSw); go_simp <;> with_reducible rfl)
    try simp only [Act.put, List.setIfInBounds_toArray, List.set_cons_zero, List.set_cons_succ]
    refine wpAnyH_ready (rs := [13]) (by kernel_rfl) (by simp) ?_
    refine AllReadyH.cons (o := ?o13A) ?hi13A (fun K hK => ?st13A) AllReadyH.nil
    case hi13A => (simp only [List.getElem?_toArray, List.getElem?_cons_succ, List.getElem?_cons_zero]; rfl)
    go_simp
    have hbE := fill9 (h9.b0) (.int .i64 xc) (.int .i64 xm) (.int .i64 xk) (.int .i64 xo) (.int .i64 xr) (.int .i64 xt) (.int .i64 xn) (.string ⟨xg.toArray⟩) (.slice AL lr.length cL)
    have hkE := keep9 WF w.heap.size (.int .i64 xc) (.int .i64 xm) (.int .i64 xk) (.int .i64 xo) (.int .i64 xr) (.int .i64 xt) (.int .i64 xn) (.string ⟨xg.toArray⟩) (.slice AL lr.length cL)
    have hSz := boxS (c := 0) (m := 0) (k := 0) (o := 0) (r := 0) (t := 0) (n := 0) (g := []) (l := []) (A := none) (cap := 0) (h9.b0)
    have hFz := fun i => (h9.b0).frozen i
    go_simp
    generalize (((((((((WF.setCell ⟨w.heap.size, 0, none⟩ (.int .i64 xc)).setCell ⟨w.heap.size, 1, none⟩ (.int .i64 xm)).setCell ⟨w.heap.size, 2, none⟩ (.int .i64 xk)).setCell ⟨w.heap.size, 3, none⟩ (.int .i64 xo)).setCell ⟨w.heap.size, 4, none⟩ (.int .i64 xr)).setCell ⟨w.heap.size, 5, none⟩ (.int .i64 xt)).setCell ⟨w.heap.size, 6, none⟩ (.int .i64 xn)).setCell ⟨w.heap.size, 7, none⟩ (.string ⟨xg.toArray⟩)).setCell ⟨w.heap.size, 8, none⟩ (.slice AL lr.length cL)) = WE at hbE hkE ⊢
    replace hbE := hbE.drew
    replace hkE := hkE.drew
    have hbaE := (h9.ba).kept hkE (by omega)
    have htkE := (h9.tk).keep h9.old hkE (by omega) (fun j hj => by omega)
    have hilE := (hil9).kept hkE (fun ad h1 h2 e => by have := (hal ad h1).1; omega)
    have hkpE : Keep (fun k => k = g) w WE.drew := (h9.keep).trans hkE (fun i hi e => by omega)
    have hSE := boxS (c := xc) (m := xm) (k := xk) (o := xo) (r := xr) (t := xt) (n := xn) (g := xg) (l := lr) (A := AL) (cap := cL) hbaE
    have hbadE := htkE.blk.cell 1
    simp at hbadE
    clear hSz hFz
    refine hK.out _ _ ⟨hSE.1, hSE.2.1, hSE.2.2.1, hSE.2.2.2.1, hSE.2.2.2.2.1, hSE.2.2.2.2.2.1, hSE.2.2.2.2.2.2.1, hSE.2.2.2.2.2.2.2.1, hSE.2.2.2.2.2.2.2.2, hbadE⟩ (fun hHeld2 => ?_)
    clear hK K hHeld
    have hHeld := hHeld2
    clear hHeld2
    try simp only [Act.put, List.setIfInBounds_toArray, List.set_cons_zero, List.set_cons_succ]
    refine wpAnyH_take (i := 14) (oi := ?oi14A) (v := ?v14A) ?hi14A (by kernel_rfl) (by kernel_rfl) (by kernel_rfl) ?hq14A (Or.inl ⟨?hw14A, ?hy14A⟩) (by assumption) ?rest14A
    case hi14A => (simp only [List.getElem?_toArray, List.getElem?_cons_succ, List.getElem?_cons_zero]; rfl)
    case hq14A => exact fun _ _ _ h => h
    case hw14A => rfl
    case hy14A => (intro w hSw; (try dsimp only at hSw); go_simp <;> with_reducible rfl)
    try simp only [Act.put, List.setIfInBounds_toArray, List.set_cons_zero, List.set_cons_succ]
    refine wpAnyH_done (by kernel_rfl) ?_ _
    go_wp2
    have hE := boxS (c := xc) (m := xm) (k := xk) (o := xo) (r := xr) (t := xt) (n := xn) (g := xg) (l := lr) (A := AL) (cap := cL) hbE
    obtain ⟨j0, j1, j2, j3, j4, j5, j6, j7, j8⟩ := hE
    refine bodyPost_ret (v := .tuple #[.agg #[.int .i64 xc, .int .i64 xm, .int .i64 xk, .int .i64 xo, .int .i64 xr, .int .i64 xt, .int .i64 xn, .string ⟨xg.toArray⟩, .slice AL lr.length cL], .bool false]) (by simp [results, Try.results77, go_sem, j0, j1, j2, j3, j4, j5, j6, j7, j8]) rfl ?_
    exact ⟨⟨xc, xm, xk, xo, xr, xt, xn, xg, lr⟩, AL, cL, false, A10, c10, l10, bad10, s1, s2, s3, s4, s5, s6, s7, s8, rfl, (RT lr).out, hilE, (fun ad h1 => by have := (hal ad h1).1; omega), htkE, hkpE, h9.same, (fun h => by cases h), fun _ => .inl hno⟩
  | true =>
    obtain ⟨hT, rfl⟩ := HYES.out rfl
    have hbad9 := h9.tk.blk.cell 1
    simp at hbad9
    have hmL : mayL lr = true := (takeL_some hT).1
    have hWL : WL lr := may_wl hmL
    cases hmay : mayA ⟨xc, xm, xk, xo, xr, xt, xn, xg, lr⟩ with
    | false =>
      refine wp_region_held_drew (S := (fun w' => w'.cell? ⟨w.heap.size + 1, 0, none⟩ = some (.int .i64 xc) ∧ w'.cell? ⟨w.heap.size + 1, 1, none⟩ = some (.int .i64 xm) ∧ w'.cell? ⟨w.heap.size + 1, 2, none⟩ = some (.int .i64 xk) ∧ w'.cell? ⟨w.heap.size + 1, 3, none⟩ = some (.int .i64 xo) ∧ w'.cell? ⟨w.heap.size + 1, 4, none⟩ = some (.int .i64 xr) ∧ w'.cell? ⟨w.heap.size + 1, 5, none⟩ = some (.int .i64 xt) ∧ w'.cell? ⟨w.heap.size + 1, 6, none⟩ = some (.int .i64 xn) ∧ w'.cell? ⟨w.heap.size + 1, 7, none⟩ = some (.string ⟨xg.toArray⟩) ∧ w'.cell? ⟨w.heap.size + 1, 8, none⟩ = some (.slice AL lr.length cL) ∧ w'.cell? ⟨g, 1, none⟩ = some (.bool false))) (by kernel_rfl) ⟨hS9.1, hS9.2.1, hS9.2.2.1, hS9.2.2.2.1, hS9.2.2.2.2.1, hS9.2.2.2.2.2.1, hS9.2.2.2.2.2.2.1, hS9.2.2.2.2.2.2.2.1, hS9.2.2.2.2.2.2.2.2, hbad9⟩ (fun hHeld => ?_)
      refine wpAnyH_take (i := 0) (oi := ?oi0B) (v := ?v0B) ?hi0B (by kernel_rfl) (by kernel_rfl) (by kernel_rfl) ?hq0B (Or.inl ⟨?hw0B, ?hy0B⟩) (by assumption) ?rest0B
      case hi0B => (simp only [List.getElem?_toArray, List.getElem?_cons_succ, List.getElem?_cons_zero]; rfl)
      case hq0B => exact fun _ _ _ h => h
      case hw0B => rfl
      case hy0B => (intro w hSw; (try dsimp only at hSw); go_simp <;> with_reducible rfl)
      try simp only [Act.put, List.setIfInBounds_toArray, List.set_cons_zero, List.set_cons_succ]
      refine wpAnyH_take (i := 1) (oi := ?oi1B) (v := ?v1B) ?hi1B (by kernel_rfl) (by kernel_rfl) (by kernel_rfl) ?hq1B (Or.inl ⟨?hw1B, ?hy1B⟩) (by assumption) ?rest1B
      case hi1B => (simp only [List.getElem?_toArray, List.getElem?_cons_succ, List.getElem?_cons_zero]; rfl)
      case hq1B => exact fun _ _ _ h => h
      case hw1B => rfl
      case hy1B => (intro w hSw; (try dsimp only at hSw); go_simp <;> with_reducible rfl)
      try simp only [Act.put, List.setIfInBounds_toArray, List.set_cons_zero, List.set_cons_succ]
      refine wpAnyH_take (i := 2) (oi := ?oi2B) (v := ?v2B) ?hi2B (by kernel_rfl) (by kernel_rfl) (by kernel_rfl) ?hq2B (Or.inl ⟨?hw2B, ?hy2B⟩) (by assumption) ?rest2B
      case hi2B => (simp only [List.getElem?_toArray, List.getElem?_cons_succ, List.getElem?_cons_zero]; rfl)
      case hq2B => exact fun _ _ _ h => h
      case hw2B => rfl
      case hy2B => (intro w hSw; (try dsimp only at hSw); go_simp <;> with_reducible rfl)
      try simp only [Act.put, List.setIfInBounds_toArray, List.set_cons_zero, List.set_cons_succ]
      refine wpAnyH_take (i := 3) (oi := ?oi3B) (v := ?v3B) ?hi3B (by kernel_rfl) (by kernel_rfl) (by kernel_rfl) ?hq3B (Or.inl ⟨?hw3B, ?hy3B⟩) (by assumption) ?rest3B
      case hi3B => (simp only [List.getElem?_toArray, List.getElem?_cons_succ, List.getElem?_cons_zero]; rfl)
      case hq3B => exact fun _ _ _ h => h
      case hw3B => rfl
      case hy3B => (intro w hSw; (try dsimp only at hSw); go_simp <;> with_reducible rfl)
      try simp only [Act.put, List.setIfInBounds_toArray, List.set_cons_zero, List.set_cons_succ]
      refine wpAnyH_take (i := 4) (oi := ?oi4B) (v := ?v4B) ?hi4B (by kernel_rfl) (by kernel_rfl) (by kernel_rfl) ?hq4B (Or.inl ⟨?hw4B, ?hy4B⟩) (by assumption) ?rest4B
      case hi4B => (simp only [List.getElem?_toArray, List.getElem?_cons_succ, List.getElem?_cons_zero]; rfl)
      case hq4B => exact fun _ _ _ h => h
      case hw4B => rfl
      case hy4B => (intro w hSw; (try dsimp only at hSw); go_simp <;> with_reducible rfl)
      try simp only [Act.put, List.setIfInBounds_toArray, List.set_cons_zero, List.set_cons_succ]
      refine wpAnyH_take (i := 5) (oi := ?oi5B) (v := ?v5B) ?hi5B (by kernel_rfl) (by kernel_rfl) (by kernel_rfl) ?hq5B (Or.inl ⟨?hw5B, ?hy5B⟩) (by assumption) ?rest5B
      case hi5B => (simp only [List.getElem?_toArray, List.getElem?_cons_succ, List.getElem?_cons_zero]; rfl)
      case hq5B => exact fun _ _ _ h => h
      case hw5B => rfl
      case hy5B => (intro w hSw; (try dsimp only at hSw); go_simp <;> with_reducible rfl)
      try simp only [Act.put, List.setIfInBounds_toArray, List.set_cons_zero, List.set_cons_succ]
      refine wpAnyH_take (i := 6) (oi := ?oi6B) (v := ?v6B) ?hi6B (by kernel_rfl) (by kernel_rfl) (by kernel_rfl) ?hq6B (Or.inl ⟨?hw6B, ?hy6B⟩) (by assumption) ?rest6B
      case hi6B => (simp only [List.getElem?_toArray, List.getElem?_cons_succ, List.getElem?_cons_zero]; rfl)
      case hq6B => exact fun _ _ _ h => h
      case hw6B => rfl
      case hy6B => (intro w hSw; (try dsimp only at hSw); go_simp <;> with_reducible rfl)
      try simp only [Act.put, List.setIfInBounds_toArray, List.set_cons_zero, List.set_cons_succ]
      refine wpAnyH_take (i := 7) (oi := ?oi7B) (v := ?v7B) ?hi7B (by kernel_rfl) (by kernel_rfl) (by kernel_rfl) ?hq7B (Or.inl ⟨?hw7B, ?hy7B⟩) (by assumption) ?rest7B
      case hi7B => (simp only [List.getElem?_toArray, List.getElem?_cons_succ, List.getElem?_cons_zero]; rfl)
      case hq7B => exact fun _ _ _ h => h
      case hw7B => rfl
      case hy7B => (intro w hSw; (try dsimp only at hSw); go_simp <;> with_reducible rfl)
      try simp only [Act.put, List.setIfInBounds_toArray, List.set_cons_zero, List.set_cons_succ]
      refine wpAnyH_take (i := 8) (oi := ?oi8B) (v := ?v8B) ?hi8B (by kernel_rfl) (by kernel_rfl) (by kernel_rfl) ?hq8B (Or.inl ⟨?hw8B, ?hy8B⟩) (by assumption) ?rest8B
      case hi8B => (simp only [List.getElem?_toArray, List.getElem?_cons_succ, List.getElem?_cons_zero]; rfl)
      case hq8B => exact fun _ _ _ h => h
      case hw8B => rfl
      case hy8B => (intro w hSw; (try dsimp only at hSw); go_simp <;> with_reducible rfl)
      try simp only [Act.put, List.setIfInBounds_toArray, List.set_cons_zero, List.set_cons_succ]
      refine wpAnyH_take (i := 9) (oi := ?oi9B) (v := ?v9B) ?hi9B (by kernel_rfl) (by kernel_rfl) (by kernel_rfl) ?hq9B (Or.inl ⟨?hw9B, ?hy9B⟩) (by assumption) ?rest9B
      case hi9B => (simp only [List.getElem?_toArray, List.getElem?_cons_succ, List.getElem?_cons_zero]; rfl)
      case hq9B => exact fun _ _ _ h => h
      case hw9B => rfl
      case hy9B => (intro w hSw; (try dsimp only at hSw); go_simp <;> with_reducible rfl)
      try simp only [Act.put, List.setIfInBounds_toArray, List.set_cons_zero, List.set_cons_succ]
      refine wpAnyH_take (i := 10) (oi := ?oi10B) (v := ?v10B) ?hi10B (by kernel_rfl) (by kernel_rfl) (by kernel_rfl) ?hq10B (Or.inl ⟨?hw10B, ?hy10B⟩) (by assumption) ?rest10B
      case hi10B => (simp only [List.getElem?_toArray, List.getElem?_cons_succ, List.getElem?_cons_zero]; rfl)
      case hq10B => exact fun _ _ _ h => h
      case hw10B => rfl
      case hy10B => (intro w hSw; (try dsimp only at hSw); go_simp <;> with_reducible rfl)
      try simp only [Act.put, List.setIfInBounds_toArray, List.set_cons_zero, List.set_cons_succ]
      refine wpAnyH_ready (rs := [11]) (by kernel_rfl) (by simp) ?_
      refine AllReadyH.cons (o := ?o11B) ?hi11B (fun K hK => ?st11B) AllReadyH.nil
      case hi11B => (simp only [List.getElem?_toArray, List.getElem?_cons_succ, List.getElem?_cons_zero]; rfl)
      go_simp
      refine (raskmay_any ⟨xc, xm, xk, xo, xr, xt, xn, xg, lr⟩ AL cL _ hil9.drew hWL hLEN hGL).mono ?_
      rintro e WG ⟨rfl, hxG⟩
      have hxG : Below WF.drew.heap.size WF.drew WG := hxG
      have hzG : WF.heap.size ≤ WG.heap.size := hxG.size
      have htkG := (h9.tk.drewN 1).below hxG
      have hbaG := h9.ba.drew.kept (Keep.of_below hxG) (fun h => absurd h9.ba.lt (Nat.not_lt.2 h))
      have hb0G := h9.b0.drew.kept (Keep.of_below hxG) (fun h => absurd h9.b0.lt (Nat.not_lt.2 h))
      have hilG := hil9.drew.below hxG
      have hkpG : Keep (fun k => k = g) w WG := h9.keep.drew.trans (Keep.of_below hxG) (fun i hi h2 => by have := h9.keep.size; have h2 : WF.heap.size ≤ i := h2; omega)
      have hSG := boxS (c := xc) (m := xm) (k := xk) (o := xo) (r := xr) (t := xt) (n := xn) (g := xg) (l := lr) (A := AL) (cap := cL) hbaG
      have hbadG := htkG.blk.cell 1
      simp at hbadG
      rw [hmay]
      go_wp2_with fail
      refine hK.out _ _ ⟨hSG.1, hSG.2.1, hSG.2.2.1, hSG.2.2.2.1, hSG.2.2.2.2.1, hSG.2.2.2.2.2.1, hSG.2.2.2.2.2.2.1, hSG.2.2.2.2.2.2.2.1, hSG.2.2.2.2.2.2.2.2, hbadG⟩ (fun hHeld2 => ?_)
      clear hK K hHeld
      have hHeld := hHeld2
      clear hHeld2
      try simp only [Act.put, List.setIfInBounds_toArray, List.set_cons_zero, List.set_cons_succ]
      refine wpAnyH_take (i := 12) (oi := ?oi12B) (v := ?v12B) ?hi12B (by kernel_rfl) (by kernel_rfl) (by kernel_rfl) ?hq12B (Or.inl ⟨?hw12B, ?hy12B⟩) (by assumption) ?rest12B
      case hi12B => (simp only [List.getElem?_toArray, List.getElem?_cons_succ, List.getElem?_cons_zero]; rfl)
      case hq12B => exact fun _ _ _ h => h
      case hw12B => rfl
      case hy12B => (intro w hSw; (try dsimp only at hSw); go_simp <;> with_reducible rfl)
      try simp only [Act.put, List.setIfInBounds_toArray, List.set_cons_zero, List.set_cons_succ]
      refine wpAnyH_ready (rs := [13]) (by kernel_rfl) (by simp) ?_
      refine AllReadyH.cons (o := ?o13B) ?hi13B (fun K hK => ?st13B) AllReadyH.nil
      case hi13B => (simp only [List.getElem?_toArray, List.getElem?_cons_succ, List.getElem?_cons_zero]; rfl)
      go_simp
      have hbE := fill9 (hb0G) (.int .i64 xc) (.int .i64 xm) (.int .i64 xk) (.int .i64 xo) (.int .i64 xr) (.int .i64 xt) (.int .i64 xn) (.string ⟨xg.toArray⟩) (.slice AL lr.length cL)
      have hkE := keep9 WG w.heap.size (.int .i64 xc) (.int .i64 xm) (.int .i64 xk) (.int .i64 xo) (.int .i64 xr) (.int .i64 xt) (.int .i64 xn) (.string ⟨xg.toArray⟩) (.slice AL lr.length cL)
      have hSz := boxS (c := 0) (m := 0) (k := 0) (o := 0) (r := 0) (t := 0) (n := 0) (g := []) (l := []) (A := none) (cap := 0) (hb0G)
      have hFz := fun i => (hb0G).frozen i
      go_simp
      generalize (((((((((WG.setCell ⟨w.heap.size, 0, none⟩ (.int .i64 xc)).setCell ⟨w.heap.size, 1, none⟩ (.int .i64 xm)).setCell ⟨w.heap.size, 2, none⟩ (.int .i64 xk)).setCell ⟨w.heap.size, 3, none⟩ (.int .i64 xo)).setCell ⟨w.heap.size, 4, none⟩ (.int .i64 xr)).setCell ⟨w.heap.size, 5, none⟩ (.int .i64 xt)).setCell ⟨w.heap.size, 6, none⟩ (.int .i64 xn)).setCell ⟨w.heap.size, 7, none⟩ (.string ⟨xg.toArray⟩)).setCell ⟨w.heap.size, 8, none⟩ (.slice AL lr.length cL)) = WE at hbE hkE ⊢
      have hbaE := (hbaG).kept hkE (by omega)
      have htkE := (htkG).keep h9.old hkE (by omega) (fun j hj => by omega)
      have hilE := (hilG).kept hkE (fun ad h1 h2 e => by have := (hal ad h1).1; omega)
      have hkpE : Keep (fun k => k = g) w WE := (hkpG).trans hkE (fun i hi e => by omega)
      have hSE := boxS (c := xc) (m := xm) (k := xk) (o := xo) (r := xr) (t := xt) (n := xn) (g := xg) (l := lr) (A := AL) (cap := cL) hbaE
      have hbadE := htkE.blk.cell 1
      simp at hbadE
      clear hSz hFz
      refine hK.out _ _ ⟨hSE.1, hSE.2.1, hSE.2.2.1, hSE.2.2.2.1, hSE.2.2.2.2.1, hSE.2.2.2.2.2.1, hSE.2.2.2.2.2.2.1, hSE.2.2.2.2.2.2.2.1, hSE.2.2.2.2.2.2.2.2, hbadE⟩ (fun hHeld2 => ?_)
      clear hK K hHeld
      have hHeld := hHeld2
      clear hHeld2
      try simp only [Act.put, List.setIfInBounds_toArray, List.set_cons_zero, List.set_cons_succ]
      refine wpAnyH_take (i := 14) (oi := ?oi14B) (v := ?v14B) ?hi14B (by kernel_rfl) (by kernel_rfl) (by kernel_rfl) ?hq14B (Or.inl ⟨?hw14B, ?hy14B⟩) (by assumption) ?rest14B
      case hi14B => (simp only [List.getElem?_toArray, List.getElem?_cons_succ, List.getElem?_cons_zero]; rfl)
      case hq14B => exact fun _ _ _ h => h
      case hw14B => rfl
      case hy14B => (intro w hSw; (try dsimp only at hSw); go_simp <;> with_reducible rfl)
      try simp only [Act.put, List.setIfInBounds_toArray, List.set_cons_zero, List.set_cons_succ]
      refine wpAnyH_done (by kernel_rfl) ?_ _
      go_wp2
      have hE := boxS (c := xc) (m := xm) (k := xk) (o := xo) (r := xr) (t := xt) (n := xn) (g := xg) (l := lr) (A := AL) (cap := cL) hbE
      obtain ⟨j0, j1, j2, j3, j4, j5, j6, j7, j8⟩ := hE
      refine bodyPost_ret (v := .tuple #[.agg #[.int .i64 xc, .int .i64 xm, .int .i64 xk, .int .i64 xo, .int .i64 xr, .int .i64 xt, .int .i64 xn, .string ⟨xg.toArray⟩, .slice AL lr.length cL], .bool false]) (by simp [results, Try.results77, go_sem, j0, j1, j2, j3, j4, j5, j6, j7, j8]) rfl ?_
      exact ⟨⟨xc, xm, xk, xo, xr, xt, xn, xg, lr⟩, AL, cL, false, A10, c10, l10, false, s1, s2, s3, s4, s5, s6, s7, s8, rfl, (RT lr).out, hilE, (fun ad h1 => by have := (hal ad h1).1; omega), htkE, hkpE, h9.same, (fun h => by cases h), fun _ => .inr ⟨l10, hT, hmay⟩⟩
    | true =>
      refine wp_region_held_drew (S := (fun w' => w'.cell? ⟨w.heap.size + 1, 0, none⟩ = some (.int .i64 xc) ∧ w'.cell? ⟨w.heap.size + 1, 1, none⟩ = some (.int .i64 xm) ∧ w'.cell? ⟨w.heap.size + 1, 2, none⟩ = some (.int .i64 xk) ∧ w'.cell? ⟨w.heap.size + 1, 3, none⟩ = some (.int .i64 xo) ∧ w'.cell? ⟨w.heap.size + 1, 4, none⟩ = some (.int .i64 xr) ∧ w'.cell? ⟨w.heap.size + 1, 5, none⟩ = some (.int .i64 xt) ∧ w'.cell? ⟨w.heap.size + 1, 6, none⟩ = some (.int .i64 xn) ∧ w'.cell? ⟨w.heap.size + 1, 7, none⟩ = some (.string ⟨xg.toArray⟩) ∧ w'.cell? ⟨w.heap.size + 1, 8, none⟩ = some (.slice AL lr.length cL) ∧ w'.cell? ⟨g, 1, none⟩ = some (.bool false))) (by kernel_rfl) ⟨hS9.1, hS9.2.1, hS9.2.2.1, hS9.2.2.2.1, hS9.2.2.2.2.1, hS9.2.2.2.2.2.1, hS9.2.2.2.2.2.2.1, hS9.2.2.2.2.2.2.2.1, hS9.2.2.2.2.2.2.2.2, hbad9⟩ (fun hHeld => ?_)
      refine wpAnyH_take (i := 0) (oi := ?oi0C) (v := ?v0C) ?hi0C (by kernel_rfl) (by kernel_rfl) (by kernel_rfl) ?hq0C (Or.inl ⟨?hw0C, ?hy0C⟩) (by assumption) ?rest0C
      case hi0C => (simp only [List.getElem?_toArray, List.getElem?_cons_succ, List.getElem?_cons_zero]; rfl)
      case hq0C => exact fun _ _ _ h => h
      case hw0C => rfl
      case hy0C => (intro w hSw; (try dsimp only at hSw); go_simp <;> with_reducible rfl)
      try simp only [Act.put, List.setIfInBounds_toArray, List.set_cons_zero, List.set_cons_succ]
      refine wpAnyH_take (i := 1) (oi := ?oi1C) (v := ?v1C) ?hi1C (by kernel_rfl) (by kernel_rfl) (by kernel_rfl) ?hq1C (Or.inl ⟨?hw1C, ?hy1C⟩) (by assumption) ?rest1C
      case hi1C => (simp only [List.getElem?_toArray, List.getElem?_cons_succ, List.getElem?_cons_zero]; rfl)
      case hq1C => exact fun _ _ _ h => h
      case hw1C => rfl
      case hy1C => (intro w hSw; (try dsimp only at hSw); go_simp <;> with_reducible rfl)
      try simp only [Act.put, List.setIfInBounds_toArray, List.set_cons_zero, List.set_cons_succ]
      refine wpAnyH_take (i := 2) (oi := ?oi2C) (v := ?v2C) ?hi2C (by kernel_rfl) (by kernel_rfl) (by kernel_rfl) ?hq2C (Or.inl ⟨?hw2C, ?hy2C⟩) (by assumption) ?rest2C
      case hi2C => (simp only [List.getElem?_toArray, List.getElem?_cons_succ, List.getElem?_cons_zero]; rfl)
      case hq2C => exact fun _ _ _ h => h
      case hw2C => rfl
      case hy2C => (intro w hSw; (try dsimp only at hSw); go_simp <;> with_reducible rfl)
      try simp only [Act.put, List.setIfInBounds_toArray, List.set_cons_zero, List.set_cons_succ]
      refine wpAnyH_take (i := 3) (oi := ?oi3C) (v := ?v3C) ?hi3C (by kernel_rfl) (by kernel_rfl) (by kernel_rfl) ?hq3C (Or.inl ⟨?hw3C, ?hy3C⟩) (by assumption) ?rest3C
      case hi3C => (simp only [List.getElem?_toArray, List.getElem?_cons_succ, List.getElem?_cons_zero]; rfl)
      case hq3C => exact fun _ _ _ h => h
      case hw3C => rfl
      case hy3C => (intro w hSw; (try dsimp only at hSw); go_simp <;> with_reducible rfl)
      try simp only [Act.put, List.setIfInBounds_toArray, List.set_cons_zero, List.set_cons_succ]
      refine wpAnyH_take (i := 4) (oi := ?oi4C) (v := ?v4C) ?hi4C (by kernel_rfl) (by kernel_rfl) (by kernel_rfl) ?hq4C (Or.inl ⟨?hw4C, ?hy4C⟩) (by assumption) ?rest4C
      case hi4C => (simp only [List.getElem?_toArray, List.getElem?_cons_succ, List.getElem?_cons_zero]; rfl)
      case hq4C => exact fun _ _ _ h => h
      case hw4C => rfl
      case hy4C => (intro w hSw; (try dsimp only at hSw); go_simp <;> with_reducible rfl)
      try simp only [Act.put, List.setIfInBounds_toArray, List.set_cons_zero, List.set_cons_succ]
      refine wpAnyH_take (i := 5) (oi := ?oi5C) (v := ?v5C) ?hi5C (by kernel_rfl) (by kernel_rfl) (by kernel_rfl) ?hq5C (Or.inl ⟨?hw5C, ?hy5C⟩) (by assumption) ?rest5C
      case hi5C => (simp only [List.getElem?_toArray, List.getElem?_cons_succ, List.getElem?_cons_zero]; rfl)
      case hq5C => exact fun _ _ _ h => h
      case hw5C => rfl
      case hy5C => (intro w hSw; (try dsimp only at hSw); go_simp <;> with_reducible rfl)
      try simp only [Act.put, List.setIfInBounds_toArray, List.set_cons_zero, List.set_cons_succ]
      refine wpAnyH_take (i := 6) (oi := ?oi6C) (v := ?v6C) ?hi6C (by kernel_rfl) (by kernel_rfl) (by kernel_rfl) ?hq6C (Or.inl ⟨?hw6C, ?hy6C⟩) (by assumption) ?rest6C
      case hi6C => (simp only [List.getElem?_toArray, List.getElem?_cons_succ, List.getElem?_cons_zero]; rfl)
      case hq6C => exact fun _ _ _ h => h
      case hw6C => rfl
      case hy6C => (intro w hSw; (try dsimp only at hSw); go_simp <;> with_reducible rfl)
      try simp only [Act.put, List.setIfInBounds_toArray, List.set_cons_zero, List.set_cons_succ]
      refine wpAnyH_take (i := 7) (oi := ?oi7C) (v := ?v7C) ?hi7C (by kernel_rfl) (by kernel_rfl) (by kernel_rfl) ?hq7C (Or.inl ⟨?hw7C, ?hy7C⟩) (by assumption) ?rest7C
      case hi7C => (simp only [List.getElem?_toArray, List.getElem?_cons_succ, List.getElem?_cons_zero]; rfl)
      case hq7C => exact fun _ _ _ h => h
      case hw7C => rfl
      case hy7C => (intro w hSw; (try dsimp only at hSw); go_simp <;> with_reducible rfl)
      try simp only [Act.put, List.setIfInBounds_toArray, List.set_cons_zero, List.set_cons_succ]
      refine wpAnyH_take (i := 8) (oi := ?oi8C) (v := ?v8C) ?hi8C (by kernel_rfl) (by kernel_rfl) (by kernel_rfl) ?hq8C (Or.inl ⟨?hw8C, ?hy8C⟩) (by assumption) ?rest8C
      case hi8C => (simp only [List.getElem?_toArray, List.getElem?_cons_succ, List.getElem?_cons_zero]; rfl)
      case hq8C => exact fun _ _ _ h => h
      case hw8C => rfl
      case hy8C => (intro w hSw; (try dsimp only at hSw); go_simp <;> with_reducible rfl)
      try simp only [Act.put, List.setIfInBounds_toArray, List.set_cons_zero, List.set_cons_succ]
      refine wpAnyH_take (i := 9) (oi := ?oi9C) (v := ?v9C) ?hi9C (by kernel_rfl) (by kernel_rfl) (by kernel_rfl) ?hq9C (Or.inl ⟨?hw9C, ?hy9C⟩) (by assumption) ?rest9C
      case hi9C => (simp only [List.getElem?_toArray, List.getElem?_cons_succ, List.getElem?_cons_zero]; rfl)
      case hq9C => exact fun _ _ _ h => h
      case hw9C => rfl
      case hy9C => (intro w hSw; (try dsimp only at hSw); go_simp <;> with_reducible rfl)
      try simp only [Act.put, List.setIfInBounds_toArray, List.set_cons_zero, List.set_cons_succ]
      refine wpAnyH_take (i := 10) (oi := ?oi10C) (v := ?v10C) ?hi10C (by kernel_rfl) (by kernel_rfl) (by kernel_rfl) ?hq10C (Or.inl ⟨?hw10C, ?hy10C⟩) (by assumption) ?rest10C
      case hi10C => (simp only [List.getElem?_toArray, List.getElem?_cons_succ, List.getElem?_cons_zero]; rfl)
      case hq10C => exact fun _ _ _ h => h
      case hw10C => rfl
      case hy10C => (intro w hSw; (try dsimp only at hSw); go_simp <;> with_reducible rfl)
      try simp only [Act.put, List.setIfInBounds_toArray, List.set_cons_zero, List.set_cons_succ]
      refine wpAnyH_ready (rs := [11]) (by kernel_rfl) (by simp) ?_
      refine AllReadyH.cons (o := ?o11C) ?hi11C (fun K hK => ?st11C) AllReadyH.nil
      case hi11C => (simp only [List.getElem?_toArray, List.getElem?_cons_succ, List.getElem?_cons_zero]; rfl)
      go_simp
      refine (raskmay_any ⟨xc, xm, xk, xo, xr, xt, xn, xg, lr⟩ AL cL _ hil9.drew hWL hLEN hGL).mono ?_
      rintro e WG ⟨rfl, hxG⟩
      have hxG : Below WF.drew.heap.size WF.drew WG := hxG
      have hzG : WF.heap.size ≤ WG.heap.size := hxG.size
      have htkG := (h9.tk.drewN 1).below hxG
      have hbaG := h9.ba.drew.kept (Keep.of_below hxG) (fun h => absurd h9.ba.lt (Nat.not_lt.2 h))
      have hb0G := h9.b0.drew.kept (Keep.of_below hxG) (fun h => absurd h9.b0.lt (Nat.not_lt.2 h))
      have hilG := hil9.drew.below hxG
      have hkpG : Keep (fun k => k = g) w WG := h9.keep.drew.trans (Keep.of_below hxG) (fun i hi h2 => by have := h9.keep.size; have h2 : WF.heap.size ≤ i := h2; omega)
      have hSG := boxS (c := xc) (m := xm) (k := xk) (o := xo) (r := xr) (t := xt) (n := xn) (g := xg) (l := lr) (A := AL) (cap := cL) hbaG
      have hbadG := htkG.blk.cell 1
      simp at hbadG
      rw [hmay]
      go_wp2_with fail
      refine hK.out _ _ ⟨hSG.1, hSG.2.1, hSG.2.2.1, hSG.2.2.2.1, hSG.2.2.2.2.1, hSG.2.2.2.2.2.1, hSG.2.2.2.2.2.2.1, hSG.2.2.2.2.2.2.2.1, hSG.2.2.2.2.2.2.2.2, hbadG⟩ (fun hHeld2 => ?_)
      clear hK K hHeld
      have hHeld := hHeld2
      clear hHeld2
      try simp only [Act.put, List.setIfInBounds_toArray, List.set_cons_zero, List.set_cons_succ]
      refine wpAnyH_take (i := 12) (oi := ?oi12C) (v := ?v12C) ?hi12C (by kernel_rfl) (by kernel_rfl) (by kernel_rfl) ?hq12C (Or.inl ⟨?hw12C, ?hy12C⟩) (by assumption) ?rest12C
      case hi12C => (simp only [List.getElem?_toArray, List.getElem?_cons_succ, List.getElem?_cons_zero]; rfl)
      case hq12C => exact fun _ _ _ h => h
      case hw12C => rfl
      case hy12C => (intro w hSw; (try dsimp only at hSw); go_simp <;> with_reducible rfl)
      try simp only [Act.put, List.setIfInBounds_toArray, List.set_cons_zero, List.set_cons_succ]
      refine wpAnyH_ready (rs := [13]) (by kernel_rfl) (by simp) ?_
      refine AllReadyH.cons (o := ?o13C) ?hi13C (fun K hK => ?st13C) AllReadyH.nil
      case hi13C => (simp only [List.getElem?_toArray, List.getElem?_cons_succ, List.getElem?_cons_zero]; rfl)
      go_simp
      have hbE := fill9 (hb0G) (.int .i64 xc) (.int .i64 xm) (.int .i64 xk) (.int .i64 xo) (.int .i64 xr) (.int .i64 xt) (.int .i64 xn) (.string ⟨xg.toArray⟩) (.slice AL lr.length cL)
      have hkE := keep9 WG w.heap.size (.int .i64 xc) (.int .i64 xm) (.int .i64 xk) (.int .i64 xo) (.int .i64 xr) (.int .i64 xt) (.int .i64 xn) (.string ⟨xg.toArray⟩) (.slice AL lr.length cL)
      have hSz := boxS (c := 0) (m := 0) (k := 0) (o := 0) (r := 0) (t := 0) (n := 0) (g := []) (l := []) (A := none) (cap := 0) (hb0G)
      have hFz := fun i => (hb0G).frozen i
      go_simp
      generalize (((((((((WG.setCell ⟨w.heap.size, 0, none⟩ (.int .i64 xc)).setCell ⟨w.heap.size, 1, none⟩ (.int .i64 xm)).setCell ⟨w.heap.size, 2, none⟩ (.int .i64 xk)).setCell ⟨w.heap.size, 3, none⟩ (.int .i64 xo)).setCell ⟨w.heap.size, 4, none⟩ (.int .i64 xr)).setCell ⟨w.heap.size, 5, none⟩ (.int .i64 xt)).setCell ⟨w.heap.size, 6, none⟩ (.int .i64 xn)).setCell ⟨w.heap.size, 7, none⟩ (.string ⟨xg.toArray⟩)).setCell ⟨w.heap.size, 8, none⟩ (.slice AL lr.length cL)) = WE at hbE hkE ⊢
      have hbaE := (hbaG).kept hkE (by omega)
      have htkE := (htkG).keep h9.old hkE (by omega) (fun j hj => by omega)
      have hilE := (hilG).kept hkE (fun ad h1 h2 e => by have := (hal ad h1).1; omega)
      have hkpE : Keep (fun k => k = g) w WE := (hkpG).trans hkE (fun i hi e => by omega)
      have hSE := boxS (c := xc) (m := xm) (k := xk) (o := xo) (r := xr) (t := xt) (n := xn) (g := xg) (l := lr) (A := AL) (cap := cL) hbaE
      have hbadE := htkE.blk.cell 1
      simp at hbadE
      clear hSz hFz
      refine hK.out _ _ ⟨hSE.1, hSE.2.1, hSE.2.2.1, hSE.2.2.2.1, hSE.2.2.2.2.1, hSE.2.2.2.2.2.1, hSE.2.2.2.2.2.2.1, hSE.2.2.2.2.2.2.2.1, hSE.2.2.2.2.2.2.2.2, hbadE⟩ (fun hHeld2 => ?_)
      clear hK K hHeld
      have hHeld := hHeld2
      clear hHeld2
      try simp only [Act.put, List.setIfInBounds_toArray, List.set_cons_zero, List.set_cons_succ]
      refine wpAnyH_take (i := 14) (oi := ?oi14C) (v := ?v14C) ?hi14C (by kernel_rfl) (by kernel_rfl) (by kernel_rfl) ?hq14C (Or.inl ⟨?hw14C, ?hy14C⟩) (by assumption) ?rest14C
      case hi14C => (simp only [List.getElem?_toArray, List.getElem?_cons_succ, List.getElem?_cons_zero]; rfl)
      case hq14C => exact fun _ _ _ h => h
      case hw14C => rfl
      case hy14C => (intro w hSw; (try dsimp only at hSw); go_simp <;> with_reducible rfl)
      try simp only [Act.put, List.setIfInBounds_toArray, List.set_cons_zero, List.set_cons_succ]
      refine wpAnyH_done (by kernel_rfl) ?_ _
      go_wp2
      have hE := boxS (c := xc) (m := xm) (k := xk) (o := xo) (r := xr) (t := xt) (n := xn) (g := xg) (l := lr) (A := AL) (cap := cL) hbE
      obtain ⟨j0, j1, j2, j3, j4, j5, j6, j7, j8⟩ := hE
      refine bodyPost_ret (v := .tuple #[.agg #[.int .i64 xc, .int .i64 xm, .int .i64 xk, .int .i64 xo, .int .i64 xr, .int .i64 xt, .int .i64 xn, .string ⟨xg.toArray⟩, .slice AL lr.length cL], .bool true]) (by simp [results, Try.results77, go_sem, j0, j1, j2, j3, j4, j5, j6, j7, j8]) rfl ?_
      exact ⟨⟨xc, xm, xk, xo, xr, xt, xn, xg, lr⟩, AL, cL, true, A10, c10, l10, false, s1, s2, s3, s4, s5, s6, s7, s8, rfl, (RT lr).out, hilE, (fun ad h1 => by have := (hal ad h1).1; omega), htkE, hkpE, h9.same, (fun _ => ⟨hT, hmay, rfl⟩), (fun h => by cases h)⟩
end Go.Proofs.Ytpfkhalomnfcfaa
