/- The reference's May, code of packets. No condition but that bytes lie in memory. -/
import Derived.Test.YtfgceplafjbmhaaLkC
import Derived.Test.YtfgceplafjbmhaaRefT
import Derived.Laws.IdiomStrings
import Derived.Deep.Cut
namespace Go.Proofs.Ytfgceplafjbmhaa
open Go.RowKit
set_option linter.unusedVariables false
set_option linter.unusedSimpArgs false

set_option maxRecDepth 100000 in
set_option maxHeartbeats 1600000 in
theorem rmay_any (s a : Int) (A : Option Addr) (n c : Nat) (w : World) (hn : n ≤ 9223372036854775807) : Calls Try.prog 32 #[PKV s a A n c] w fun e w' => e = .returned (.bool (mayPn s a n)) ∧ w' = w.alloc (.cells #[.int .i64 s, .int .i64 a, .slice A n c] 32) := by
  cases hm : mayPn s a n with
  | true =>
    obtain ⟨h1, h2, h3, h4, h5, h6⟩ := (mayPn_iff s a n).1 hm
    have g5 : (n : Int) ≤ 2048 := by omega
    clear hm h5
    by_cases h0 : 0 < s
    · clear h6
      go_enter Try.func32, Try.ntmps32
      go_wp2
      go_ret
      exact ⟨rfl, rfl⟩
    · have hn0 : n = 0 := by omega
      subst hn0
      clear h6
      go_enter Try.func32, Try.ntmps32
      go_wp2
      go_ret
      exact ⟨rfl, rfl⟩
  | false =>
    have hno : ¬ (0 ≤ s ∧ s ≤ 1099511627776 ∧ 0 ≤ a ∧ a ≤ 1099511627776 ∧ n ≤ 2048 ∧ (0 < s ∨ n = 0)) := fun h => by rw [(mayPn_iff s a n).2 h] at hm; cases hm
    clear hm
    by_cases g1 : 0 ≤ s
    case neg =>
      clear hno
      go_enter Try.func32, Try.ntmps32
      go_wp2
      go_ret
      exact ⟨rfl, rfl⟩
    by_cases g2 : s ≤ 1099511627776
    case neg =>
      clear hno
      go_enter Try.func32, Try.ntmps32
      go_wp2
      go_ret
      exact ⟨rfl, rfl⟩
    by_cases g3 : 0 ≤ a
    case neg =>
      clear hno
      go_enter Try.func32, Try.ntmps32
      go_wp2
      go_ret
      exact ⟨rfl, rfl⟩
    by_cases g4 : a ≤ 1099511627776
    case neg =>
      clear hno
      go_enter Try.func32, Try.ntmps32
      go_wp2
      go_ret
      exact ⟨rfl, rfl⟩
    by_cases g5 : (n : Int) ≤ 2048
    case neg =>
      clear hno
      go_enter Try.func32, Try.ntmps32
      go_wp2
      go_ret
      exact ⟨rfl, rfl⟩
    have e0 : ¬ 0 < s := by omega
    have e1 : (n == 0) = false := beq_eq_false_iff_ne.2 (by omega)
    have e2 : ((n : Int) == 0) = false := beq_eq_false_iff_ne.2 (by omega)
    have e3 : ¬ (n : Int) = 0 := by omega
    have e4 : ¬ n = 0 := by omega
    clear hno
    go_enter Try.func32, Try.ntmps32
    go_wp2
    go_ret
    exact ⟨rfl, rfl⟩

/-- The reference's maker beside a packet's box, and its body. -/
structure MR (w : World) (g : Nat) (v : Value) (B : Nat) (s a : Int) (A : Option Addr) (n c : Nat) (body : List UInt8) (W : World) (v' : Value) (l' : List UInt8) (long' : Bool) : Prop where
  mo : RM g W g v' l' long'
  foot : Foot (MF g v) w (MF g v') W
  box : Blk W B 32 #[.int .i64 s, .int .i64 a, .slice A n c]
  out : ¬ MF g v' B
  rb : RB W A n body
  rout : 0 < n → ∀ ad, A = some ad → ¬ MF g v' ad.block
theorem MR.step {w : World} {g : Nat} {v : Value} {B : Nat} {s a : Int} {A : Option Addr} {n c : Nat} {body : List UInt8} {W W' : World} {v' v2 : Value} {l' l2 : List UInt8} {long' long2 : Bool} (h : MR w g v B s a A n c body W v' l' long') (hm : RM g W' g v2 l2 long2) (hf : Foot (MF g v') W (MF g v2) W') : MR w g v B s a A n c body W' v2 l2 long2 :=
  ⟨hm, h.foot.trans hf, h.box.kept hf.keep h.out, fun hb => by
    rcases hf.grow B hb with h2 | h2
    · exact h.out h2
    · have := h.box.lt
      omega, h.rb.kept' hf.keep h.rout, fun hn ad ha hb => by
    rcases hf.grow _ hb with h2 | h2
    · exact h.rout hn ad ha h2
    · have := h.rb.addr_lt ha hn
      omega⟩
set_option maxRecDepth 100000 in
set_option maxHeartbeats 6400000 in
theorem rencode_any (p : Pk) (A : Option Addr) (n c : Nat) (w : World) (hr : RB w A n p.body) (hx : mayP p = true) :
    Calls Try.prog 33 #[PKV p.seq p.ack A n c] w fun e w' => Below w.heap.size w w' ∧ ∃ v, e = .returned v ∧ OB w.heap.size w' v (encP p) := by
  have hln : p.body.length = n := hr.1
  have hfit := encP_fits hx
  obtain ⟨f1, f2, f3, f4, f5⟩ := mayP_facts hx
  obtain ⟨CODE, hCODE⟩ : ∃ CODE, encP p = CODE := ⟨_, rfl⟩
  rw [hCODE] at hfit ⊢
  clear hCODE hx
  obtain ⟨s, a, body⟩ := p
  dsimp only at hr hln hfit f1 f2 f3 f4 f5 ⊢
  have HFIT := Lib.hid hfit
  clear hfit
  have hbx0 : Blk ((w.alloc (.cells #[.int .i64 s, .int .i64 a, .slice A n c] 32)).alloc (.cells #[.slice none 0 0, .bool false] 108)) w.heap.size 32 #[.int .i64 s, .int .i64 a, .slice A n c] := (Blk.new _ _ _).alloc _
  have hm0 : RM (w.heap.size + 1) ((w.alloc (.cells #[.int .i64 s, .int .i64 a, .slice A n c] 32)).alloc (.cells #[.slice none 0 0, .bool false] 108)) (w.heap.size + 1) (.slice none 0 0) [] false := by
    have hbk := Blk.new (w.alloc (.cells #[.int .i64 s, .int .i64 a, .slice A n c] 32)) 108 #[.slice none 0 0, .bool false]
    rw [World.size_alloc] at hbk
    exact ⟨hbk, Nat.le_refl _, OB.nil _ _, by simp⟩
  have hb0 := ((Below.refl w.heap.size w).alloc (Nat.le_refl _) (.cells #[.int .i64 s, .int .i64 a, .slice A n c] 32)).alloc (by simp only [World.size_alloc]; omega) (.cells #[.slice none 0 0, .bool false] 108)
  have hrb0 := (hr.alloc (.cells #[.int .i64 s, .int .i64 a, .slice A n c] 32)).alloc (.cells #[.slice none 0 0, .bool false] 108)
  have hz0 : ((w.alloc (.cells #[.int .i64 s, .int .i64 a, .slice A n c] 32)).alloc (.cells #[.slice none 0 0, .bool false] 108)).heap.size = w.heap.size + 2 := by simp only [World.size_alloc]
  obtain ⟨W0, hW0⟩ : ∃ W, W = ((w.alloc (.cells #[.int .i64 s, .int .i64 a, .slice A n c] 32)).alloc (.cells #[.slice none 0 0, .bool false] 108)) := ⟨_, rfl⟩
  have hP0 : MR W0 (w.heap.size + 1) (.slice none 0 0) w.heap.size s a A n c body W0 (.slice none 0 0) [] false := by
    rw [hW0]
    exact ⟨hm0, Foot.refl _ _, hbx0, fun h => by have := foot_new h; omega, hrb0, fun hn ad ha h => by have := foot_new h; have := hr.addr_lt ha hn; omega⟩
  have hr0 : rst [] false = some [] := rfl
  have hc00 := hP0.box.cell 0
  have hc01 := hP0.box.cell 1
  have hc02 := hP0.box.cell 2
  simp at hc00 hc01 hc02
  have hcv0 := run_str _ A n c _ hP0.rb
  rw [← hW0] at hb0 hz0
  rw [hW0] at hP0 hc00 hc01 hc02 hcv0
  clear hrb0 hbx0 hm0
  go_enter Try.func33, Try.ntmps33
  go_wp2_with fail
  refine (rnum_any (w.heap.size + 1) (w.heap.size + 1) _ _ _ s _ hP0.mo (by omega) (by omega)).mono ?_
  rintro e w1 ⟨v1, l1, long1, rfl, hm1, hr1, hf1⟩
  rw [hr0] at hr1
  have hP1 := hP0.step hm1 hf1
  have hc10 := hP1.box.cell 0
  have hc11 := hP1.box.cell 1
  have hc12 := hP1.box.cell 2
  simp at hc10 hc11 hc12
  have hcv1 := run_str _ A n c _ hP1.rb
  clear hP0 hf1 hr0 hc00 hc01 hc02 hcv0
  go_wp2_with fail
  refine (rnum_any (w.heap.size + 1) (w.heap.size + 1) _ _ _ a _ hP1.mo (by omega) (by omega)).mono ?_
  rintro e w2 ⟨v2, l2, long2, rfl, hm2, hr2, hf2⟩
  rw [hr1] at hr2
  have hP2 := hP1.step hm2 hf2
  have hc20 := hP2.box.cell 0
  have hc21 := hP2.box.cell 1
  have hc22 := hP2.box.cell 2
  simp at hc20 hc21 hc22
  have hcv2 := run_str _ A n c _ hP2.rb
  clear hP1 hf2 hr1 hc10 hc11 hc12 hcv1
  go_wp2_with fail
  refine (rtext_any (w.heap.size + 1) (w.heap.size + 1) _ _ _ ⟨body.toArray⟩ _ hP2.mo (by simp [ByteArray.size]; omega)).mono ?_
  rintro e w3 ⟨v3, l3, long3, rfl, hm3, hr3, hf3⟩
  rw [hr2] at hr3
  have hP3 := hP2.step hm3 hf3
  have hc30 := hP3.box.cell 0
  have hc31 := hP3.box.cell 1
  have hc32 := hP3.box.cell 2
  simp at hc30 hc31 hc32
  have hcv3 := run_str _ A n c _ hP3.rb
  clear hP2 hf3 hr2 hc20 hc21 hc22 hcv2
  change rst l3 long3 = put (put (put (some []) (numCell s)) (numCell a)) (numCell (body.length : Int) ++ body) at hr3
  rw [HFIT.out] at hr3
  cases long3 with
  | true => cases hr3
  | false =>
    simp only [rst] at hr3
    injection hr3 with hr3
    subst hr3
    have hd0 := hm3.blk.cell 0
    simp at hd0
    have hb3 : Below w.heap.size w w3 := by
      rw [hW0] at hb0
      refine hb0.trans (hP3.foot.keep.below (B := w.heap.size) hb0.size (fun i hi h2 => by have := foot_new h2; omega))
    go_wp2
    go_ret
    exact ⟨hb3, v3, rfl, hm3.own.mono (by omega)⟩

/-- '[]byte(s)'. -/
theorem run_bts (w : World) (l : List UInt8) : ∃ cap w', (convert 9 30 (.string ⟨l.toArray⟩)).run Try.prog w = .ok (.slice (some ⟨w.heap.size, 0, none⟩) l.length cap) w' ∧ RB w' (some ⟨w.heap.size, 0, none⟩) l.length l ∧ Below w.heap.size w w' ∧ w.heap.size < w'.heap.size := by
  refine ⟨_, _, run_bytes_of_string w _ _ _ _ Try.underlying9 Try.underlying30 Try.underlying5, ⟨rfl, fun _ => ⟨_, _, rfl, fun j y hy => ?_⟩⟩, (Below.drew (Below.refl _ w)).alloc (Nat.le_refl _) _, by simp⟩
  have hj : j < l.length := (List.getElem?_eq_some_iff.1 hy).1
  rw [show w.heap.size = w.drew.heap.size from rfl, cell_of_row _ _ _ _ _ _ (heap_alloc_new w.drew _)]
  have hyy : l[j] = y := (List.getElem?_eq_some_iff.1 hy).2
  simp [bytesRow, Array.getElem?_append, hj, hy, bv, hyy]

/-- What the reference's Decode answers. -/
def RDecP (r : Option Pk) (w : World) (e : Ending) (w' : World) : Prop :=
  Below w.heap.size w w' ∧ match r with
    | none => e = .returned (.tuple #[pkN, .bool false])
    | some p => ∃ A c, e = .returned (.tuple #[PKV p.seq p.ack A p.body.length c, .bool true]) ∧ RB w' A p.body.length p.body
set_option maxRecDepth 100000 in
set_option maxHeartbeats 6400000 in
theorem rdecode_any (A : Option Addr) (n c : Nat) (b : List UInt8) (w : World) (hr : RB w A n b) (hc : n ≤ c) (hm : c ≤ 9223372036854775807) :
    Calls Try.prog 30 #[.slice A n c] w (RDecP (decP b) w) := by
  have hln : b.length = n := hr.1
  subst hln
  obtain ⟨s, st1, e1⟩ : ∃ s st1, tnum (some b) 0 1099511627776 = (s, st1) := ⟨_, _, rfl⟩
  obtain ⟨a, st2, e2⟩ : ∃ a st2, tnum st1 0 1099511627776 = (a, st2) := ⟨_, _, rfl⟩
  obtain ⟨x, st3, e3⟩ : ∃ x st3, ttext st2 2048 = (x, st3) := ⟨_, _, rfl⟩
  have hxl : x.length ≤ 2048 := by have := ttext_len st2 2048; rw [show ttext st2 ((2048 : Nat) : Int) = (x, st3) from e3] at this; exact this
  have hD : decP b = if st3 = some [] ∧ mayP ⟨s, a, x⟩ = true then some ⟨s, a, x⟩ else none := by
    unfold decP
    rw [e1, e2, e3]
  obtain ⟨D, hDD⟩ : ∃ D, decP b = D := ⟨_, rfl⟩
  rw [hDD] at hD ⊢
  clear hDD
  obtain ⟨N, hN⟩ : ∃ N, x.length = N := ⟨_, rfl⟩
  have hm' : mayP ⟨s, a, x⟩ = mayPn s a N := mayPn_of ⟨s, a, x⟩ N hN
  rw [hm'] at hD
  clear hm'
  have HD := Lib.hid hD
  clear hD
  have T1 := fun W g At ct l bad (e : rst l bad = some b) h => rtnum_any W g At ct l bad 0 1099511627776 h
  have T1' : Hid (∀ W g At ct l bad, rst l bad = some b → TK 105 W g At ct l bad → Calls Try.prog 57 #[.pointer (some ⟨g, 0, none⟩), .int .i64 0, .int .i64 1099511627776] W (RTPost W g At l.length st1 (.int .i64 s))) := Lib.hid (fun W g At ct l bad e h => by have := rtnum_any W g At ct l bad 0 1099511627776 h; rw [e, e1] at this; exact this)
  have T2' : Hid (∀ W g At ct l bad, rst l bad = st1 → TK 105 W g At ct l bad → Calls Try.prog 57 #[.pointer (some ⟨g, 0, none⟩), .int .i64 0, .int .i64 1099511627776] W (RTPost W g At l.length st2 (.int .i64 a))) := Lib.hid (fun W g At ct l bad e h => by have := rtnum_any W g At ct l bad 0 1099511627776 h; rw [e, e2] at this; exact this)
  have T3' : Hid (∀ W g At ct l bad, rst l bad = st2 → TK 105 W g At ct l bad → Calls Try.prog 58 #[.pointer (some ⟨g, 0, none⟩), .int .i64 2048] W (RTPost W g At l.length st3 (.string ⟨x.toArray⟩))) := Lib.hid (fun W g At ct l bad e h => by have := rttext_any W g At ct l bad 2048 h; rw [e, e3] at this; exact this)
  clear T1 e1 e2 e3
  have hb0 := (((Below.refl w.heap.size w).alloc (Nat.le_refl _) (.cells #[.int .i64 0, .int .i64 0, .slice none 0 0] 32)).alloc (by simp) (.cells #[.slice A b.length c, .bool false] 105)).alloc (by simp; omega) (.cells #[.int .i64 0, .int .i64 0, .slice none 0 0] 32)
  have hz0 := ((Blk.new w 32 #[.int .i64 0, .int .i64 0, .slice none 0 0]).alloc (.cells #[.slice A b.length c, .bool false] 105)).alloc (.cells #[.int .i64 0, .int .i64 0, .slice none 0 0] 32)
  have ht0 := (Blk.new (w.alloc (.cells #[.int .i64 0, .int .i64 0, .slice none 0 0] 32)) 105 #[.slice A b.length c, .bool false]).alloc (.cells #[.int .i64 0, .int .i64 0, .slice none 0 0] 32)
  have hx0 := Blk.new ((w.alloc (.cells #[.int .i64 0, .int .i64 0, .slice none 0 0] 32)).alloc (.cells #[.slice A b.length c, .bool false] 105)) 32 #[.int .i64 0, .int .i64 0, .slice none 0 0]
  rw [World.size_alloc] at ht0
  rw [World.size_alloc, World.size_alloc] at hx0
  have hr0 := ((hr.alloc (.cells #[.int .i64 0, .int .i64 0, .slice none 0 0] 32)).alloc (.cells #[.slice A b.length c, .bool false] 105)).alloc (.cells #[.int .i64 0, .int .i64 0, .slice none 0 0] 32)
  have hp0 : TK 105 (((w.alloc (.cells #[.int .i64 0, .int .i64 0, .slice none 0 0] 32)).alloc (.cells #[.slice A b.length c, .bool false] 105)).alloc (.cells #[.int .i64 0, .int .i64 0, .slice none 0 0] 32)) (w.heap.size + 1) A c b false := ⟨ht0, hr0, ⟨hc, hm⟩, fun hp ad ha => by have := hr.addr_lt ha hp; omega⟩
  have hap : 0 < b.length → ∀ ad, A = some ad → ad.block < w.heap.size := fun hp ad ha => hr.addr_lt ha hp
  clear ht0 hr0 hr
  go_enter Try.func30, Try.ntmps30
  go_wp2_with fail
  generalize ((w.alloc (.cells #[.int .i64 0, .int .i64 0, .slice none 0 0] 32)).alloc (.cells #[.slice A b.length c, .bool false] 105)).alloc (.cells #[.int .i64 0, .int .i64 0, .slice none 0 0] 32) = w0 at *
  refine (T1'.out _ _ A c b false rfl hp0).mono ?_
  rintro e w1 ⟨A1, c1, l1, bad1, rfl, hp1, hst1, hk1, hs1, hln1⟩
  have hb1 := hb0.trans (hk1.below (B := w.heap.size) hb0.size (fun i hi h => by omega))
  have hz1 := hz0.kept hk1 (by omega)
  have hx1 := hx0.kept hk1 (by omega)
  clear hp0 hb0 hz0 hk1 hx0 T1'
  have yf1 := hx1.frozen 0
  have yc1 := hx1.cell 0
  simp at yc1
  have kS1 : Keep (fun k => k = w.heap.size + 1 + 1) w1 (w1.setCell ⟨w.heap.size + 1 + 1, 0, none⟩ (.int .i64 s)) := (Keep.refl (fun k => k = w.heap.size + 1 + 1) w1).setCell (p := ⟨w.heap.size + 1 + 1, 0, none⟩) (fun _ => rfl) _
  have hpS1 := hp1.kept' kS1 (by omega) (fun hp ad ha e => by
    obtain ⟨ad0, h0, h1⟩ := hs1 ad ha
    have := hap (by omega) ad0 h0
    omega)
  have hzS1 := hz1.kept kS1 (by omega)
  have hxS1 := hx1.set_ 0 (.int .i64 s)
  simp at hxS1
  have hbS1 := hb1.setCell (p := ⟨w.heap.size + 1 + 1, 0, none⟩) (by dsimp only; omega) (.int .i64 s)
  clear hp1 hz1 hx1 hb1 kS1
  go_wp2_with fail
  generalize w1.setCell ⟨w.heap.size + 1 + 1, 0, none⟩ _ = W1 at *
  refine (T2'.out _ _ A1 c1 l1 bad1 hst1 hpS1).mono ?_
  rintro e w2 ⟨A2, c2, l2, bad2, rfl, hp2, hst2, hk2, hs2', hln2'⟩
  have hs2 := hs1.trans hs2'
  have hln2 := Nat.le_trans hln2' hln1
  have hb2 := hbS1.trans (hk2.below (B := w.heap.size) hbS1.size (fun i hi h => by omega))
  have hz2 := hzS1.kept hk2 (by omega)
  have hx2 := hxS1.kept hk2 (by omega)
  clear hpS1 hbS1 hzS1 hk2 hxS1 T2' hs2' hln2' hst1 hs1 hln1 yf1 yc1
  have yf2 := hx2.frozen 1
  have yc2 := hx2.cell 1
  simp at yc2
  have kS2 : Keep (fun k => k = w.heap.size + 1 + 1) w2 (w2.setCell ⟨w.heap.size + 1 + 1, 1, none⟩ (.int .i64 a)) := (Keep.refl (fun k => k = w.heap.size + 1 + 1) w2).setCell (p := ⟨w.heap.size + 1 + 1, 1, none⟩) (fun _ => rfl) _
  have hpS2 := hp2.kept' kS2 (by omega) (fun hp ad ha e => by
    obtain ⟨ad0, h0, h1⟩ := hs2 ad ha
    have := hap (by omega) ad0 h0
    omega)
  have hzS2 := hz2.kept kS2 (by omega)
  have hxS2 := hx2.set_ 1 (.int .i64 a)
  simp at hxS2
  have hbS2 := hb2.setCell (p := ⟨w.heap.size + 1 + 1, 1, none⟩) (by dsimp only; omega) (.int .i64 a)
  clear hp2 hz2 hx2 hb2 kS2
  go_wp2_with fail
  generalize w2.setCell ⟨w.heap.size + 1 + 1, 1, none⟩ _ = W2 at *
  refine (T3'.out _ _ A2 c2 l2 bad2 hst2 hpS2).mono ?_
  rintro e w3 ⟨A3, c3, l3, bad3, rfl, hp3, hst3, hk3, hs3', hln3'⟩
  have hs3 := hs2.trans hs3'
  have hln3 := Nat.le_trans hln3' hln2
  have hb3 := hbS2.trans (hk3.below (B := w.heap.size) hbS2.size (fun i hi h => by omega))
  have hz3 := hzS2.kept hk3 (by omega)
  have hx3 := hxS2.kept hk3 (by omega)
  clear hpS2 hbS2 hzS2 hk3 hxS2 T3' hs3' hln3' hst2 hs2 hln2 yf2 yc2
  obtain ⟨capB, w4, hcv, hr4, hx34, hlt4⟩ := run_bts w3 x
  rw [hN] at hcv hr4
  have hb4 := hb3.trans (hx34.mono hb3.size)
  have hz4 := hz3.kept (Keep.of_below hx34) (Nat.not_le.2 hz3.lt)
  have hx4 := hx3.kept (Keep.of_below hx34) (Nat.not_le.2 hx3.lt)
  have hp4 := hp3.below hx34
  have hw3 : w.heap.size + 1 + 1 < w3.heap.size := hx3.lt
  clear hp3 hb3 hz3 hx3 hx34
  have yf4 := hx4.frozen 2
  have yc4 := hx4.cell 2
  simp at yc4
  have kS : Keep (fun k => k = w.heap.size + 1 + 1) w4 (w4.setCell ⟨w.heap.size + 1 + 1, 2, none⟩ (.slice (some ⟨w3.heap.size, 0, none⟩) N capB)) := (Keep.refl (fun k => k = w.heap.size + 1 + 1) w4).setCell (p := ⟨w.heap.size + 1 + 1, 2, none⟩) (fun _ => rfl) _
  have hp5 := hp4.kept' kS (by omega) (fun hp ad ha e => by
    obtain ⟨ad0, h0, h1⟩ := hs3 ad ha
    have := hap (by omega) ad0 h0
    omega)
  have hz5 := hz4.kept kS (by omega)
  have hx5 := hx4.set_ 2 (.slice (some ⟨w3.heap.size, 0, none⟩) N capB)
  simp at hx5
  have hb5 := hb4.setCell (p := ⟨w.heap.size + 1 + 1, 2, none⟩) (by dsimp only; omega) (.slice (some ⟨w3.heap.size, 0, none⟩) N capB)
  have hr5 := hr4.kept' kS (fun hp ad ha e => by cases ha; simp at e; omega)
  have hsz5 : (w4.setCell ⟨w.heap.size + 1 + 1, 2, none⟩ (.slice (some ⟨w3.heap.size, 0, none⟩) N capB)).heap.size = w4.heap.size := by simp
  clear hp4 hb4 hz4 hx4 kS hr4
  have hcut : Hid (∀ K : Act → World → Prop, True) := Lib.hid (fun _ => trivial)
  clear hcut
  go_upto_region 6 with fail
  generalize w4.setCell ⟨w.heap.size + 1 + 1, 2, none⟩ (.slice (some ⟨w3.heap.size, 0, none⟩) N capB) = W5 at *
  clear yf4 yc4 hcv
  have t0 := hp5.blk.cell 0
  have t1 := hp5.blk.cell 1
  simp at t0 t1
  cases bad3 with
  | true =>
    have HD3 : D = none := by
      have e : st3 = none := hst3.symm
      rw [HD.out, if_neg (fun h => by rw [e] at h; cases h.1)]
    clear HD hst3
    have z0 := hz5.cell 0
    have zf0 := hz5.frozen 0
    have z1 := hz5.cell 1
    have zf1 := hz5.frozen 1
    have z2 := hz5.cell 2
    have zf2 := hz5.frozen 2
    simp at z0 z1 z2
    go_wp2
    have hE := fill3 hz5 (.int .i64 0) (.int .i64 0) (.slice none 0 0)
    have hbE := ((hb5.setCell (p := ⟨w.heap.size, 0, none⟩) (Nat.le_refl _) (.int .i64 0)).setCell (p := ⟨w.heap.size, 1, none⟩) (Nat.le_refl _) (.int .i64 0)).setCell (p := ⟨w.heap.size, 2, none⟩) (Nat.le_refl _) (.slice none 0 0)
    generalize ((W5.setCell ⟨w.heap.size, 0, none⟩ (.int .i64 0)).setCell ⟨w.heap.size, 1, none⟩ (.int .i64 0)).setCell ⟨w.heap.size, 2, none⟩ (.slice none 0 0) = WE at *
    have E0 := hE.cell 0
    have E1 := hE.cell 1
    have E2 := hE.cell 2
    simp at E0 E1 E2
    refine bodyPost_ret (v := .tuple #[pkN, .bool false]) (by simp [results, Try.results30, go_sem, E0, E1, E2, pkN]) rfl (by rw [HD3]; exact ⟨hbE, rfl⟩)
  | false =>
    cases l3 with
    | cons z0 zs =>
      have HD3 : D = none := by
        have e : st3 = some (z0 :: zs) := hst3.symm
        rw [HD.out, if_neg (fun h => by rw [e] at h; cases h.1)]
      clear HD hst3
      obtain ⟨qq, hq⟩ : ∃ qq, qq = (z0 :: zs).length := ⟨_, rfl⟩
      have hq0 : (0 : Int) < (qq : Int) := by rw [hq, List.length_cons]; omega
      simp only [← List.length_cons, ← hq] at t0
      clear hq
      have z0 := hz5.cell 0
      have zf0 := hz5.frozen 0
      have z1 := hz5.cell 1
      have zf1 := hz5.frozen 1
      have z2 := hz5.cell 2
      have zf2 := hz5.frozen 2
      simp at z0 z1 z2
      go_wp2
      have hE := fill3 hz5 (.int .i64 0) (.int .i64 0) (.slice none 0 0)
      have hbE := ((hb5.setCell (p := ⟨w.heap.size, 0, none⟩) (Nat.le_refl _) (.int .i64 0)).setCell (p := ⟨w.heap.size, 1, none⟩) (Nat.le_refl _) (.int .i64 0)).setCell (p := ⟨w.heap.size, 2, none⟩) (Nat.le_refl _) (.slice none 0 0)
      generalize ((W5.setCell ⟨w.heap.size, 0, none⟩ (.int .i64 0)).setCell ⟨w.heap.size, 1, none⟩ (.int .i64 0)).setCell ⟨w.heap.size, 2, none⟩ (.slice none 0 0) = WE at *
      have E0 := hE.cell 0
      have E1 := hE.cell 1
      have E2 := hE.cell 2
      simp at E0 E1 E2
      refine bodyPost_ret (v := .tuple #[pkN, .bool false]) (by simp [results, Try.results30, go_sem, E0, E1, E2, pkN]) rfl (by rw [HD3]; exact ⟨hbE, rfl⟩)
    | nil =>
      have HD2 : Hid (D = if mayPn s a N = true then some ⟨s, a, x⟩ else none) := Lib.hid (by
        have e : st3 = some [] := hst3.symm
        rw [HD.out]
        simp [e])
      clear HD hst3
      have y0 := hx5.cell 0
      have y1 := hx5.cell 1
      have y2 := hx5.cell 2
      simp at y0 y1 y2
      have hb6 := hb5.alloc hb5.size (.cells #[.int .i64 s, .int .i64 a, .slice (some ⟨w3.heap.size, 0, none⟩) N capB] 32)
      have hz6 := hz5.alloc (.cells #[.int .i64 s, .int .i64 a, .slice (some ⟨w3.heap.size, 0, none⟩) N capB] 32)
      have hx6 := hx5.alloc (.cells #[.int .i64 s, .int .i64 a, .slice (some ⟨w3.heap.size, 0, none⟩) N capB] 32)
      have hr6 := hr5.alloc (.cells #[.int .i64 s, .int .i64 a, .slice (some ⟨w3.heap.size, 0, none⟩) N capB] 32)
      simp at t0
      go_wp2_with fail
      refine (rmay_any s a _ N capB _ (by omega)).mono ?_
      rintro e w9 ⟨rfl, hww⟩
      rw [← hww] at hb6 hz6 hx6 hr6
      clear hww hb5 hz5 hx5 hr5 hp5 t0 t1 y0 y1 y2
      cases hmm : mayPn s a N with
      | false =>
        have HD3 : D = none := by rw [HD2.out, hmm, if_neg (by simp)]
        clear HD2
        have z0 := hz6.cell 0
        have zf0 := hz6.frozen 0
        have z1 := hz6.cell 1
        have zf1 := hz6.frozen 1
        have z2 := hz6.cell 2
        have zf2 := hz6.frozen 2
        simp at z0 z1 z2
        go_wp2
        have hE := fill3 hz6 (.int .i64 0) (.int .i64 0) (.slice none 0 0)
        have hbE := ((hb6.setCell (p := ⟨w.heap.size, 0, none⟩) (Nat.le_refl _) (.int .i64 0)).setCell (p := ⟨w.heap.size, 1, none⟩) (Nat.le_refl _) (.int .i64 0)).setCell (p := ⟨w.heap.size, 2, none⟩) (Nat.le_refl _) (.slice none 0 0)
        generalize ((w9.setCell ⟨w.heap.size, 0, none⟩ (.int .i64 0)).setCell ⟨w.heap.size, 1, none⟩ (.int .i64 0)).setCell ⟨w.heap.size, 2, none⟩ (.slice none 0 0) = WE at *
        have E0 := hE.cell 0
        have E1 := hE.cell 1
        have E2 := hE.cell 2
        simp at E0 E1 E2
        refine bodyPost_ret (v := .tuple #[pkN, .bool false]) (by simp [results, Try.results30, go_sem, E0, E1, E2, pkN]) rfl (by rw [HD3]; exact ⟨hbE, rfl⟩)
      | true =>
        have HD3 : Hid (D = some ⟨s, a, x⟩) := Lib.hid (by rw [HD2.out, hmm, if_pos rfl])
        clear HD2
        have z0 := hz6.cell 0
        have zf0 := hz6.frozen 0
        have z1 := hz6.cell 1
        have zf1 := hz6.frozen 1
        have z2 := hz6.cell 2
        have zf2 := hz6.frozen 2
        simp at z0 z1 z2
        have y0 := hx6.cell 0
        have y1 := hx6.cell 1
        have y2 := hx6.cell 2
        simp at y0 y1 y2
        go_wp2
        have hE := fill3 hz6 (.int .i64 s) (.int .i64 a) (.slice (some ⟨w3.heap.size, 0, none⟩) N capB)
        have hbE := ((hb6.setCell (p := ⟨w.heap.size, 0, none⟩) (Nat.le_refl _) (.int .i64 s)).setCell (p := ⟨w.heap.size, 1, none⟩) (Nat.le_refl _) (.int .i64 a)).setCell (p := ⟨w.heap.size, 2, none⟩) (Nat.le_refl _) (.slice (some ⟨w3.heap.size, 0, none⟩) N capB)
        have hrE := hr6.kept' (keep3 w9 w.heap.size (.int .i64 s) (.int .i64 a) (.slice (some ⟨w3.heap.size, 0, none⟩) N capB)) (fun hp ad ha e => by cases ha; simp at e; omega)
        generalize ((w9.setCell ⟨w.heap.size, 0, none⟩ (.int .i64 s)).setCell ⟨w.heap.size, 1, none⟩ (.int .i64 a)).setCell ⟨w.heap.size, 2, none⟩ (.slice (some ⟨w3.heap.size, 0, none⟩) N capB) = WE at *
        have E0 := hE.cell 0
        have E1 := hE.cell 1
        have E2 := hE.cell 2
        simp at E0 E1 E2
        subst hN
        refine bodyPost_ret (v := .tuple #[PKV s a (some ⟨w3.heap.size, 0, none⟩) x.length capB, .bool true]) (by simp [results, Try.results30, go_sem, E0, E1, E2]) rfl (by rw [HD3.out]; exact ⟨hbE, _, _, rfl, hrE⟩)
end Go.Proofs.Ytfgceplafjbmhaa
