/- A call on an end and on the document's: both answer the same. No condition but that they lie in memory, in blocks of their own. -/
import Derived.Test.YtfgceplafjbmhaaLqI
namespace Go.Proofs.Ytfgceplafjbmhaa
open Go.RowKit
set_option linter.unusedVariables false
set_option linter.unusedSimpArgs false

theorem Below.drew5 {w w' : World} (h : Below w.drew.heap.size w.drew w') : Below w.heap.size w w' := (Below.refl w.heap.size w).drew.trans h
/-- What a call on both leaves. -/
def StepPost (B : Nat) (w0 : World) (p q : Nat) (k : Int) (e : Ending) (w' : World) : Prop :=
  e = .returned (.bool true) ∧ ∃ F G l s m, DoE B w0 p q w' F G l s m l s m ∧ InvT (k + 1) l s m
section
variable {F G : Nat → Prop} {w w0 : World} {B p q : Nat} {l : List Bd} {k s m : Int} {on : Int} {x : Pk} {A : Option Addr} {c : Nat}
set_option maxRecDepth 100000 in
set_option maxHeartbeats 3200000 in
theorem step_other (hat : PkAt w x A c) (hwn : (Lit.int .i64 on).wf = true) (hI : InvT k l s m) (hk : k < 4611686018427387904) (hR : DoE B w0 p q w F G l s m l s m) (hB : B ≤ w0.heap.size) (hal : 0 < x.body.length → ∀ ad, A = some ad → ad.block < B) (h9 : x.body.length ≤ 9223372036854775807) (ok : Int) (n1 : ¬ ok = 1) (n2 : ¬ ok = 2) (n3 : ¬ ok = 3) :
    Calls Try.prog 34 #[.pointer (some ⟨p, 0, none⟩), .pointer (some ⟨q, 0, none⟩), .agg #[.int .i64 ok, .int .i64 on, .int .i64 x.seq, .int .i64 x.ack, .slice A x.body.length c]] w (StepPost B w0 p q k) := by
  have hbw : B ≤ w.heap.size := by have := hR.bel.size; omega
  have hR0 := hR.tight.below hB ((Below.refl w.heap.size w).alloc (Nat.le_refl _) (.cells #[.int .i64 ok, .int .i64 on, .int .i64 x.seq, .int .i64 x.ack, .slice A x.body.length c] 34))
  have hop := Blk.new w 34 #[.int .i64 ok, .int .i64 on, .int .i64 x.seq, .int .i64 x.ack, .slice A x.body.length c]
  have hFbo : ∀ k, (F k ∧ k < w.heap.size) → ¬ k = w.heap.size := fun k e => by have := e.2; omega
  have hGbo : ∀ k, (G k ∧ k < w.heap.size) → ¬ k = w.heap.size := fun k e => by have := e.2; omega
  have hrb : RB (w.alloc (.cells #[.int .i64 ok, .int .i64 on, .int .i64 x.seq, .int .i64 x.ack, .slice A x.body.length c] 34)) A x.body.length x.body := hat.rb.alloc _
  have hlow : 0 < x.body.length → ∀ ad, A = some ad → ¬ (F ad.block ∧ ad.block < w.heap.size) := fun hp ad e e2 => by have := hal hp ad e; have := hR.lo _ e2.1; omega
  clear hrb hlow
  go_enter Try.func34, Try.ntmps34
  go_wp2
  go_ret
  exact ⟨rfl, _, _, l, s, m, hR0, hI.up (by omega)⟩
set_option maxRecDepth 100000 in
set_option maxHeartbeats 3200000 in
theorem step_send (hat : PkAt w x A c) (hwn : (Lit.int .i64 on).wf = true) (hI : InvT k l s m) (hk : k < 4611686018427387904) (hR : DoE B w0 p q w F G l s m l s m) (hB : B ≤ w0.heap.size) (hal : 0 < x.body.length → ∀ ad, A = some ad → ad.block < B) (h9 : x.body.length ≤ 9223372036854775807) :
    Calls Try.prog 34 #[.pointer (some ⟨p, 0, none⟩), .pointer (some ⟨q, 0, none⟩), .agg #[.int .i64 1, .int .i64 on, .int .i64 x.seq, .int .i64 x.ack, .slice A x.body.length c]] w (StepPost B w0 p q k) := by
  have hbw : B ≤ w.heap.size := by have := hR.bel.size; omega
  have hR0 := hR.tight.below hB ((Below.refl w.heap.size w).alloc (Nat.le_refl _) (.cells #[.int .i64 1, .int .i64 on, .int .i64 x.seq, .int .i64 x.ack, .slice A x.body.length c] 34))
  have hop := Blk.new w 34 #[.int .i64 1, .int .i64 on, .int .i64 x.seq, .int .i64 x.ack, .slice A x.body.length c]
  have hFbo : ∀ k, (F k ∧ k < w.heap.size) → ¬ k = w.heap.size := fun k e => by have := e.2; omega
  have hGbo : ∀ k, (G k ∧ k < w.heap.size) → ¬ k = w.heap.size := fun k e => by have := e.2; omega
  have hrb : RB (w.alloc (.cells #[.int .i64 1, .int .i64 on, .int .i64 x.seq, .int .i64 x.ack, .slice A x.body.length c] 34)) A x.body.length x.body := hat.rb.alloc _
  have hlow : 0 < x.body.length → ∀ ad, A = some ad → ¬ (F ad.block ∧ ad.block < w.heap.size) := fun hp ad e e2 => by have := hal hp ad e; have := hR.lo _ e2.1; omega
  obtain ⟨F0, hF0⟩ : ∃ F0, (fun k => F k ∧ k < w.heap.size) = F0 := ⟨_, rfl⟩
  obtain ⟨G0, hG0⟩ : ∃ G0, (fun k => G k ∧ k < w.heap.size) = G0 := ⟨_, rfl⟩
  replace hFbo : ∀ k, F0 k → ¬ k = w.heap.size := by rw [← hF0]; exact hFbo
  replace hGbo : ∀ k, G0 k → ¬ k = w.heap.size := by rw [← hG0]; exact hGbo
  replace hlow : 0 < x.body.length → ∀ ad, A = some ad → ¬ F0 ad.block := by rw [← hF0]; exact hlow
  rw [hF0, hG0] at hR0
  clear hF0 hG0 hR
  have hqw := hR0.qn.lt
  have hsd := send_u (F := F0) A c x.body on hI hk hrb hlow hR0.ek h9 (wf_int hwn).1 (wf_int hwn).2
  have hinv := hI.send x.body on hk (wf_int hwn).1
  obtain ⟨R, hRR⟩ : ∃ R, sendR l s m on x.body = R := ⟨_, rfl⟩
  rw [hRR] at hsd hinv
  have HRR := Lib.hid hRR
  clear hRR
  obtain ⟨E, P, l', s'⟩ := R
  dsimp only at hsd hinv
  have hEE : (E == E) = true := beq_self_eq_true E
  go_enter Try.func34, Try.ntmps34
  go_wp2_with fail
  generalize hbo : w.heap.size = bo at *
  generalize w.alloc (.cells #[.int .i64 1, .int .i64 on, .int .i64 x.seq, .int .i64 x.ack, .slice A x.body.length c] 34) = w1 at *
  have o1 := hop.cell 1
  have o2 := hop.cell 2
  have o3 := hop.cell 3
  have o4 := hop.cell 4
  simp at o1 o2 o3 o4
  refine hsd.mono ?_
  rintro e w2 ⟨⟨A2, c2, rfl, hr2, hL2⟩, hfr⟩
  obtain ⟨A9, n9, c9, h91, h92⟩ := hfr _ rfl
  injection h91 with h91
  simp only [Array.mk.injEq, List.cons.injEq, Value.agg.injEq, Value.slice.injEq, and_true, true_and] at h91
  obtain ⟨rfl, rfl, rfl⟩ := h91
  clear hfr
  have hR2 := hR0.callE hB hL2
  have hop2 := hop.kept hL2.2 (fun e => hFbo _ e rfl)
  have hqw2 := hR2.qn.lt
  have hr3 := hr2.alloc (.cells #[.int .i64 P.seq, .int .i64 P.ack, .slice A2 P.body.length c2] 32)
  have hR3 := hR2.below hB ((Below.refl w2.heap.size w2).alloc (Nat.le_refl _) (.cells #[.int .i64 P.seq, .int .i64 P.ack, .slice A2 P.body.length c2] 32))
  have hop3 := hop2.alloc (.cells #[.int .i64 P.seq, .int .i64 P.ack, .slice A2 P.body.length c2] 32)
  have hn3 := Blk.new w2 32 #[.int .i64 P.seq, .int .i64 P.ack, .slice A2 P.body.length c2]
  have hrb3 := (hrb.kept' hL2.2 (fun hp ad e => hlow hp ad e)).alloc (.cells #[.int .i64 P.seq, .int .i64 P.ack, .slice A2 P.body.length c2] 32)
  have q1 := hop3.cell 1
  have q4 := hop3.cell 4
  simp at q1 q4
  have hqlow : 0 < x.body.length → ∀ ad, A = some ad → ad.block ≠ q := fun hp ad e e2 => by
    have h1 := hal hp ad e
    have h2 := hR3.lo2 q hR3.qn.fq
    omega
  have hsq := rsend_u (G := _) A c x.body on hI hk hrb3 hqlow hR3.qn h9 (wf_int hwn).1 (wf_int hwn).2
  rw [HRR.out] at hsq
  dsimp only at hsq
  clear hsd hop2 hr2 o1 o2 o3 o4
  go_wp2_with fail
  generalize hb2 : w2.heap.size = b2 at *
  generalize w2.alloc (.cells #[.int .i64 P.seq, .int .i64 P.ack, .slice A2 P.body.length c2] 32) = w3 at *
  refine hsq.mono ?_
  rintro e w4 ⟨A4, c4, rfl, hr4, hL4⟩
  have hR4 := hR3.callQ hB hL4
  have hqb : ¬ b2 = q := by omega
  have hn4 := hn3.kept hL4.2 hqb
  have hr34 := hr3.kept' hL4.2 (fun hp ad e e2 => by have := h92 hp ad e; omega)
  have hR5 := hR4.below hB ((Below.refl w4.heap.size w4).alloc (Nat.le_refl _) (.cells #[.int .i64 P.seq, .int .i64 P.ack, .slice A4 P.body.length c4] 32))
  have hn5 := hn4.alloc (.cells #[.int .i64 P.seq, .int .i64 P.ack, .slice A4 P.body.length c4] 32)
  have hm5 := Blk.new w4 32 #[.int .i64 P.seq, .int .i64 P.ack, .slice A4 P.body.length c4]
  have hr35 := hr34.alloc (.cells #[.int .i64 P.seq, .int .i64 P.ack, .slice A4 P.body.length c4] 32)
  have hr45 := hr4.alloc (.cells #[.int .i64 P.seq, .int .i64 P.ack, .slice A4 P.body.length c4] 32)
  clear hsq q1 q4 hop3
  have y0 := hn5.cell 0
  have y1 := hn5.cell 1
  have y2 := hn5.cell 2
  simp at y0 y1 y2
  go_wp2_with fail
  refine (rsame_any P P A2 A4 _ c2 _ c4 _ hr35 hr45).mono ?_
  rintro e w6 ⟨rfl, hb6⟩
  rw [sameP_self]
  have hR6 := hR5.below hB hb6
  go_wp2
  go_ret
  exact ⟨rfl, _, _, l', s', m, hR6, hinv⟩
set_option maxRecDepth 100000 in
set_option maxHeartbeats 3200000 in
theorem step_on (hat : PkAt w x A c) (hwn : (Lit.int .i64 on).wf = true) (hI : InvT k l s m) (hk : k < 4611686018427387904) (hR : DoE B w0 p q w F G l s m l s m) (hB : B ≤ w0.heap.size) (hal : 0 < x.body.length → ∀ ad, A = some ad → ad.block < B) (h9 : x.body.length ≤ 9223372036854775807) :
    Calls Try.prog 34 #[.pointer (some ⟨p, 0, none⟩), .pointer (some ⟨q, 0, none⟩), .agg #[.int .i64 3, .int .i64 on, .int .i64 x.seq, .int .i64 x.ack, .slice A x.body.length c]] w (StepPost B w0 p q k) := by
  have hbw : B ≤ w.heap.size := by have := hR.bel.size; omega
  have hR0 := hR.tight.below hB ((Below.refl w.heap.size w).alloc (Nat.le_refl _) (.cells #[.int .i64 3, .int .i64 on, .int .i64 x.seq, .int .i64 x.ack, .slice A x.body.length c] 34))
  have hop := Blk.new w 34 #[.int .i64 3, .int .i64 on, .int .i64 x.seq, .int .i64 x.ack, .slice A x.body.length c]
  have hFbo : ∀ k, (F k ∧ k < w.heap.size) → ¬ k = w.heap.size := fun k e => by have := e.2; omega
  have hGbo : ∀ k, (G k ∧ k < w.heap.size) → ¬ k = w.heap.size := fun k e => by have := e.2; omega
  have hrb : RB (w.alloc (.cells #[.int .i64 3, .int .i64 on, .int .i64 x.seq, .int .i64 x.ack, .slice A x.body.length c] 34)) A x.body.length x.body := hat.rb.alloc _
  have hlow : 0 < x.body.length → ∀ ad, A = some ad → ¬ (F ad.block ∧ ad.block < w.heap.size) := fun hp ad e e2 => by have := hal hp ad e; have := hR.lo _ e2.1; omega
  obtain ⟨F0, hF0⟩ : ∃ F0, (fun k => F k ∧ k < w.heap.size) = F0 := ⟨_, rfl⟩
  obtain ⟨G0, hG0⟩ : ∃ G0, (fun k => G k ∧ k < w.heap.size) = G0 := ⟨_, rfl⟩
  replace hFbo : ∀ k, F0 k → ¬ k = w.heap.size := by rw [← hF0]; exact hFbo
  replace hGbo : ∀ k, G0 k → ¬ k = w.heap.size := by rw [← hG0]; exact hGbo
  replace hlow : 0 < x.body.length → ∀ ad, A = some ad → ¬ F0 ad.block := by rw [← hF0]; exact hlow
  rw [hF0, hG0] at hR0
  clear hF0 hG0 hR
  have hqw := hR0.qn.lt
  have hsd := on_u (F := F0) A c x hI hk hrb hlow hR0.ek h9
  have hinv := hI.on x hk
  obtain ⟨R, hRR⟩ : ∃ R, onR l m x = R := ⟨_, rfl⟩
  rw [hRR] at hsd hinv
  have HRR := Lib.hid hRR
  clear hRR
  obtain ⟨y, f, a, l', m'⟩ := R
  dsimp only at hsd hinv
  have hff : (f == f) = true := beq_self_eq_true f
  go_enter Try.func34, Try.ntmps34
  go_wp2_with fail
  generalize hbo : w.heap.size = bo at *
  generalize w.alloc (.cells #[.int .i64 3, .int .i64 on, .int .i64 x.seq, .int .i64 x.ack, .slice A x.body.length c] 34) = w1 at *
  have o2 := hop.cell 2
  have o3 := hop.cell 3
  have o4 := hop.cell 4
  simp at o2 o3 o4
  refine hsd.mono ?_
  rintro e w2 ⟨A2, c2, rfl, hr2, h92, hL2⟩
  have hR2 := hR0.callE hB hL2
  have hop2 := hop.kept hL2.2 (fun e => hFbo _ e rfl)
  have hqw2 := hR2.qn.lt
  have hr3 := hr2.alloc (.cells #[.int .i64 0, .int .i64 a, .slice none 0 0] 32)
  have hR3 := hR2.below hB ((Below.refl w2.heap.size w2).alloc (Nat.le_refl _) (.cells #[.int .i64 0, .int .i64 a, .slice none 0 0] 32))
  have hop3 := hop2.alloc (.cells #[.int .i64 0, .int .i64 a, .slice none 0 0] 32)
  have hn3 := Blk.new w2 32 #[.int .i64 0, .int .i64 a, .slice none 0 0]
  have hrb3 := (hrb.kept' hL2.2 (fun hp ad e => hlow hp ad e)).alloc (.cells #[.int .i64 0, .int .i64 a, .slice none 0 0] 32)
  have q2 := hop3.cell 2
  have q3 := hop3.cell 3
  have q4 := hop3.cell 4
  simp at q2 q3 q4
  have hqlow : 0 < x.body.length → ∀ ad, A = some ad → ad.block ≠ q := fun hp ad e e2 => by
    have h1 := hal hp ad e
    have h2 := hR3.lo2 q hR3.qn.fq
    omega
  have hsq := ron_u (G := _) A c x hI hk hrb3 hqlow hR3.qn h9
  rw [HRR.out] at hsq
  dsimp only at hsq
  clear hsd hop2 hr2 o2 o3 o4
  go_wp2_with fail
  generalize hb2 : w2.heap.size = b2 at *
  generalize w2.alloc (.cells #[.int .i64 0, .int .i64 a, .slice none 0 0] 32) = w3 at *
  refine hsq.mono ?_
  rintro e w4 ⟨A4, c4, rfl, hr4, _, hL4⟩
  have hR4 := hR3.callQ hB hL4
  have hqb : ¬ b2 = q := by omega
  have hn4 := hn3.kept hL4.2 hqb
  have hr34 := hr3.kept' hL4.2 (fun hp ad e e2 => by have := h92 hp ad e; omega)
  have hR5 := hR4.below hB ((Below.refl w4.heap.size w4).alloc (Nat.le_refl _) (.cells #[.int .i64 0, .int .i64 a, .slice none 0 0] 32))
  have hn5 := hn4.alloc (.cells #[.int .i64 0, .int .i64 a, .slice none 0 0] 32)
  have hr35 := hr34.alloc (.cells #[.int .i64 0, .int .i64 a, .slice none 0 0] 32)
  have hr45 := hr4.alloc (.cells #[.int .i64 0, .int .i64 a, .slice none 0 0] 32)
  clear hsq q2 q3 q4 hop3
  have y0 := hn5.cell 0
  have y1 := hn5.cell 1
  have y2 := hn5.cell 2
  simp at y0 y1 y2
  have hs1 := run_str _ A2 _ c2 _ hr35
  have hs2 := run_str _ A4 _ c4 _ hr45
  go_wp2_with fail
  refine (rsame_any ⟨0, a, []⟩ ⟨0, a, []⟩ none none 0 0 0 0 _ (RB.empty _) (RB.empty _)).mono ?_
  rintro e w6 ⟨rfl, hb6⟩
  rw [sameP_self]
  have hR6 := hR5.below hB hb6
  go_wp2
  go_ret
  exact ⟨rfl, _, _, l', s, m', hR6, hinv⟩
set_option maxRecDepth 100000 in
set_option maxHeartbeats 3200000 in
theorem step_tick (hat : PkAt w x A c) (hwn : (Lit.int .i64 on).wf = true) (hI : InvT k l s m) (hk : k < 4611686018427387904) (hR : DoE B w0 p q w F G l s m l s m) (hB : B ≤ w0.heap.size) (hal : 0 < x.body.length → ∀ ad, A = some ad → ad.block < B) (h9 : x.body.length ≤ 9223372036854775807) :
    Calls Try.prog 34 #[.pointer (some ⟨p, 0, none⟩), .pointer (some ⟨q, 0, none⟩), .agg #[.int .i64 2, .int .i64 on, .int .i64 x.seq, .int .i64 x.ack, .slice A x.body.length c]] w (StepPost B w0 p q k) := by
  have hbw : B ≤ w.heap.size := by have := hR.bel.size; omega
  have hR0 := hR.tight.below hB ((Below.refl w.heap.size w).alloc (Nat.le_refl _) (.cells #[.int .i64 2, .int .i64 on, .int .i64 x.seq, .int .i64 x.ack, .slice A x.body.length c] 34))
  have hop := Blk.new w 34 #[.int .i64 2, .int .i64 on, .int .i64 x.seq, .int .i64 x.ack, .slice A x.body.length c]
  have hFbo : ∀ k, (F k ∧ k < w.heap.size) → ¬ k = w.heap.size := fun k e => by have := e.2; omega
  have hGbo : ∀ k, (G k ∧ k < w.heap.size) → ¬ k = w.heap.size := fun k e => by have := e.2; omega
  have hrb : RB (w.alloc (.cells #[.int .i64 2, .int .i64 on, .int .i64 x.seq, .int .i64 x.ack, .slice A x.body.length c] 34)) A x.body.length x.body := hat.rb.alloc _
  have hlow : 0 < x.body.length → ∀ ad, A = some ad → ¬ (F ad.block ∧ ad.block < w.heap.size) := fun hp ad e e2 => by have := hal hp ad e; have := hR.lo _ e2.1; omega
  obtain ⟨F0, hF0⟩ : ∃ F0, (fun k => F k ∧ k < w.heap.size) = F0 := ⟨_, rfl⟩
  obtain ⟨G0, hG0⟩ : ∃ G0, (fun k => G k ∧ k < w.heap.size) = G0 := ⟨_, rfl⟩
  replace hFbo : ∀ k, F0 k → ¬ k = w.heap.size := by rw [← hF0]; exact hFbo
  replace hGbo : ∀ k, G0 k → ¬ k = w.heap.size := by rw [← hG0]; exact hGbo
  replace hlow : 0 < x.body.length → ∀ ad, A = some ad → ¬ F0 ad.block := by rw [← hF0]; exact hlow
  rw [hF0, hG0] at hR0
  clear hF0 hG0 hR
  have hqw := hR0.qn.lt
  have hinv := hI.ticked on hk (wf_int hwn).1
  clear hrb hlow
  go_enter Try.func34, Try.ntmps34
  go_upto_region 7 with fail
  generalize hbo : w.heap.size = bo at *
  generalize w.alloc (.cells #[.int .i64 2, .int .i64 on, .int .i64 x.seq, .int .i64 x.ack, .slice A x.body.length c] 34) = w1 at *
  have o1 := hop.cell 1
  simp at o1
  have o1d : w1.drew.cell? ⟨bo, 1, none⟩ = some (.int .i64 on) := o1
  have hFbo' : ¬ F0 bo := fun e => hFbo _ e rfl
  have htk := tick_u (w := w1.drew) on hI hR0.drew.ek (wf_int hwn).1 (wf_int hwn).2
  refine wp_region_held_drew (S := (fun W => W.cell? ⟨bo, 1, none⟩ = some (.int .i64 on))) (by kernel_rfl) o1d (fun hHeld => ?_)
  refine wpAnyH_take (i := 0) (oi := ?oi0t) (v := ?v0t) ?hi0t (by kernel_rfl) (by kernel_rfl) (by kernel_rfl) ?hq0t (Or.inl ⟨?hw0t, ?hy0t⟩) (by assumption) ?rest0t
  case hi0t => (simp only [List.getElem?_toArray, List.getElem?_cons_succ, List.getElem?_cons_zero]; rfl)
  case hq0t => exact fun _ _ _ h => h
  case hw0t => rfl
  case hy0t => (intro w hSw; (try dsimp only at hSw); go_simp <;> with_reducible rfl)
  try simp only [Act.put, List.setIfInBounds_toArray, List.set_cons_zero, List.set_cons_succ]
  refine wpAnyH_take (i := 1) (oi := ?oi1t) (v := ?v1t) ?hi1t (by kernel_rfl) (by kernel_rfl) (by kernel_rfl) ?hq1t (Or.inl ⟨?hw1t, ?hy1t⟩) (by assumption) ?rest1t
  case hi1t => (simp only [List.getElem?_toArray, List.getElem?_cons_succ, List.getElem?_cons_zero]; rfl)
  case hq1t => exact fun _ _ _ h => h
  case hw1t => rfl
  case hy1t => (intro w hSw; (try dsimp only at hSw); go_simp <;> with_reducible rfl)
  try simp only [Act.put, List.setIfInBounds_toArray, List.set_cons_zero, List.set_cons_succ]
  refine wpAnyH_take (i := 2) (oi := ?oi2t) (v := ?v2t) ?hi2t (by kernel_rfl) (by kernel_rfl) (by kernel_rfl) ?hq2t (Or.inl ⟨?hw2t, ?hy2t⟩) (by assumption) ?rest2t
  case hi2t => (simp only [List.getElem?_toArray, List.getElem?_cons_succ, List.getElem?_cons_zero]; rfl)
  case hq2t => exact fun _ _ _ h => h
  case hw2t => rfl
  case hy2t => (intro w hSw; (try dsimp only at hSw); go_simp <;> with_reducible rfl)
  try simp only [Act.put, List.setIfInBounds_toArray, List.set_cons_zero, List.set_cons_succ]
  refine wpAnyH_take (i := 4) (oi := ?oi4t) (v := ?v4t) ?hi4t (by kernel_rfl) (by kernel_rfl) (by kernel_rfl) ?hq4t (Or.inl ⟨?hw4t, ?hy4t⟩) (by assumption) ?rest4t
  case hi4t => (simp only [List.getElem?_toArray, List.getElem?_cons_succ, List.getElem?_cons_zero]; rfl)
  case hq4t => exact fun _ _ _ h => h
  case hw4t => rfl
  case hy4t => (intro w hSw; (try dsimp only at hSw); go_simp <;> with_reducible rfl)
  try simp only [Act.put, List.setIfInBounds_toArray, List.set_cons_zero, List.set_cons_succ]
  refine wpAnyH_take (i := 5) (oi := ?oi5t) (v := ?v5t) ?hi5t (by kernel_rfl) (by kernel_rfl) (by kernel_rfl) ?hq5t (Or.inl ⟨?hw5t, ?hy5t⟩) (by assumption) ?rest5t
  case hi5t => (simp only [List.getElem?_toArray, List.getElem?_cons_succ, List.getElem?_cons_zero]; rfl)
  case hq5t => exact fun _ _ _ h => h
  case hw5t => rfl
  case hy5t => (intro w hSw; (try dsimp only at hSw); go_simp <;> with_reducible rfl)
  try simp only [Act.put, List.setIfInBounds_toArray, List.set_cons_zero, List.set_cons_succ]
  refine wpAnyH_take (i := 6) (oi := ?oi6t) (v := ?v6t) ?hi6t (by kernel_rfl) (by kernel_rfl) (by kernel_rfl) ?hq6t (Or.inl ⟨?hw6t, ?hy6t⟩) (by assumption) ?rest6t
  case hi6t => (simp only [List.getElem?_toArray, List.getElem?_cons_succ, List.getElem?_cons_zero]; rfl)
  case hq6t => exact fun _ _ _ h => h
  case hw6t => rfl
  case hy6t => (intro w hSw; (try dsimp only at hSw); go_simp <;> with_reducible rfl)
  try simp only [Act.put, List.setIfInBounds_toArray, List.set_cons_zero, List.set_cons_succ]
  refine wpAnyH_ready (rs := [3]) (by kernel_rfl) (by simp) ?_
  refine AllReadyH.cons (o := ?o3t) ?hi3t (fun K hK => ?st3t) AllReadyH.nil
  case hi3t => (simp only [List.getElem?_toArray, List.getElem?_cons_succ, List.getElem?_cons_zero]; rfl)
  go_simp
  refine htk.mono ?_
  rintro e w2 ⟨lv, rfl, hP2, hL2⟩
  have hR2 := hR0.drew.callE hB hL2
  have o21 : w2.cell? ⟨bo, 1, none⟩ = some (.int .i64 on) := hL2.2.cell o1 hFbo'
  have hqq := rtick_u (w := w2) on hI hk hR2.qn (wf_int hwn).1 (wf_int hwn).2
  refine hK.out _ _ o21 (fun hHeld2 => ?_)
  clear hK K hHeld
  have hHeld := hHeld2
  clear hHeld2
  try simp only [Act.put, List.setIfInBounds_toArray, List.set_cons_zero, List.set_cons_succ]
  refine wpAnyH_ready (rs := [7]) (by kernel_rfl) (by simp) ?_
  refine AllReadyH.cons (o := ?o7t) ?hi7t (fun K hK => ?st7t) AllReadyH.nil
  case hi7t => (simp only [List.getElem?_toArray, List.getElem?_cons_succ, List.getElem?_cons_zero]; rfl)
  go_simp
  refine hqq.mono ?_
  rintro e w3 ⟨bv2, rfl, hP3, hL3⟩
  have hR3 := hR2.callQ hB hL3
  have hq2 := hR2.qn.lt
  have hq1 := hR0.qn.lt
  have hP2' := hP2.kept hL3.2 (fun g h1 h2 e => by have h5 : w1.heap.size ≤ g := h1; omega)
  have o31 : w3.cell? ⟨bo, 1, none⟩ = some (.int .i64 on) := hL3.2.cell o21 (fun e => hGbo _ hR0.qn.fq e.symm)
  refine hK.out _ _ o31 (fun hHeld2 => ?_)
  clear hK K hHeld
  have hHeld := hHeld2
  clear hHeld2
  try simp only [Act.put, List.setIfInBounds_toArray, List.set_cons_zero, List.set_cons_succ]
  refine wpAnyH_take (i := 8) (oi := ?oi8t) (v := ?v8t) ?hi8t (by kernel_rfl) (by kernel_rfl) (by kernel_rfl) ?hq8t (Or.inl ⟨?hw8t, ?hy8t⟩) (by assumption) ?rest8t
  case hi8t => (simp only [List.getElem?_toArray, List.getElem?_cons_succ, List.getElem?_cons_zero]; rfl)
  case hq8t => exact fun _ _ _ h => h
  case hw8t => rfl
  case hy8t => (intro w hSw; (try dsimp only at hSw); go_simp <;> with_reducible rfl)
  try simp only [Act.put, List.setIfInBounds_toArray, List.set_cons_zero, List.set_cons_succ]
  refine wpAnyH_take (i := 9) (oi := ?oi9t) (v := ?v9t) ?hi9t (by kernel_rfl) (by kernel_rfl) (by kernel_rfl) ?hq9t (Or.inl ⟨?hw9t, ?hy9t⟩) (by assumption) ?rest9t
  case hi9t => (simp only [List.getElem?_toArray, List.getElem?_cons_succ, List.getElem?_cons_zero]; rfl)
  case hq9t => exact fun _ _ _ h => h
  case hw9t => rfl
  case hy9t => (intro w hSw; (try dsimp only at hSw); go_simp <;> with_reducible rfl)
  try simp only [Act.put, List.setIfInBounds_toArray, List.set_cons_zero, List.set_cons_succ]
  refine wpAnyH_done (by kernel_rfl) ?_ _
  obtain ⟨Aa, ca, rfl, _, _, ha⟩ := hP2'.form
  obtain ⟨Ab, cb, rfl, _, _, hbp⟩ := hP3
  have hlen : (tickP m on l).length ≤ 64 := by have := tickP_le m on l; have := hI.inv.len; omega
  obtain ⟨N, hN⟩ : ∃ N, (tickP m on l).length = N := ⟨_, rfl⟩
  rw [hN] at hlen
  try rw [hN]
  have hb0 := Below.refl w3.heap.size w3
  clear htk hqq hP2 hL2 hL3 o31 o21 o1 o1d hR2 hR0 hop
  go_wp2
  go_loopw [13] (fun i wr => ∃ j : Nat, i = .int .i64 (j : Int) ∧ j ≤ N ∧ RowKit.Below w3.heap.size w3 wr) (fun i _ => N - (intOf i).toNat)
  case atStart => exact ⟨0, by go_num, by omega, hb0⟩
  case round =>
    obtain ⟨j, rfl, hj, hb⟩ := hrel
    clear hb0
    by_cases hlt : j < N
    · have hlz : (j : Int) < (N : Int) := by omega
      have hj0 : (0 : Int) ≤ (j : Int) := by omega
      obtain ⟨y, hy⟩ : ∃ y, (tickP m on l)[j]? = some y := ⟨_, List.getElem?_eq_getElem (by omega)⟩
      obtain ⟨ba, xa, rfl, a0, a1, a2, hxa⟩ := ha j y hy
      obtain ⟨bb, Ay, cy, rfl, b0, b1, b2, hyb⟩ := hbp j y hy
      obtain ⟨Ax, cx, rfl, _, _, hxr, _⟩ := hxa.form
      have hS : ∀ W, RowKit.Below wr.heap.size wr W → W.cell? ⟨ba, j * 3, none⟩ = some (.int .i64 y.seq) ∧ W.cell? ⟨ba, j * 3 + 1, none⟩ = some (.int .i64 y.ack) ∧ W.cell? ⟨ba, j * 3 + 2, none⟩ = some (.slice Ax y.body.length cx) ∧ W.cell? ⟨bb, j * 3, none⟩ = some (.int .i64 y.seq) ∧ W.cell? ⟨bb, j * 3 + 1, none⟩ = some (.int .i64 y.ack) ∧ W.cell? ⟨bb, j * 3 + 2, none⟩ = some (.slice Ay y.body.length cy) := fun W hb2 => by
        have hb3 := hb.trans (hb2.mono hb.size)
        exact ⟨(hb3.cell (World.block_lt_of_cell? _ _ a0)).trans a0, (hb3.cell (World.block_lt_of_cell? _ _ a1)).trans a1, (hb3.cell (World.block_lt_of_cell? _ _ a2)).trans a2, (hb3.cell (World.block_lt_of_cell? _ _ b0)).trans b0, (hb3.cell (World.block_lt_of_cell? _ _ b1)).trans b1, (hb3.cell (World.block_lt_of_cell? _ _ b2)).trans b2⟩
      have hbd := hb.drew
      have hsm := rsame_any y y Ax Ay _ cx _ cy wr.drew (hxr.below hbd) (hyb.below hbd)
      rw [sameP_self] at hsm
      clear a0 a1 a2 b0 b1 b2 hxr hyb hxa hy
      go_wp2
      refine wp_region_held_drew (S := (fun W => W.cell? ⟨ba, j * 3, none⟩ = some (.int .i64 y.seq) ∧ W.cell? ⟨ba, j * 3 + 1, none⟩ = some (.int .i64 y.ack) ∧ W.cell? ⟨ba, j * 3 + 2, none⟩ = some (.slice Ax y.body.length cx) ∧ W.cell? ⟨bb, j * 3, none⟩ = some (.int .i64 y.seq) ∧ W.cell? ⟨bb, j * 3 + 1, none⟩ = some (.int .i64 y.ack) ∧ W.cell? ⟨bb, j * 3 + 2, none⟩ = some (.slice Ay y.body.length cy))) (by kernel_rfl) (hS _ (Below.refl wr.heap.size wr).drew) (fun hHeld => ?_)
      refine wpAnyH_take (i := 0) (oi := ?oi0u) (v := ?v0u) ?hi0u (by kernel_rfl) (by kernel_rfl) (by kernel_rfl) ?hq0u (Or.inl ⟨?hw0u, ?hy0u⟩) (by assumption) ?rest0u
      case hi0u => (simp only [List.getElem?_toArray, List.getElem?_cons_succ, List.getElem?_cons_zero]; rfl)
      case hq0u => exact fun _ _ _ h => h
      case hw0u => rfl
      case hy0u => (intro w hSw; (try dsimp only at hSw); go_simp <;> with_reducible rfl)
      try simp only [Act.put, List.setIfInBounds_toArray, List.set_cons_zero, List.set_cons_succ]
      refine wpAnyH_take (i := 1) (oi := ?oi1u) (v := ?v1u) ?hi1u (by kernel_rfl) (by kernel_rfl) (by kernel_rfl) ?hq1u (Or.inl ⟨?hw1u, ?hy1u⟩) (by assumption) ?rest1u
      case hi1u => (simp only [List.getElem?_toArray, List.getElem?_cons_succ, List.getElem?_cons_zero]; rfl)
      case hq1u => exact fun _ _ _ h => h
      case hw1u => rfl
      case hy1u => (intro w hSw; (try dsimp only at hSw); go_simp <;> with_reducible rfl)
      try simp only [Act.put, List.setIfInBounds_toArray, List.set_cons_zero, List.set_cons_succ]
      refine wpAnyH_take (i := 2) (oi := ?oi2u) (v := ?v2u) ?hi2u (by kernel_rfl) (by kernel_rfl) (by kernel_rfl) ?hq2u (Or.inl ⟨?hw2u, ?hy2u⟩) (by assumption) ?rest2u
      case hi2u => (simp only [List.getElem?_toArray, List.getElem?_cons_succ, List.getElem?_cons_zero]; rfl)
      case hq2u => exact fun _ _ _ h => h
      case hw2u => rfl
      case hy2u => (intro w hSw; (try dsimp only at hSw); go_simp <;> with_reducible rfl)
      try simp only [Act.put, List.setIfInBounds_toArray, List.set_cons_zero, List.set_cons_succ]
      refine wpAnyH_take (i := 3) (oi := ?oi3u) (v := ?v3u) ?hi3u (by kernel_rfl) (by kernel_rfl) (by kernel_rfl) ?hq3u (Or.inl ⟨?hw3u, ?hy3u⟩) (by assumption) ?rest3u
      case hi3u => (simp only [List.getElem?_toArray, List.getElem?_cons_succ, List.getElem?_cons_zero]; rfl)
      case hq3u => exact fun _ _ _ h => h
      case hw3u => rfl
      case hy3u => (intro w hSw; (try dsimp only at hSw); go_simp <;> with_reducible rfl)
      try simp only [Act.put, List.setIfInBounds_toArray, List.set_cons_zero, List.set_cons_succ]
      refine wpAnyH_take (i := 4) (oi := ?oi4u) (v := ?v4u) ?hi4u (by kernel_rfl) (by kernel_rfl) (by kernel_rfl) ?hq4u (Or.inl ⟨?hw4u, ?hy4u⟩) (by assumption) ?rest4u
      case hi4u => (simp only [List.getElem?_toArray, List.getElem?_cons_succ, List.getElem?_cons_zero]; rfl)
      case hq4u => exact fun _ _ _ h => h
      case hw4u => rfl
      case hy4u => (intro w hSw; (try dsimp only at hSw); go_simp <;> with_reducible rfl)
      try simp only [Act.put, List.setIfInBounds_toArray, List.set_cons_zero, List.set_cons_succ]
      refine wpAnyH_take (i := 5) (oi := ?oi5u) (v := ?v5u) ?hi5u (by kernel_rfl) (by kernel_rfl) (by kernel_rfl) ?hq5u (Or.inl ⟨?hw5u, ?hy5u⟩) (by assumption) ?rest5u
      case hi5u => (simp only [List.getElem?_toArray, List.getElem?_cons_succ, List.getElem?_cons_zero]; rfl)
      case hq5u => exact fun _ _ _ h => h
      case hw5u => rfl
      case hy5u => (intro w hSw; (try dsimp only at hSw); go_simp <;> with_reducible rfl)
      try simp only [Act.put, List.setIfInBounds_toArray, List.set_cons_zero, List.set_cons_succ]
      refine wpAnyH_take (i := 6) (oi := ?oi6u) (v := ?v6u) ?hi6u (by kernel_rfl) (by kernel_rfl) (by kernel_rfl) ?hq6u (Or.inl ⟨?hw6u, ?hy6u⟩) (by assumption) ?rest6u
      case hi6u => (simp only [List.getElem?_toArray, List.getElem?_cons_succ, List.getElem?_cons_zero]; rfl)
      case hq6u => exact fun _ _ _ h => h
      case hw6u => rfl
      case hy6u => (intro w hSw; (try dsimp only at hSw); go_simp <;> with_reducible rfl)
      try simp only [Act.put, List.setIfInBounds_toArray, List.set_cons_zero, List.set_cons_succ]
      refine wpAnyH_take (i := 7) (oi := ?oi7u) (v := ?v7u) ?hi7u (by kernel_rfl) (by kernel_rfl) (by kernel_rfl) ?hq7u (Or.inl ⟨?hw7u, ?hy7u⟩) (by assumption) ?rest7u
      case hi7u => (simp only [List.getElem?_toArray, List.getElem?_cons_succ, List.getElem?_cons_zero]; rfl)
      case hq7u => exact fun _ _ _ h => h
      case hw7u => rfl
      case hy7u => (intro w hSw; (try dsimp only at hSw); go_simp <;> with_reducible rfl)
      try simp only [Act.put, List.setIfInBounds_toArray, List.set_cons_zero, List.set_cons_succ]
      refine wpAnyH_ready (rs := [8]) (by kernel_rfl) (by simp) ?_
      refine AllReadyH.cons (o := ?o8u) ?hi8u (fun K hK => ?st8u) AllReadyH.nil
      case hi8u => (simp only [List.getElem?_toArray, List.getElem?_cons_succ, List.getElem?_cons_zero]; rfl)
      go_simp
      refine hsm.mono ?_
      rintro e w6 ⟨rfl, hb6⟩
      have hd6 : Below wr.heap.size wr w6 := (Below.refl wr.heap.size wr).drew.trans hb6
      have s6 := hS _ hd6
      refine hK.out _ _ s6 (fun hHeld2 => ?_)
      clear hK K hHeld
      have hHeld := hHeld2
      clear hHeld2
      try simp only [Act.put, List.setIfInBounds_toArray, List.set_cons_zero, List.set_cons_succ]
      refine wpAnyH_take (i := 9) (oi := ?oi9u) (v := ?v9u) ?hi9u (by kernel_rfl) (by kernel_rfl) (by kernel_rfl) ?hq9u (Or.inl ⟨?hw9u, ?hy9u⟩) (by assumption) ?rest9u
      case hi9u => (simp only [List.getElem?_toArray, List.getElem?_cons_succ, List.getElem?_cons_zero]; rfl)
      case hq9u => exact fun _ _ _ h => h
      case hw9u => rfl
      case hy9u => (intro w hSw; (try dsimp only at hSw); go_simp <;> with_reducible rfl)
      try simp only [Act.put, List.setIfInBounds_toArray, List.set_cons_zero, List.set_cons_succ]
      refine wpAnyH_done (by kernel_rfl) ?_ _
      have hb7 := hb.trans (hd6.mono hb.size)
      go_wp2
      go_roundw
      case measure => simp [intOf]; omega
      case rel => exact ⟨j + 1, by go_num, by omega, hb7⟩
    · have hlz : ¬ (j : Int) < (N : Int) := by omega
      have hRE := hR3.below hB hb
      go_wp2
      go_ret
      exact ⟨rfl, _, _, _, s, m, hRE, hinv⟩
theorem step_any (o : OpL) (hat : OpLAt w o A c) (hI : InvT k l s m) (hk : k < 4611686018427387904) (hR : DoE B w0 p q w F G l s m l s m) (hB : B ≤ w0.heap.size) (hal : 0 < o.p.body.length → ∀ ad, A = some ad → ad.block < B) (h9 : o.p.body.length ≤ 9223372036854775807) :
    Calls Try.prog 34 #[.pointer (some ⟨p, 0, none⟩), .pointer (some ⟨q, 0, none⟩), .agg #[.int .i64 o.k, .int .i64 o.now, .int .i64 o.p.seq, .int .i64 o.p.ack, .slice A o.p.body.length c]] w (StepPost B w0 p q k) := by
  obtain ⟨ok, on, x⟩ := o
  by_cases h1 : ok = 1
  · subst h1
    exact step_send hat.pk hat.wn hI hk hR hB hal h9
  by_cases h2 : ok = 2
  · subst h2
    exact step_tick hat.pk hat.wn hI hk hR hB hal h9
  by_cases h3 : ok = 3
  · subst h3
    exact step_on hat.pk hat.wn hI hk hR hB hal h9
  · exact step_other hat.pk hat.wn hI hk hR hB hal h9 ok h1 h2 h3
end
end Go.Proofs.Ytfgceplafjbmhaa
