/- 'LinkCodes' returns true for every input: the row of this law, proved. No condition. -/
import Derived.Test.YtjdphbjpfflheaaLkR
import Derived.Test.YtjdphbjpfflheaaLkB
import Derived.ProofKit
import Derived.OpenShut
import Derived.ShutString
import Derived.ChangeOld
import Derived.SizedLaws
namespace Go.Proofs.Ytjdphbjpfflheaa
open Go.RowKit
set_option linter.unusedVariables false
set_option linter.unusedSimpArgs false
/-- What stands in memory where the two packets are compared. -/
structure CW (W : World) (B0 B8 B10 : Nat) (s a : Int) (A : Option Addr) (n c : Nat) (body : List UInt8) (xs xa : Int) (m : Nat) (xb : List UInt8) (A8 : Option Addr) (c8 : Nat) (A10 : Option Addr) (c10 : Nat) (A2 : Option Addr) (c2 : Nat) (a1 : Option Addr) (cap1 n1 : Nat) (z : List UInt8) (A1 : Option Addr) (N c1 : Nat) (code : List UInt8) : Prop where
  b0 : Blk W B0 32 #[.int .i64 s, .int .i64 a, .slice A n c]
  b8 : Blk W B8 32 #[.int .i64 xs, .int .i64 xa, .slice A8 m c8]
  b10 : Blk W B10 32 #[.int .i64 xs, .int .i64 xa, .slice A10 m c10]
  r0 : RB W A n body
  r8 : RB W A8 m xb
  r10 : RB W A10 m xb
  r1 : RB W A2 n1 z
  r2 : RB W a1 n1 z
  rc : RB W A1 N code
section
variable {W W' : World} {B0 B8 B10 : Nat} {s a : Int} {A : Option Addr} {n c : Nat} {body : List UInt8} {xs xa : Int} {m : Nat} {xb : List UInt8} {A8 : Option Addr} {c8 : Nat} {A10 : Option Addr} {c10 : Nat} {A2 : Option Addr} {c2 : Nat} {a1 : Option Addr} {cap1 n1 : Nat} {z : List UInt8} {A1 : Option Addr} {N c1 : Nat} {code : List UInt8}
theorem CW.below (h : CW W B0 B8 B10 s a A n c body xs xa m xb A8 c8 A10 c10 A2 c2 a1 cap1 n1 z A1 N c1 code) (hb : Below W.heap.size W W') : CW W' B0 B8 B10 s a A n c body xs xa m xb A8 c8 A10 c10 A2 c2 a1 cap1 n1 z A1 N c1 code :=
  ⟨h.b0.kept (Keep.of_below hb) (Nat.not_le.2 h.b0.lt), h.b8.kept (Keep.of_below hb) (Nat.not_le.2 h.b8.lt), h.b10.kept (Keep.of_below hb) (Nat.not_le.2 h.b10.lt), h.r0.below hb, h.r8.below hb, h.r10.below hb, h.r1.below hb, h.r2.below hb, h.rc.below hb⟩
theorem CW.drew (h : CW W B0 B8 B10 s a A n c body xs xa m xb A8 c8 A10 c10 A2 c2 a1 cap1 n1 z A1 N c1 code) : CW W.drew B0 B8 B10 s a A n c body xs xa m xb A8 c8 A10 c10 A2 c2 a1 cap1 n1 z A1 N c1 code := ⟨h.b0.drew, h.b8.drew, h.b10.drew, h.r0.drew, h.r8.drew, h.r10.drew, h.r1.drew, h.r2.drew, h.rc.drew⟩
theorem CW.S (h : CW W B0 B8 B10 s a A n c body xs xa m xb A8 c8 A10 c10 A2 c2 a1 cap1 n1 z A1 N c1 code) : W.cell? ⟨B0, 0, none⟩ = some (.int .i64 s) ∧ W.cell? ⟨B0, 1, none⟩ = some (.int .i64 a) ∧ W.cell? ⟨B0, 2, none⟩ = some (.slice A n c) ∧ W.cell? ⟨B8, 0, none⟩ = some (.int .i64 xs) ∧ W.cell? ⟨B8, 1, none⟩ = some (.int .i64 xa) ∧ W.cell? ⟨B8, 2, none⟩ = some (.slice A8 m c8) ∧ W.cell? ⟨B10, 0, none⟩ = some (.int .i64 xs) ∧ W.cell? ⟨B10, 1, none⟩ = some (.int .i64 xa) ∧ W.cell? ⟨B10, 2, none⟩ = some (.slice A10 m c10) ∧ (convert 30 9 (.slice A2 n1 c2)).run Try.prog W = .ok (.string ⟨z.toArray⟩) W ∧ (convert 30 9 (.slice a1 n1 cap1)).run Try.prog W = .ok (.string ⟨z.toArray⟩) W :=
  ⟨h.b0.cell 0, h.b0.cell 1, h.b0.cell 2, h.b8.cell 0, h.b8.cell 1, h.b8.cell 2, h.b10.cell 0, h.b10.cell 1, h.b10.cell 2, run_str _ _ _ _ _ h.r1, run_str _ _ _ _ _ h.r2⟩
end
set_option maxRecDepth 100000 in
set_option maxHeartbeats 12800000 in
theorem linkCodes_walk {w : World} (o0 : Pk) (A0 : Option Addr) (c0 : Nat) (ho0 : PkAt w o0 A0 c0) (a1 : Option Addr) (len1 cap1 : Nat) (z1 : List UInt8) (hr1 : RB w a1 len1 z1) (hc1 : len1 ≤ cap1) (hm1 : cap1 ≤ 9223372036854775807) (hl1 : cap1 ≤ 140737488351232) :
    Calls Try.prog 6 #[.agg #[.int .i64 o0.seq, .int .i64 o0.ack, .slice A0 o0.body.length c0], .slice a1 len1 cap1] w fun e w' => e = .returned (.bool true) ∧ Below w.heap.size w w' := by
  have hlz : z1.length = len1 := hr1.1
  obtain ⟨s, a, body⟩ := o0
  have hr := ho0.rb
  have hcap := ho0.cap
  dsimp only at hr hcap ⊢
  clear ho0
  obtain ⟨n, hln⟩ : ∃ n, body.length = n := ⟨_, rfl⟩
  rw [hln] at hr hcap ⊢
  have hb0 := (Below.refl w.heap.size w).alloc (Nat.le_refl _) (.cells #[.int .i64 s, .int .i64 a, .slice A0 n c0] 32)
  have hbox0 := Blk.new w 32 #[.int .i64 s, .int .i64 a, .slice A0 n c0]
  have hmn0 : mayP ⟨s, a, body⟩ = mayPn s a n := mayPn_of ⟨s, a, body⟩ n hln
  cases hx : mayP ⟨s, a, body⟩ with
  | false =>
    have hmn : mayPn s a n = false := by rw [← hmn0, hx]
    clear hmn0
    cases hD : decP z1 with
    | none =>
      go_enter Try.func6, Try.ntmps6
      go_wp2_with fail
      refine (lencode_any ⟨s, a, body⟩ A0 n c0 _ (hr.alloc _) (by omega)).mono ?_
      rintro e w1 ⟨hx1, h1⟩
      rw [hx] at h1
      dsimp only at h1
      have hb1 := hb0.trans (hx1.mono hb0.size)
      have hbox1 := hbox0.kept (Keep.of_below hx1) (Nat.not_le.2 hbox0.lt)
      subst h1
      clear hx1 hbox0 hb0
      have ho1 : OB w1.heap.size (w1.alloc (.cells #[] 5)) (.slice (some ⟨w1.heap.size, 0, none⟩) 0 0) [] := OB.built w1.heap.size w1 [] (Nat.le_refl _) (by simp [maxLen])
      have hba := hb1.alloc hb1.size (.cells #[] 5)
      have hbel1 : Below w1.heap.size w1 (w1.alloc (.cells #[] 5)) := (Below.refl _ _).alloc (Nat.le_refl _) _
      go_wp2_with (at_builtin; refine wpApp rfl (.tmp 19) (.tmp 20) rfl w1.heap.size _ [] rfl ho1 a1 len1 cap1 z1 rfl (hr1.below hba) (by simp; omega) (by simp) ?_; intro v2 w2 hg2; have hx2 := hbel1.trans ((hg2.below ho1 (by simp)).mono (Nat.le_refl _)); have ho2 := hg2.own; rw [List.nil_append] at ho2; clear hg2; obtain ⟨A2, c2, hv2, hl2, hm2, hr2, _⟩ := ho2.form; rw [hlz] at hv2 hr2; subst hv2)
      have hb2 := hb1.trans (hx2.mono hb1.size)
      have hbox2 := hbox1.kept (Keep.of_below hx2) (Nat.not_le.2 hbox1.lt)
      clear hx2 hbox1 hb1 ho1 hba hbel1 ho2 hl2 hm2
      go_wp2_with fail
      refine (ldecode_any A2 len1 c2 z1 _ hr2 (by omega)).mono ?_
      rintro e w3 ⟨hx3, h3⟩
      rw [hD] at h3
      dsimp only at h3
      subst h3
      rw [pkN]
      have hb3 := (hb2.trans (hx3.mono hb2.size)).alloc (hb2.trans (hx3.mono hb2.size)).size (.cells #[.int .i64 0, .int .i64 0, .slice none 0 0] 32)
      have hbox3 := (hbox2.kept (Keep.of_below hx3) (Nat.not_le.2 hbox2.lt)).alloc (.cells #[.int .i64 0, .int .i64 0, .slice none 0 0] 32)
      have hbx8 := Blk.new w3 32 #[.int .i64 0, .int .i64 0, .slice none 0 0]
      have hr2' := (hr2.below hx3).alloc (.cells #[.int .i64 0, .int .i64 0, .slice none 0 0] 32)
      clear hx3 hbox2 hb2 hr2
      go_wp2_with fail
      refine (rdecode_any a1 len1 cap1 z1 _ (hr1.below hb3) hc1 hm1).mono ?_
      rintro e w4 ⟨hx4, h4⟩
      rw [hD] at h4
      dsimp only at h4
      subst h4
      rw [pkN]
      have hb4 := (hb3.trans (hx4.mono hb3.size)).alloc (hb3.trans (hx4.mono hb3.size)).size (.cells #[.int .i64 0, .int .i64 0, .slice none 0 0] 32)
      have hbox4 := (hbox3.kept (Keep.of_below hx4) (Nat.not_le.2 hbox3.lt)).alloc (.cells #[.int .i64 0, .int .i64 0, .slice none 0 0] 32)
      have hbx84 := (hbx8.kept (Keep.of_below hx4) (Nat.not_le.2 hbx8.lt)).alloc (.cells #[.int .i64 0, .int .i64 0, .slice none 0 0] 32)
      have hbx104 := Blk.new w4 32 #[.int .i64 0, .int .i64 0, .slice none 0 0]
      have hr24 := (hr2'.below hx4).alloc (.cells #[.int .i64 0, .int .i64 0, .slice none 0 0] 32)
      have hC0 : CW (w4.alloc (.cells #[.int .i64 0, .int .i64 0, .slice none 0 0] 32)) w.heap.size w3.heap.size w4.heap.size s a A0 n c0 body 0 0 0 [] none 0 none 0 A2 c2 a1 cap1 len1 z1 none 0 0 [] := ⟨hbox4, hbx84, hbx104, (hr.below hb4), RB.nil _ _, RB.nil _ _, hr24, hr1.below hb4, RB.nil _ _⟩
      clear hx4 hbox3 hb3 hr2' hbox4 hbx84 hbx104 hr24 hbx8
      have hbx0 := hb4
      clear hb4
      go_wp2_with fail
      generalize w4.alloc (.cells #[.int .i64 0, .int .i64 0, .slice none 0 0] 32) = x0 at *
      generalize w3.heap.size = B8 at *
      generalize w4.heap.size = B10 at *
      refine wp_region_held_drew (S := (fun w' => w'.cell? ⟨w.heap.size, 0, none⟩ = some (.int .i64 s) ∧ w'.cell? ⟨w.heap.size, 1, none⟩ = some (.int .i64 a) ∧ w'.cell? ⟨w.heap.size, 2, none⟩ = some (.slice A0 n c0) ∧ w'.cell? ⟨B8, 0, none⟩ = some (.int .i64 0) ∧ w'.cell? ⟨B8, 1, none⟩ = some (.int .i64 0) ∧ w'.cell? ⟨B8, 2, none⟩ = some (.slice none 0 0) ∧ w'.cell? ⟨B10, 0, none⟩ = some (.int .i64 0) ∧ w'.cell? ⟨B10, 1, none⟩ = some (.int .i64 0) ∧ w'.cell? ⟨B10, 2, none⟩ = some (.slice none 0 0) ∧ (convert 30 9 (.slice A2 len1 c2)).run Try.prog w' = .ok (.string ⟨z1.toArray⟩) w' ∧ (convert 30 9 (.slice a1 len1 cap1)).run Try.prog w' = .ok (.string ⟨z1.toArray⟩) w')) (by kernel_rfl) hC0.drew.S (fun hHeld => ?_)
      refine wpAnyH_ready (rs := [0]) (by kernel_rfl) (by simp) ?_
      refine AllReadyH.cons (o := ?o0kqq) ?hi0kqq (fun K hK => ?st0kqq) AllReadyH.nil
      case hi0kqq => (simp only [List.getElem?_toArray, List.getElem?_cons_succ, List.getElem?_cons_zero]; rfl)
      go_simp
      refine (lives_any _).mono ?_
      rintro e x1 ⟨rfl, hx1⟩
      have hx1 : Below (x0.drew).heap.size (x0.drew) x1 := hx1
      have hbx1 := (Below.drew hbx0).trans (hx1.mono (Below.drew hbx0).size)
      have hC1 := (hC0.drew).below hx1
      have hS1 := hC1.S
      go_wp2_with fail
      refine hK.out _ _ hS1 (fun hHeld2 => ?_)
      clear hK K hHeld
      have hHeld := hHeld2
      clear hHeld2
      try simp only [Act.put, List.setIfInBounds_toArray, List.set_cons_zero, List.set_cons_succ]
      refine wpAnyH_take (i := 1) (oi := ?oi1kqq) (v := ?v1kqq) ?hi1kqq (by kernel_rfl) (by kernel_rfl) (by kernel_rfl) ?hq1kqq (Or.inl ⟨?hw1kqq, ?hy1kqq⟩) (by assumption) ?rest1kqq
      case hi1kqq => (simp only [List.getElem?_toArray, List.getElem?_cons_succ, List.getElem?_cons_zero]; rfl)
      case hq1kqq => exact fun _ _ _ h => h
      case hw1kqq => rfl
      case hy1kqq => (intro w hSw; (try dsimp only at hSw); go_simp <;> with_reducible rfl)
      try simp only [Act.put, List.setIfInBounds_toArray, List.set_cons_zero, List.set_cons_succ]
      refine wpAnyH_take (i := 2) (oi := ?oi2kqq) (v := ?v2kqq) ?hi2kqq (by kernel_rfl) (by kernel_rfl) (by kernel_rfl) ?hq2kqq (Or.inl ⟨?hw2kqq, ?hy2kqq⟩) (by assumption) ?rest2kqq
      case hi2kqq => (simp only [List.getElem?_toArray, List.getElem?_cons_succ, List.getElem?_cons_zero]; rfl)
      case hq2kqq => exact fun _ _ _ h => h
      case hw2kqq => rfl
      case hy2kqq => (intro w hSw; (try dsimp only at hSw); go_simp <;> with_reducible rfl)
      try simp only [Act.put, List.setIfInBounds_toArray, List.set_cons_zero, List.set_cons_succ]
      refine wpAnyH_take (i := 3) (oi := ?oi3kqq) (v := ?v3kqq) ?hi3kqq (by kernel_rfl) (by kernel_rfl) (by kernel_rfl) ?hq3kqq (Or.inl ⟨?hw3kqq, ?hy3kqq⟩) (by assumption) ?rest3kqq
      case hi3kqq => (simp only [List.getElem?_toArray, List.getElem?_cons_succ, List.getElem?_cons_zero]; rfl)
      case hq3kqq => exact fun _ _ _ h => h
      case hw3kqq => rfl
      case hy3kqq => (intro w hSw; (try dsimp only at hSw); go_simp <;> with_reducible rfl)
      try simp only [Act.put, List.setIfInBounds_toArray, List.set_cons_zero, List.set_cons_succ]
      refine wpAnyH_take (i := 5) (oi := ?oi5kqq) (v := ?v5kqq) ?hi5kqq (by kernel_rfl) (by kernel_rfl) (by kernel_rfl) ?hq5kqq (Or.inl ⟨?hw5kqq, ?hy5kqq⟩) (by assumption) ?rest5kqq
      case hi5kqq => (simp only [List.getElem?_toArray, List.getElem?_cons_succ, List.getElem?_cons_zero]; rfl)
      case hq5kqq => exact fun _ _ _ h => h
      case hw5kqq => rfl
      case hy5kqq => (intro w hSw; (try dsimp only at hSw); go_simp <;> with_reducible rfl)
      try simp only [Act.put, List.setIfInBounds_toArray, List.set_cons_zero, List.set_cons_succ]
      refine wpAnyH_ready (rs := [4]) (by kernel_rfl) (by simp) ?_
      refine AllReadyH.cons (o := ?o4kqq) ?hi4kqq (fun K hK => ?st4kqq) AllReadyH.nil
      case hi4kqq => (simp only [List.getElem?_toArray, List.getElem?_cons_succ, List.getElem?_cons_zero]; rfl)
      go_simp
      refine (may_any s a A0 n c0 _ (by omega)).mono ?_
      rintro e x2 ⟨rfl, hw2⟩
      have hx2 : Below x1.heap.size x1 x2 := by rw [hw2]; exact (Below.refl _ _).alloc (Nat.le_refl _) _
      clear hw2
      have hbx2 := hbx1.trans (hx2.mono hbx1.size)
      have hC2 := hC1.below hx2
      have hS2 := hC2.S
      rw [hmn]
      go_wp2_with fail
      refine hK.out _ _ hS2 (fun hHeld2 => ?_)
      clear hK K hHeld
      have hHeld := hHeld2
      clear hHeld2
      try simp only [Act.put, List.setIfInBounds_toArray, List.set_cons_zero, List.set_cons_succ]
      refine wpAnyH_ready (rs := [6]) (by kernel_rfl) (by simp) ?_
      refine AllReadyH.cons (o := ?o6kqq) ?hi6kqq (fun K hK => ?st6kqq) AllReadyH.nil
      case hi6kqq => (simp only [List.getElem?_toArray, List.getElem?_cons_succ, List.getElem?_cons_zero]; rfl)
      go_simp
      refine (rmay_any s a A0 n c0 _ (by omega)).mono ?_
      rintro e x3 ⟨rfl, hw3⟩
      have hx3 : Below x2.heap.size x2 x3 := by rw [hw3]; exact (Below.refl _ _).alloc (Nat.le_refl _) _
      clear hw3
      have hbx3 := hbx2.trans (hx3.mono hbx2.size)
      have hC3 := hC2.below hx3
      have hS3 := hC3.S
      rw [hmn]
      go_wp2_with fail
      refine hK.out _ _ hS3 (fun hHeld2 => ?_)
      clear hK K hHeld
      have hHeld := hHeld2
      clear hHeld2
      try simp only [Act.put, List.setIfInBounds_toArray, List.set_cons_zero, List.set_cons_succ]
      refine wpAnyH_take (i := 7) (oi := ?oi7kqq) (v := ?v7kqq) ?hi7kqq (by kernel_rfl) (by kernel_rfl) (by kernel_rfl) ?hq7kqq (Or.inl ⟨?hw7kqq, ?hy7kqq⟩) (by assumption) ?rest7kqq
      case hi7kqq => (simp only [List.getElem?_toArray, List.getElem?_cons_succ, List.getElem?_cons_zero]; rfl)
      case hq7kqq => exact fun _ _ _ h => h
      case hw7kqq => rfl
      case hy7kqq => (intro w hSw; (try dsimp only at hSw); go_simp <;> with_reducible rfl)
      try simp only [Act.put, List.setIfInBounds_toArray, List.set_cons_zero, List.set_cons_succ]
      refine wpAnyH_take (i := 8) (oi := ?oi8kqq) (v := ?v8kqq) ?hi8kqq (by kernel_rfl) (by kernel_rfl) (by kernel_rfl) ?hq8kqq (Or.inl ⟨?hw8kqq, ?hy8kqq⟩) (by assumption) ?rest8kqq
      case hi8kqq => (simp only [List.getElem?_toArray, List.getElem?_cons_succ, List.getElem?_cons_zero]; rfl)
      case hq8kqq => exact fun _ _ _ h => h
      case hw8kqq => rfl
      case hy8kqq => (intro w hSw; (try dsimp only at hSw); go_simp <;> with_reducible rfl)
      try simp only [Act.put, List.setIfInBounds_toArray, List.set_cons_zero, List.set_cons_succ]
      refine wpAnyH_take (i := 9) (oi := ?oi9kqq) (v := ?v9kqq) ?hi9kqq (by kernel_rfl) (by kernel_rfl) (by kernel_rfl) ?hq9kqq (Or.inl ⟨?hw9kqq, ?hy9kqq⟩) (by assumption) ?rest9kqq
      case hi9kqq => (simp only [List.getElem?_toArray, List.getElem?_cons_succ, List.getElem?_cons_zero]; rfl)
      case hq9kqq => exact fun _ _ _ h => h
      case hw9kqq => rfl
      case hy9kqq => (intro w hSw; (try dsimp only at hSw); go_simp <;> with_reducible rfl)
      try simp only [Act.put, List.setIfInBounds_toArray, List.set_cons_zero, List.set_cons_succ]
      refine wpAnyH_take (i := 10) (oi := ?oi10kqq) (v := ?v10kqq) ?hi10kqq (by kernel_rfl) (by kernel_rfl) (by kernel_rfl) ?hq10kqq (Or.inl ⟨?hw10kqq, ?hy10kqq⟩) (by assumption) ?rest10kqq
      case hi10kqq => (simp only [List.getElem?_toArray, List.getElem?_cons_succ, List.getElem?_cons_zero]; rfl)
      case hq10kqq => exact fun _ _ _ h => h
      case hw10kqq => rfl
      case hy10kqq => (intro w hSw; (try dsimp only at hSw); go_simp <;> with_reducible rfl)
      try simp only [Act.put, List.setIfInBounds_toArray, List.set_cons_zero, List.set_cons_succ]
      refine wpAnyH_take (i := 11) (oi := ?oi11kqq) (v := ?v11kqq) ?hi11kqq (by kernel_rfl) (by kernel_rfl) (by kernel_rfl) ?hq11kqq (Or.inl ⟨?hw11kqq, ?hy11kqq⟩) (by assumption) ?rest11kqq
      case hi11kqq => (simp only [List.getElem?_toArray, List.getElem?_cons_succ, List.getElem?_cons_zero]; rfl)
      case hq11kqq => exact fun _ _ _ h => h
      case hw11kqq => rfl
      case hy11kqq => (intro w hSw; (try dsimp only at hSw); go_simp <;> with_reducible rfl)
      try simp only [Act.put, List.setIfInBounds_toArray, List.set_cons_zero, List.set_cons_succ]
      refine wpAnyH_take (i := 12) (oi := ?oi12kqq) (v := ?v12kqq) ?hi12kqq (by kernel_rfl) (by kernel_rfl) (by kernel_rfl) ?hq12kqq (Or.inl ⟨?hw12kqq, ?hy12kqq⟩) (by assumption) ?rest12kqq
      case hi12kqq => (simp only [List.getElem?_toArray, List.getElem?_cons_succ, List.getElem?_cons_zero]; rfl)
      case hq12kqq => exact fun _ _ _ h => h
      case hw12kqq => rfl
      case hy12kqq => (intro w hSw; (try dsimp only at hSw); go_simp <;> with_reducible rfl)
      try simp only [Act.put, List.setIfInBounds_toArray, List.set_cons_zero, List.set_cons_succ]
      refine wpAnyH_ready (rs := [13]) (by kernel_rfl) (by simp) ?_
      refine AllReadyH.cons (o := ?o13kqq) ?hi13kqq (fun K hK => ?st13kqq) AllReadyH.nil
      case hi13kqq => (simp only [List.getElem?_toArray, List.getElem?_cons_succ, List.getElem?_cons_zero]; rfl)
      go_simp
      refine (rmay_any s a A0 n c0 _ (by omega)).mono ?_
      rintro e x4 ⟨rfl, hw4⟩
      have hx4 : Below x3.heap.size x3 x4 := by rw [hw4]; exact (Below.refl _ _).alloc (Nat.le_refl _) _
      clear hw4
      have hbx4 := hbx3.trans (hx4.mono hbx3.size)
      have hC4 := hC3.below hx4
      have hS4 := hC4.S
      rw [hmn]
      go_wp2_with fail
      refine hK.out _ _ hS4 (fun hHeld2 => ?_)
      clear hK K hHeld
      have hHeld := hHeld2
      clear hHeld2
      try simp only [Act.put, List.setIfInBounds_toArray, List.set_cons_zero, List.set_cons_succ]
      refine wpAnyH_take (i := 14) (oi := ?oi14kqq) (v := ?v14kqq) ?hi14kqq (by kernel_rfl) (by kernel_rfl) (by kernel_rfl) ?hq14kqq (Or.inl ⟨?hw14kqq, ?hy14kqq⟩) (by assumption) ?rest14kqq
      case hi14kqq => (simp only [List.getElem?_toArray, List.getElem?_cons_succ, List.getElem?_cons_zero]; rfl)
      case hq14kqq => exact fun _ _ _ h => h
      case hw14kqq => rfl
      case hy14kqq => (intro w hSw; (try dsimp only at hSw); go_simp <;> with_reducible rfl)
      try simp only [Act.put, List.setIfInBounds_toArray, List.set_cons_zero, List.set_cons_succ]
      refine wpAnyH_take (i := 15) (oi := ?oi15kqq) (v := ?v15kqq) ?hi15kqq (by kernel_rfl) (by kernel_rfl) (by kernel_rfl) ?hq15kqq (Or.inl ⟨?hw15kqq, ?hy15kqq⟩) (by assumption) ?rest15kqq
      case hi15kqq => (simp only [List.getElem?_toArray, List.getElem?_cons_succ, List.getElem?_cons_zero]; rfl)
      case hq15kqq => exact fun _ _ _ h => h
      case hw15kqq => rfl
      case hy15kqq => (intro w hSw; (try dsimp only at hSw); go_simp <;> with_reducible rfl)
      try simp only [Act.put, List.setIfInBounds_toArray, List.set_cons_zero, List.set_cons_succ]
      refine wpAnyH_take (i := 16) (oi := ?oi16kqq) (v := ?v16kqq) ?hi16kqq (by kernel_rfl) (by kernel_rfl) (by kernel_rfl) ?hq16kqq (Or.inl ⟨?hw16kqq, ?hy16kqq⟩) (by assumption) ?rest16kqq
      case hi16kqq => (simp only [List.getElem?_toArray, List.getElem?_cons_succ, List.getElem?_cons_zero]; rfl)
      case hq16kqq => exact fun _ _ _ h => h
      case hw16kqq => rfl
      case hy16kqq => (intro w hSw; (try dsimp only at hSw); go_simp <;> with_reducible rfl)
      try simp only [Act.put, List.setIfInBounds_toArray, List.set_cons_zero, List.set_cons_succ]
      refine wpAnyH_take (i := 17) (oi := ?oi17kqq) (v := ?v17kqq) ?hi17kqq (by kernel_rfl) (by kernel_rfl) (by kernel_rfl) ?hq17kqq (Or.inl ⟨?hw17kqq, ?hy17kqq⟩) (by assumption) ?rest17kqq
      case hi17kqq => (simp only [List.getElem?_toArray, List.getElem?_cons_succ, List.getElem?_cons_zero]; rfl)
      case hq17kqq => exact fun _ _ _ h => h
      case hw17kqq => rfl
      case hy17kqq => (intro w hSw; (try dsimp only at hSw); go_simp <;> with_reducible rfl)
      try simp only [Act.put, List.setIfInBounds_toArray, List.set_cons_zero, List.set_cons_succ]
      refine wpAnyH_take (i := 18) (oi := ?oi18kqq) (v := ?v18kqq) ?hi18kqq (by kernel_rfl) (by kernel_rfl) (by kernel_rfl) ?hq18kqq (Or.inl ⟨?hw18kqq, ?hy18kqq⟩) (by assumption) ?rest18kqq
      case hi18kqq => (simp only [List.getElem?_toArray, List.getElem?_cons_succ, List.getElem?_cons_zero]; rfl)
      case hq18kqq => exact fun _ _ _ h => h
      case hw18kqq => rfl
      case hy18kqq => (intro w hSw; (try dsimp only at hSw); go_simp <;> with_reducible rfl)
      try simp only [Act.put, List.setIfInBounds_toArray, List.set_cons_zero, List.set_cons_succ]
      refine wpAnyH_ready (rs := [19]) (by kernel_rfl) (by simp) ?_
      refine AllReadyH.cons (o := ?o19kqq) ?hi19kqq (fun K hK => ?st19kqq) AllReadyH.nil
      case hi19kqq => (simp only [List.getElem?_toArray, List.getElem?_cons_succ, List.getElem?_cons_zero]; rfl)
      go_simp
      refine (rsame_any ⟨0, 0, []⟩ ⟨0, 0, []⟩ none none 0 0 0 0 _ hC4.r8 hC4.r10).mono ?_
      rintro e x5 ⟨rfl, hx5⟩
      have hx5 : Below (x4).heap.size (x4) x5 := hx5
      have hbx5 := hbx4.trans (hx5.mono hbx4.size)
      have hC5 := (hC4).below hx5
      have hS5 := hC5.S
      rw [sameP_self]
      go_wp2_with fail
      refine hK.out _ _ hS5 (fun hHeld2 => ?_)
      clear hK K hHeld
      have hHeld := hHeld2
      clear hHeld2
      try simp only [Act.put, List.setIfInBounds_toArray, List.set_cons_zero, List.set_cons_succ]
      refine wpAnyH_take (i := 20) (oi := ?oi20kqq) (v := ?v20kqq) ?hi20kqq (by kernel_rfl) (by kernel_rfl) (by kernel_rfl) ?hq20kqq (Or.inl ⟨?hw20kqq, ?hy20kqq⟩) (by assumption) ?rest20kqq
      case hi20kqq => (simp only [List.getElem?_toArray, List.getElem?_cons_succ, List.getElem?_cons_zero]; rfl)
      case hq20kqq => exact fun _ _ _ h => h
      case hw20kqq => rfl
      case hy20kqq => (intro w hSw; (try dsimp only at hSw); go_simp <;> with_reducible rfl)
      try simp only [Act.put, List.setIfInBounds_toArray, List.set_cons_zero, List.set_cons_succ]
      refine wpAnyH_take (i := 21) (oi := ?oi21kqq) (v := ?v21kqq) ?hi21kqq (by kernel_rfl) (by kernel_rfl) (by kernel_rfl) ?hq21kqq (Or.inl ⟨?hw21kqq, ?hy21kqq⟩) (by assumption) ?rest21kqq
      case hi21kqq => (simp only [List.getElem?_toArray, List.getElem?_cons_succ, List.getElem?_cons_zero]; rfl)
      case hq21kqq => exact fun _ _ _ h => h
      case hw21kqq => rfl
      case hy21kqq => (intro w hSw; (try dsimp only at hSw); go_simp <;> with_reducible rfl)
      try simp only [Act.put, List.setIfInBounds_toArray, List.set_cons_zero, List.set_cons_succ]
      refine wpAnyH_take (i := 22) (oi := ?oi22kqq) (v := ?v22kqq) ?hi22kqq (by kernel_rfl) (by kernel_rfl) (by kernel_rfl) ?hq22kqq (Or.inl ⟨?hw22kqq, ?hy22kqq⟩) (by assumption) ?rest22kqq
      case hi22kqq => (simp only [List.getElem?_toArray, List.getElem?_cons_succ, List.getElem?_cons_zero]; rfl)
      case hq22kqq => exact fun _ _ _ h => h
      case hw22kqq => rfl
      case hy22kqq => (intro w hSw; (try dsimp only at hSw); go_simp <;> with_reducible rfl)
      try simp only [Act.put, List.setIfInBounds_toArray, List.set_cons_zero, List.set_cons_succ]
      refine wpAnyH_take (i := 23) (oi := ?oi23kqq) (v := ?v23kqq) ?hi23kqq (by kernel_rfl) (by kernel_rfl) (by kernel_rfl) ?hq23kqq (Or.inl ⟨?hw23kqq, ?hy23kqq⟩) (by assumption) ?rest23kqq
      case hi23kqq => (simp only [List.getElem?_toArray, List.getElem?_cons_succ, List.getElem?_cons_zero]; rfl)
      case hq23kqq => exact fun _ _ _ h => h
      case hw23kqq => rfl
      case hy23kqq => (intro w hSw; (try dsimp only at hSw); go_simp <;> with_reducible rfl)
      try simp only [Act.put, List.setIfInBounds_toArray, List.set_cons_zero, List.set_cons_succ]
      refine wpAnyH_take (i := 24) (oi := ?oi24kqq) (v := ?v24kqq) ?hi24kqq (by kernel_rfl) (by kernel_rfl) (by kernel_rfl) ?hq24kqq (Or.inl ⟨?hw24kqq, ?hy24kqq⟩) (by assumption) ?rest24kqq
      case hi24kqq => (simp only [List.getElem?_toArray, List.getElem?_cons_succ, List.getElem?_cons_zero]; rfl)
      case hq24kqq => exact fun _ _ _ h => h
      case hw24kqq => rfl
      case hy24kqq => (intro w hSw; (try dsimp only at hSw); go_simp <;> with_reducible rfl)
      try simp only [Act.put, List.setIfInBounds_toArray, List.set_cons_zero, List.set_cons_succ]
      refine wpAnyH_take (i := 25) (oi := ?oi25kqq) (v := ?v25kqq) ?hi25kqq (by kernel_rfl) (by kernel_rfl) (by kernel_rfl) ?hq25kqq (Or.inl ⟨?hw25kqq, ?hy25kqq⟩) (by assumption) ?rest25kqq
      case hi25kqq => (simp only [List.getElem?_toArray, List.getElem?_cons_succ, List.getElem?_cons_zero]; rfl)
      case hq25kqq => exact fun _ _ _ h => h
      case hw25kqq => rfl
      case hy25kqq => (intro w hSw; (try dsimp only at hSw); go_simp <;> with_reducible rfl)
      try simp only [Act.put, List.setIfInBounds_toArray, List.set_cons_zero, List.set_cons_succ]
      refine wpAnyH_take (i := 26) (oi := ?oi26kqq) (v := ?v26kqq) ?hi26kqq (by kernel_rfl) (by kernel_rfl) (by kernel_rfl) ?hq26kqq (Or.inl ⟨?hw26kqq, ?hy26kqq⟩) (by assumption) ?rest26kqq
      case hi26kqq => (simp only [List.getElem?_toArray, List.getElem?_cons_succ, List.getElem?_cons_zero]; rfl)
      case hq26kqq => exact fun _ _ _ h => h
      case hw26kqq => rfl
      case hy26kqq => (intro w hSw; (try dsimp only at hSw); go_simp <;> with_reducible rfl)
      try simp only [Act.put, List.setIfInBounds_toArray, List.set_cons_zero, List.set_cons_succ]
      refine wpAnyH_take (i := 27) (oi := ?oi27kqq) (v := ?v27kqq) ?hi27kqq (by kernel_rfl) (by kernel_rfl) (by kernel_rfl) ?hq27kqq (Or.inl ⟨?hw27kqq, ?hy27kqq⟩) (by assumption) ?rest27kqq
      case hi27kqq => (simp only [List.getElem?_toArray, List.getElem?_cons_succ, List.getElem?_cons_zero]; rfl)
      case hq27kqq => exact fun _ _ _ h => h
      case hw27kqq => rfl
      case hy27kqq => (intro w hSw; (try dsimp only at hSw); go_simp <;> with_reducible rfl)
      try simp only [Act.put, List.setIfInBounds_toArray, List.set_cons_zero, List.set_cons_succ]
      refine wpAnyH_take (i := 28) (oi := ?oi28kqq) (v := ?v28kqq) ?hi28kqq (by kernel_rfl) (by kernel_rfl) (by kernel_rfl) ?hq28kqq (Or.inl ⟨?hw28kqq, ?hy28kqq⟩) (by assumption) ?rest28kqq
      case hi28kqq => (simp only [List.getElem?_toArray, List.getElem?_cons_succ, List.getElem?_cons_zero]; rfl)
      case hq28kqq => exact fun _ _ _ h => h
      case hw28kqq => rfl
      case hy28kqq => (intro w hSw; (try dsimp only at hSw); go_simp <;> with_reducible rfl)
      try simp only [Act.put, List.setIfInBounds_toArray, List.set_cons_zero, List.set_cons_succ]
      refine wpAnyH_take (i := 29) (oi := ?oi29kqq) (v := ?v29kqq) ?hi29kqq (by kernel_rfl) (by kernel_rfl) (by kernel_rfl) ?hq29kqq (Or.inl ⟨?hw29kqq, ?hy29kqq⟩) (by assumption) ?rest29kqq
      case hi29kqq => (simp only [List.getElem?_toArray, List.getElem?_cons_succ, List.getElem?_cons_zero]; rfl)
      case hq29kqq => exact fun _ _ _ h => h
      case hw29kqq => rfl
      case hy29kqq => (intro w hSw; (try dsimp only at hSw); go_simp <;> with_reducible rfl)
      try simp only [Act.put, List.setIfInBounds_toArray, List.set_cons_zero, List.set_cons_succ]
      refine wpAnyH_take (i := 30) (oi := ?oi30kqq) (v := ?v30kqq) ?hi30kqq (by kernel_rfl) (by kernel_rfl) (by kernel_rfl) ?hq30kqq (Or.inl ⟨?hw30kqq, ?hy30kqq⟩) (by assumption) ?rest30kqq
      case hi30kqq => (simp only [List.getElem?_toArray, List.getElem?_cons_succ, List.getElem?_cons_zero]; rfl)
      case hq30kqq => exact fun _ _ _ h => h
      case hw30kqq => rfl
      case hy30kqq => (intro w hSw; (try dsimp only at hSw); go_simp <;> with_reducible rfl)
      try simp only [Act.put, List.setIfInBounds_toArray, List.set_cons_zero, List.set_cons_succ]
      refine wpAnyH_take (i := 31) (oi := ?oi31kqq) (v := ?v31kqq) ?hi31kqq (by kernel_rfl) (by kernel_rfl) (by kernel_rfl) ?hq31kqq (Or.inl ⟨?hw31kqq, ?hy31kqq⟩) (by assumption) ?rest31kqq
      case hi31kqq => (simp only [List.getElem?_toArray, List.getElem?_cons_succ, List.getElem?_cons_zero]; rfl)
      case hq31kqq => exact fun _ _ _ h => h
      case hw31kqq => rfl
      case hy31kqq => (intro w hSw; (try dsimp only at hSw); go_simp <;> with_reducible rfl)
      try simp only [Act.put, List.setIfInBounds_toArray, List.set_cons_zero, List.set_cons_succ]
      refine wpAnyH_take (i := 32) (oi := ?oi32kqq) (v := ?v32kqq) ?hi32kqq (by kernel_rfl) (by kernel_rfl) (by kernel_rfl) ?hq32kqq (Or.inl ⟨?hw32kqq, ?hy32kqq⟩) (by assumption) ?rest32kqq
      case hi32kqq => (simp only [List.getElem?_toArray, List.getElem?_cons_succ, List.getElem?_cons_zero]; rfl)
      case hq32kqq => exact fun _ _ _ h => h
      case hw32kqq => rfl
      case hy32kqq => (intro w hSw; (try dsimp only at hSw); go_simp <;> with_reducible rfl)
      try simp only [Act.put, List.setIfInBounds_toArray, List.set_cons_zero, List.set_cons_succ]
      refine wpAnyH_take (i := 33) (oi := ?oi33kqq) (v := ?v33kqq) ?hi33kqq (by kernel_rfl) (by kernel_rfl) (by kernel_rfl) ?hq33kqq (Or.inl ⟨?hw33kqq, ?hy33kqq⟩) (by assumption) ?rest33kqq
      case hi33kqq => (simp only [List.getElem?_toArray, List.getElem?_cons_succ, List.getElem?_cons_zero]; rfl)
      case hq33kqq => exact fun _ _ _ h => h
      case hw33kqq => rfl
      case hy33kqq => (intro w hSw; (try dsimp only at hSw); go_simp <;> with_reducible rfl)
      try simp only [Act.put, List.setIfInBounds_toArray, List.set_cons_zero, List.set_cons_succ]
      refine wpAnyH_take (i := 34) (oi := ?oi34kqq) (v := ?v34kqq) ?hi34kqq (by kernel_rfl) (by kernel_rfl) (by kernel_rfl) ?hq34kqq (Or.inl ⟨?hw34kqq, ?hy34kqq⟩) (by assumption) ?rest34kqq
      case hi34kqq => (simp only [List.getElem?_toArray, List.getElem?_cons_succ, List.getElem?_cons_zero]; rfl)
      case hq34kqq => exact fun _ _ _ h => h
      case hw34kqq => rfl
      case hy34kqq => (intro w hSw; (try dsimp only at hSw); go_simp <;> with_reducible rfl)
      try simp only [Act.put, List.setIfInBounds_toArray, List.set_cons_zero, List.set_cons_succ]
      refine wpAnyH_take (i := 35) (oi := ?oi35kqq) (v := ?v35kqq) ?hi35kqq (by kernel_rfl) (by kernel_rfl) (by kernel_rfl) ?hq35kqq (Or.inl ⟨?hw35kqq, ?hy35kqq⟩) (by assumption) ?rest35kqq
      case hi35kqq => (simp only [List.getElem?_toArray, List.getElem?_cons_succ, List.getElem?_cons_zero]; rfl)
      case hq35kqq => exact fun _ _ _ h => h
      case hw35kqq => rfl
      case hy35kqq => (intro w hSw; (try dsimp only at hSw); go_simp <;> with_reducible rfl)
      try simp only [Act.put, List.setIfInBounds_toArray, List.set_cons_zero, List.set_cons_succ]
      refine wpAnyH_take (i := 36) (oi := ?oi36kqq) (v := ?v36kqq) ?hi36kqq (by kernel_rfl) (by kernel_rfl) (by kernel_rfl) ?hq36kqq (Or.inl ⟨?hw36kqq, ?hy36kqq⟩) (by assumption) ?rest36kqq
      case hi36kqq => (simp only [List.getElem?_toArray, List.getElem?_cons_succ, List.getElem?_cons_zero]; rfl)
      case hq36kqq => exact fun _ _ _ h => h
      case hw36kqq => rfl
      case hy36kqq => (intro w hSw; (try dsimp only at hSw); go_simp <;> with_reducible rfl)
      try simp only [Act.put, List.setIfInBounds_toArray, List.set_cons_zero, List.set_cons_succ]
      refine wpAnyH_take (i := 37) (oi := ?oi37kqq) (v := ?v37kqq) ?hi37kqq (by kernel_rfl) (by kernel_rfl) (by kernel_rfl) ?hq37kqq (Or.inl ⟨?hw37kqq, ?hy37kqq⟩) (by assumption) ?rest37kqq
      case hi37kqq => (simp only [List.getElem?_toArray, List.getElem?_cons_succ, List.getElem?_cons_zero]; rfl)
      case hq37kqq => exact fun _ _ _ h => h
      case hw37kqq => rfl
      case hy37kqq => (intro w hSw; (try dsimp only at hSw); go_simp <;> with_reducible rfl)
      try simp only [Act.put, List.setIfInBounds_toArray, List.set_cons_zero, List.set_cons_succ]
      refine wpAnyH_take (i := 38) (oi := ?oi38kqq) (v := ?v38kqq) ?hi38kqq (by kernel_rfl) (by kernel_rfl) (by kernel_rfl) ?hq38kqq (Or.inl ⟨?hw38kqq, ?hy38kqq⟩) (by assumption) ?rest38kqq
      case hi38kqq => (simp only [List.getElem?_toArray, List.getElem?_cons_succ, List.getElem?_cons_zero]; rfl)
      case hq38kqq => exact fun _ _ _ h => h
      case hw38kqq => rfl
      case hy38kqq => (intro w hSw; (try dsimp only at hSw); go_simp <;> with_reducible rfl)
      try simp only [Act.put, List.setIfInBounds_toArray, List.set_cons_zero, List.set_cons_succ]
      refine wpAnyH_take (i := 39) (oi := ?oi39kqq) (v := ?v39kqq) ?hi39kqq (by kernel_rfl) (by kernel_rfl) (by kernel_rfl) ?hq39kqq (Or.inl ⟨?hw39kqq, ?hy39kqq⟩) (by assumption) ?rest39kqq
      case hi39kqq => (simp only [List.getElem?_toArray, List.getElem?_cons_succ, List.getElem?_cons_zero]; rfl)
      case hq39kqq => exact fun _ _ _ h => h
      case hw39kqq => rfl
      case hy39kqq => (intro w hSw; (try dsimp only at hSw); go_simp <;> with_reducible rfl)
      try simp only [Act.put, List.setIfInBounds_toArray, List.set_cons_zero, List.set_cons_succ]
      refine wpAnyH_take (i := 40) (oi := ?oi40kqq) (v := ?v40kqq) ?hi40kqq (by kernel_rfl) (by kernel_rfl) (by kernel_rfl) ?hq40kqq (Or.inl ⟨?hw40kqq, ?hy40kqq⟩) (by assumption) ?rest40kqq
      case hi40kqq => (simp only [List.getElem?_toArray, List.getElem?_cons_succ, List.getElem?_cons_zero]; rfl)
      case hq40kqq => exact fun _ _ _ h => h
      case hw40kqq => rfl
      case hy40kqq => (intro w hSw; (try dsimp only at hSw); go_simp <;> with_reducible rfl)
      try simp only [Act.put, List.setIfInBounds_toArray, List.set_cons_zero, List.set_cons_succ]
      refine wpAnyH_take (i := 41) (oi := ?oi41kqq) (v := ?v41kqq) ?hi41kqq (by kernel_rfl) (by kernel_rfl) (by kernel_rfl) ?hq41kqq (Or.inl ⟨?hw41kqq, ?hy41kqq⟩) (by assumption) ?rest41kqq
      case hi41kqq => (simp only [List.getElem?_toArray, List.getElem?_cons_succ, List.getElem?_cons_zero]; rfl)
      case hq41kqq => exact fun _ _ _ h => h
      case hw41kqq => rfl
      case hy41kqq => (intro w hSw; (try dsimp only at hSw); go_simp <;> with_reducible rfl)
      try simp only [Act.put, List.setIfInBounds_toArray, List.set_cons_zero, List.set_cons_succ]
      refine wpAnyH_take (i := 42) (oi := ?oi42kqq) (v := ?v42kqq) ?hi42kqq (by kernel_rfl) (by kernel_rfl) (by kernel_rfl) ?hq42kqq (Or.inl ⟨?hw42kqq, ?hy42kqq⟩) (by assumption) ?rest42kqq
      case hi42kqq => (simp only [List.getElem?_toArray, List.getElem?_cons_succ, List.getElem?_cons_zero]; rfl)
      case hq42kqq => exact fun _ _ _ h => h
      case hw42kqq => rfl
      case hy42kqq => (intro w hSw; (try dsimp only at hSw); go_simp <;> with_reducible rfl)
      try simp only [Act.put, List.setIfInBounds_toArray, List.set_cons_zero, List.set_cons_succ]
      refine wpAnyH_done (by kernel_rfl) ?_ _
      go_wp2_with fail
      go_ret
      exact ⟨by simp, hbx5⟩
    | some y =>
      obtain ⟨xs, xa, xb⟩ := y
      try dsimp only
      obtain ⟨m, hq⟩ : ∃ m, xb.length = m := ⟨_, rfl⟩
      go_enter Try.func6, Try.ntmps6
      go_wp2_with fail
      refine (lencode_any ⟨s, a, body⟩ A0 n c0 _ (hr.alloc _) (by omega)).mono ?_
      rintro e w1 ⟨hx1, h1⟩
      rw [hx] at h1
      dsimp only at h1
      have hb1 := hb0.trans (hx1.mono hb0.size)
      have hbox1 := hbox0.kept (Keep.of_below hx1) (Nat.not_le.2 hbox0.lt)
      subst h1
      clear hx1 hbox0 hb0
      have ho1 : OB w1.heap.size (w1.alloc (.cells #[] 5)) (.slice (some ⟨w1.heap.size, 0, none⟩) 0 0) [] := OB.built w1.heap.size w1 [] (Nat.le_refl _) (by simp [maxLen])
      have hba := hb1.alloc hb1.size (.cells #[] 5)
      have hbel1 : Below w1.heap.size w1 (w1.alloc (.cells #[] 5)) := (Below.refl _ _).alloc (Nat.le_refl _) _
      go_wp2_with (at_builtin; refine wpApp rfl (.tmp 19) (.tmp 20) rfl w1.heap.size _ [] rfl ho1 a1 len1 cap1 z1 rfl (hr1.below hba) (by simp; omega) (by simp) ?_; intro v2 w2 hg2; have hx2 := hbel1.trans ((hg2.below ho1 (by simp)).mono (Nat.le_refl _)); have ho2 := hg2.own; rw [List.nil_append] at ho2; clear hg2; obtain ⟨A2, c2, hv2, hl2, hm2, hr2, _⟩ := ho2.form; rw [hlz] at hv2 hr2; subst hv2)
      have hb2 := hb1.trans (hx2.mono hb1.size)
      have hbox2 := hbox1.kept (Keep.of_below hx2) (Nat.not_le.2 hbox1.lt)
      clear hx2 hbox1 hb1 ho1 hba hbel1 ho2 hl2 hm2
      go_wp2_with fail
      refine (ldecode_any A2 len1 c2 z1 _ hr2 (by omega)).mono ?_
      rintro e w3 ⟨hx3, h3⟩
      rw [hD] at h3
      dsimp only at h3
      obtain ⟨A8, c8, rfl, hr8, had8⟩ := h3
      rw [hq] at hr8 ⊢
      have hb3 := (hb2.trans (hx3.mono hb2.size)).alloc (hb2.trans (hx3.mono hb2.size)).size (.cells #[.int .i64 xs, .int .i64 xa, .slice A8 m c8] 32)
      have hbox3 := (hbox2.kept (Keep.of_below hx3) (Nat.not_le.2 hbox2.lt)).alloc (.cells #[.int .i64 xs, .int .i64 xa, .slice A8 m c8] 32)
      have hbx8 := Blk.new w3 32 #[.int .i64 xs, .int .i64 xa, .slice A8 m c8]
      have hr2' := (hr2.below hx3).alloc (.cells #[.int .i64 xs, .int .i64 xa, .slice A8 m c8] 32)
      have hr8' := hr8.alloc (.cells #[.int .i64 xs, .int .i64 xa, .slice A8 m c8] 32)
      clear hx3 hbox2 hb2 hr2
      go_wp2_with fail
      refine (rdecode_any a1 len1 cap1 z1 _ (hr1.below hb3) hc1 hm1).mono ?_
      rintro e w4 ⟨hx4, h4⟩
      rw [hD] at h4
      dsimp only at h4
      obtain ⟨A10, c10, rfl, hr10⟩ := h4
      rw [hq] at hr10 ⊢
      have hb4 := (hb3.trans (hx4.mono hb3.size)).alloc (hb3.trans (hx4.mono hb3.size)).size (.cells #[.int .i64 xs, .int .i64 xa, .slice A10 m c10] 32)
      have hbox4 := (hbox3.kept (Keep.of_below hx4) (Nat.not_le.2 hbox3.lt)).alloc (.cells #[.int .i64 xs, .int .i64 xa, .slice A10 m c10] 32)
      have hbx84 := (hbx8.kept (Keep.of_below hx4) (Nat.not_le.2 hbx8.lt)).alloc (.cells #[.int .i64 xs, .int .i64 xa, .slice A10 m c10] 32)
      have hbx104 := Blk.new w4 32 #[.int .i64 xs, .int .i64 xa, .slice A10 m c10]
      have hr24 := (hr2'.below hx4).alloc (.cells #[.int .i64 xs, .int .i64 xa, .slice A10 m c10] 32)
      have hr84 := (hr8'.below hx4).alloc (.cells #[.int .i64 xs, .int .i64 xa, .slice A10 m c10] 32)
      have hr104 := hr10.alloc (.cells #[.int .i64 xs, .int .i64 xa, .slice A10 m c10] 32)
      have hC0 : CW (w4.alloc (.cells #[.int .i64 xs, .int .i64 xa, .slice A10 m c10] 32)) w.heap.size w3.heap.size w4.heap.size s a A0 n c0 body xs xa m xb A8 c8 A10 c10 A2 c2 a1 cap1 len1 z1 none 0 0 [] := ⟨hbox4, hbx84, hbx104, (hr.below hb4), hr84, hr104, hr24, hr1.below hb4, RB.nil _ _⟩
      clear hx4 hbox3 hb3 hr2' hbox4 hbx84 hbx104 hr24 hbx8 hr8' hr84 hr104 hr8 hr10 had8
      have hbx0 := hb4
      clear hb4
      go_wp2_with fail
      generalize w4.alloc (.cells #[.int .i64 xs, .int .i64 xa, .slice A10 m c10] 32) = x0 at *
      generalize w3.heap.size = B8 at *
      generalize w4.heap.size = B10 at *
      refine wp_region_held_drew (S := (fun w' => w'.cell? ⟨w.heap.size, 0, none⟩ = some (.int .i64 s) ∧ w'.cell? ⟨w.heap.size, 1, none⟩ = some (.int .i64 a) ∧ w'.cell? ⟨w.heap.size, 2, none⟩ = some (.slice A0 n c0) ∧ w'.cell? ⟨B8, 0, none⟩ = some (.int .i64 xs) ∧ w'.cell? ⟨B8, 1, none⟩ = some (.int .i64 xa) ∧ w'.cell? ⟨B8, 2, none⟩ = some (.slice A8 m c8) ∧ w'.cell? ⟨B10, 0, none⟩ = some (.int .i64 xs) ∧ w'.cell? ⟨B10, 1, none⟩ = some (.int .i64 xa) ∧ w'.cell? ⟨B10, 2, none⟩ = some (.slice A10 m c10) ∧ (convert 30 9 (.slice A2 len1 c2)).run Try.prog w' = .ok (.string ⟨z1.toArray⟩) w' ∧ (convert 30 9 (.slice a1 len1 cap1)).run Try.prog w' = .ok (.string ⟨z1.toArray⟩) w')) (by kernel_rfl) hC0.drew.S (fun hHeld => ?_)
      refine wpAnyH_ready (rs := [0]) (by kernel_rfl) (by simp) ?_
      refine AllReadyH.cons (o := ?o0kqp) ?hi0kqp (fun K hK => ?st0kqp) AllReadyH.nil
      case hi0kqp => (simp only [List.getElem?_toArray, List.getElem?_cons_succ, List.getElem?_cons_zero]; rfl)
      go_simp
      refine (lives_any _).mono ?_
      rintro e x1 ⟨rfl, hx1⟩
      have hx1 : Below (x0.drew).heap.size (x0.drew) x1 := hx1
      have hbx1 := (Below.drew hbx0).trans (hx1.mono (Below.drew hbx0).size)
      have hC1 := (hC0.drew).below hx1
      have hS1 := hC1.S
      go_wp2_with fail
      refine hK.out _ _ hS1 (fun hHeld2 => ?_)
      clear hK K hHeld
      have hHeld := hHeld2
      clear hHeld2
      try simp only [Act.put, List.setIfInBounds_toArray, List.set_cons_zero, List.set_cons_succ]
      refine wpAnyH_take (i := 1) (oi := ?oi1kqp) (v := ?v1kqp) ?hi1kqp (by kernel_rfl) (by kernel_rfl) (by kernel_rfl) ?hq1kqp (Or.inl ⟨?hw1kqp, ?hy1kqp⟩) (by assumption) ?rest1kqp
      case hi1kqp => (simp only [List.getElem?_toArray, List.getElem?_cons_succ, List.getElem?_cons_zero]; rfl)
      case hq1kqp => exact fun _ _ _ h => h
      case hw1kqp => rfl
      case hy1kqp => (intro w hSw; (try dsimp only at hSw); go_simp <;> with_reducible rfl)
      try simp only [Act.put, List.setIfInBounds_toArray, List.set_cons_zero, List.set_cons_succ]
      refine wpAnyH_take (i := 2) (oi := ?oi2kqp) (v := ?v2kqp) ?hi2kqp (by kernel_rfl) (by kernel_rfl) (by kernel_rfl) ?hq2kqp (Or.inl ⟨?hw2kqp, ?hy2kqp⟩) (by assumption) ?rest2kqp
      case hi2kqp => (simp only [List.getElem?_toArray, List.getElem?_cons_succ, List.getElem?_cons_zero]; rfl)
      case hq2kqp => exact fun _ _ _ h => h
      case hw2kqp => rfl
      case hy2kqp => (intro w hSw; (try dsimp only at hSw); go_simp <;> with_reducible rfl)
      try simp only [Act.put, List.setIfInBounds_toArray, List.set_cons_zero, List.set_cons_succ]
      refine wpAnyH_take (i := 3) (oi := ?oi3kqp) (v := ?v3kqp) ?hi3kqp (by kernel_rfl) (by kernel_rfl) (by kernel_rfl) ?hq3kqp (Or.inl ⟨?hw3kqp, ?hy3kqp⟩) (by assumption) ?rest3kqp
      case hi3kqp => (simp only [List.getElem?_toArray, List.getElem?_cons_succ, List.getElem?_cons_zero]; rfl)
      case hq3kqp => exact fun _ _ _ h => h
      case hw3kqp => rfl
      case hy3kqp => (intro w hSw; (try dsimp only at hSw); go_simp <;> with_reducible rfl)
      try simp only [Act.put, List.setIfInBounds_toArray, List.set_cons_zero, List.set_cons_succ]
      refine wpAnyH_take (i := 5) (oi := ?oi5kqp) (v := ?v5kqp) ?hi5kqp (by kernel_rfl) (by kernel_rfl) (by kernel_rfl) ?hq5kqp (Or.inl ⟨?hw5kqp, ?hy5kqp⟩) (by assumption) ?rest5kqp
      case hi5kqp => (simp only [List.getElem?_toArray, List.getElem?_cons_succ, List.getElem?_cons_zero]; rfl)
      case hq5kqp => exact fun _ _ _ h => h
      case hw5kqp => rfl
      case hy5kqp => (intro w hSw; (try dsimp only at hSw); go_simp <;> with_reducible rfl)
      try simp only [Act.put, List.setIfInBounds_toArray, List.set_cons_zero, List.set_cons_succ]
      refine wpAnyH_ready (rs := [4]) (by kernel_rfl) (by simp) ?_
      refine AllReadyH.cons (o := ?o4kqp) ?hi4kqp (fun K hK => ?st4kqp) AllReadyH.nil
      case hi4kqp => (simp only [List.getElem?_toArray, List.getElem?_cons_succ, List.getElem?_cons_zero]; rfl)
      go_simp
      refine (may_any s a A0 n c0 _ (by omega)).mono ?_
      rintro e x2 ⟨rfl, hw2⟩
      have hx2 : Below x1.heap.size x1 x2 := by rw [hw2]; exact (Below.refl _ _).alloc (Nat.le_refl _) _
      clear hw2
      have hbx2 := hbx1.trans (hx2.mono hbx1.size)
      have hC2 := hC1.below hx2
      have hS2 := hC2.S
      rw [hmn]
      go_wp2_with fail
      refine hK.out _ _ hS2 (fun hHeld2 => ?_)
      clear hK K hHeld
      have hHeld := hHeld2
      clear hHeld2
      try simp only [Act.put, List.setIfInBounds_toArray, List.set_cons_zero, List.set_cons_succ]
      refine wpAnyH_ready (rs := [6]) (by kernel_rfl) (by simp) ?_
      refine AllReadyH.cons (o := ?o6kqp) ?hi6kqp (fun K hK => ?st6kqp) AllReadyH.nil
      case hi6kqp => (simp only [List.getElem?_toArray, List.getElem?_cons_succ, List.getElem?_cons_zero]; rfl)
      go_simp
      refine (rmay_any s a A0 n c0 _ (by omega)).mono ?_
      rintro e x3 ⟨rfl, hw3⟩
      have hx3 : Below x2.heap.size x2 x3 := by rw [hw3]; exact (Below.refl _ _).alloc (Nat.le_refl _) _
      clear hw3
      have hbx3 := hbx2.trans (hx3.mono hbx2.size)
      have hC3 := hC2.below hx3
      have hS3 := hC3.S
      rw [hmn]
      go_wp2_with fail
      refine hK.out _ _ hS3 (fun hHeld2 => ?_)
      clear hK K hHeld
      have hHeld := hHeld2
      clear hHeld2
      try simp only [Act.put, List.setIfInBounds_toArray, List.set_cons_zero, List.set_cons_succ]
      refine wpAnyH_take (i := 7) (oi := ?oi7kqp) (v := ?v7kqp) ?hi7kqp (by kernel_rfl) (by kernel_rfl) (by kernel_rfl) ?hq7kqp (Or.inl ⟨?hw7kqp, ?hy7kqp⟩) (by assumption) ?rest7kqp
      case hi7kqp => (simp only [List.getElem?_toArray, List.getElem?_cons_succ, List.getElem?_cons_zero]; rfl)
      case hq7kqp => exact fun _ _ _ h => h
      case hw7kqp => rfl
      case hy7kqp => (intro w hSw; (try dsimp only at hSw); go_simp <;> with_reducible rfl)
      try simp only [Act.put, List.setIfInBounds_toArray, List.set_cons_zero, List.set_cons_succ]
      refine wpAnyH_take (i := 8) (oi := ?oi8kqp) (v := ?v8kqp) ?hi8kqp (by kernel_rfl) (by kernel_rfl) (by kernel_rfl) ?hq8kqp (Or.inl ⟨?hw8kqp, ?hy8kqp⟩) (by assumption) ?rest8kqp
      case hi8kqp => (simp only [List.getElem?_toArray, List.getElem?_cons_succ, List.getElem?_cons_zero]; rfl)
      case hq8kqp => exact fun _ _ _ h => h
      case hw8kqp => rfl
      case hy8kqp => (intro w hSw; (try dsimp only at hSw); go_simp <;> with_reducible rfl)
      try simp only [Act.put, List.setIfInBounds_toArray, List.set_cons_zero, List.set_cons_succ]
      refine wpAnyH_take (i := 9) (oi := ?oi9kqp) (v := ?v9kqp) ?hi9kqp (by kernel_rfl) (by kernel_rfl) (by kernel_rfl) ?hq9kqp (Or.inl ⟨?hw9kqp, ?hy9kqp⟩) (by assumption) ?rest9kqp
      case hi9kqp => (simp only [List.getElem?_toArray, List.getElem?_cons_succ, List.getElem?_cons_zero]; rfl)
      case hq9kqp => exact fun _ _ _ h => h
      case hw9kqp => rfl
      case hy9kqp => (intro w hSw; (try dsimp only at hSw); go_simp <;> with_reducible rfl)
      try simp only [Act.put, List.setIfInBounds_toArray, List.set_cons_zero, List.set_cons_succ]
      refine wpAnyH_take (i := 10) (oi := ?oi10kqp) (v := ?v10kqp) ?hi10kqp (by kernel_rfl) (by kernel_rfl) (by kernel_rfl) ?hq10kqp (Or.inl ⟨?hw10kqp, ?hy10kqp⟩) (by assumption) ?rest10kqp
      case hi10kqp => (simp only [List.getElem?_toArray, List.getElem?_cons_succ, List.getElem?_cons_zero]; rfl)
      case hq10kqp => exact fun _ _ _ h => h
      case hw10kqp => rfl
      case hy10kqp => (intro w hSw; (try dsimp only at hSw); go_simp <;> with_reducible rfl)
      try simp only [Act.put, List.setIfInBounds_toArray, List.set_cons_zero, List.set_cons_succ]
      refine wpAnyH_take (i := 11) (oi := ?oi11kqp) (v := ?v11kqp) ?hi11kqp (by kernel_rfl) (by kernel_rfl) (by kernel_rfl) ?hq11kqp (Or.inl ⟨?hw11kqp, ?hy11kqp⟩) (by assumption) ?rest11kqp
      case hi11kqp => (simp only [List.getElem?_toArray, List.getElem?_cons_succ, List.getElem?_cons_zero]; rfl)
      case hq11kqp => exact fun _ _ _ h => h
      case hw11kqp => rfl
      case hy11kqp => (intro w hSw; (try dsimp only at hSw); go_simp <;> with_reducible rfl)
      try simp only [Act.put, List.setIfInBounds_toArray, List.set_cons_zero, List.set_cons_succ]
      refine wpAnyH_take (i := 12) (oi := ?oi12kqp) (v := ?v12kqp) ?hi12kqp (by kernel_rfl) (by kernel_rfl) (by kernel_rfl) ?hq12kqp (Or.inl ⟨?hw12kqp, ?hy12kqp⟩) (by assumption) ?rest12kqp
      case hi12kqp => (simp only [List.getElem?_toArray, List.getElem?_cons_succ, List.getElem?_cons_zero]; rfl)
      case hq12kqp => exact fun _ _ _ h => h
      case hw12kqp => rfl
      case hy12kqp => (intro w hSw; (try dsimp only at hSw); go_simp <;> with_reducible rfl)
      try simp only [Act.put, List.setIfInBounds_toArray, List.set_cons_zero, List.set_cons_succ]
      refine wpAnyH_ready (rs := [13]) (by kernel_rfl) (by simp) ?_
      refine AllReadyH.cons (o := ?o13kqp) ?hi13kqp (fun K hK => ?st13kqp) AllReadyH.nil
      case hi13kqp => (simp only [List.getElem?_toArray, List.getElem?_cons_succ, List.getElem?_cons_zero]; rfl)
      go_simp
      refine (rmay_any s a A0 n c0 _ (by omega)).mono ?_
      rintro e x4 ⟨rfl, hw4⟩
      have hx4 : Below x3.heap.size x3 x4 := by rw [hw4]; exact (Below.refl _ _).alloc (Nat.le_refl _) _
      clear hw4
      have hbx4 := hbx3.trans (hx4.mono hbx3.size)
      have hC4 := hC3.below hx4
      have hS4 := hC4.S
      rw [hmn]
      go_wp2_with fail
      refine hK.out _ _ hS4 (fun hHeld2 => ?_)
      clear hK K hHeld
      have hHeld := hHeld2
      clear hHeld2
      try simp only [Act.put, List.setIfInBounds_toArray, List.set_cons_zero, List.set_cons_succ]
      refine wpAnyH_take (i := 14) (oi := ?oi14kqp) (v := ?v14kqp) ?hi14kqp (by kernel_rfl) (by kernel_rfl) (by kernel_rfl) ?hq14kqp (Or.inl ⟨?hw14kqp, ?hy14kqp⟩) (by assumption) ?rest14kqp
      case hi14kqp => (simp only [List.getElem?_toArray, List.getElem?_cons_succ, List.getElem?_cons_zero]; rfl)
      case hq14kqp => exact fun _ _ _ h => h
      case hw14kqp => rfl
      case hy14kqp => (intro w hSw; (try dsimp only at hSw); go_simp <;> with_reducible rfl)
      try simp only [Act.put, List.setIfInBounds_toArray, List.set_cons_zero, List.set_cons_succ]
      refine wpAnyH_take (i := 15) (oi := ?oi15kqp) (v := ?v15kqp) ?hi15kqp (by kernel_rfl) (by kernel_rfl) (by kernel_rfl) ?hq15kqp (Or.inl ⟨?hw15kqp, ?hy15kqp⟩) (by assumption) ?rest15kqp
      case hi15kqp => (simp only [List.getElem?_toArray, List.getElem?_cons_succ, List.getElem?_cons_zero]; rfl)
      case hq15kqp => exact fun _ _ _ h => h
      case hw15kqp => rfl
      case hy15kqp => (intro w hSw; (try dsimp only at hSw); go_simp <;> with_reducible rfl)
      try simp only [Act.put, List.setIfInBounds_toArray, List.set_cons_zero, List.set_cons_succ]
      refine wpAnyH_take (i := 16) (oi := ?oi16kqp) (v := ?v16kqp) ?hi16kqp (by kernel_rfl) (by kernel_rfl) (by kernel_rfl) ?hq16kqp (Or.inl ⟨?hw16kqp, ?hy16kqp⟩) (by assumption) ?rest16kqp
      case hi16kqp => (simp only [List.getElem?_toArray, List.getElem?_cons_succ, List.getElem?_cons_zero]; rfl)
      case hq16kqp => exact fun _ _ _ h => h
      case hw16kqp => rfl
      case hy16kqp => (intro w hSw; (try dsimp only at hSw); go_simp <;> with_reducible rfl)
      try simp only [Act.put, List.setIfInBounds_toArray, List.set_cons_zero, List.set_cons_succ]
      refine wpAnyH_take (i := 17) (oi := ?oi17kqp) (v := ?v17kqp) ?hi17kqp (by kernel_rfl) (by kernel_rfl) (by kernel_rfl) ?hq17kqp (Or.inl ⟨?hw17kqp, ?hy17kqp⟩) (by assumption) ?rest17kqp
      case hi17kqp => (simp only [List.getElem?_toArray, List.getElem?_cons_succ, List.getElem?_cons_zero]; rfl)
      case hq17kqp => exact fun _ _ _ h => h
      case hw17kqp => rfl
      case hy17kqp => (intro w hSw; (try dsimp only at hSw); go_simp <;> with_reducible rfl)
      try simp only [Act.put, List.setIfInBounds_toArray, List.set_cons_zero, List.set_cons_succ]
      refine wpAnyH_take (i := 18) (oi := ?oi18kqp) (v := ?v18kqp) ?hi18kqp (by kernel_rfl) (by kernel_rfl) (by kernel_rfl) ?hq18kqp (Or.inl ⟨?hw18kqp, ?hy18kqp⟩) (by assumption) ?rest18kqp
      case hi18kqp => (simp only [List.getElem?_toArray, List.getElem?_cons_succ, List.getElem?_cons_zero]; rfl)
      case hq18kqp => exact fun _ _ _ h => h
      case hw18kqp => rfl
      case hy18kqp => (intro w hSw; (try dsimp only at hSw); go_simp <;> with_reducible rfl)
      try simp only [Act.put, List.setIfInBounds_toArray, List.set_cons_zero, List.set_cons_succ]
      refine wpAnyH_ready (rs := [19]) (by kernel_rfl) (by simp) ?_
      refine AllReadyH.cons (o := ?o19kqp) ?hi19kqp (fun K hK => ?st19kqp) AllReadyH.nil
      case hi19kqp => (simp only [List.getElem?_toArray, List.getElem?_cons_succ, List.getElem?_cons_zero]; rfl)
      go_simp
      refine (rsame_any ⟨xs, xa, xb⟩ ⟨xs, xa, xb⟩ A8 A10 m c8 m c10 _ hC4.r8 hC4.r10).mono ?_
      rintro e x5 ⟨rfl, hx5⟩
      have hx5 : Below (x4).heap.size (x4) x5 := hx5
      have hbx5 := hbx4.trans (hx5.mono hbx4.size)
      have hC5 := (hC4).below hx5
      have hS5 := hC5.S
      rw [sameP_self]
      go_wp2_with fail
      refine hK.out _ _ hS5 (fun hHeld2 => ?_)
      clear hK K hHeld
      have hHeld := hHeld2
      clear hHeld2
      try simp only [Act.put, List.setIfInBounds_toArray, List.set_cons_zero, List.set_cons_succ]
      refine wpAnyH_take (i := 20) (oi := ?oi20kqp) (v := ?v20kqp) ?hi20kqp (by kernel_rfl) (by kernel_rfl) (by kernel_rfl) ?hq20kqp (Or.inl ⟨?hw20kqp, ?hy20kqp⟩) (by assumption) ?rest20kqp
      case hi20kqp => (simp only [List.getElem?_toArray, List.getElem?_cons_succ, List.getElem?_cons_zero]; rfl)
      case hq20kqp => exact fun _ _ _ h => h
      case hw20kqp => rfl
      case hy20kqp => (intro w hSw; (try dsimp only at hSw); go_simp <;> with_reducible rfl)
      try simp only [Act.put, List.setIfInBounds_toArray, List.set_cons_zero, List.set_cons_succ]
      refine wpAnyH_take (i := 21) (oi := ?oi21kqp) (v := ?v21kqp) ?hi21kqp (by kernel_rfl) (by kernel_rfl) (by kernel_rfl) ?hq21kqp (Or.inl ⟨?hw21kqp, ?hy21kqp⟩) (by assumption) ?rest21kqp
      case hi21kqp => (simp only [List.getElem?_toArray, List.getElem?_cons_succ, List.getElem?_cons_zero]; rfl)
      case hq21kqp => exact fun _ _ _ h => h
      case hw21kqp => rfl
      case hy21kqp => (intro w hSw; (try dsimp only at hSw); go_simp <;> with_reducible rfl)
      try simp only [Act.put, List.setIfInBounds_toArray, List.set_cons_zero, List.set_cons_succ]
      refine wpAnyH_take (i := 22) (oi := ?oi22kqp) (v := ?v22kqp) ?hi22kqp (by kernel_rfl) (by kernel_rfl) (by kernel_rfl) ?hq22kqp (Or.inl ⟨?hw22kqp, ?hy22kqp⟩) (by assumption) ?rest22kqp
      case hi22kqp => (simp only [List.getElem?_toArray, List.getElem?_cons_succ, List.getElem?_cons_zero]; rfl)
      case hq22kqp => exact fun _ _ _ h => h
      case hw22kqp => rfl
      case hy22kqp => (intro w hSw; (try dsimp only at hSw); go_simp <;> with_reducible rfl)
      try simp only [Act.put, List.setIfInBounds_toArray, List.set_cons_zero, List.set_cons_succ]
      refine wpAnyH_take (i := 23) (oi := ?oi23kqp) (v := ?v23kqp) ?hi23kqp (by kernel_rfl) (by kernel_rfl) (by kernel_rfl) ?hq23kqp (Or.inl ⟨?hw23kqp, ?hy23kqp⟩) (by assumption) ?rest23kqp
      case hi23kqp => (simp only [List.getElem?_toArray, List.getElem?_cons_succ, List.getElem?_cons_zero]; rfl)
      case hq23kqp => exact fun _ _ _ h => h
      case hw23kqp => rfl
      case hy23kqp => (intro w hSw; (try dsimp only at hSw); go_simp <;> with_reducible rfl)
      try simp only [Act.put, List.setIfInBounds_toArray, List.set_cons_zero, List.set_cons_succ]
      refine wpAnyH_take (i := 24) (oi := ?oi24kqp) (v := ?v24kqp) ?hi24kqp (by kernel_rfl) (by kernel_rfl) (by kernel_rfl) ?hq24kqp (Or.inl ⟨?hw24kqp, ?hy24kqp⟩) (by assumption) ?rest24kqp
      case hi24kqp => (simp only [List.getElem?_toArray, List.getElem?_cons_succ, List.getElem?_cons_zero]; rfl)
      case hq24kqp => exact fun _ _ _ h => h
      case hw24kqp => rfl
      case hy24kqp => (intro w hSw; (try dsimp only at hSw); go_simp <;> with_reducible rfl)
      try simp only [Act.put, List.setIfInBounds_toArray, List.set_cons_zero, List.set_cons_succ]
      refine wpAnyH_take (i := 25) (oi := ?oi25kqp) (v := ?v25kqp) ?hi25kqp (by kernel_rfl) (by kernel_rfl) (by kernel_rfl) ?hq25kqp (Or.inl ⟨?hw25kqp, ?hy25kqp⟩) (by assumption) ?rest25kqp
      case hi25kqp => (simp only [List.getElem?_toArray, List.getElem?_cons_succ, List.getElem?_cons_zero]; rfl)
      case hq25kqp => exact fun _ _ _ h => h
      case hw25kqp => rfl
      case hy25kqp => (intro w hSw; (try dsimp only at hSw); go_simp <;> with_reducible rfl)
      try simp only [Act.put, List.setIfInBounds_toArray, List.set_cons_zero, List.set_cons_succ]
      refine wpAnyH_take (i := 26) (oi := ?oi26kqp) (v := ?v26kqp) ?hi26kqp (by kernel_rfl) (by kernel_rfl) (by kernel_rfl) ?hq26kqp (Or.inl ⟨?hw26kqp, ?hy26kqp⟩) (by assumption) ?rest26kqp
      case hi26kqp => (simp only [List.getElem?_toArray, List.getElem?_cons_succ, List.getElem?_cons_zero]; rfl)
      case hq26kqp => exact fun _ _ _ h => h
      case hw26kqp => rfl
      case hy26kqp => (intro w hSw; (try dsimp only at hSw); go_simp <;> with_reducible rfl)
      try simp only [Act.put, List.setIfInBounds_toArray, List.set_cons_zero, List.set_cons_succ]
      refine wpAnyH_take (i := 27) (oi := ?oi27kqp) (v := ?v27kqp) ?hi27kqp (by kernel_rfl) (by kernel_rfl) (by kernel_rfl) ?hq27kqp (Or.inl ⟨?hw27kqp, ?hy27kqp⟩) (by assumption) ?rest27kqp
      case hi27kqp => (simp only [List.getElem?_toArray, List.getElem?_cons_succ, List.getElem?_cons_zero]; rfl)
      case hq27kqp => exact fun _ _ _ h => h
      case hw27kqp => rfl
      case hy27kqp => (intro w hSw; (try dsimp only at hSw); go_simp <;> with_reducible rfl)
      try simp only [Act.put, List.setIfInBounds_toArray, List.set_cons_zero, List.set_cons_succ]
      refine wpAnyH_take (i := 28) (oi := ?oi28kqp) (v := ?v28kqp) ?hi28kqp (by kernel_rfl) (by kernel_rfl) (by kernel_rfl) ?hq28kqp (Or.inl ⟨?hw28kqp, ?hy28kqp⟩) (by assumption) ?rest28kqp
      case hi28kqp => (simp only [List.getElem?_toArray, List.getElem?_cons_succ, List.getElem?_cons_zero]; rfl)
      case hq28kqp => exact fun _ _ _ h => h
      case hw28kqp => rfl
      case hy28kqp => (intro w hSw; (try dsimp only at hSw); go_simp <;> with_reducible rfl)
      try simp only [Act.put, List.setIfInBounds_toArray, List.set_cons_zero, List.set_cons_succ]
      refine wpAnyH_take (i := 29) (oi := ?oi29kqp) (v := ?v29kqp) ?hi29kqp (by kernel_rfl) (by kernel_rfl) (by kernel_rfl) ?hq29kqp (Or.inl ⟨?hw29kqp, ?hy29kqp⟩) (by assumption) ?rest29kqp
      case hi29kqp => (simp only [List.getElem?_toArray, List.getElem?_cons_succ, List.getElem?_cons_zero]; rfl)
      case hq29kqp => exact fun _ _ _ h => h
      case hw29kqp => rfl
      case hy29kqp => (intro w hSw; (try dsimp only at hSw); go_simp <;> with_reducible rfl)
      try simp only [Act.put, List.setIfInBounds_toArray, List.set_cons_zero, List.set_cons_succ]
      refine wpAnyH_take (i := 30) (oi := ?oi30kqp) (v := ?v30kqp) ?hi30kqp (by kernel_rfl) (by kernel_rfl) (by kernel_rfl) ?hq30kqp (Or.inl ⟨?hw30kqp, ?hy30kqp⟩) (by assumption) ?rest30kqp
      case hi30kqp => (simp only [List.getElem?_toArray, List.getElem?_cons_succ, List.getElem?_cons_zero]; rfl)
      case hq30kqp => exact fun _ _ _ h => h
      case hw30kqp => rfl
      case hy30kqp => (intro w hSw; (try dsimp only at hSw); go_simp <;> with_reducible rfl)
      try simp only [Act.put, List.setIfInBounds_toArray, List.set_cons_zero, List.set_cons_succ]
      refine wpAnyH_take (i := 31) (oi := ?oi31kqp) (v := ?v31kqp) ?hi31kqp (by kernel_rfl) (by kernel_rfl) (by kernel_rfl) ?hq31kqp (Or.inl ⟨?hw31kqp, ?hy31kqp⟩) (by assumption) ?rest31kqp
      case hi31kqp => (simp only [List.getElem?_toArray, List.getElem?_cons_succ, List.getElem?_cons_zero]; rfl)
      case hq31kqp => exact fun _ _ _ h => h
      case hw31kqp => rfl
      case hy31kqp => (intro w hSw; (try dsimp only at hSw); go_simp <;> with_reducible rfl)
      try simp only [Act.put, List.setIfInBounds_toArray, List.set_cons_zero, List.set_cons_succ]
      refine wpAnyH_take (i := 32) (oi := ?oi32kqp) (v := undef) ?hi32kqp (by kernel_rfl) (by kernel_rfl) (by kernel_rfl) ?hq32kqp (Or.inr ⟨?hw32kqp, rfl⟩) (by assumption) ?rest32kqp
      case hi32kqp => (simp only [List.getElem?_toArray, List.getElem?_cons_succ, List.getElem?_cons_zero]; rfl)
      case hq32kqp => exact fun _ _ _ h => h
      case hw32kqp => rfl
      try simp only [Act.put, List.setIfInBounds_toArray, List.set_cons_zero, List.set_cons_succ]
      refine wpAnyH_take (i := 33) (oi := ?oi33kqp) (v := undef) ?hi33kqp (by kernel_rfl) (by kernel_rfl) (by kernel_rfl) ?hq33kqp (Or.inr ⟨?hw33kqp, rfl⟩) (by assumption) ?rest33kqp
      case hi33kqp => (simp only [List.getElem?_toArray, List.getElem?_cons_succ, List.getElem?_cons_zero]; rfl)
      case hq33kqp => exact fun _ _ _ h => h
      case hw33kqp => rfl
      try simp only [Act.put, List.setIfInBounds_toArray, List.set_cons_zero, List.set_cons_succ]
      refine wpAnyH_take (i := 34) (oi := ?oi34kqp) (v := ?v34kqp) ?hi34kqp (by kernel_rfl) (by kernel_rfl) (by kernel_rfl) ?hq34kqp (Or.inl ⟨?hw34kqp, ?hy34kqp⟩) (by assumption) ?rest34kqp
      case hi34kqp => (simp only [List.getElem?_toArray, List.getElem?_cons_succ, List.getElem?_cons_zero]; rfl)
      case hq34kqp => exact fun _ _ _ h => h
      case hw34kqp => rfl
      case hy34kqp => (intro w hSw; (try dsimp only at hSw); go_simp <;> with_reducible rfl)
      try simp only [Act.put, List.setIfInBounds_toArray, List.set_cons_zero, List.set_cons_succ]
      refine wpAnyH_take (i := 35) (oi := ?oi35kqp) (v := ?v35kqp) ?hi35kqp (by kernel_rfl) (by kernel_rfl) (by kernel_rfl) ?hq35kqp (Or.inl ⟨?hw35kqp, ?hy35kqp⟩) (by assumption) ?rest35kqp
      case hi35kqp => (simp only [List.getElem?_toArray, List.getElem?_cons_succ, List.getElem?_cons_zero]; rfl)
      case hq35kqp => exact fun _ _ _ h => h
      case hw35kqp => rfl
      case hy35kqp => (intro w hSw; (try dsimp only at hSw); go_simp <;> with_reducible rfl)
      try simp only [Act.put, List.setIfInBounds_toArray, List.set_cons_zero, List.set_cons_succ]
      refine wpAnyH_take (i := 36) (oi := ?oi36kqp) (v := ?v36kqp) ?hi36kqp (by kernel_rfl) (by kernel_rfl) (by kernel_rfl) ?hq36kqp (Or.inl ⟨?hw36kqp, ?hy36kqp⟩) (by assumption) ?rest36kqp
      case hi36kqp => (simp only [List.getElem?_toArray, List.getElem?_cons_succ, List.getElem?_cons_zero]; rfl)
      case hq36kqp => exact fun _ _ _ h => h
      case hw36kqp => rfl
      case hy36kqp => (intro w hSw; (try dsimp only at hSw); go_simp <;> with_reducible rfl)
      try simp only [Act.put, List.setIfInBounds_toArray, List.set_cons_zero, List.set_cons_succ]
      refine wpAnyH_take (i := 37) (oi := ?oi37kqp) (v := ?v37kqp) ?hi37kqp (by kernel_rfl) (by kernel_rfl) (by kernel_rfl) ?hq37kqp (Or.inl ⟨?hw37kqp, ?hy37kqp⟩) (by assumption) ?rest37kqp
      case hi37kqp => (simp only [List.getElem?_toArray, List.getElem?_cons_succ, List.getElem?_cons_zero]; rfl)
      case hq37kqp => exact fun _ _ _ h => h
      case hw37kqp => rfl
      case hy37kqp => (intro w hSw; (try dsimp only at hSw); go_simp <;> with_reducible rfl)
      try simp only [Act.put, List.setIfInBounds_toArray, List.set_cons_zero, List.set_cons_succ]
      refine wpAnyH_take (i := 38) (oi := ?oi38kqp) (v := ?v38kqp) ?hi38kqp (by kernel_rfl) (by kernel_rfl) (by kernel_rfl) ?hq38kqp (Or.inl ⟨?hw38kqp, ?hy38kqp⟩) (by assumption) ?rest38kqp
      case hi38kqp => (simp only [List.getElem?_toArray, List.getElem?_cons_succ, List.getElem?_cons_zero]; rfl)
      case hq38kqp => exact fun _ _ _ h => h
      case hw38kqp => rfl
      case hy38kqp => (intro w hSw; (try dsimp only at hSw); go_simp <;> with_reducible rfl)
      try simp only [Act.put, List.setIfInBounds_toArray, List.set_cons_zero, List.set_cons_succ]
      refine wpAnyH_take (i := 39) (oi := ?oi39kqp) (v := ?v39kqp) ?hi39kqp (by kernel_rfl) (by kernel_rfl) (by kernel_rfl) ?hq39kqp (Or.inl ⟨?hw39kqp, ?hy39kqp⟩) (by assumption) ?rest39kqp
      case hi39kqp => (simp only [List.getElem?_toArray, List.getElem?_cons_succ, List.getElem?_cons_zero]; rfl)
      case hq39kqp => exact fun _ _ _ h => h
      case hw39kqp => rfl
      case hy39kqp => (intro w hSw; (try dsimp only at hSw); go_simp <;> with_reducible rfl)
      try simp only [Act.put, List.setIfInBounds_toArray, List.set_cons_zero, List.set_cons_succ]
      refine wpAnyH_take (i := 40) (oi := ?oi40kqp) (v := ?v40kqp) ?hi40kqp (by kernel_rfl) (by kernel_rfl) (by kernel_rfl) ?hq40kqp (Or.inl ⟨?hw40kqp, ?hy40kqp⟩) (by assumption) ?rest40kqp
      case hi40kqp => (simp only [List.getElem?_toArray, List.getElem?_cons_succ, List.getElem?_cons_zero]; rfl)
      case hq40kqp => exact fun _ _ _ h => h
      case hw40kqp => rfl
      case hy40kqp => (intro w hSw; (try dsimp only at hSw); go_simp <;> with_reducible rfl)
      try simp only [Act.put, List.setIfInBounds_toArray, List.set_cons_zero, List.set_cons_succ]
      refine wpAnyH_take (i := 41) (oi := ?oi41kqp) (v := ?v41kqp) ?hi41kqp (by kernel_rfl) (by kernel_rfl) (by kernel_rfl) ?hq41kqp (Or.inl ⟨?hw41kqp, ?hy41kqp⟩) (by assumption) ?rest41kqp
      case hi41kqp => (simp only [List.getElem?_toArray, List.getElem?_cons_succ, List.getElem?_cons_zero]; rfl)
      case hq41kqp => exact fun _ _ _ h => h
      case hw41kqp => rfl
      case hy41kqp => (intro w hSw; (try dsimp only at hSw); go_simp <;> with_reducible rfl)
      try simp only [Act.put, List.setIfInBounds_toArray, List.set_cons_zero, List.set_cons_succ]
      refine wpAnyH_take (i := 42) (oi := ?oi42kqp) (v := ?v42kqp) ?hi42kqp (by kernel_rfl) (by kernel_rfl) (by kernel_rfl) ?hq42kqp (Or.inl ⟨?hw42kqp, ?hy42kqp⟩) (by assumption) ?rest42kqp
      case hi42kqp => (simp only [List.getElem?_toArray, List.getElem?_cons_succ, List.getElem?_cons_zero]; rfl)
      case hq42kqp => exact fun _ _ _ h => h
      case hw42kqp => rfl
      case hy42kqp => (intro w hSw; (try dsimp only at hSw); go_simp <;> with_reducible rfl)
      try simp only [Act.put, List.setIfInBounds_toArray, List.set_cons_zero, List.set_cons_succ]
      refine wpAnyH_done (by kernel_rfl) ?_ _
      go_wp2_with fail
      go_ret
      exact ⟨by simp, hbx5⟩
  | true =>
    have hmn : mayPn s a n = true := by rw [← hmn0, hx]
    have hdec := Lib.hid (decP_enc hx)
    have hlen := encP_len hx
    have renc : Hid (∀ W, RB W A0 n body → Calls Try.prog 33 #[PKV s a A0 n c0] W fun e w' => Below W.heap.size W w' ∧ ∃ v, e = .returned v ∧ OB W.heap.size w' v (encP ⟨s, a, body⟩)) := Lib.hid (fun W h => rencode_any ⟨s, a, body⟩ A0 n c0 W h hx)
    obtain ⟨CODE, hCODE⟩ : ∃ CODE, encP ⟨s, a, body⟩ = CODE := ⟨_, rfl⟩
    have lenc : Hid (∀ W, RB W A0 n body → Calls Try.prog 28 #[PKV s a A0 n c0] W (EncPPost (mayP ⟨s, a, body⟩) (encP ⟨s, a, body⟩) W)) := Lib.hid (fun W h => lencode_any ⟨s, a, body⟩ A0 n c0 W h (by omega))
    rw [hCODE] at hdec hlen renc lenc
    clear hCODE
    obtain ⟨N, hN⟩ : ∃ N, CODE.length = N := ⟨_, rfl⟩
    rw [hN] at hlen
    clear hmn0
    cases hD : decP z1 with
    | none =>
      go_enter Try.func6, Try.ntmps6
      go_wp2_with fail
      refine (lenc.out _ (hr.alloc _)).mono ?_
      rintro e w1 ⟨hx1, h1⟩
      rw [hx] at h1
      dsimp only at h1
      have hb1 := hb0.trans (hx1.mono hb0.size)
      have hbox1 := hbox0.kept (Keep.of_below hx1) (Nat.not_le.2 hbox0.lt)
      obtain ⟨A1, c1, rfl, hl1, hm1', hr1', had1⟩ := h1
      rw [hN] at hl1 hr1' ⊢
      clear hx1 hbox0 hb0
      have ho1 : OB w1.heap.size (w1.alloc (.cells #[] 5)) (.slice (some ⟨w1.heap.size, 0, none⟩) 0 0) [] := OB.built w1.heap.size w1 [] (Nat.le_refl _) (by simp [maxLen])
      have hba := hb1.alloc hb1.size (.cells #[] 5)
      have hbel1 : Below w1.heap.size w1 (w1.alloc (.cells #[] 5)) := (Below.refl _ _).alloc (Nat.le_refl _) _
      go_wp2_with (at_builtin; refine wpApp rfl (.tmp 19) (.tmp 20) rfl w1.heap.size _ [] rfl ho1 a1 len1 cap1 z1 rfl (hr1.below hba) (by simp; omega) (by simp) ?_; intro v2 w2 hg2; have hx2 := hbel1.trans ((hg2.below ho1 (by simp)).mono (Nat.le_refl _)); have ho2 := hg2.own; rw [List.nil_append] at ho2; clear hg2; obtain ⟨A2, c2, hv2, hl2, hm2, hr2, _⟩ := ho2.form; rw [hlz] at hv2 hr2; subst hv2)
      have hb2 := hb1.trans (hx2.mono hb1.size)
      have hbox2 := hbox1.kept (Keep.of_below hx2) (Nat.not_le.2 hbox1.lt)
      have hrc2 := hr1'.below hx2
      clear hx2 hbox1 hb1 ho1 hba hbel1 ho2 hl2 hm2
      go_wp2_with fail
      refine (ldecode_any A2 len1 c2 z1 _ hr2 (by omega)).mono ?_
      rintro e w3 ⟨hx3, h3⟩
      rw [hD] at h3
      dsimp only at h3
      subst h3
      rw [pkN]
      have hb3 := (hb2.trans (hx3.mono hb2.size)).alloc (hb2.trans (hx3.mono hb2.size)).size (.cells #[.int .i64 0, .int .i64 0, .slice none 0 0] 32)
      have hbox3 := (hbox2.kept (Keep.of_below hx3) (Nat.not_le.2 hbox2.lt)).alloc (.cells #[.int .i64 0, .int .i64 0, .slice none 0 0] 32)
      have hbx8 := Blk.new w3 32 #[.int .i64 0, .int .i64 0, .slice none 0 0]
      have hr2' := (hr2.below hx3).alloc (.cells #[.int .i64 0, .int .i64 0, .slice none 0 0] 32)
      have hrc3 := (hrc2.below hx3).alloc (.cells #[.int .i64 0, .int .i64 0, .slice none 0 0] 32)
      clear hx3 hbox2 hb2 hr2
      go_wp2_with fail
      refine (rdecode_any a1 len1 cap1 z1 _ (hr1.below hb3) hc1 hm1).mono ?_
      rintro e w4 ⟨hx4, h4⟩
      rw [hD] at h4
      dsimp only at h4
      subst h4
      rw [pkN]
      have hb4 := (hb3.trans (hx4.mono hb3.size)).alloc (hb3.trans (hx4.mono hb3.size)).size (.cells #[.int .i64 0, .int .i64 0, .slice none 0 0] 32)
      have hbox4 := (hbox3.kept (Keep.of_below hx4) (Nat.not_le.2 hbox3.lt)).alloc (.cells #[.int .i64 0, .int .i64 0, .slice none 0 0] 32)
      have hbx84 := (hbx8.kept (Keep.of_below hx4) (Nat.not_le.2 hbx8.lt)).alloc (.cells #[.int .i64 0, .int .i64 0, .slice none 0 0] 32)
      have hbx104 := Blk.new w4 32 #[.int .i64 0, .int .i64 0, .slice none 0 0]
      have hr24 := (hr2'.below hx4).alloc (.cells #[.int .i64 0, .int .i64 0, .slice none 0 0] 32)
      have hrc4 := (hrc3.below hx4).alloc (.cells #[.int .i64 0, .int .i64 0, .slice none 0 0] 32)
      have hC0 : CW (w4.alloc (.cells #[.int .i64 0, .int .i64 0, .slice none 0 0] 32)) w.heap.size w3.heap.size w4.heap.size s a A0 n c0 body 0 0 0 [] none 0 none 0 A2 c2 a1 cap1 len1 z1 A1 N c1 CODE := ⟨hbox4, hbx84, hbx104, (hr.below hb4), RB.nil _ _, RB.nil _ _, hr24, hr1.below hb4, hrc4⟩
      clear hx4 hbox3 hb3 hr2' hbox4 hbx84 hbx104 hr24 hbx8 hrc3 hrc4 hrc2 hr1' had1
      have hbx0 := hb4
      clear hb4
      go_wp2_with fail
      generalize w4.alloc (.cells #[.int .i64 0, .int .i64 0, .slice none 0 0] 32) = x0 at *
      generalize w3.heap.size = B8 at *
      generalize w4.heap.size = B10 at *
      refine wp_region_held_drew (S := (fun w' => w'.cell? ⟨w.heap.size, 0, none⟩ = some (.int .i64 s) ∧ w'.cell? ⟨w.heap.size, 1, none⟩ = some (.int .i64 a) ∧ w'.cell? ⟨w.heap.size, 2, none⟩ = some (.slice A0 n c0) ∧ w'.cell? ⟨B8, 0, none⟩ = some (.int .i64 0) ∧ w'.cell? ⟨B8, 1, none⟩ = some (.int .i64 0) ∧ w'.cell? ⟨B8, 2, none⟩ = some (.slice none 0 0) ∧ w'.cell? ⟨B10, 0, none⟩ = some (.int .i64 0) ∧ w'.cell? ⟨B10, 1, none⟩ = some (.int .i64 0) ∧ w'.cell? ⟨B10, 2, none⟩ = some (.slice none 0 0) ∧ (convert 30 9 (.slice A2 len1 c2)).run Try.prog w' = .ok (.string ⟨z1.toArray⟩) w' ∧ (convert 30 9 (.slice a1 len1 cap1)).run Try.prog w' = .ok (.string ⟨z1.toArray⟩) w')) (by kernel_rfl) hC0.drew.S (fun hHeld => ?_)
      refine wpAnyH_ready (rs := [0]) (by kernel_rfl) (by simp) ?_
      refine AllReadyH.cons (o := ?o0kpq) ?hi0kpq (fun K hK => ?st0kpq) AllReadyH.nil
      case hi0kpq => (simp only [List.getElem?_toArray, List.getElem?_cons_succ, List.getElem?_cons_zero]; rfl)
      go_simp
      refine (lives_any _).mono ?_
      rintro e x1 ⟨rfl, hx1⟩
      have hx1 : Below (x0.drew).heap.size (x0.drew) x1 := hx1
      have hbx1 := (Below.drew hbx0).trans (hx1.mono (Below.drew hbx0).size)
      have hC1 := (hC0.drew).below hx1
      have hS1 := hC1.S
      go_wp2_with fail
      refine hK.out _ _ hS1 (fun hHeld2 => ?_)
      clear hK K hHeld
      have hHeld := hHeld2
      clear hHeld2
      try simp only [Act.put, List.setIfInBounds_toArray, List.set_cons_zero, List.set_cons_succ]
      refine wpAnyH_take (i := 1) (oi := ?oi1kpq) (v := ?v1kpq) ?hi1kpq (by kernel_rfl) (by kernel_rfl) (by kernel_rfl) ?hq1kpq (Or.inl ⟨?hw1kpq, ?hy1kpq⟩) (by assumption) ?rest1kpq
      case hi1kpq => (simp only [List.getElem?_toArray, List.getElem?_cons_succ, List.getElem?_cons_zero]; rfl)
      case hq1kpq => exact fun _ _ _ h => h
      case hw1kpq => rfl
      case hy1kpq => (intro w hSw; (try dsimp only at hSw); go_simp <;> with_reducible rfl)
      try simp only [Act.put, List.setIfInBounds_toArray, List.set_cons_zero, List.set_cons_succ]
      refine wpAnyH_take (i := 2) (oi := ?oi2kpq) (v := ?v2kpq) ?hi2kpq (by kernel_rfl) (by kernel_rfl) (by kernel_rfl) ?hq2kpq (Or.inl ⟨?hw2kpq, ?hy2kpq⟩) (by assumption) ?rest2kpq
      case hi2kpq => (simp only [List.getElem?_toArray, List.getElem?_cons_succ, List.getElem?_cons_zero]; rfl)
      case hq2kpq => exact fun _ _ _ h => h
      case hw2kpq => rfl
      case hy2kpq => (intro w hSw; (try dsimp only at hSw); go_simp <;> with_reducible rfl)
      try simp only [Act.put, List.setIfInBounds_toArray, List.set_cons_zero, List.set_cons_succ]
      refine wpAnyH_take (i := 3) (oi := ?oi3kpq) (v := ?v3kpq) ?hi3kpq (by kernel_rfl) (by kernel_rfl) (by kernel_rfl) ?hq3kpq (Or.inl ⟨?hw3kpq, ?hy3kpq⟩) (by assumption) ?rest3kpq
      case hi3kpq => (simp only [List.getElem?_toArray, List.getElem?_cons_succ, List.getElem?_cons_zero]; rfl)
      case hq3kpq => exact fun _ _ _ h => h
      case hw3kpq => rfl
      case hy3kpq => (intro w hSw; (try dsimp only at hSw); go_simp <;> with_reducible rfl)
      try simp only [Act.put, List.setIfInBounds_toArray, List.set_cons_zero, List.set_cons_succ]
      refine wpAnyH_take (i := 5) (oi := ?oi5kpq) (v := ?v5kpq) ?hi5kpq (by kernel_rfl) (by kernel_rfl) (by kernel_rfl) ?hq5kpq (Or.inl ⟨?hw5kpq, ?hy5kpq⟩) (by assumption) ?rest5kpq
      case hi5kpq => (simp only [List.getElem?_toArray, List.getElem?_cons_succ, List.getElem?_cons_zero]; rfl)
      case hq5kpq => exact fun _ _ _ h => h
      case hw5kpq => rfl
      case hy5kpq => (intro w hSw; (try dsimp only at hSw); go_simp <;> with_reducible rfl)
      try simp only [Act.put, List.setIfInBounds_toArray, List.set_cons_zero, List.set_cons_succ]
      refine wpAnyH_ready (rs := [4]) (by kernel_rfl) (by simp) ?_
      refine AllReadyH.cons (o := ?o4kpq) ?hi4kpq (fun K hK => ?st4kpq) AllReadyH.nil
      case hi4kpq => (simp only [List.getElem?_toArray, List.getElem?_cons_succ, List.getElem?_cons_zero]; rfl)
      go_simp
      refine (may_any s a A0 n c0 _ (by omega)).mono ?_
      rintro e x2 ⟨rfl, hw2⟩
      have hx2 : Below x1.heap.size x1 x2 := by rw [hw2]; exact (Below.refl _ _).alloc (Nat.le_refl _) _
      clear hw2
      have hbx2 := hbx1.trans (hx2.mono hbx1.size)
      have hC2 := hC1.below hx2
      have hS2 := hC2.S
      rw [hmn]
      go_wp2_with fail
      refine hK.out _ _ hS2 (fun hHeld2 => ?_)
      clear hK K hHeld
      have hHeld := hHeld2
      clear hHeld2
      try simp only [Act.put, List.setIfInBounds_toArray, List.set_cons_zero, List.set_cons_succ]
      refine wpAnyH_ready (rs := [6]) (by kernel_rfl) (by simp) ?_
      refine AllReadyH.cons (o := ?o6kpq) ?hi6kpq (fun K hK => ?st6kpq) AllReadyH.nil
      case hi6kpq => (simp only [List.getElem?_toArray, List.getElem?_cons_succ, List.getElem?_cons_zero]; rfl)
      go_simp
      refine (rmay_any s a A0 n c0 _ (by omega)).mono ?_
      rintro e x3 ⟨rfl, hw3⟩
      have hx3 : Below x2.heap.size x2 x3 := by rw [hw3]; exact (Below.refl _ _).alloc (Nat.le_refl _) _
      clear hw3
      have hbx3 := hbx2.trans (hx3.mono hbx2.size)
      have hC3 := hC2.below hx3
      have hS3 := hC3.S
      rw [hmn]
      go_wp2_with fail
      refine hK.out _ _ hS3 (fun hHeld2 => ?_)
      clear hK K hHeld
      have hHeld := hHeld2
      clear hHeld2
      try simp only [Act.put, List.setIfInBounds_toArray, List.set_cons_zero, List.set_cons_succ]
      refine wpAnyH_take (i := 7) (oi := ?oi7kpq) (v := ?v7kpq) ?hi7kpq (by kernel_rfl) (by kernel_rfl) (by kernel_rfl) ?hq7kpq (Or.inl ⟨?hw7kpq, ?hy7kpq⟩) (by assumption) ?rest7kpq
      case hi7kpq => (simp only [List.getElem?_toArray, List.getElem?_cons_succ, List.getElem?_cons_zero]; rfl)
      case hq7kpq => exact fun _ _ _ h => h
      case hw7kpq => rfl
      case hy7kpq => (intro w hSw; (try dsimp only at hSw); go_simp <;> with_reducible rfl)
      try simp only [Act.put, List.setIfInBounds_toArray, List.set_cons_zero, List.set_cons_succ]
      refine wpAnyH_take (i := 8) (oi := ?oi8kpq) (v := ?v8kpq) ?hi8kpq (by kernel_rfl) (by kernel_rfl) (by kernel_rfl) ?hq8kpq (Or.inl ⟨?hw8kpq, ?hy8kpq⟩) (by assumption) ?rest8kpq
      case hi8kpq => (simp only [List.getElem?_toArray, List.getElem?_cons_succ, List.getElem?_cons_zero]; rfl)
      case hq8kpq => exact fun _ _ _ h => h
      case hw8kpq => rfl
      case hy8kpq => (intro w hSw; (try dsimp only at hSw); go_simp <;> with_reducible rfl)
      try simp only [Act.put, List.setIfInBounds_toArray, List.set_cons_zero, List.set_cons_succ]
      refine wpAnyH_take (i := 9) (oi := ?oi9kpq) (v := ?v9kpq) ?hi9kpq (by kernel_rfl) (by kernel_rfl) (by kernel_rfl) ?hq9kpq (Or.inl ⟨?hw9kpq, ?hy9kpq⟩) (by assumption) ?rest9kpq
      case hi9kpq => (simp only [List.getElem?_toArray, List.getElem?_cons_succ, List.getElem?_cons_zero]; rfl)
      case hq9kpq => exact fun _ _ _ h => h
      case hw9kpq => rfl
      case hy9kpq => (intro w hSw; (try dsimp only at hSw); go_simp <;> with_reducible rfl)
      try simp only [Act.put, List.setIfInBounds_toArray, List.set_cons_zero, List.set_cons_succ]
      refine wpAnyH_take (i := 10) (oi := ?oi10kpq) (v := ?v10kpq) ?hi10kpq (by kernel_rfl) (by kernel_rfl) (by kernel_rfl) ?hq10kpq (Or.inl ⟨?hw10kpq, ?hy10kpq⟩) (by assumption) ?rest10kpq
      case hi10kpq => (simp only [List.getElem?_toArray, List.getElem?_cons_succ, List.getElem?_cons_zero]; rfl)
      case hq10kpq => exact fun _ _ _ h => h
      case hw10kpq => rfl
      case hy10kpq => (intro w hSw; (try dsimp only at hSw); go_simp <;> with_reducible rfl)
      try simp only [Act.put, List.setIfInBounds_toArray, List.set_cons_zero, List.set_cons_succ]
      refine wpAnyH_take (i := 11) (oi := ?oi11kpq) (v := ?v11kpq) ?hi11kpq (by kernel_rfl) (by kernel_rfl) (by kernel_rfl) ?hq11kpq (Or.inl ⟨?hw11kpq, ?hy11kpq⟩) (by assumption) ?rest11kpq
      case hi11kpq => (simp only [List.getElem?_toArray, List.getElem?_cons_succ, List.getElem?_cons_zero]; rfl)
      case hq11kpq => exact fun _ _ _ h => h
      case hw11kpq => rfl
      case hy11kpq => (intro w hSw; (try dsimp only at hSw); go_simp <;> with_reducible rfl)
      try simp only [Act.put, List.setIfInBounds_toArray, List.set_cons_zero, List.set_cons_succ]
      refine wpAnyH_take (i := 12) (oi := ?oi12kpq) (v := ?v12kpq) ?hi12kpq (by kernel_rfl) (by kernel_rfl) (by kernel_rfl) ?hq12kpq (Or.inl ⟨?hw12kpq, ?hy12kpq⟩) (by assumption) ?rest12kpq
      case hi12kpq => (simp only [List.getElem?_toArray, List.getElem?_cons_succ, List.getElem?_cons_zero]; rfl)
      case hq12kpq => exact fun _ _ _ h => h
      case hw12kpq => rfl
      case hy12kpq => (intro w hSw; (try dsimp only at hSw); go_simp <;> with_reducible rfl)
      try simp only [Act.put, List.setIfInBounds_toArray, List.set_cons_zero, List.set_cons_succ]
      refine wpAnyH_ready (rs := [13]) (by kernel_rfl) (by simp) ?_
      refine AllReadyH.cons (o := ?o13kpq) ?hi13kpq (fun K hK => ?st13kpq) AllReadyH.nil
      case hi13kpq => (simp only [List.getElem?_toArray, List.getElem?_cons_succ, List.getElem?_cons_zero]; rfl)
      go_simp
      refine (rmay_any s a A0 n c0 _ (by omega)).mono ?_
      rintro e x4 ⟨rfl, hw4⟩
      have hx4 : Below x3.heap.size x3 x4 := by rw [hw4]; exact (Below.refl _ _).alloc (Nat.le_refl _) _
      clear hw4
      have hbx4 := hbx3.trans (hx4.mono hbx3.size)
      have hC4 := hC3.below hx4
      have hS4 := hC4.S
      rw [hmn]
      go_wp2_with fail
      refine hK.out _ _ hS4 (fun hHeld2 => ?_)
      clear hK K hHeld
      have hHeld := hHeld2
      clear hHeld2
      try simp only [Act.put, List.setIfInBounds_toArray, List.set_cons_zero, List.set_cons_succ]
      refine wpAnyH_take (i := 14) (oi := ?oi14kpq) (v := ?v14kpq) ?hi14kpq (by kernel_rfl) (by kernel_rfl) (by kernel_rfl) ?hq14kpq (Or.inl ⟨?hw14kpq, ?hy14kpq⟩) (by assumption) ?rest14kpq
      case hi14kpq => (simp only [List.getElem?_toArray, List.getElem?_cons_succ, List.getElem?_cons_zero]; rfl)
      case hq14kpq => exact fun _ _ _ h => h
      case hw14kpq => rfl
      case hy14kpq => (intro w hSw; (try dsimp only at hSw); go_simp <;> with_reducible rfl)
      try simp only [Act.put, List.setIfInBounds_toArray, List.set_cons_zero, List.set_cons_succ]
      refine wpAnyH_take (i := 15) (oi := ?oi15kpq) (v := ?v15kpq) ?hi15kpq (by kernel_rfl) (by kernel_rfl) (by kernel_rfl) ?hq15kpq (Or.inl ⟨?hw15kpq, ?hy15kpq⟩) (by assumption) ?rest15kpq
      case hi15kpq => (simp only [List.getElem?_toArray, List.getElem?_cons_succ, List.getElem?_cons_zero]; rfl)
      case hq15kpq => exact fun _ _ _ h => h
      case hw15kpq => rfl
      case hy15kpq => (intro w hSw; (try dsimp only at hSw); go_simp <;> with_reducible rfl)
      try simp only [Act.put, List.setIfInBounds_toArray, List.set_cons_zero, List.set_cons_succ]
      refine wpAnyH_take (i := 16) (oi := ?oi16kpq) (v := ?v16kpq) ?hi16kpq (by kernel_rfl) (by kernel_rfl) (by kernel_rfl) ?hq16kpq (Or.inl ⟨?hw16kpq, ?hy16kpq⟩) (by assumption) ?rest16kpq
      case hi16kpq => (simp only [List.getElem?_toArray, List.getElem?_cons_succ, List.getElem?_cons_zero]; rfl)
      case hq16kpq => exact fun _ _ _ h => h
      case hw16kpq => rfl
      case hy16kpq => (intro w hSw; (try dsimp only at hSw); go_simp <;> with_reducible rfl)
      try simp only [Act.put, List.setIfInBounds_toArray, List.set_cons_zero, List.set_cons_succ]
      refine wpAnyH_take (i := 17) (oi := ?oi17kpq) (v := ?v17kpq) ?hi17kpq (by kernel_rfl) (by kernel_rfl) (by kernel_rfl) ?hq17kpq (Or.inl ⟨?hw17kpq, ?hy17kpq⟩) (by assumption) ?rest17kpq
      case hi17kpq => (simp only [List.getElem?_toArray, List.getElem?_cons_succ, List.getElem?_cons_zero]; rfl)
      case hq17kpq => exact fun _ _ _ h => h
      case hw17kpq => rfl
      case hy17kpq => (intro w hSw; (try dsimp only at hSw); go_simp <;> with_reducible rfl)
      try simp only [Act.put, List.setIfInBounds_toArray, List.set_cons_zero, List.set_cons_succ]
      refine wpAnyH_take (i := 18) (oi := ?oi18kpq) (v := ?v18kpq) ?hi18kpq (by kernel_rfl) (by kernel_rfl) (by kernel_rfl) ?hq18kpq (Or.inl ⟨?hw18kpq, ?hy18kpq⟩) (by assumption) ?rest18kpq
      case hi18kpq => (simp only [List.getElem?_toArray, List.getElem?_cons_succ, List.getElem?_cons_zero]; rfl)
      case hq18kpq => exact fun _ _ _ h => h
      case hw18kpq => rfl
      case hy18kpq => (intro w hSw; (try dsimp only at hSw); go_simp <;> with_reducible rfl)
      try simp only [Act.put, List.setIfInBounds_toArray, List.set_cons_zero, List.set_cons_succ]
      refine wpAnyH_ready (rs := [19]) (by kernel_rfl) (by simp) ?_
      refine AllReadyH.cons (o := ?o19kpq) ?hi19kpq (fun K hK => ?st19kpq) AllReadyH.nil
      case hi19kpq => (simp only [List.getElem?_toArray, List.getElem?_cons_succ, List.getElem?_cons_zero]; rfl)
      go_simp
      refine (rsame_any ⟨0, 0, []⟩ ⟨0, 0, []⟩ none none 0 0 0 0 _ hC4.r8 hC4.r10).mono ?_
      rintro e x5 ⟨rfl, hx5⟩
      have hx5 : Below (x4).heap.size (x4) x5 := hx5
      have hbx5 := hbx4.trans (hx5.mono hbx4.size)
      have hC5 := (hC4).below hx5
      have hS5 := hC5.S
      rw [sameP_self]
      go_wp2_with fail
      refine hK.out _ _ hS5 (fun hHeld2 => ?_)
      clear hK K hHeld
      have hHeld := hHeld2
      clear hHeld2
      try simp only [Act.put, List.setIfInBounds_toArray, List.set_cons_zero, List.set_cons_succ]
      refine wpAnyH_take (i := 20) (oi := ?oi20kpq) (v := ?v20kpq) ?hi20kpq (by kernel_rfl) (by kernel_rfl) (by kernel_rfl) ?hq20kpq (Or.inl ⟨?hw20kpq, ?hy20kpq⟩) (by assumption) ?rest20kpq
      case hi20kpq => (simp only [List.getElem?_toArray, List.getElem?_cons_succ, List.getElem?_cons_zero]; rfl)
      case hq20kpq => exact fun _ _ _ h => h
      case hw20kpq => rfl
      case hy20kpq => (intro w hSw; (try dsimp only at hSw); go_simp <;> with_reducible rfl)
      try simp only [Act.put, List.setIfInBounds_toArray, List.set_cons_zero, List.set_cons_succ]
      refine wpAnyH_take (i := 21) (oi := ?oi21kpq) (v := ?v21kpq) ?hi21kpq (by kernel_rfl) (by kernel_rfl) (by kernel_rfl) ?hq21kpq (Or.inl ⟨?hw21kpq, ?hy21kpq⟩) (by assumption) ?rest21kpq
      case hi21kpq => (simp only [List.getElem?_toArray, List.getElem?_cons_succ, List.getElem?_cons_zero]; rfl)
      case hq21kpq => exact fun _ _ _ h => h
      case hw21kpq => rfl
      case hy21kpq => (intro w hSw; (try dsimp only at hSw); go_simp <;> with_reducible rfl)
      try simp only [Act.put, List.setIfInBounds_toArray, List.set_cons_zero, List.set_cons_succ]
      refine wpAnyH_take (i := 22) (oi := ?oi22kpq) (v := ?v22kpq) ?hi22kpq (by kernel_rfl) (by kernel_rfl) (by kernel_rfl) ?hq22kpq (Or.inl ⟨?hw22kpq, ?hy22kpq⟩) (by assumption) ?rest22kpq
      case hi22kpq => (simp only [List.getElem?_toArray, List.getElem?_cons_succ, List.getElem?_cons_zero]; rfl)
      case hq22kpq => exact fun _ _ _ h => h
      case hw22kpq => rfl
      case hy22kpq => (intro w hSw; (try dsimp only at hSw); go_simp <;> with_reducible rfl)
      try simp only [Act.put, List.setIfInBounds_toArray, List.set_cons_zero, List.set_cons_succ]
      refine wpAnyH_take (i := 23) (oi := ?oi23kpq) (v := ?v23kpq) ?hi23kpq (by kernel_rfl) (by kernel_rfl) (by kernel_rfl) ?hq23kpq (Or.inl ⟨?hw23kpq, ?hy23kpq⟩) (by assumption) ?rest23kpq
      case hi23kpq => (simp only [List.getElem?_toArray, List.getElem?_cons_succ, List.getElem?_cons_zero]; rfl)
      case hq23kpq => exact fun _ _ _ h => h
      case hw23kpq => rfl
      case hy23kpq => (intro w hSw; (try dsimp only at hSw); go_simp <;> with_reducible rfl)
      try simp only [Act.put, List.setIfInBounds_toArray, List.set_cons_zero, List.set_cons_succ]
      refine wpAnyH_take (i := 24) (oi := ?oi24kpq) (v := ?v24kpq) ?hi24kpq (by kernel_rfl) (by kernel_rfl) (by kernel_rfl) ?hq24kpq (Or.inl ⟨?hw24kpq, ?hy24kpq⟩) (by assumption) ?rest24kpq
      case hi24kpq => (simp only [List.getElem?_toArray, List.getElem?_cons_succ, List.getElem?_cons_zero]; rfl)
      case hq24kpq => exact fun _ _ _ h => h
      case hw24kpq => rfl
      case hy24kpq => (intro w hSw; (try dsimp only at hSw); go_simp <;> with_reducible rfl)
      try simp only [Act.put, List.setIfInBounds_toArray, List.set_cons_zero, List.set_cons_succ]
      refine wpAnyH_take (i := 25) (oi := ?oi25kpq) (v := ?v25kpq) ?hi25kpq (by kernel_rfl) (by kernel_rfl) (by kernel_rfl) ?hq25kpq (Or.inl ⟨?hw25kpq, ?hy25kpq⟩) (by assumption) ?rest25kpq
      case hi25kpq => (simp only [List.getElem?_toArray, List.getElem?_cons_succ, List.getElem?_cons_zero]; rfl)
      case hq25kpq => exact fun _ _ _ h => h
      case hw25kpq => rfl
      case hy25kpq => (intro w hSw; (try dsimp only at hSw); go_simp <;> with_reducible rfl)
      try simp only [Act.put, List.setIfInBounds_toArray, List.set_cons_zero, List.set_cons_succ]
      refine wpAnyH_take (i := 26) (oi := ?oi26kpq) (v := ?v26kpq) ?hi26kpq (by kernel_rfl) (by kernel_rfl) (by kernel_rfl) ?hq26kpq (Or.inl ⟨?hw26kpq, ?hy26kpq⟩) (by assumption) ?rest26kpq
      case hi26kpq => (simp only [List.getElem?_toArray, List.getElem?_cons_succ, List.getElem?_cons_zero]; rfl)
      case hq26kpq => exact fun _ _ _ h => h
      case hw26kpq => rfl
      case hy26kpq => (intro w hSw; (try dsimp only at hSw); go_simp <;> with_reducible rfl)
      try simp only [Act.put, List.setIfInBounds_toArray, List.set_cons_zero, List.set_cons_succ]
      refine wpAnyH_take (i := 27) (oi := ?oi27kpq) (v := ?v27kpq) ?hi27kpq (by kernel_rfl) (by kernel_rfl) (by kernel_rfl) ?hq27kpq (Or.inl ⟨?hw27kpq, ?hy27kpq⟩) (by assumption) ?rest27kpq
      case hi27kpq => (simp only [List.getElem?_toArray, List.getElem?_cons_succ, List.getElem?_cons_zero]; rfl)
      case hq27kpq => exact fun _ _ _ h => h
      case hw27kpq => rfl
      case hy27kpq => (intro w hSw; (try dsimp only at hSw); go_simp <;> with_reducible rfl)
      try simp only [Act.put, List.setIfInBounds_toArray, List.set_cons_zero, List.set_cons_succ]
      refine wpAnyH_take (i := 28) (oi := ?oi28kpq) (v := ?v28kpq) ?hi28kpq (by kernel_rfl) (by kernel_rfl) (by kernel_rfl) ?hq28kpq (Or.inl ⟨?hw28kpq, ?hy28kpq⟩) (by assumption) ?rest28kpq
      case hi28kpq => (simp only [List.getElem?_toArray, List.getElem?_cons_succ, List.getElem?_cons_zero]; rfl)
      case hq28kpq => exact fun _ _ _ h => h
      case hw28kpq => rfl
      case hy28kpq => (intro w hSw; (try dsimp only at hSw); go_simp <;> with_reducible rfl)
      try simp only [Act.put, List.setIfInBounds_toArray, List.set_cons_zero, List.set_cons_succ]
      refine wpAnyH_take (i := 29) (oi := ?oi29kpq) (v := ?v29kpq) ?hi29kpq (by kernel_rfl) (by kernel_rfl) (by kernel_rfl) ?hq29kpq (Or.inl ⟨?hw29kpq, ?hy29kpq⟩) (by assumption) ?rest29kpq
      case hi29kpq => (simp only [List.getElem?_toArray, List.getElem?_cons_succ, List.getElem?_cons_zero]; rfl)
      case hq29kpq => exact fun _ _ _ h => h
      case hw29kpq => rfl
      case hy29kpq => (intro w hSw; (try dsimp only at hSw); go_simp <;> with_reducible rfl)
      try simp only [Act.put, List.setIfInBounds_toArray, List.set_cons_zero, List.set_cons_succ]
      refine wpAnyH_take (i := 30) (oi := ?oi30kpq) (v := ?v30kpq) ?hi30kpq (by kernel_rfl) (by kernel_rfl) (by kernel_rfl) ?hq30kpq (Or.inl ⟨?hw30kpq, ?hy30kpq⟩) (by assumption) ?rest30kpq
      case hi30kpq => (simp only [List.getElem?_toArray, List.getElem?_cons_succ, List.getElem?_cons_zero]; rfl)
      case hq30kpq => exact fun _ _ _ h => h
      case hw30kpq => rfl
      case hy30kpq => (intro w hSw; (try dsimp only at hSw); go_simp <;> with_reducible rfl)
      try simp only [Act.put, List.setIfInBounds_toArray, List.set_cons_zero, List.set_cons_succ]
      refine wpAnyH_take (i := 31) (oi := ?oi31kpq) (v := ?v31kpq) ?hi31kpq (by kernel_rfl) (by kernel_rfl) (by kernel_rfl) ?hq31kpq (Or.inl ⟨?hw31kpq, ?hy31kpq⟩) (by assumption) ?rest31kpq
      case hi31kpq => (simp only [List.getElem?_toArray, List.getElem?_cons_succ, List.getElem?_cons_zero]; rfl)
      case hq31kpq => exact fun _ _ _ h => h
      case hw31kpq => rfl
      case hy31kpq => (intro w hSw; (try dsimp only at hSw); go_simp <;> with_reducible rfl)
      try simp only [Act.put, List.setIfInBounds_toArray, List.set_cons_zero, List.set_cons_succ]
      refine wpAnyH_take (i := 32) (oi := ?oi32kpq) (v := ?v32kpq) ?hi32kpq (by kernel_rfl) (by kernel_rfl) (by kernel_rfl) ?hq32kpq (Or.inl ⟨?hw32kpq, ?hy32kpq⟩) (by assumption) ?rest32kpq
      case hi32kpq => (simp only [List.getElem?_toArray, List.getElem?_cons_succ, List.getElem?_cons_zero]; rfl)
      case hq32kpq => exact fun _ _ _ h => h
      case hw32kpq => rfl
      case hy32kpq => (intro w hSw; (try dsimp only at hSw); go_simp <;> with_reducible rfl)
      try simp only [Act.put, List.setIfInBounds_toArray, List.set_cons_zero, List.set_cons_succ]
      refine wpAnyH_take (i := 33) (oi := ?oi33kpq) (v := ?v33kpq) ?hi33kpq (by kernel_rfl) (by kernel_rfl) (by kernel_rfl) ?hq33kpq (Or.inl ⟨?hw33kpq, ?hy33kpq⟩) (by assumption) ?rest33kpq
      case hi33kpq => (simp only [List.getElem?_toArray, List.getElem?_cons_succ, List.getElem?_cons_zero]; rfl)
      case hq33kpq => exact fun _ _ _ h => h
      case hw33kpq => rfl
      case hy33kpq => (intro w hSw; (try dsimp only at hSw); go_simp <;> with_reducible rfl)
      try simp only [Act.put, List.setIfInBounds_toArray, List.set_cons_zero, List.set_cons_succ]
      refine wpAnyH_take (i := 34) (oi := ?oi34kpq) (v := ?v34kpq) ?hi34kpq (by kernel_rfl) (by kernel_rfl) (by kernel_rfl) ?hq34kpq (Or.inl ⟨?hw34kpq, ?hy34kpq⟩) (by assumption) ?rest34kpq
      case hi34kpq => (simp only [List.getElem?_toArray, List.getElem?_cons_succ, List.getElem?_cons_zero]; rfl)
      case hq34kpq => exact fun _ _ _ h => h
      case hw34kpq => rfl
      case hy34kpq => (intro w hSw; (try dsimp only at hSw); go_simp <;> with_reducible rfl)
      try simp only [Act.put, List.setIfInBounds_toArray, List.set_cons_zero, List.set_cons_succ]
      refine wpAnyH_take (i := 35) (oi := ?oi35kpq) (v := ?v35kpq) ?hi35kpq (by kernel_rfl) (by kernel_rfl) (by kernel_rfl) ?hq35kpq (Or.inl ⟨?hw35kpq, ?hy35kpq⟩) (by assumption) ?rest35kpq
      case hi35kpq => (simp only [List.getElem?_toArray, List.getElem?_cons_succ, List.getElem?_cons_zero]; rfl)
      case hq35kpq => exact fun _ _ _ h => h
      case hw35kpq => rfl
      case hy35kpq => (intro w hSw; (try dsimp only at hSw); go_simp <;> with_reducible rfl)
      try simp only [Act.put, List.setIfInBounds_toArray, List.set_cons_zero, List.set_cons_succ]
      refine wpAnyH_take (i := 36) (oi := ?oi36kpq) (v := ?v36kpq) ?hi36kpq (by kernel_rfl) (by kernel_rfl) (by kernel_rfl) ?hq36kpq (Or.inl ⟨?hw36kpq, ?hy36kpq⟩) (by assumption) ?rest36kpq
      case hi36kpq => (simp only [List.getElem?_toArray, List.getElem?_cons_succ, List.getElem?_cons_zero]; rfl)
      case hq36kpq => exact fun _ _ _ h => h
      case hw36kpq => rfl
      case hy36kpq => (intro w hSw; (try dsimp only at hSw); go_simp <;> with_reducible rfl)
      try simp only [Act.put, List.setIfInBounds_toArray, List.set_cons_zero, List.set_cons_succ]
      refine wpAnyH_take (i := 37) (oi := ?oi37kpq) (v := ?v37kpq) ?hi37kpq (by kernel_rfl) (by kernel_rfl) (by kernel_rfl) ?hq37kpq (Or.inl ⟨?hw37kpq, ?hy37kpq⟩) (by assumption) ?rest37kpq
      case hi37kpq => (simp only [List.getElem?_toArray, List.getElem?_cons_succ, List.getElem?_cons_zero]; rfl)
      case hq37kpq => exact fun _ _ _ h => h
      case hw37kpq => rfl
      case hy37kpq => (intro w hSw; (try dsimp only at hSw); go_simp <;> with_reducible rfl)
      try simp only [Act.put, List.setIfInBounds_toArray, List.set_cons_zero, List.set_cons_succ]
      refine wpAnyH_take (i := 38) (oi := ?oi38kpq) (v := ?v38kpq) ?hi38kpq (by kernel_rfl) (by kernel_rfl) (by kernel_rfl) ?hq38kpq (Or.inl ⟨?hw38kpq, ?hy38kpq⟩) (by assumption) ?rest38kpq
      case hi38kpq => (simp only [List.getElem?_toArray, List.getElem?_cons_succ, List.getElem?_cons_zero]; rfl)
      case hq38kpq => exact fun _ _ _ h => h
      case hw38kpq => rfl
      case hy38kpq => (intro w hSw; (try dsimp only at hSw); go_simp <;> with_reducible rfl)
      try simp only [Act.put, List.setIfInBounds_toArray, List.set_cons_zero, List.set_cons_succ]
      refine wpAnyH_take (i := 39) (oi := ?oi39kpq) (v := ?v39kpq) ?hi39kpq (by kernel_rfl) (by kernel_rfl) (by kernel_rfl) ?hq39kpq (Or.inl ⟨?hw39kpq, ?hy39kpq⟩) (by assumption) ?rest39kpq
      case hi39kpq => (simp only [List.getElem?_toArray, List.getElem?_cons_succ, List.getElem?_cons_zero]; rfl)
      case hq39kpq => exact fun _ _ _ h => h
      case hw39kpq => rfl
      case hy39kpq => (intro w hSw; (try dsimp only at hSw); go_simp <;> with_reducible rfl)
      try simp only [Act.put, List.setIfInBounds_toArray, List.set_cons_zero, List.set_cons_succ]
      refine wpAnyH_take (i := 40) (oi := ?oi40kpq) (v := ?v40kpq) ?hi40kpq (by kernel_rfl) (by kernel_rfl) (by kernel_rfl) ?hq40kpq (Or.inl ⟨?hw40kpq, ?hy40kpq⟩) (by assumption) ?rest40kpq
      case hi40kpq => (simp only [List.getElem?_toArray, List.getElem?_cons_succ, List.getElem?_cons_zero]; rfl)
      case hq40kpq => exact fun _ _ _ h => h
      case hw40kpq => rfl
      case hy40kpq => (intro w hSw; (try dsimp only at hSw); go_simp <;> with_reducible rfl)
      try simp only [Act.put, List.setIfInBounds_toArray, List.set_cons_zero, List.set_cons_succ]
      refine wpAnyH_take (i := 41) (oi := ?oi41kpq) (v := ?v41kpq) ?hi41kpq (by kernel_rfl) (by kernel_rfl) (by kernel_rfl) ?hq41kpq (Or.inl ⟨?hw41kpq, ?hy41kpq⟩) (by assumption) ?rest41kpq
      case hi41kpq => (simp only [List.getElem?_toArray, List.getElem?_cons_succ, List.getElem?_cons_zero]; rfl)
      case hq41kpq => exact fun _ _ _ h => h
      case hw41kpq => rfl
      case hy41kpq => (intro w hSw; (try dsimp only at hSw); go_simp <;> with_reducible rfl)
      try simp only [Act.put, List.setIfInBounds_toArray, List.set_cons_zero, List.set_cons_succ]
      refine wpAnyH_take (i := 42) (oi := ?oi42kpq) (v := ?v42kpq) ?hi42kpq (by kernel_rfl) (by kernel_rfl) (by kernel_rfl) ?hq42kpq (Or.inl ⟨?hw42kpq, ?hy42kpq⟩) (by assumption) ?rest42kpq
      case hi42kpq => (simp only [List.getElem?_toArray, List.getElem?_cons_succ, List.getElem?_cons_zero]; rfl)
      case hq42kpq => exact fun _ _ _ h => h
      case hw42kpq => rfl
      case hy42kpq => (intro w hSw; (try dsimp only at hSw); go_simp <;> with_reducible rfl)
      try simp only [Act.put, List.setIfInBounds_toArray, List.set_cons_zero, List.set_cons_succ]
      refine wpAnyH_done (by kernel_rfl) ?_ _
      go_wp2_with fail
      have hcd5 := hC5.rc
      refine (ldecode_any A1 N c1 CODE _ hC5.rc (by omega)).mono ?_
      rintro e w6 ⟨hx6, h6⟩
      rw [hdec.out] at h6
      obtain ⟨A12, c12, rfl, hr12, had12⟩ := h6
      dsimp only at hr12 ⊢
      rw [hln] at hr12 ⊢
      have hC6 := hC5.below hx6
      have hb6 := (hbx5.trans (hx6.mono hbx5.size)).alloc (hbx5.trans (hx6.mono hbx5.size)).size (.cells #[.int .i64 s, .int .i64 a, .slice A12 n c12] 32)
      have hD0 : CW (w6.alloc (.cells #[.int .i64 s, .int .i64 a, .slice A12 n c12] 32)) w.heap.size w6.heap.size w6.heap.size s a A0 n c0 body s a n body A12 c12 A12 c12 A1 c1 A1 c1 N CODE A1 N c1 CODE := ⟨hC6.b0.alloc _, Blk.new _ _ _, Blk.new _ _ _, hC6.r0.alloc _, hr12.alloc _, hr12.alloc _, hC6.rc.alloc _, hC6.rc.alloc _, hC6.rc.alloc _⟩
      clear hC6 hx6 hr12 had12 hC5 hbx5 hcd5
      have hbx0 := hb6
      clear hb6
      have hC0 := hD0
      clear hD0
      go_wp2_with fail
      generalize w6.alloc (.cells #[.int .i64 s, .int .i64 a, .slice A12 n c12] 32) = x0 at *
      generalize w6.heap.size = B12 at *
      refine wp_region_held_drew (S := (fun w' => w'.cell? ⟨w.heap.size, 0, none⟩ = some (.int .i64 s) ∧ w'.cell? ⟨w.heap.size, 1, none⟩ = some (.int .i64 a) ∧ w'.cell? ⟨w.heap.size, 2, none⟩ = some (.slice A0 n c0) ∧ w'.cell? ⟨B12, 0, none⟩ = some (.int .i64 s) ∧ w'.cell? ⟨B12, 1, none⟩ = some (.int .i64 a) ∧ w'.cell? ⟨B12, 2, none⟩ = some (.slice A12 n c12) ∧ w'.cell? ⟨B12, 0, none⟩ = some (.int .i64 s) ∧ w'.cell? ⟨B12, 1, none⟩ = some (.int .i64 a) ∧ w'.cell? ⟨B12, 2, none⟩ = some (.slice A12 n c12) ∧ (convert 30 9 (.slice A1 N c1)).run Try.prog w' = .ok (.string ⟨CODE.toArray⟩) w' ∧ (convert 30 9 (.slice A1 N c1)).run Try.prog w' = .ok (.string ⟨CODE.toArray⟩) w')) (by kernel_rfl) hC0.drew.S (fun hHeld => ?_)
      refine wpAnyH_take (i := 0) (oi := ?oi0mpq) (v := ?v0mpq) ?hi0mpq (by kernel_rfl) (by kernel_rfl) (by kernel_rfl) ?hq0mpq (Or.inl ⟨?hw0mpq, ?hy0mpq⟩) (by assumption) ?rest0mpq
      case hi0mpq => (simp only [List.getElem?_toArray, List.getElem?_cons_succ, List.getElem?_cons_zero]; rfl)
      case hq0mpq => exact fun _ _ _ h => h
      case hw0mpq => rfl
      case hy0mpq => (intro w hSw; (try dsimp only at hSw); go_simp <;> with_reducible rfl)
      try simp only [Act.put, List.setIfInBounds_toArray, List.set_cons_zero, List.set_cons_succ]
      refine wpAnyH_take (i := 1) (oi := ?oi1mpq) (v := ?v1mpq) ?hi1mpq (by kernel_rfl) (by kernel_rfl) (by kernel_rfl) ?hq1mpq (Or.inl ⟨?hw1mpq, ?hy1mpq⟩) (by assumption) ?rest1mpq
      case hi1mpq => (simp only [List.getElem?_toArray, List.getElem?_cons_succ, List.getElem?_cons_zero]; rfl)
      case hq1mpq => exact fun _ _ _ h => h
      case hw1mpq => rfl
      case hy1mpq => (intro w hSw; (try dsimp only at hSw); go_simp <;> with_reducible rfl)
      try simp only [Act.put, List.setIfInBounds_toArray, List.set_cons_zero, List.set_cons_succ]
      refine wpAnyH_take (i := 2) (oi := ?oi2mpq) (v := ?v2mpq) ?hi2mpq (by kernel_rfl) (by kernel_rfl) (by kernel_rfl) ?hq2mpq (Or.inl ⟨?hw2mpq, ?hy2mpq⟩) (by assumption) ?rest2mpq
      case hi2mpq => (simp only [List.getElem?_toArray, List.getElem?_cons_succ, List.getElem?_cons_zero]; rfl)
      case hq2mpq => exact fun _ _ _ h => h
      case hw2mpq => rfl
      case hy2mpq => (intro w hSw; (try dsimp only at hSw); go_simp <;> with_reducible rfl)
      try simp only [Act.put, List.setIfInBounds_toArray, List.set_cons_zero, List.set_cons_succ]
      refine wpAnyH_ready (rs := [3]) (by kernel_rfl) (by simp) ?_
      refine AllReadyH.cons (o := ?o3mpq) ?hi3mpq (fun K hK => ?st3mpq) AllReadyH.nil
      case hi3mpq => (simp only [List.getElem?_toArray, List.getElem?_cons_succ, List.getElem?_cons_zero]; rfl)
      go_simp
      refine (renc.out _ hC0.drew.r0).mono ?_
      rintro e x1 ⟨hx1, ve, rfl, hoe⟩
      have hx1 : Below x0.drew.heap.size x0.drew x1 := hx1
      have hbx1 := (Below.drew hbx0).trans (hx1.mono (Below.drew hbx0).size)
      have hC1 := hC0.drew.below hx1
      have hS1 := hC1.S
      obtain ⟨Ae, ce, hve, _, _, hre, _⟩ := hoe.form
      rw [hN] at hve hre
      subst hve
      clear hoe
      have hce := run_str _ Ae N ce _ hre
      go_wp2_with fail
      refine hK.out _ _ hS1 (fun hHeld2 => ?_)
      clear hK K hHeld
      have hHeld := hHeld2
      clear hHeld2
      try simp only [Act.put, List.setIfInBounds_toArray, List.set_cons_zero, List.set_cons_succ]
      refine wpAnyH_ready (rs := [4]) (by kernel_rfl) (by simp) ?_
      refine AllReadyH.cons (o := ?o4mpq) ?hi4mpq (fun K hK => ?st4mpq) AllReadyH.nil
      case hi4mpq => (simp only [List.getElem?_toArray, List.getElem?_cons_succ, List.getElem?_cons_zero]; rfl)
      go_simp
      refine hK.out _ _ hS1 (fun hHeld2 => ?_)
      clear hK K hHeld
      have hHeld := hHeld2
      clear hHeld2
      try simp only [Act.put, List.setIfInBounds_toArray, List.set_cons_zero, List.set_cons_succ]
      refine wpAnyH_take (i := 5) (oi := ?oi5mpq) (v := ?v5mpq) ?hi5mpq (by kernel_rfl) (by kernel_rfl) (by kernel_rfl) ?hq5mpq (Or.inl ⟨?hw5mpq, ?hy5mpq⟩) (by assumption) ?rest5mpq
      case hi5mpq => (simp only [List.getElem?_toArray, List.getElem?_cons_succ, List.getElem?_cons_zero]; rfl)
      case hq5mpq => exact fun _ _ _ h => h
      case hw5mpq => rfl
      case hy5mpq => (intro w hSw; (try dsimp only at hSw); go_simp <;> with_reducible rfl)
      try simp only [Act.put, List.setIfInBounds_toArray, List.set_cons_zero, List.set_cons_succ]
      refine wpAnyH_take (i := 6) (oi := ?oi6mpq) (v := ?v6mpq) ?hi6mpq (by kernel_rfl) (by kernel_rfl) (by kernel_rfl) ?hq6mpq (Or.inl ⟨?hw6mpq, ?hy6mpq⟩) (by assumption) ?rest6mpq
      case hi6mpq => (simp only [List.getElem?_toArray, List.getElem?_cons_succ, List.getElem?_cons_zero]; rfl)
      case hq6mpq => exact fun _ _ _ h => h
      case hw6mpq => rfl
      case hy6mpq => (intro w hSw; (try dsimp only at hSw); go_simp <;> with_reducible rfl)
      try simp only [Act.put, List.setIfInBounds_toArray, List.set_cons_zero, List.set_cons_succ]
      refine wpAnyH_take (i := 7) (oi := ?oi7mpq) (v := ?v7mpq) ?hi7mpq (by kernel_rfl) (by kernel_rfl) (by kernel_rfl) ?hq7mpq (Or.inl ⟨?hw7mpq, ?hy7mpq⟩) (by assumption) ?rest7mpq
      case hi7mpq => (simp only [List.getElem?_toArray, List.getElem?_cons_succ, List.getElem?_cons_zero]; rfl)
      case hq7mpq => exact fun _ _ _ h => h
      case hw7mpq => rfl
      case hy7mpq => (intro w hSw; (try dsimp only at hSw); go_simp <;> with_reducible rfl)
      try simp only [Act.put, List.setIfInBounds_toArray, List.set_cons_zero, List.set_cons_succ]
      refine wpAnyH_take (i := 8) (oi := ?oi8mpq) (v := ?v8mpq) ?hi8mpq (by kernel_rfl) (by kernel_rfl) (by kernel_rfl) ?hq8mpq (Or.inl ⟨?hw8mpq, ?hy8mpq⟩) (by assumption) ?rest8mpq
      case hi8mpq => (simp only [List.getElem?_toArray, List.getElem?_cons_succ, List.getElem?_cons_zero]; rfl)
      case hq8mpq => exact fun _ _ _ h => h
      case hw8mpq => rfl
      case hy8mpq => (intro w hSw; (try dsimp only at hSw); go_simp <;> with_reducible rfl)
      try simp only [Act.put, List.setIfInBounds_toArray, List.set_cons_zero, List.set_cons_succ]
      refine wpAnyH_take (i := 9) (oi := ?oi9mpq) (v := ?v9mpq) ?hi9mpq (by kernel_rfl) (by kernel_rfl) (by kernel_rfl) ?hq9mpq (Or.inl ⟨?hw9mpq, ?hy9mpq⟩) (by assumption) ?rest9mpq
      case hi9mpq => (simp only [List.getElem?_toArray, List.getElem?_cons_succ, List.getElem?_cons_zero]; rfl)
      case hq9mpq => exact fun _ _ _ h => h
      case hw9mpq => rfl
      case hy9mpq => (intro w hSw; (try dsimp only at hSw); go_simp <;> with_reducible rfl)
      try simp only [Act.put, List.setIfInBounds_toArray, List.set_cons_zero, List.set_cons_succ]
      refine wpAnyH_take (i := 10) (oi := ?oi10mpq) (v := ?v10mpq) ?hi10mpq (by kernel_rfl) (by kernel_rfl) (by kernel_rfl) ?hq10mpq (Or.inl ⟨?hw10mpq, ?hy10mpq⟩) (by assumption) ?rest10mpq
      case hi10mpq => (simp only [List.getElem?_toArray, List.getElem?_cons_succ, List.getElem?_cons_zero]; rfl)
      case hq10mpq => exact fun _ _ _ h => h
      case hw10mpq => rfl
      case hy10mpq => (intro w hSw; (try dsimp only at hSw); go_simp <;> with_reducible rfl)
      try simp only [Act.put, List.setIfInBounds_toArray, List.set_cons_zero, List.set_cons_succ]
      refine wpAnyH_take (i := 11) (oi := ?oi11mpq) (v := ?v11mpq) ?hi11mpq (by kernel_rfl) (by kernel_rfl) (by kernel_rfl) ?hq11mpq (Or.inl ⟨?hw11mpq, ?hy11mpq⟩) (by assumption) ?rest11mpq
      case hi11mpq => (simp only [List.getElem?_toArray, List.getElem?_cons_succ, List.getElem?_cons_zero]; rfl)
      case hq11mpq => exact fun _ _ _ h => h
      case hw11mpq => rfl
      case hy11mpq => (intro w hSw; (try dsimp only at hSw); go_simp <;> with_reducible rfl)
      try simp only [Act.put, List.setIfInBounds_toArray, List.set_cons_zero, List.set_cons_succ]
      refine wpAnyH_take (i := 12) (oi := ?oi12mpq) (v := ?v12mpq) ?hi12mpq (by kernel_rfl) (by kernel_rfl) (by kernel_rfl) ?hq12mpq (Or.inl ⟨?hw12mpq, ?hy12mpq⟩) (by assumption) ?rest12mpq
      case hi12mpq => (simp only [List.getElem?_toArray, List.getElem?_cons_succ, List.getElem?_cons_zero]; rfl)
      case hq12mpq => exact fun _ _ _ h => h
      case hw12mpq => rfl
      case hy12mpq => (intro w hSw; (try dsimp only at hSw); go_simp <;> with_reducible rfl)
      try simp only [Act.put, List.setIfInBounds_toArray, List.set_cons_zero, List.set_cons_succ]
      refine wpAnyH_ready (rs := [13]) (by kernel_rfl) (by simp) ?_
      refine AllReadyH.cons (o := ?o13mpq) ?hi13mpq (fun K hK => ?st13mpq) AllReadyH.nil
      case hi13mpq => (simp only [List.getElem?_toArray, List.getElem?_cons_succ, List.getElem?_cons_zero]; rfl)
      go_simp
      refine (rsame_any ⟨s, a, body⟩ ⟨s, a, body⟩ A12 A0 n c12 n c0 _ hC1.r8 hC1.r0).mono ?_
      rintro e x2 ⟨rfl, hx2⟩
      have hx2 : Below (x1).heap.size (x1) x2 := hx2
      have hbx2 := hbx1.trans (hx2.mono hbx1.size)
      have hC2 := (hC1).below hx2
      have hS2 := hC2.S
      rw [sameP_self]
      go_wp2_with fail
      refine hK.out _ _ hS2 (fun hHeld2 => ?_)
      clear hK K hHeld
      have hHeld := hHeld2
      clear hHeld2
      try simp only [Act.put, List.setIfInBounds_toArray, List.set_cons_zero, List.set_cons_succ]
      refine wpAnyH_take (i := 14) (oi := ?oi14mpq) (v := ?v14mpq) ?hi14mpq (by kernel_rfl) (by kernel_rfl) (by kernel_rfl) ?hq14mpq (Or.inl ⟨?hw14mpq, ?hy14mpq⟩) (by assumption) ?rest14mpq
      case hi14mpq => (simp only [List.getElem?_toArray, List.getElem?_cons_succ, List.getElem?_cons_zero]; rfl)
      case hq14mpq => exact fun _ _ _ h => h
      case hw14mpq => rfl
      case hy14mpq => (intro w hSw; (try dsimp only at hSw); go_simp <;> with_reducible rfl)
      try simp only [Act.put, List.setIfInBounds_toArray, List.set_cons_zero, List.set_cons_succ]
      refine wpAnyH_take (i := 15) (oi := ?oi15mpq) (v := ?v15mpq) ?hi15mpq (by kernel_rfl) (by kernel_rfl) (by kernel_rfl) ?hq15mpq (Or.inl ⟨?hw15mpq, ?hy15mpq⟩) (by assumption) ?rest15mpq
      case hi15mpq => (simp only [List.getElem?_toArray, List.getElem?_cons_succ, List.getElem?_cons_zero]; rfl)
      case hq15mpq => exact fun _ _ _ h => h
      case hw15mpq => rfl
      case hy15mpq => (intro w hSw; (try dsimp only at hSw); go_simp <;> with_reducible rfl)
      try simp only [Act.put, List.setIfInBounds_toArray, List.set_cons_zero, List.set_cons_succ]
      refine wpAnyH_done (by kernel_rfl) ?_ _
      go_wp2
      go_ret
      exact ⟨by simp, hbx2⟩
    | some y =>
      obtain ⟨xs, xa, xb⟩ := y
      try dsimp only
      obtain ⟨m, hq⟩ : ∃ m, xb.length = m := ⟨_, rfl⟩
      go_enter Try.func6, Try.ntmps6
      go_wp2_with fail
      refine (lenc.out _ (hr.alloc _)).mono ?_
      rintro e w1 ⟨hx1, h1⟩
      rw [hx] at h1
      dsimp only at h1
      have hb1 := hb0.trans (hx1.mono hb0.size)
      have hbox1 := hbox0.kept (Keep.of_below hx1) (Nat.not_le.2 hbox0.lt)
      obtain ⟨A1, c1, rfl, hl1, hm1', hr1', had1⟩ := h1
      rw [hN] at hl1 hr1' ⊢
      clear hx1 hbox0 hb0
      have ho1 : OB w1.heap.size (w1.alloc (.cells #[] 5)) (.slice (some ⟨w1.heap.size, 0, none⟩) 0 0) [] := OB.built w1.heap.size w1 [] (Nat.le_refl _) (by simp [maxLen])
      have hba := hb1.alloc hb1.size (.cells #[] 5)
      have hbel1 : Below w1.heap.size w1 (w1.alloc (.cells #[] 5)) := (Below.refl _ _).alloc (Nat.le_refl _) _
      go_wp2_with (at_builtin; refine wpApp rfl (.tmp 19) (.tmp 20) rfl w1.heap.size _ [] rfl ho1 a1 len1 cap1 z1 rfl (hr1.below hba) (by simp; omega) (by simp) ?_; intro v2 w2 hg2; have hx2 := hbel1.trans ((hg2.below ho1 (by simp)).mono (Nat.le_refl _)); have ho2 := hg2.own; rw [List.nil_append] at ho2; clear hg2; obtain ⟨A2, c2, hv2, hl2, hm2, hr2, _⟩ := ho2.form; rw [hlz] at hv2 hr2; subst hv2)
      have hb2 := hb1.trans (hx2.mono hb1.size)
      have hbox2 := hbox1.kept (Keep.of_below hx2) (Nat.not_le.2 hbox1.lt)
      have hrc2 := hr1'.below hx2
      clear hx2 hbox1 hb1 ho1 hba hbel1 ho2 hl2 hm2
      go_wp2_with fail
      refine (ldecode_any A2 len1 c2 z1 _ hr2 (by omega)).mono ?_
      rintro e w3 ⟨hx3, h3⟩
      rw [hD] at h3
      dsimp only at h3
      obtain ⟨A8, c8, rfl, hr8, had8⟩ := h3
      rw [hq] at hr8 ⊢
      have hb3 := (hb2.trans (hx3.mono hb2.size)).alloc (hb2.trans (hx3.mono hb2.size)).size (.cells #[.int .i64 xs, .int .i64 xa, .slice A8 m c8] 32)
      have hbox3 := (hbox2.kept (Keep.of_below hx3) (Nat.not_le.2 hbox2.lt)).alloc (.cells #[.int .i64 xs, .int .i64 xa, .slice A8 m c8] 32)
      have hbx8 := Blk.new w3 32 #[.int .i64 xs, .int .i64 xa, .slice A8 m c8]
      have hr2' := (hr2.below hx3).alloc (.cells #[.int .i64 xs, .int .i64 xa, .slice A8 m c8] 32)
      have hr8' := hr8.alloc (.cells #[.int .i64 xs, .int .i64 xa, .slice A8 m c8] 32)
      have hrc3 := (hrc2.below hx3).alloc (.cells #[.int .i64 xs, .int .i64 xa, .slice A8 m c8] 32)
      clear hx3 hbox2 hb2 hr2
      go_wp2_with fail
      refine (rdecode_any a1 len1 cap1 z1 _ (hr1.below hb3) hc1 hm1).mono ?_
      rintro e w4 ⟨hx4, h4⟩
      rw [hD] at h4
      dsimp only at h4
      obtain ⟨A10, c10, rfl, hr10⟩ := h4
      rw [hq] at hr10 ⊢
      have hb4 := (hb3.trans (hx4.mono hb3.size)).alloc (hb3.trans (hx4.mono hb3.size)).size (.cells #[.int .i64 xs, .int .i64 xa, .slice A10 m c10] 32)
      have hbox4 := (hbox3.kept (Keep.of_below hx4) (Nat.not_le.2 hbox3.lt)).alloc (.cells #[.int .i64 xs, .int .i64 xa, .slice A10 m c10] 32)
      have hbx84 := (hbx8.kept (Keep.of_below hx4) (Nat.not_le.2 hbx8.lt)).alloc (.cells #[.int .i64 xs, .int .i64 xa, .slice A10 m c10] 32)
      have hbx104 := Blk.new w4 32 #[.int .i64 xs, .int .i64 xa, .slice A10 m c10]
      have hr24 := (hr2'.below hx4).alloc (.cells #[.int .i64 xs, .int .i64 xa, .slice A10 m c10] 32)
      have hr84 := (hr8'.below hx4).alloc (.cells #[.int .i64 xs, .int .i64 xa, .slice A10 m c10] 32)
      have hr104 := hr10.alloc (.cells #[.int .i64 xs, .int .i64 xa, .slice A10 m c10] 32)
      have hrc4 := (hrc3.below hx4).alloc (.cells #[.int .i64 xs, .int .i64 xa, .slice A10 m c10] 32)
      have hC0 : CW (w4.alloc (.cells #[.int .i64 xs, .int .i64 xa, .slice A10 m c10] 32)) w.heap.size w3.heap.size w4.heap.size s a A0 n c0 body xs xa m xb A8 c8 A10 c10 A2 c2 a1 cap1 len1 z1 A1 N c1 CODE := ⟨hbox4, hbx84, hbx104, (hr.below hb4), hr84, hr104, hr24, hr1.below hb4, hrc4⟩
      clear hx4 hbox3 hb3 hr2' hbox4 hbx84 hbx104 hr24 hbx8 hr8' hr84 hr104 hr8 hr10 had8 hrc3 hrc4 hrc2 hr1' had1
      have hbx0 := hb4
      clear hb4
      go_wp2_with fail
      generalize w4.alloc (.cells #[.int .i64 xs, .int .i64 xa, .slice A10 m c10] 32) = x0 at *
      generalize w3.heap.size = B8 at *
      generalize w4.heap.size = B10 at *
      refine wp_region_held_drew (S := (fun w' => w'.cell? ⟨w.heap.size, 0, none⟩ = some (.int .i64 s) ∧ w'.cell? ⟨w.heap.size, 1, none⟩ = some (.int .i64 a) ∧ w'.cell? ⟨w.heap.size, 2, none⟩ = some (.slice A0 n c0) ∧ w'.cell? ⟨B8, 0, none⟩ = some (.int .i64 xs) ∧ w'.cell? ⟨B8, 1, none⟩ = some (.int .i64 xa) ∧ w'.cell? ⟨B8, 2, none⟩ = some (.slice A8 m c8) ∧ w'.cell? ⟨B10, 0, none⟩ = some (.int .i64 xs) ∧ w'.cell? ⟨B10, 1, none⟩ = some (.int .i64 xa) ∧ w'.cell? ⟨B10, 2, none⟩ = some (.slice A10 m c10) ∧ (convert 30 9 (.slice A2 len1 c2)).run Try.prog w' = .ok (.string ⟨z1.toArray⟩) w' ∧ (convert 30 9 (.slice a1 len1 cap1)).run Try.prog w' = .ok (.string ⟨z1.toArray⟩) w')) (by kernel_rfl) hC0.drew.S (fun hHeld => ?_)
      refine wpAnyH_ready (rs := [0]) (by kernel_rfl) (by simp) ?_
      refine AllReadyH.cons (o := ?o0kpp) ?hi0kpp (fun K hK => ?st0kpp) AllReadyH.nil
      case hi0kpp => (simp only [List.getElem?_toArray, List.getElem?_cons_succ, List.getElem?_cons_zero]; rfl)
      go_simp
      refine (lives_any _).mono ?_
      rintro e x1 ⟨rfl, hx1⟩
      have hx1 : Below (x0.drew).heap.size (x0.drew) x1 := hx1
      have hbx1 := (Below.drew hbx0).trans (hx1.mono (Below.drew hbx0).size)
      have hC1 := (hC0.drew).below hx1
      have hS1 := hC1.S
      go_wp2_with fail
      refine hK.out _ _ hS1 (fun hHeld2 => ?_)
      clear hK K hHeld
      have hHeld := hHeld2
      clear hHeld2
      try simp only [Act.put, List.setIfInBounds_toArray, List.set_cons_zero, List.set_cons_succ]
      refine wpAnyH_take (i := 1) (oi := ?oi1kpp) (v := ?v1kpp) ?hi1kpp (by kernel_rfl) (by kernel_rfl) (by kernel_rfl) ?hq1kpp (Or.inl ⟨?hw1kpp, ?hy1kpp⟩) (by assumption) ?rest1kpp
      case hi1kpp => (simp only [List.getElem?_toArray, List.getElem?_cons_succ, List.getElem?_cons_zero]; rfl)
      case hq1kpp => exact fun _ _ _ h => h
      case hw1kpp => rfl
      case hy1kpp => (intro w hSw; (try dsimp only at hSw); go_simp <;> with_reducible rfl)
      try simp only [Act.put, List.setIfInBounds_toArray, List.set_cons_zero, List.set_cons_succ]
      refine wpAnyH_take (i := 2) (oi := ?oi2kpp) (v := ?v2kpp) ?hi2kpp (by kernel_rfl) (by kernel_rfl) (by kernel_rfl) ?hq2kpp (Or.inl ⟨?hw2kpp, ?hy2kpp⟩) (by assumption) ?rest2kpp
      case hi2kpp => (simp only [List.getElem?_toArray, List.getElem?_cons_succ, List.getElem?_cons_zero]; rfl)
      case hq2kpp => exact fun _ _ _ h => h
      case hw2kpp => rfl
      case hy2kpp => (intro w hSw; (try dsimp only at hSw); go_simp <;> with_reducible rfl)
      try simp only [Act.put, List.setIfInBounds_toArray, List.set_cons_zero, List.set_cons_succ]
      refine wpAnyH_take (i := 3) (oi := ?oi3kpp) (v := ?v3kpp) ?hi3kpp (by kernel_rfl) (by kernel_rfl) (by kernel_rfl) ?hq3kpp (Or.inl ⟨?hw3kpp, ?hy3kpp⟩) (by assumption) ?rest3kpp
      case hi3kpp => (simp only [List.getElem?_toArray, List.getElem?_cons_succ, List.getElem?_cons_zero]; rfl)
      case hq3kpp => exact fun _ _ _ h => h
      case hw3kpp => rfl
      case hy3kpp => (intro w hSw; (try dsimp only at hSw); go_simp <;> with_reducible rfl)
      try simp only [Act.put, List.setIfInBounds_toArray, List.set_cons_zero, List.set_cons_succ]
      refine wpAnyH_take (i := 5) (oi := ?oi5kpp) (v := ?v5kpp) ?hi5kpp (by kernel_rfl) (by kernel_rfl) (by kernel_rfl) ?hq5kpp (Or.inl ⟨?hw5kpp, ?hy5kpp⟩) (by assumption) ?rest5kpp
      case hi5kpp => (simp only [List.getElem?_toArray, List.getElem?_cons_succ, List.getElem?_cons_zero]; rfl)
      case hq5kpp => exact fun _ _ _ h => h
      case hw5kpp => rfl
      case hy5kpp => (intro w hSw; (try dsimp only at hSw); go_simp <;> with_reducible rfl)
      try simp only [Act.put, List.setIfInBounds_toArray, List.set_cons_zero, List.set_cons_succ]
      refine wpAnyH_ready (rs := [4]) (by kernel_rfl) (by simp) ?_
      refine AllReadyH.cons (o := ?o4kpp) ?hi4kpp (fun K hK => ?st4kpp) AllReadyH.nil
      case hi4kpp => (simp only [List.getElem?_toArray, List.getElem?_cons_succ, List.getElem?_cons_zero]; rfl)
      go_simp
      refine (may_any s a A0 n c0 _ (by omega)).mono ?_
      rintro e x2 ⟨rfl, hw2⟩
      have hx2 : Below x1.heap.size x1 x2 := by rw [hw2]; exact (Below.refl _ _).alloc (Nat.le_refl _) _
      clear hw2
      have hbx2 := hbx1.trans (hx2.mono hbx1.size)
      have hC2 := hC1.below hx2
      have hS2 := hC2.S
      rw [hmn]
      go_wp2_with fail
      refine hK.out _ _ hS2 (fun hHeld2 => ?_)
      clear hK K hHeld
      have hHeld := hHeld2
      clear hHeld2
      try simp only [Act.put, List.setIfInBounds_toArray, List.set_cons_zero, List.set_cons_succ]
      refine wpAnyH_ready (rs := [6]) (by kernel_rfl) (by simp) ?_
      refine AllReadyH.cons (o := ?o6kpp) ?hi6kpp (fun K hK => ?st6kpp) AllReadyH.nil
      case hi6kpp => (simp only [List.getElem?_toArray, List.getElem?_cons_succ, List.getElem?_cons_zero]; rfl)
      go_simp
      refine (rmay_any s a A0 n c0 _ (by omega)).mono ?_
      rintro e x3 ⟨rfl, hw3⟩
      have hx3 : Below x2.heap.size x2 x3 := by rw [hw3]; exact (Below.refl _ _).alloc (Nat.le_refl _) _
      clear hw3
      have hbx3 := hbx2.trans (hx3.mono hbx2.size)
      have hC3 := hC2.below hx3
      have hS3 := hC3.S
      rw [hmn]
      go_wp2_with fail
      refine hK.out _ _ hS3 (fun hHeld2 => ?_)
      clear hK K hHeld
      have hHeld := hHeld2
      clear hHeld2
      try simp only [Act.put, List.setIfInBounds_toArray, List.set_cons_zero, List.set_cons_succ]
      refine wpAnyH_take (i := 7) (oi := ?oi7kpp) (v := ?v7kpp) ?hi7kpp (by kernel_rfl) (by kernel_rfl) (by kernel_rfl) ?hq7kpp (Or.inl ⟨?hw7kpp, ?hy7kpp⟩) (by assumption) ?rest7kpp
      case hi7kpp => (simp only [List.getElem?_toArray, List.getElem?_cons_succ, List.getElem?_cons_zero]; rfl)
      case hq7kpp => exact fun _ _ _ h => h
      case hw7kpp => rfl
      case hy7kpp => (intro w hSw; (try dsimp only at hSw); go_simp <;> with_reducible rfl)
      try simp only [Act.put, List.setIfInBounds_toArray, List.set_cons_zero, List.set_cons_succ]
      refine wpAnyH_take (i := 8) (oi := ?oi8kpp) (v := ?v8kpp) ?hi8kpp (by kernel_rfl) (by kernel_rfl) (by kernel_rfl) ?hq8kpp (Or.inl ⟨?hw8kpp, ?hy8kpp⟩) (by assumption) ?rest8kpp
      case hi8kpp => (simp only [List.getElem?_toArray, List.getElem?_cons_succ, List.getElem?_cons_zero]; rfl)
      case hq8kpp => exact fun _ _ _ h => h
      case hw8kpp => rfl
      case hy8kpp => (intro w hSw; (try dsimp only at hSw); go_simp <;> with_reducible rfl)
      try simp only [Act.put, List.setIfInBounds_toArray, List.set_cons_zero, List.set_cons_succ]
      refine wpAnyH_take (i := 9) (oi := ?oi9kpp) (v := ?v9kpp) ?hi9kpp (by kernel_rfl) (by kernel_rfl) (by kernel_rfl) ?hq9kpp (Or.inl ⟨?hw9kpp, ?hy9kpp⟩) (by assumption) ?rest9kpp
      case hi9kpp => (simp only [List.getElem?_toArray, List.getElem?_cons_succ, List.getElem?_cons_zero]; rfl)
      case hq9kpp => exact fun _ _ _ h => h
      case hw9kpp => rfl
      case hy9kpp => (intro w hSw; (try dsimp only at hSw); go_simp <;> with_reducible rfl)
      try simp only [Act.put, List.setIfInBounds_toArray, List.set_cons_zero, List.set_cons_succ]
      refine wpAnyH_take (i := 10) (oi := ?oi10kpp) (v := ?v10kpp) ?hi10kpp (by kernel_rfl) (by kernel_rfl) (by kernel_rfl) ?hq10kpp (Or.inl ⟨?hw10kpp, ?hy10kpp⟩) (by assumption) ?rest10kpp
      case hi10kpp => (simp only [List.getElem?_toArray, List.getElem?_cons_succ, List.getElem?_cons_zero]; rfl)
      case hq10kpp => exact fun _ _ _ h => h
      case hw10kpp => rfl
      case hy10kpp => (intro w hSw; (try dsimp only at hSw); go_simp <;> with_reducible rfl)
      try simp only [Act.put, List.setIfInBounds_toArray, List.set_cons_zero, List.set_cons_succ]
      refine wpAnyH_take (i := 11) (oi := ?oi11kpp) (v := ?v11kpp) ?hi11kpp (by kernel_rfl) (by kernel_rfl) (by kernel_rfl) ?hq11kpp (Or.inl ⟨?hw11kpp, ?hy11kpp⟩) (by assumption) ?rest11kpp
      case hi11kpp => (simp only [List.getElem?_toArray, List.getElem?_cons_succ, List.getElem?_cons_zero]; rfl)
      case hq11kpp => exact fun _ _ _ h => h
      case hw11kpp => rfl
      case hy11kpp => (intro w hSw; (try dsimp only at hSw); go_simp <;> with_reducible rfl)
      try simp only [Act.put, List.setIfInBounds_toArray, List.set_cons_zero, List.set_cons_succ]
      refine wpAnyH_take (i := 12) (oi := ?oi12kpp) (v := ?v12kpp) ?hi12kpp (by kernel_rfl) (by kernel_rfl) (by kernel_rfl) ?hq12kpp (Or.inl ⟨?hw12kpp, ?hy12kpp⟩) (by assumption) ?rest12kpp
      case hi12kpp => (simp only [List.getElem?_toArray, List.getElem?_cons_succ, List.getElem?_cons_zero]; rfl)
      case hq12kpp => exact fun _ _ _ h => h
      case hw12kpp => rfl
      case hy12kpp => (intro w hSw; (try dsimp only at hSw); go_simp <;> with_reducible rfl)
      try simp only [Act.put, List.setIfInBounds_toArray, List.set_cons_zero, List.set_cons_succ]
      refine wpAnyH_ready (rs := [13]) (by kernel_rfl) (by simp) ?_
      refine AllReadyH.cons (o := ?o13kpp) ?hi13kpp (fun K hK => ?st13kpp) AllReadyH.nil
      case hi13kpp => (simp only [List.getElem?_toArray, List.getElem?_cons_succ, List.getElem?_cons_zero]; rfl)
      go_simp
      refine (rmay_any s a A0 n c0 _ (by omega)).mono ?_
      rintro e x4 ⟨rfl, hw4⟩
      have hx4 : Below x3.heap.size x3 x4 := by rw [hw4]; exact (Below.refl _ _).alloc (Nat.le_refl _) _
      clear hw4
      have hbx4 := hbx3.trans (hx4.mono hbx3.size)
      have hC4 := hC3.below hx4
      have hS4 := hC4.S
      rw [hmn]
      go_wp2_with fail
      refine hK.out _ _ hS4 (fun hHeld2 => ?_)
      clear hK K hHeld
      have hHeld := hHeld2
      clear hHeld2
      try simp only [Act.put, List.setIfInBounds_toArray, List.set_cons_zero, List.set_cons_succ]
      refine wpAnyH_take (i := 14) (oi := ?oi14kpp) (v := ?v14kpp) ?hi14kpp (by kernel_rfl) (by kernel_rfl) (by kernel_rfl) ?hq14kpp (Or.inl ⟨?hw14kpp, ?hy14kpp⟩) (by assumption) ?rest14kpp
      case hi14kpp => (simp only [List.getElem?_toArray, List.getElem?_cons_succ, List.getElem?_cons_zero]; rfl)
      case hq14kpp => exact fun _ _ _ h => h
      case hw14kpp => rfl
      case hy14kpp => (intro w hSw; (try dsimp only at hSw); go_simp <;> with_reducible rfl)
      try simp only [Act.put, List.setIfInBounds_toArray, List.set_cons_zero, List.set_cons_succ]
      refine wpAnyH_take (i := 15) (oi := ?oi15kpp) (v := ?v15kpp) ?hi15kpp (by kernel_rfl) (by kernel_rfl) (by kernel_rfl) ?hq15kpp (Or.inl ⟨?hw15kpp, ?hy15kpp⟩) (by assumption) ?rest15kpp
      case hi15kpp => (simp only [List.getElem?_toArray, List.getElem?_cons_succ, List.getElem?_cons_zero]; rfl)
      case hq15kpp => exact fun _ _ _ h => h
      case hw15kpp => rfl
      case hy15kpp => (intro w hSw; (try dsimp only at hSw); go_simp <;> with_reducible rfl)
      try simp only [Act.put, List.setIfInBounds_toArray, List.set_cons_zero, List.set_cons_succ]
      refine wpAnyH_take (i := 16) (oi := ?oi16kpp) (v := ?v16kpp) ?hi16kpp (by kernel_rfl) (by kernel_rfl) (by kernel_rfl) ?hq16kpp (Or.inl ⟨?hw16kpp, ?hy16kpp⟩) (by assumption) ?rest16kpp
      case hi16kpp => (simp only [List.getElem?_toArray, List.getElem?_cons_succ, List.getElem?_cons_zero]; rfl)
      case hq16kpp => exact fun _ _ _ h => h
      case hw16kpp => rfl
      case hy16kpp => (intro w hSw; (try dsimp only at hSw); go_simp <;> with_reducible rfl)
      try simp only [Act.put, List.setIfInBounds_toArray, List.set_cons_zero, List.set_cons_succ]
      refine wpAnyH_take (i := 17) (oi := ?oi17kpp) (v := ?v17kpp) ?hi17kpp (by kernel_rfl) (by kernel_rfl) (by kernel_rfl) ?hq17kpp (Or.inl ⟨?hw17kpp, ?hy17kpp⟩) (by assumption) ?rest17kpp
      case hi17kpp => (simp only [List.getElem?_toArray, List.getElem?_cons_succ, List.getElem?_cons_zero]; rfl)
      case hq17kpp => exact fun _ _ _ h => h
      case hw17kpp => rfl
      case hy17kpp => (intro w hSw; (try dsimp only at hSw); go_simp <;> with_reducible rfl)
      try simp only [Act.put, List.setIfInBounds_toArray, List.set_cons_zero, List.set_cons_succ]
      refine wpAnyH_take (i := 18) (oi := ?oi18kpp) (v := ?v18kpp) ?hi18kpp (by kernel_rfl) (by kernel_rfl) (by kernel_rfl) ?hq18kpp (Or.inl ⟨?hw18kpp, ?hy18kpp⟩) (by assumption) ?rest18kpp
      case hi18kpp => (simp only [List.getElem?_toArray, List.getElem?_cons_succ, List.getElem?_cons_zero]; rfl)
      case hq18kpp => exact fun _ _ _ h => h
      case hw18kpp => rfl
      case hy18kpp => (intro w hSw; (try dsimp only at hSw); go_simp <;> with_reducible rfl)
      try simp only [Act.put, List.setIfInBounds_toArray, List.set_cons_zero, List.set_cons_succ]
      refine wpAnyH_ready (rs := [19]) (by kernel_rfl) (by simp) ?_
      refine AllReadyH.cons (o := ?o19kpp) ?hi19kpp (fun K hK => ?st19kpp) AllReadyH.nil
      case hi19kpp => (simp only [List.getElem?_toArray, List.getElem?_cons_succ, List.getElem?_cons_zero]; rfl)
      go_simp
      refine (rsame_any ⟨xs, xa, xb⟩ ⟨xs, xa, xb⟩ A8 A10 m c8 m c10 _ hC4.r8 hC4.r10).mono ?_
      rintro e x5 ⟨rfl, hx5⟩
      have hx5 : Below (x4).heap.size (x4) x5 := hx5
      have hbx5 := hbx4.trans (hx5.mono hbx4.size)
      have hC5 := (hC4).below hx5
      have hS5 := hC5.S
      rw [sameP_self]
      go_wp2_with fail
      refine hK.out _ _ hS5 (fun hHeld2 => ?_)
      clear hK K hHeld
      have hHeld := hHeld2
      clear hHeld2
      try simp only [Act.put, List.setIfInBounds_toArray, List.set_cons_zero, List.set_cons_succ]
      refine wpAnyH_take (i := 20) (oi := ?oi20kpp) (v := ?v20kpp) ?hi20kpp (by kernel_rfl) (by kernel_rfl) (by kernel_rfl) ?hq20kpp (Or.inl ⟨?hw20kpp, ?hy20kpp⟩) (by assumption) ?rest20kpp
      case hi20kpp => (simp only [List.getElem?_toArray, List.getElem?_cons_succ, List.getElem?_cons_zero]; rfl)
      case hq20kpp => exact fun _ _ _ h => h
      case hw20kpp => rfl
      case hy20kpp => (intro w hSw; (try dsimp only at hSw); go_simp <;> with_reducible rfl)
      try simp only [Act.put, List.setIfInBounds_toArray, List.set_cons_zero, List.set_cons_succ]
      refine wpAnyH_take (i := 21) (oi := ?oi21kpp) (v := ?v21kpp) ?hi21kpp (by kernel_rfl) (by kernel_rfl) (by kernel_rfl) ?hq21kpp (Or.inl ⟨?hw21kpp, ?hy21kpp⟩) (by assumption) ?rest21kpp
      case hi21kpp => (simp only [List.getElem?_toArray, List.getElem?_cons_succ, List.getElem?_cons_zero]; rfl)
      case hq21kpp => exact fun _ _ _ h => h
      case hw21kpp => rfl
      case hy21kpp => (intro w hSw; (try dsimp only at hSw); go_simp <;> with_reducible rfl)
      try simp only [Act.put, List.setIfInBounds_toArray, List.set_cons_zero, List.set_cons_succ]
      refine wpAnyH_take (i := 22) (oi := ?oi22kpp) (v := ?v22kpp) ?hi22kpp (by kernel_rfl) (by kernel_rfl) (by kernel_rfl) ?hq22kpp (Or.inl ⟨?hw22kpp, ?hy22kpp⟩) (by assumption) ?rest22kpp
      case hi22kpp => (simp only [List.getElem?_toArray, List.getElem?_cons_succ, List.getElem?_cons_zero]; rfl)
      case hq22kpp => exact fun _ _ _ h => h
      case hw22kpp => rfl
      case hy22kpp => (intro w hSw; (try dsimp only at hSw); go_simp <;> with_reducible rfl)
      try simp only [Act.put, List.setIfInBounds_toArray, List.set_cons_zero, List.set_cons_succ]
      refine wpAnyH_take (i := 23) (oi := ?oi23kpp) (v := ?v23kpp) ?hi23kpp (by kernel_rfl) (by kernel_rfl) (by kernel_rfl) ?hq23kpp (Or.inl ⟨?hw23kpp, ?hy23kpp⟩) (by assumption) ?rest23kpp
      case hi23kpp => (simp only [List.getElem?_toArray, List.getElem?_cons_succ, List.getElem?_cons_zero]; rfl)
      case hq23kpp => exact fun _ _ _ h => h
      case hw23kpp => rfl
      case hy23kpp => (intro w hSw; (try dsimp only at hSw); go_simp <;> with_reducible rfl)
      try simp only [Act.put, List.setIfInBounds_toArray, List.set_cons_zero, List.set_cons_succ]
      refine wpAnyH_take (i := 24) (oi := ?oi24kpp) (v := ?v24kpp) ?hi24kpp (by kernel_rfl) (by kernel_rfl) (by kernel_rfl) ?hq24kpp (Or.inl ⟨?hw24kpp, ?hy24kpp⟩) (by assumption) ?rest24kpp
      case hi24kpp => (simp only [List.getElem?_toArray, List.getElem?_cons_succ, List.getElem?_cons_zero]; rfl)
      case hq24kpp => exact fun _ _ _ h => h
      case hw24kpp => rfl
      case hy24kpp => (intro w hSw; (try dsimp only at hSw); go_simp <;> with_reducible rfl)
      try simp only [Act.put, List.setIfInBounds_toArray, List.set_cons_zero, List.set_cons_succ]
      refine wpAnyH_take (i := 25) (oi := ?oi25kpp) (v := ?v25kpp) ?hi25kpp (by kernel_rfl) (by kernel_rfl) (by kernel_rfl) ?hq25kpp (Or.inl ⟨?hw25kpp, ?hy25kpp⟩) (by assumption) ?rest25kpp
      case hi25kpp => (simp only [List.getElem?_toArray, List.getElem?_cons_succ, List.getElem?_cons_zero]; rfl)
      case hq25kpp => exact fun _ _ _ h => h
      case hw25kpp => rfl
      case hy25kpp => (intro w hSw; (try dsimp only at hSw); go_simp <;> with_reducible rfl)
      try simp only [Act.put, List.setIfInBounds_toArray, List.set_cons_zero, List.set_cons_succ]
      refine wpAnyH_take (i := 26) (oi := ?oi26kpp) (v := ?v26kpp) ?hi26kpp (by kernel_rfl) (by kernel_rfl) (by kernel_rfl) ?hq26kpp (Or.inl ⟨?hw26kpp, ?hy26kpp⟩) (by assumption) ?rest26kpp
      case hi26kpp => (simp only [List.getElem?_toArray, List.getElem?_cons_succ, List.getElem?_cons_zero]; rfl)
      case hq26kpp => exact fun _ _ _ h => h
      case hw26kpp => rfl
      case hy26kpp => (intro w hSw; (try dsimp only at hSw); go_simp <;> with_reducible rfl)
      try simp only [Act.put, List.setIfInBounds_toArray, List.set_cons_zero, List.set_cons_succ]
      refine wpAnyH_take (i := 27) (oi := ?oi27kpp) (v := ?v27kpp) ?hi27kpp (by kernel_rfl) (by kernel_rfl) (by kernel_rfl) ?hq27kpp (Or.inl ⟨?hw27kpp, ?hy27kpp⟩) (by assumption) ?rest27kpp
      case hi27kpp => (simp only [List.getElem?_toArray, List.getElem?_cons_succ, List.getElem?_cons_zero]; rfl)
      case hq27kpp => exact fun _ _ _ h => h
      case hw27kpp => rfl
      case hy27kpp => (intro w hSw; (try dsimp only at hSw); go_simp <;> with_reducible rfl)
      try simp only [Act.put, List.setIfInBounds_toArray, List.set_cons_zero, List.set_cons_succ]
      refine wpAnyH_take (i := 28) (oi := ?oi28kpp) (v := ?v28kpp) ?hi28kpp (by kernel_rfl) (by kernel_rfl) (by kernel_rfl) ?hq28kpp (Or.inl ⟨?hw28kpp, ?hy28kpp⟩) (by assumption) ?rest28kpp
      case hi28kpp => (simp only [List.getElem?_toArray, List.getElem?_cons_succ, List.getElem?_cons_zero]; rfl)
      case hq28kpp => exact fun _ _ _ h => h
      case hw28kpp => rfl
      case hy28kpp => (intro w hSw; (try dsimp only at hSw); go_simp <;> with_reducible rfl)
      try simp only [Act.put, List.setIfInBounds_toArray, List.set_cons_zero, List.set_cons_succ]
      refine wpAnyH_take (i := 29) (oi := ?oi29kpp) (v := ?v29kpp) ?hi29kpp (by kernel_rfl) (by kernel_rfl) (by kernel_rfl) ?hq29kpp (Or.inl ⟨?hw29kpp, ?hy29kpp⟩) (by assumption) ?rest29kpp
      case hi29kpp => (simp only [List.getElem?_toArray, List.getElem?_cons_succ, List.getElem?_cons_zero]; rfl)
      case hq29kpp => exact fun _ _ _ h => h
      case hw29kpp => rfl
      case hy29kpp => (intro w hSw; (try dsimp only at hSw); go_simp <;> with_reducible rfl)
      try simp only [Act.put, List.setIfInBounds_toArray, List.set_cons_zero, List.set_cons_succ]
      refine wpAnyH_take (i := 30) (oi := ?oi30kpp) (v := ?v30kpp) ?hi30kpp (by kernel_rfl) (by kernel_rfl) (by kernel_rfl) ?hq30kpp (Or.inl ⟨?hw30kpp, ?hy30kpp⟩) (by assumption) ?rest30kpp
      case hi30kpp => (simp only [List.getElem?_toArray, List.getElem?_cons_succ, List.getElem?_cons_zero]; rfl)
      case hq30kpp => exact fun _ _ _ h => h
      case hw30kpp => rfl
      case hy30kpp => (intro w hSw; (try dsimp only at hSw); go_simp <;> with_reducible rfl)
      try simp only [Act.put, List.setIfInBounds_toArray, List.set_cons_zero, List.set_cons_succ]
      refine wpAnyH_take (i := 31) (oi := ?oi31kpp) (v := ?v31kpp) ?hi31kpp (by kernel_rfl) (by kernel_rfl) (by kernel_rfl) ?hq31kpp (Or.inl ⟨?hw31kpp, ?hy31kpp⟩) (by assumption) ?rest31kpp
      case hi31kpp => (simp only [List.getElem?_toArray, List.getElem?_cons_succ, List.getElem?_cons_zero]; rfl)
      case hq31kpp => exact fun _ _ _ h => h
      case hw31kpp => rfl
      case hy31kpp => (intro w hSw; (try dsimp only at hSw); go_simp <;> with_reducible rfl)
      try simp only [Act.put, List.setIfInBounds_toArray, List.set_cons_zero, List.set_cons_succ]
      refine wpAnyH_take (i := 32) (oi := ?oi32kpp) (v := undef) ?hi32kpp (by kernel_rfl) (by kernel_rfl) (by kernel_rfl) ?hq32kpp (Or.inr ⟨?hw32kpp, rfl⟩) (by assumption) ?rest32kpp
      case hi32kpp => (simp only [List.getElem?_toArray, List.getElem?_cons_succ, List.getElem?_cons_zero]; rfl)
      case hq32kpp => exact fun _ _ _ h => h
      case hw32kpp => rfl
      try simp only [Act.put, List.setIfInBounds_toArray, List.set_cons_zero, List.set_cons_succ]
      refine wpAnyH_take (i := 33) (oi := ?oi33kpp) (v := undef) ?hi33kpp (by kernel_rfl) (by kernel_rfl) (by kernel_rfl) ?hq33kpp (Or.inr ⟨?hw33kpp, rfl⟩) (by assumption) ?rest33kpp
      case hi33kpp => (simp only [List.getElem?_toArray, List.getElem?_cons_succ, List.getElem?_cons_zero]; rfl)
      case hq33kpp => exact fun _ _ _ h => h
      case hw33kpp => rfl
      try simp only [Act.put, List.setIfInBounds_toArray, List.set_cons_zero, List.set_cons_succ]
      refine wpAnyH_take (i := 34) (oi := ?oi34kpp) (v := ?v34kpp) ?hi34kpp (by kernel_rfl) (by kernel_rfl) (by kernel_rfl) ?hq34kpp (Or.inl ⟨?hw34kpp, ?hy34kpp⟩) (by assumption) ?rest34kpp
      case hi34kpp => (simp only [List.getElem?_toArray, List.getElem?_cons_succ, List.getElem?_cons_zero]; rfl)
      case hq34kpp => exact fun _ _ _ h => h
      case hw34kpp => rfl
      case hy34kpp => (intro w hSw; (try dsimp only at hSw); go_simp <;> with_reducible rfl)
      try simp only [Act.put, List.setIfInBounds_toArray, List.set_cons_zero, List.set_cons_succ]
      refine wpAnyH_take (i := 35) (oi := ?oi35kpp) (v := ?v35kpp) ?hi35kpp (by kernel_rfl) (by kernel_rfl) (by kernel_rfl) ?hq35kpp (Or.inl ⟨?hw35kpp, ?hy35kpp⟩) (by assumption) ?rest35kpp
      case hi35kpp => (simp only [List.getElem?_toArray, List.getElem?_cons_succ, List.getElem?_cons_zero]; rfl)
      case hq35kpp => exact fun _ _ _ h => h
      case hw35kpp => rfl
      case hy35kpp => (intro w hSw; (try dsimp only at hSw); go_simp <;> with_reducible rfl)
      try simp only [Act.put, List.setIfInBounds_toArray, List.set_cons_zero, List.set_cons_succ]
      refine wpAnyH_take (i := 36) (oi := ?oi36kpp) (v := ?v36kpp) ?hi36kpp (by kernel_rfl) (by kernel_rfl) (by kernel_rfl) ?hq36kpp (Or.inl ⟨?hw36kpp, ?hy36kpp⟩) (by assumption) ?rest36kpp
      case hi36kpp => (simp only [List.getElem?_toArray, List.getElem?_cons_succ, List.getElem?_cons_zero]; rfl)
      case hq36kpp => exact fun _ _ _ h => h
      case hw36kpp => rfl
      case hy36kpp => (intro w hSw; (try dsimp only at hSw); go_simp <;> with_reducible rfl)
      try simp only [Act.put, List.setIfInBounds_toArray, List.set_cons_zero, List.set_cons_succ]
      refine wpAnyH_take (i := 37) (oi := ?oi37kpp) (v := ?v37kpp) ?hi37kpp (by kernel_rfl) (by kernel_rfl) (by kernel_rfl) ?hq37kpp (Or.inl ⟨?hw37kpp, ?hy37kpp⟩) (by assumption) ?rest37kpp
      case hi37kpp => (simp only [List.getElem?_toArray, List.getElem?_cons_succ, List.getElem?_cons_zero]; rfl)
      case hq37kpp => exact fun _ _ _ h => h
      case hw37kpp => rfl
      case hy37kpp => (intro w hSw; (try dsimp only at hSw); go_simp <;> with_reducible rfl)
      try simp only [Act.put, List.setIfInBounds_toArray, List.set_cons_zero, List.set_cons_succ]
      refine wpAnyH_take (i := 38) (oi := ?oi38kpp) (v := ?v38kpp) ?hi38kpp (by kernel_rfl) (by kernel_rfl) (by kernel_rfl) ?hq38kpp (Or.inl ⟨?hw38kpp, ?hy38kpp⟩) (by assumption) ?rest38kpp
      case hi38kpp => (simp only [List.getElem?_toArray, List.getElem?_cons_succ, List.getElem?_cons_zero]; rfl)
      case hq38kpp => exact fun _ _ _ h => h
      case hw38kpp => rfl
      case hy38kpp => (intro w hSw; (try dsimp only at hSw); go_simp <;> with_reducible rfl)
      try simp only [Act.put, List.setIfInBounds_toArray, List.set_cons_zero, List.set_cons_succ]
      refine wpAnyH_take (i := 39) (oi := ?oi39kpp) (v := ?v39kpp) ?hi39kpp (by kernel_rfl) (by kernel_rfl) (by kernel_rfl) ?hq39kpp (Or.inl ⟨?hw39kpp, ?hy39kpp⟩) (by assumption) ?rest39kpp
      case hi39kpp => (simp only [List.getElem?_toArray, List.getElem?_cons_succ, List.getElem?_cons_zero]; rfl)
      case hq39kpp => exact fun _ _ _ h => h
      case hw39kpp => rfl
      case hy39kpp => (intro w hSw; (try dsimp only at hSw); go_simp <;> with_reducible rfl)
      try simp only [Act.put, List.setIfInBounds_toArray, List.set_cons_zero, List.set_cons_succ]
      refine wpAnyH_take (i := 40) (oi := ?oi40kpp) (v := ?v40kpp) ?hi40kpp (by kernel_rfl) (by kernel_rfl) (by kernel_rfl) ?hq40kpp (Or.inl ⟨?hw40kpp, ?hy40kpp⟩) (by assumption) ?rest40kpp
      case hi40kpp => (simp only [List.getElem?_toArray, List.getElem?_cons_succ, List.getElem?_cons_zero]; rfl)
      case hq40kpp => exact fun _ _ _ h => h
      case hw40kpp => rfl
      case hy40kpp => (intro w hSw; (try dsimp only at hSw); go_simp <;> with_reducible rfl)
      try simp only [Act.put, List.setIfInBounds_toArray, List.set_cons_zero, List.set_cons_succ]
      refine wpAnyH_take (i := 41) (oi := ?oi41kpp) (v := ?v41kpp) ?hi41kpp (by kernel_rfl) (by kernel_rfl) (by kernel_rfl) ?hq41kpp (Or.inl ⟨?hw41kpp, ?hy41kpp⟩) (by assumption) ?rest41kpp
      case hi41kpp => (simp only [List.getElem?_toArray, List.getElem?_cons_succ, List.getElem?_cons_zero]; rfl)
      case hq41kpp => exact fun _ _ _ h => h
      case hw41kpp => rfl
      case hy41kpp => (intro w hSw; (try dsimp only at hSw); go_simp <;> with_reducible rfl)
      try simp only [Act.put, List.setIfInBounds_toArray, List.set_cons_zero, List.set_cons_succ]
      refine wpAnyH_take (i := 42) (oi := ?oi42kpp) (v := ?v42kpp) ?hi42kpp (by kernel_rfl) (by kernel_rfl) (by kernel_rfl) ?hq42kpp (Or.inl ⟨?hw42kpp, ?hy42kpp⟩) (by assumption) ?rest42kpp
      case hi42kpp => (simp only [List.getElem?_toArray, List.getElem?_cons_succ, List.getElem?_cons_zero]; rfl)
      case hq42kpp => exact fun _ _ _ h => h
      case hw42kpp => rfl
      case hy42kpp => (intro w hSw; (try dsimp only at hSw); go_simp <;> with_reducible rfl)
      try simp only [Act.put, List.setIfInBounds_toArray, List.set_cons_zero, List.set_cons_succ]
      refine wpAnyH_done (by kernel_rfl) ?_ _
      go_wp2_with fail
      have hcd5 := hC5.rc
      refine (ldecode_any A1 N c1 CODE _ hC5.rc (by omega)).mono ?_
      rintro e w6 ⟨hx6, h6⟩
      rw [hdec.out] at h6
      obtain ⟨A12, c12, rfl, hr12, had12⟩ := h6
      dsimp only at hr12 ⊢
      rw [hln] at hr12 ⊢
      have hC6 := hC5.below hx6
      have hb6 := (hbx5.trans (hx6.mono hbx5.size)).alloc (hbx5.trans (hx6.mono hbx5.size)).size (.cells #[.int .i64 s, .int .i64 a, .slice A12 n c12] 32)
      have hD0 : CW (w6.alloc (.cells #[.int .i64 s, .int .i64 a, .slice A12 n c12] 32)) w.heap.size w6.heap.size w6.heap.size s a A0 n c0 body s a n body A12 c12 A12 c12 A1 c1 A1 c1 N CODE A1 N c1 CODE := ⟨hC6.b0.alloc _, Blk.new _ _ _, Blk.new _ _ _, hC6.r0.alloc _, hr12.alloc _, hr12.alloc _, hC6.rc.alloc _, hC6.rc.alloc _, hC6.rc.alloc _⟩
      clear hC6 hx6 hr12 had12 hC5 hbx5 hcd5
      have hbx0 := hb6
      clear hb6
      have hC0 := hD0
      clear hD0
      go_wp2_with fail
      generalize w6.alloc (.cells #[.int .i64 s, .int .i64 a, .slice A12 n c12] 32) = x0 at *
      generalize w6.heap.size = B12 at *
      refine wp_region_held_drew (S := (fun w' => w'.cell? ⟨w.heap.size, 0, none⟩ = some (.int .i64 s) ∧ w'.cell? ⟨w.heap.size, 1, none⟩ = some (.int .i64 a) ∧ w'.cell? ⟨w.heap.size, 2, none⟩ = some (.slice A0 n c0) ∧ w'.cell? ⟨B12, 0, none⟩ = some (.int .i64 s) ∧ w'.cell? ⟨B12, 1, none⟩ = some (.int .i64 a) ∧ w'.cell? ⟨B12, 2, none⟩ = some (.slice A12 n c12) ∧ w'.cell? ⟨B12, 0, none⟩ = some (.int .i64 s) ∧ w'.cell? ⟨B12, 1, none⟩ = some (.int .i64 a) ∧ w'.cell? ⟨B12, 2, none⟩ = some (.slice A12 n c12) ∧ (convert 30 9 (.slice A1 N c1)).run Try.prog w' = .ok (.string ⟨CODE.toArray⟩) w' ∧ (convert 30 9 (.slice A1 N c1)).run Try.prog w' = .ok (.string ⟨CODE.toArray⟩) w')) (by kernel_rfl) hC0.drew.S (fun hHeld => ?_)
      refine wpAnyH_take (i := 0) (oi := ?oi0mpp) (v := ?v0mpp) ?hi0mpp (by kernel_rfl) (by kernel_rfl) (by kernel_rfl) ?hq0mpp (Or.inl ⟨?hw0mpp, ?hy0mpp⟩) (by assumption) ?rest0mpp
      case hi0mpp => (simp only [List.getElem?_toArray, List.getElem?_cons_succ, List.getElem?_cons_zero]; rfl)
      case hq0mpp => exact fun _ _ _ h => h
      case hw0mpp => rfl
      case hy0mpp => (intro w hSw; (try dsimp only at hSw); go_simp <;> with_reducible rfl)
      try simp only [Act.put, List.setIfInBounds_toArray, List.set_cons_zero, List.set_cons_succ]
      refine wpAnyH_take (i := 1) (oi := ?oi1mpp) (v := ?v1mpp) ?hi1mpp (by kernel_rfl) (by kernel_rfl) (by kernel_rfl) ?hq1mpp (Or.inl ⟨?hw1mpp, ?hy1mpp⟩) (by assumption) ?rest1mpp
      case hi1mpp => (simp only [List.getElem?_toArray, List.getElem?_cons_succ, List.getElem?_cons_zero]; rfl)
      case hq1mpp => exact fun _ _ _ h => h
      case hw1mpp => rfl
      case hy1mpp => (intro w hSw; (try dsimp only at hSw); go_simp <;> with_reducible rfl)
      try simp only [Act.put, List.setIfInBounds_toArray, List.set_cons_zero, List.set_cons_succ]
      refine wpAnyH_take (i := 2) (oi := ?oi2mpp) (v := ?v2mpp) ?hi2mpp (by kernel_rfl) (by kernel_rfl) (by kernel_rfl) ?hq2mpp (Or.inl ⟨?hw2mpp, ?hy2mpp⟩) (by assumption) ?rest2mpp
      case hi2mpp => (simp only [List.getElem?_toArray, List.getElem?_cons_succ, List.getElem?_cons_zero]; rfl)
      case hq2mpp => exact fun _ _ _ h => h
      case hw2mpp => rfl
      case hy2mpp => (intro w hSw; (try dsimp only at hSw); go_simp <;> with_reducible rfl)
      try simp only [Act.put, List.setIfInBounds_toArray, List.set_cons_zero, List.set_cons_succ]
      refine wpAnyH_ready (rs := [3]) (by kernel_rfl) (by simp) ?_
      refine AllReadyH.cons (o := ?o3mpp) ?hi3mpp (fun K hK => ?st3mpp) AllReadyH.nil
      case hi3mpp => (simp only [List.getElem?_toArray, List.getElem?_cons_succ, List.getElem?_cons_zero]; rfl)
      go_simp
      refine (renc.out _ hC0.drew.r0).mono ?_
      rintro e x1 ⟨hx1, ve, rfl, hoe⟩
      have hx1 : Below x0.drew.heap.size x0.drew x1 := hx1
      have hbx1 := (Below.drew hbx0).trans (hx1.mono (Below.drew hbx0).size)
      have hC1 := hC0.drew.below hx1
      have hS1 := hC1.S
      obtain ⟨Ae, ce, hve, _, _, hre, _⟩ := hoe.form
      rw [hN] at hve hre
      subst hve
      clear hoe
      have hce := run_str _ Ae N ce _ hre
      go_wp2_with fail
      refine hK.out _ _ hS1 (fun hHeld2 => ?_)
      clear hK K hHeld
      have hHeld := hHeld2
      clear hHeld2
      try simp only [Act.put, List.setIfInBounds_toArray, List.set_cons_zero, List.set_cons_succ]
      refine wpAnyH_ready (rs := [4]) (by kernel_rfl) (by simp) ?_
      refine AllReadyH.cons (o := ?o4mpp) ?hi4mpp (fun K hK => ?st4mpp) AllReadyH.nil
      case hi4mpp => (simp only [List.getElem?_toArray, List.getElem?_cons_succ, List.getElem?_cons_zero]; rfl)
      go_simp
      refine hK.out _ _ hS1 (fun hHeld2 => ?_)
      clear hK K hHeld
      have hHeld := hHeld2
      clear hHeld2
      try simp only [Act.put, List.setIfInBounds_toArray, List.set_cons_zero, List.set_cons_succ]
      refine wpAnyH_take (i := 5) (oi := ?oi5mpp) (v := ?v5mpp) ?hi5mpp (by kernel_rfl) (by kernel_rfl) (by kernel_rfl) ?hq5mpp (Or.inl ⟨?hw5mpp, ?hy5mpp⟩) (by assumption) ?rest5mpp
      case hi5mpp => (simp only [List.getElem?_toArray, List.getElem?_cons_succ, List.getElem?_cons_zero]; rfl)
      case hq5mpp => exact fun _ _ _ h => h
      case hw5mpp => rfl
      case hy5mpp => (intro w hSw; (try dsimp only at hSw); go_simp <;> with_reducible rfl)
      try simp only [Act.put, List.setIfInBounds_toArray, List.set_cons_zero, List.set_cons_succ]
      refine wpAnyH_take (i := 6) (oi := ?oi6mpp) (v := ?v6mpp) ?hi6mpp (by kernel_rfl) (by kernel_rfl) (by kernel_rfl) ?hq6mpp (Or.inl ⟨?hw6mpp, ?hy6mpp⟩) (by assumption) ?rest6mpp
      case hi6mpp => (simp only [List.getElem?_toArray, List.getElem?_cons_succ, List.getElem?_cons_zero]; rfl)
      case hq6mpp => exact fun _ _ _ h => h
      case hw6mpp => rfl
      case hy6mpp => (intro w hSw; (try dsimp only at hSw); go_simp <;> with_reducible rfl)
      try simp only [Act.put, List.setIfInBounds_toArray, List.set_cons_zero, List.set_cons_succ]
      refine wpAnyH_take (i := 7) (oi := ?oi7mpp) (v := ?v7mpp) ?hi7mpp (by kernel_rfl) (by kernel_rfl) (by kernel_rfl) ?hq7mpp (Or.inl ⟨?hw7mpp, ?hy7mpp⟩) (by assumption) ?rest7mpp
      case hi7mpp => (simp only [List.getElem?_toArray, List.getElem?_cons_succ, List.getElem?_cons_zero]; rfl)
      case hq7mpp => exact fun _ _ _ h => h
      case hw7mpp => rfl
      case hy7mpp => (intro w hSw; (try dsimp only at hSw); go_simp <;> with_reducible rfl)
      try simp only [Act.put, List.setIfInBounds_toArray, List.set_cons_zero, List.set_cons_succ]
      refine wpAnyH_take (i := 8) (oi := ?oi8mpp) (v := ?v8mpp) ?hi8mpp (by kernel_rfl) (by kernel_rfl) (by kernel_rfl) ?hq8mpp (Or.inl ⟨?hw8mpp, ?hy8mpp⟩) (by assumption) ?rest8mpp
      case hi8mpp => (simp only [List.getElem?_toArray, List.getElem?_cons_succ, List.getElem?_cons_zero]; rfl)
      case hq8mpp => exact fun _ _ _ h => h
      case hw8mpp => rfl
      case hy8mpp => (intro w hSw; (try dsimp only at hSw); go_simp <;> with_reducible rfl)
      try simp only [Act.put, List.setIfInBounds_toArray, List.set_cons_zero, List.set_cons_succ]
      refine wpAnyH_take (i := 9) (oi := ?oi9mpp) (v := ?v9mpp) ?hi9mpp (by kernel_rfl) (by kernel_rfl) (by kernel_rfl) ?hq9mpp (Or.inl ⟨?hw9mpp, ?hy9mpp⟩) (by assumption) ?rest9mpp
      case hi9mpp => (simp only [List.getElem?_toArray, List.getElem?_cons_succ, List.getElem?_cons_zero]; rfl)
      case hq9mpp => exact fun _ _ _ h => h
      case hw9mpp => rfl
      case hy9mpp => (intro w hSw; (try dsimp only at hSw); go_simp <;> with_reducible rfl)
      try simp only [Act.put, List.setIfInBounds_toArray, List.set_cons_zero, List.set_cons_succ]
      refine wpAnyH_take (i := 10) (oi := ?oi10mpp) (v := ?v10mpp) ?hi10mpp (by kernel_rfl) (by kernel_rfl) (by kernel_rfl) ?hq10mpp (Or.inl ⟨?hw10mpp, ?hy10mpp⟩) (by assumption) ?rest10mpp
      case hi10mpp => (simp only [List.getElem?_toArray, List.getElem?_cons_succ, List.getElem?_cons_zero]; rfl)
      case hq10mpp => exact fun _ _ _ h => h
      case hw10mpp => rfl
      case hy10mpp => (intro w hSw; (try dsimp only at hSw); go_simp <;> with_reducible rfl)
      try simp only [Act.put, List.setIfInBounds_toArray, List.set_cons_zero, List.set_cons_succ]
      refine wpAnyH_take (i := 11) (oi := ?oi11mpp) (v := ?v11mpp) ?hi11mpp (by kernel_rfl) (by kernel_rfl) (by kernel_rfl) ?hq11mpp (Or.inl ⟨?hw11mpp, ?hy11mpp⟩) (by assumption) ?rest11mpp
      case hi11mpp => (simp only [List.getElem?_toArray, List.getElem?_cons_succ, List.getElem?_cons_zero]; rfl)
      case hq11mpp => exact fun _ _ _ h => h
      case hw11mpp => rfl
      case hy11mpp => (intro w hSw; (try dsimp only at hSw); go_simp <;> with_reducible rfl)
      try simp only [Act.put, List.setIfInBounds_toArray, List.set_cons_zero, List.set_cons_succ]
      refine wpAnyH_take (i := 12) (oi := ?oi12mpp) (v := ?v12mpp) ?hi12mpp (by kernel_rfl) (by kernel_rfl) (by kernel_rfl) ?hq12mpp (Or.inl ⟨?hw12mpp, ?hy12mpp⟩) (by assumption) ?rest12mpp
      case hi12mpp => (simp only [List.getElem?_toArray, List.getElem?_cons_succ, List.getElem?_cons_zero]; rfl)
      case hq12mpp => exact fun _ _ _ h => h
      case hw12mpp => rfl
      case hy12mpp => (intro w hSw; (try dsimp only at hSw); go_simp <;> with_reducible rfl)
      try simp only [Act.put, List.setIfInBounds_toArray, List.set_cons_zero, List.set_cons_succ]
      refine wpAnyH_ready (rs := [13]) (by kernel_rfl) (by simp) ?_
      refine AllReadyH.cons (o := ?o13mpp) ?hi13mpp (fun K hK => ?st13mpp) AllReadyH.nil
      case hi13mpp => (simp only [List.getElem?_toArray, List.getElem?_cons_succ, List.getElem?_cons_zero]; rfl)
      go_simp
      refine (rsame_any ⟨s, a, body⟩ ⟨s, a, body⟩ A12 A0 n c12 n c0 _ hC1.r8 hC1.r0).mono ?_
      rintro e x2 ⟨rfl, hx2⟩
      have hx2 : Below (x1).heap.size (x1) x2 := hx2
      have hbx2 := hbx1.trans (hx2.mono hbx1.size)
      have hC2 := (hC1).below hx2
      have hS2 := hC2.S
      rw [sameP_self]
      go_wp2_with fail
      refine hK.out _ _ hS2 (fun hHeld2 => ?_)
      clear hK K hHeld
      have hHeld := hHeld2
      clear hHeld2
      try simp only [Act.put, List.setIfInBounds_toArray, List.set_cons_zero, List.set_cons_succ]
      refine wpAnyH_take (i := 14) (oi := ?oi14mpp) (v := ?v14mpp) ?hi14mpp (by kernel_rfl) (by kernel_rfl) (by kernel_rfl) ?hq14mpp (Or.inl ⟨?hw14mpp, ?hy14mpp⟩) (by assumption) ?rest14mpp
      case hi14mpp => (simp only [List.getElem?_toArray, List.getElem?_cons_succ, List.getElem?_cons_zero]; rfl)
      case hq14mpp => exact fun _ _ _ h => h
      case hw14mpp => rfl
      case hy14mpp => (intro w hSw; (try dsimp only at hSw); go_simp <;> with_reducible rfl)
      try simp only [Act.put, List.setIfInBounds_toArray, List.set_cons_zero, List.set_cons_succ]
      refine wpAnyH_take (i := 15) (oi := ?oi15mpp) (v := ?v15mpp) ?hi15mpp (by kernel_rfl) (by kernel_rfl) (by kernel_rfl) ?hq15mpp (Or.inl ⟨?hw15mpp, ?hy15mpp⟩) (by assumption) ?rest15mpp
      case hi15mpp => (simp only [List.getElem?_toArray, List.getElem?_cons_succ, List.getElem?_cons_zero]; rfl)
      case hq15mpp => exact fun _ _ _ h => h
      case hw15mpp => rfl
      case hy15mpp => (intro w hSw; (try dsimp only at hSw); go_simp <;> with_reducible rfl)
      try simp only [Act.put, List.setIfInBounds_toArray, List.set_cons_zero, List.set_cons_succ]
      refine wpAnyH_done (by kernel_rfl) ?_ _
      go_wp2
      go_ret
      exact ⟨by simp, hbx2⟩

namespace linkCodesDone
open Go.ChangeShapes Go.WideShapes Go.ChangeAt
set_option maxRecDepth 100000 in
theorem lifted (os : Os) (started : os.Started) (H : Type) (enc : TypeId × Value → H) :
    ReturnsInHanded {} Try.checked os 6 .any (Rows.linkCodesSpec.pre6 enc Try.prog Try.f6 Rows.linkCodesRow.domain false) (Rows.linkCodesSpec.post enc Try.prog Try.f6 false true false false) := by
  refine returnsInHanded_of_change_sized (C := Try.checked) own started (by kernel_rfl) Try.func6
    (ChangeSpec.witness6 (enc := enc) (C := Try.checked) false ⟨#[], #[Value.agg #[.int .i64 0, .int .i64 0, .slice none 0 0], Value.slice none 0 0], []⟩ 8 (by kernel_rfl) (by kernel_rfl) (by kernel_rfl) (by kernel_rfl)) ?_
  intro W base args ds gs before hval0 hW hcnd hsz0 _
  have hsz : (DataW.weightsEach Try.prog (Try.f6.params.toList ++ Rows.linkCodesSpec.plain.varTypes Try.prog) (ds ++ gs)).all (· ≤ reachBytes) = true := hsz0
  clear hsz0
  have hval : ∀ (j : Nat) t v, Try.f6.params[j]? = some t → args[j]? = some v → Value.okWide Try.prog W .any base t v := hval0
  have hW' := hW
  obtain ⟨p, q, hA0, hV, rfl, hfz, hnd⟩ := hW
  have hA : DataW.TrodAll enc Try.prog W 0 (fun _ => true) true Try.f6.params.toList args.toList ds p := hA0
  rw [Try.params6] at hA hval hsz
  obtain ⟨v0, vs0, d0, ds0, p0, q0, hargs, rfl, rfl, h0, r0⟩ := trodAll_cons hA
  obtain ⟨v1, vs1, d1, ds1, p1, q1, rfl, rfl, rfl, h1, r1⟩ := trodAll_cons r0
  obtain ⟨rfl, rfl, rfl⟩ := trodAll_nil r1
  obtain rfl : args = #[v0, v1] := by cases args; simp_all
  obtain ⟨rfl, rfl⟩ := trodVars_none hV
  obtain ⟨o0, A0, c0, rfl, ho0⟩ := pk_open (hval 0 32 v0 rfl rfl) h0
  have k0' := h0
  have lt0 : ∀ x ∈ p0, x.block < W.heap.size := by obtain ⟨m, hm⟩ := h0; exact DataW.trod_lt m _ _ _ hm
  obtain ⟨a1, len1, cap1, rfl⟩ := okWide_slice Try.underlying30 (hval 1 30 v1 rfl rfl)
  have k1 := h1
  have lt1 : ∀ x ∈ p1, x.block < W.heap.size := by obtain ⟨m, hm⟩ := k1; exact DataW.trod_lt m _ _ _ hm
  obtain ⟨z1, hr1, hc1, hm1, hd1⟩ := bytes_open h1
  have hl1 : cap1 ≤ 140737488351232 := by
    rcases hd1 with ⟨_, h⟩ | ⟨es, sp, rfl, h⟩
    · omega
    · have := sized_slice hsz (j := 1) (t := 30) (e := 5) rfl rfl Try.underlying30
      rw [bytes_u8] at this
      simp only [reachBytes] at this
      omega
  clear hA0 hval0
  refine (linkCodes_walk (w := W) o0 A0 c0 ho0 a1 len1 cap1 z1 hr1 hc1 hm1 hl1).mono fun e W' ⟨he, bel⟩ => ?_
  subst he
  exact ⟨_, rfl, _, _, _, [], _, [], hW', trodAll_mk1 (shut_bool Try.underlying4 _), (trodAll_cons_mk (Below.trod laidOut (by kernel_rfl) (of_decide_eq_true (by kernel_rfl)) k0' bel lt0) (trodAll_cons_mk (Below.trod laidOut (by kernel_rfl) (of_decide_eq_true (by kernel_rfl)) k1 bel lt1) trodAll_mk0)), rfl, bel.frame _, fun h => by cases h⟩

theorem over : Rows.linkCodesRow.holds Try.pinned (OpenSpec.ofChange Rows.linkCodesSpec) :=
  OpenClaim.holds_of_wide 6 Try.f6 rfl rfl rfl rfl rfl rfl rfl ⟨rfl, rfl, rfl, rfl, rfl⟩ rfl rfl rfl rfl rfl (by kernel_rfl) Try.func6 (by kernel_rfl)
    (of_decide_eq_true (by kernel_rfl)) (by unfold Func.isWrapper; first | (rw [if_pos (by decide +kernel)]; kernel_rfl) | (rw [if_neg (by decide +kernel)]; exact ⟨rfl, rfl⟩))
    (fun os started H enc _ => lifted os started H enc)

/-- The statement. -/
theorem proved : Rows.LinkCodesSaid := over
end linkCodesDone
end Go.Proofs.Ytjdphbjpfflheaa
