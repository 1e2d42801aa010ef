/- The document's Unpack of a backlog. No condition but that the bytes lie in memory. -/
import Derived.Test.YtnkekjaljhpmjaaBkV
namespace Go.Proofs.Ytnkekjaljhpmjaa
open Go.RowKit
set_option linter.unusedVariables false
set_option linter.unusedSimpArgs false

theorem decT_step {o : Int} {n : Nat} {l : List Wt} {st : Option (List UInt8)} {x f : Int} {s1 s2 : Option (List UInt8)} (h1 : tnum st 1 topM = (x, s1)) (h2 : tnum s1 0 1 = (f, s2)) :
    (s2 = none → decT o (n + 1) l st = none) ∧ (0 ≤ placeW l x → decT o (n + 1) l st = none) ∧ (s2 ≠ none → ¬ 0 ≤ placeW l x → decT o (n + 1) l st = decT o n (l ++ [⟨x, f == 1⟩]) s2) := by
  cases st with
  | none =>
    cases h1
    cases h2
    exact ⟨fun _ => rfl, fun _ => rfl, fun h => absurd rfl h⟩
  | some s =>
    unfold decT
    try dsimp only
    rw [decR, h1]
    try dsimp only
    cases s1 with
    | none =>
      cases h2
      exact ⟨fun _ => rfl, fun _ => rfl, fun h => absurd rfl h⟩
    | some t1 =>
      try dsimp only
      rw [h2]
      try dsimp only
      cases s2 with
      | none =>
        have hnn : (if 0 ≤ placeW l x then none else (none : Option (List Wt × List UInt8))) = none := by split <;> rfl
        refine ⟨fun _ => ?_, fun _ => ?_, fun h => absurd rfl h⟩
        all_goals rw [show (if 0 ≤ placeW l x then none else match (f, (none : Option (List UInt8))) with | (f, some s2) => decR n (l ++ [⟨x, f == 1⟩]) s2 | (_, none) => none) = none from hnn]
      | some t2 =>
        try dsimp only
        refine ⟨fun h => absurd h (by simp), fun h => ?_, fun _ h => ?_⟩
        · rw [if_pos h]
        · rw [if_neg h]
/-- Where the taker's bytes lie, if any are left. -/
def Low (K : Nat) (A : Option Addr) (l : List UInt8) : Prop := 0 < l.length → ∀ ad, A = some ad → ad.block < K
theorem Low.next {K : Nat} {A A' : Option Addr} {l l' : List UInt8} (h : Low K A l) (hs : SameBlock A A') (hn : l'.length ≤ l.length) : Low K A' l' := fun hl ad e => by
  obtain ⟨a0, h0, e0⟩ := hs ad e
  rw [e0]
  exact h (by omega) a0 h0
theorem TK.keptF {F : Nat → Prop} {t : TypeId} {K : Nat} {w w' : World} {g : Nat} {A : Option Addr} {c : Nat} {l : List UInt8} {bad : Bool} (h : TK t w g A c l bad) (k : Keep F w w') (hF : ∀ i, F i → K ≤ i) (hg : ¬ F g) (hU : Low K A l) : TK t w' g A c l bad :=
  TK.kept' h k hg (fun hl ad e e2 => by
    have := hF _ e2
    have := hU hl ad e
    omega)
theorem QR.one {w : World} {g : Nat} {x : Int} {b : Bool} (h : Blk w g 62 #[.int .i64 x, .bool b]) : QR w (some ⟨g, 0, none⟩) 1 [⟨x, b⟩] := by
  have h0 := h.cell 0
  have h1 := h.cell 1
  simp at h0 h1
  refine ⟨rfl, fun j y hy => ?_⟩
  cases j with
  | zero =>
    cases hy
    exact ⟨g, 0, rfl, h0, h1⟩
  | succ j => simp at hy
/-- What the document's Unpack answers. -/
def RUnpackPost (w : World) (r : Option (List Wt × Int)) (e : Ending) (w' : World) : Prop :=
  Below w.heap.size w w' ∧ ((r = none ∧ e = .returned (.tuple #[.pointer none, .bool false])) ∨ ∃ l o p, r = some (l, o) ∧ e = .returned (.tuple #[.pointer (some ⟨p, 0, none⟩), .bool true]) ∧ QK (fun k => w.heap.size ≤ k) w' p l o)
set_option maxRecDepth 100000 in
set_option maxHeartbeats 3200000 in
theorem runpack_any (A : Option Addr) (n c : Nat) (s : List UInt8) (w : World) (hr : RB w A n s) (hnc : n ≤ c) (hc : c ≤ maxLen) (hA : Low w.heap.size A s) :
    Calls Try.prog 31 #[.slice A n c] w (RUnpackPost w (decB s)) := by
  have hdec : decB s = decT (tnum (some s) 0 topM).1 (tnum (tnum (some s) 0 topM).2 0 256).1.toNat [] (tnum (tnum (some s) 0 topM).2 0 256).2 := rfl
  obtain ⟨r, hrd⟩ : ∃ r, decB s = r := ⟨_, rfl⟩
  rw [hrd] at hdec ⊢
  have hB0 := Blk.new w 87 #[.slice A n c, .bool false]
  have hb0 := (Below.refl w.heap.size w).alloc (Nat.le_refl _) (.cells #[.slice A n c, .bool false] 87)
  have hT0 : TK 87 (w.alloc (.cells #[.slice A n c, .bool false] 87)) w.heap.size A c s false := by
    have hl := hr.1
    subst hl
    exact ⟨hB0, hr.alloc _, ⟨hnc, by unfold maxLen at hc; omega⟩, fun hl ad e e2 => by have := hA hl ad e; omega⟩
  obtain ⟨tg, htg⟩ : ∃ g, w.heap.size = g := ⟨_, rfl⟩
  rw [htg] at hT0 hA hb0
  clear hB0 hr hrd
  obtain ⟨o, hgo⟩ : ∃ x, (tnum (some s) 0 topM).1 = x := ⟨_, rfl⟩
  obtain ⟨st1, hst1⟩ : ∃ x, (tnum (some s) 0 topM).2 = x := ⟨_, rfl⟩
  rw [hgo, hst1] at hdec
  have htn := rtnum_any _ tg A c s false 0 topM hT0
  rw [show rst s false = some s from rfl, hgo, hst1] at htn
  clear hgo hst1
  unfold topM at htn
  replace hdec := Lib.hid hdec
  go_enter Try.func31, Try.ntmps31
  go_wp2_with fail
  refine htn.mono ?_
  rintro e w1 ⟨A1, c1, l1, bad1, rfl, hT1, hr1, hk1, hsb1, hl1⟩
  have hA1 := hA.next hsb1 hl1
  have hb1 := hb0.trans (hk1.below (B := tg) (by have := hb0.size; omega) (fun i hi e => by omega))
  have htl1 := hT1.blk.lt
  clear htn hT0 hk1 hsb1 hl1 hA hb0
  have hB2 := Blk.new w1 28 #[.slice none 0 0, .int .i64 o]
  have hb2 := hb1.alloc (by have := hb1.size; omega) (.cells #[.slice none 0 0, .int .i64 o] 28)
  have hV2 : QV (fun i => tg < i) (w1.alloc (.cells #[.slice none 0 0, .int .i64 o] 28)) w1.heap.size (.slice none 0 0) [] o := ⟨hB2, QO.nil _ _, by simp [Value.ownBlock], htl1, fun g hg => by simp [Value.ownBlock] at hg⟩
  have hT2 := hT1.below ((Below.refl w1.heap.size w1).alloc (Nat.le_refl _) (.cells #[.slice none 0 0, .int .i64 o] 28))
  obtain ⟨pb, hpb⟩ : ∃ g, w1.heap.size = g := ⟨_, rfl⟩
  rw [hpb] at hV2
  obtain ⟨nI, hnI⟩ : ∃ x, (tnum st1 0 256).1 = x := ⟨_, rfl⟩
  obtain ⟨st2, hst2⟩ : ∃ x, (tnum st1 0 256).2 = x := ⟨_, rfl⟩
  have hrg2 := tnum_range (st := st1) (a := 0) (b := 256) (by decide) (by decide)
  rw [hnI] at hrg2
  replace hdec := hdec.out
  rw [hnI, hst2] at hdec
  replace hdec := Lib.hid hdec
  have htn := rtnum_any _ tg A1 c1 l1 bad1 0 256 hT2
  rw [hr1, hnI, hst2] at htn
  clear hnI hst2 hT1 hb1 hB2
  go_wp2_with fail
  refine htn.mono ?_
  rintro e w3 ⟨A3, c3, l3, bad3, rfl, hT3, hr3, hk3, hsb3, hl3⟩
  have hA3 := hA1.next hsb3 hl3
  have hK3 : QK (fun i => tg < i) w3 pb [] o := ⟨_, hV2.kept hk3 (fun i hi e => by omega)⟩
  have hb3 := hb2.trans (hk3.below (B := tg) (by have := hb2.size; omega) (fun i hi e => by omega))
  clear htn hT2 hk3 hsb3 hl3 hA1 hb2 hV2 hpb
  replace hdec := hdec.out
  rw [← hr3] at hdec
  obtain ⟨N, hN⟩ : ∃ N, nI.toNat = N := ⟨_, rfl⟩
  have hNI : nI = (N : Int) := by omega
  subst hNI
  rw [hN] at hdec
  have hDEC := Lib.hid hdec
  clear hdec hN
  go_wp2
  go_loopw [7] (fun i wr => ∃ (k : Nat) (l : List Wt) (l' : List UInt8) (bad : Bool) (A' : Option Addr) (c' : Nat), i = .int .i64 (k : Int) ∧ k ≤ N ∧ l.length = k ∧ QK (fun i => tg < i) wr pb l o ∧ TK 87 wr tg A' c' l' bad ∧ Low tg A' l' ∧ Below tg w wr ∧ Hid (r = decT o (N - k) l (rst l' bad))) (fun i _ => N - (intOf i).toNat)
  case atStart => exact ⟨0, [], l3, bad3, A3, c3, by go_num, by omega, rfl, hK3, hT3, hA3, hb3, hDEC⟩
  case round =>
    obtain ⟨k, l, l', bad, A6, c6, rfl, hk, hlk, hK, hT, hA, hb, hD⟩ := hrel
    clear hK3 hT3 hA3 hb3 hDEC hr3 hr1
    have t0 := hT.blk.cell 0
    have t1 := hT.blk.cell 1
    simp at t0 t1
    by_cases hbad : bad = true
    · as_aux_lemma =>
      subst hbad
      have HR := Lib.hid (show r = none from hD.out.trans (show decT o (N - k) l none = none from rfl))
      go_wp2
      all_goals refine bodyPost_ret (v := .tuple #[.pointer none, .bool false]) (by simp [results, Try.results31, go_sem]) rfl ⟨by rw [htg]; exact hb, .inl ⟨HR.out, rfl⟩⟩
    have hb0 : bad = false := by cases bad; rfl; exact absurd rfl hbad
    subst hb0
    clear hbad
    by_cases hlt : k < N
    · as_aux_lemma =>
      have hlz : (k : Int) < (N : Int) := by omega
      obtain ⟨x, hx⟩ : ∃ x, (tnum (some l') 1 topM).1 = x := ⟨_, rfl⟩
      obtain ⟨st7, hst7⟩ : ∃ x, (tnum (some l') 1 topM).2 = x := ⟨_, rfl⟩
      obtain ⟨fn, hfn⟩ : ∃ x, (tnum st7 0 1).1 = x := ⟨_, rfl⟩
      obtain ⟨st8, hst8⟩ : ∃ x, (tnum st7 0 1).2 = x := ⟨_, rfl⟩
      have hds := decT_step (o := o) (n := N - (k + 1)) (l := l) (show tnum (some l') 1 topM = (x, st7) by rw [← hx, ← hst7]) (show tnum st7 0 1 = (fn, st8) by rw [← hfn, ← hst8])
      rw [show N - (k + 1) + 1 = N - k by omega, show decT o (N - k) l (some l') = r from hD.out.symm] at hds
      have hDS := Lib.hid hds
      clear hds hD
      have htn := rtnum_any _ tg A6 c6 l' false 1 topM hT
      rw [show rst l' false = some l' from rfl, hx, hst7] at htn
      unfold topM at htn
      clear hx hst7
      go_wp2_with fail
      refine htn.mono ?_
      rintro e w7 ⟨A7, c7, l7, bad7, rfl, hT7, hr7, hk7, hsb7, hl7⟩
      have hA7 := hA.next hsb7 hl7
      have hK7 := hK.kept hk7 (fun i hi e => by omega)
      have hb7 := hb.trans (hk7.below (B := tg) (by have := hb.size; omega) (fun i hi e => by omega))
      clear htn hk7 hT hb hsb7 hl7 hA hK t0 t1
      have hB8 := Blk.new w7 62 #[.int .i64 x, .bool false]
      have hal := (Below.refl w7.heap.size w7).alloc (Nat.le_refl _) (.cells #[.int .i64 x, .bool false] 62)
      have hb8 := hb7.alloc (by have := hb7.size; omega) (.cells #[.int .i64 x, .bool false] 62)
      have hT8 := hT7.below hal
      have hK8 := (hK7.mono (G := fun i => tg < i ∧ i < w7.heap.size) fun i hi e => ⟨e, hi⟩).below hal
      have htl7 := hT7.blk.lt
      have hpl7 := hK7.lt
      obtain ⟨q, hq⟩ : ∃ g, w7.heap.size = g := ⟨_, rfl⟩
      rw [hq] at hB8 hK8 htl7 hpl7
      have htf := rtflag_any _ tg A7 c7 l7 bad7 hT8
      rw [hr7, hfn, hst8] at htf
      obtain ⟨fl, hfl⟩ : ∃ b, (fn == 1) = b := ⟨_, rfl⟩
      rw [hfl] at htf hDS
      clear hfn hst8 hfl hT7 hb7 hal hK7 hr7
      go_wp2_with fail
      refine htf.mono ?_
      rintro e w9 ⟨A9, c9, l9, bad9, rfl, hT9, hr9, hk9, hsb9, hl9⟩
      have hA9 := hA7.next hsb9 hl9
      have hB9 := hB8.kept hk9 (show ¬ q = tg by omega)
      have hK9 := hK8.kept hk9 (fun i hi e => by omega)
      have hb9 := hb8.trans (hk9.below (B := tg) (by have := hb8.size; omega) (fun i hi e => by omega))
      clear htf hk9 hT8 hb8 hB8 hK8 hsb9 hl9 hA7
      have f9 := hB9.frozen 1
      have q91 := hB9.cell 1
      simp at q91
      have hql := hB9.lt
      have hpc := hB9.set_ 1 (.bool fl)
      simp at hpc
      have kq : Keep (fun k => k = q) w9 (w9.setCell ⟨q, 1, none⟩ (.bool fl)) := (Keep.refl (fun k => k = q) w9).setCell (p := ⟨q, 1, none⟩) (fun _ => rfl) _
      have hT10 := hT9.keptF (F := fun i => i = q) (K := tg) kq (fun i e => by omega) (by omega) hA9
      have hK10 := hK9.kept kq (fun i hi e => by omega)
      have hb10 := hb9.trans (kq.below (B := tg) (by have := hb9.size; omega) (fun i hi e => by omega))
      have r0 := hpc.cell 0
      have r1 := hpc.cell 1
      simp at r0 r1
      have t0 := hT10.blk.cell 0
      have t1 := hT10.blk.cell 1
      simp at t0 t1
      have hb9w := by have := hb9.size; exact this
      clear hT9 hK9 hb9 hB9 kq
      cases bad9 with
      | true =>
        have HR := Lib.hid (hDS.out.1 (by rw [← hr9]; rfl))
        clear hDS hr9
        go_wp2
        refine bodyPost_ret (v := .tuple #[.pointer none, .bool false]) (by simp [results, Try.results31, go_sem]) rfl ⟨by rw [htg]; exact hb10, .inl ⟨HR.out, rfl⟩⟩
      | false =>
        have hpla := rplace_any x hK10 (by omega)
        obtain ⟨Pl, hPl⟩ : ∃ P, placeW l x = P := ⟨_, rfl⟩
        rw [hPl] at hpla hDS
        by_cases hp0 : 0 ≤ Pl
        · have hpd : decide (0 ≤ Pl) = true := decide_eq_true hp0
          have HR := Lib.hid (hDS.out.2.1 hp0)
          clear hDS hr9 hPl
          go_wp2_with fail
          refine hpla.mono ?_
          rintro e w' ⟨rfl, hww⟩
          subst hww
          clear hpla
          go_wp2
          refine bodyPost_ret (v := .tuple #[.pointer none, .bool false]) (by simp [results, Try.results31, go_sem]) rfl ⟨by rw [htg]; exact hb10, .inl ⟨HR.out, rfl⟩⟩
        · have hpd : decide (0 ≤ Pl) = false := decide_eq_false hp0
          have HD := Lib.hid ((hDS.out.2.2 (by rw [← hr9]; simp [rst]) (by omega)).trans (by rw [← hr9]))
          clear hDS hPl hp0
          go_wp2_with fail
          refine hpla.mono ?_
          rintro e w' ⟨rfl, hww⟩
          subst hww
          clear hpla
          go_wp2
          obtain ⟨W10, hW10⟩ : ∃ W, w9.setCell ⟨q, 1, none⟩ (.bool fl) = W := ⟨_, rfl⟩
          rw [hW10] at hT10 hK10 hb10 r0 r1 t0 t1 ⊢
          clear hW10 hpc f9 hql q91 hb9w
          obtain ⟨v10, hV10⟩ := hK10
          obtain ⟨Aq, cq, rfl, hfm⟩ := hV10.own.form
          clear hfm
          rw [hlk] at hV10
          have hVd := hV10.drew
          have hbd := (Below.refl W10.heap.size W10).drew
          have hS11 : ∀ W, Below W10.heap.size W10 W → W.cell? ⟨pb, 0, none⟩ = some (.slice Aq k cq) ∧ W.cell? ⟨q, 0, none⟩ = some (.int .i64 x) ∧ W.cell? ⟨q, 1, none⟩ = some (.bool fl) := fun W hb => ⟨(hV10.below hb).fields.1, (hb.cell (World.block_lt_of_cell? _ _ r0)).trans r0, (hb.cell (World.block_lt_of_cell? _ _ r1)).trans r1⟩
          have hS10 := hS11 _ hbd
          have hneP : ¬ (Value.slice Aq k cq).ownBlock = some pb := hV10.ne
          have hneQ : ¬ (Value.slice Aq k cq).ownBlock = some q := fun e => by have := (hV10.fv q e).2; omega
          have hll : (l.length + 1) * 16 ≤ 140737488355328 := by omega
          have hplW := hV10.pc.lt
          have htgW := hb10.size
          have htp : tg < pb := hV10.fp.1
          refine wp_region_z (S := (fun W => W.cell? ⟨pb, 0, none⟩ = some (.slice Aq k cq) ∧ W.cell? ⟨q, 0, none⟩ = some (.int .i64 x) ∧ W.cell? ⟨q, 1, none⟩ = some (.bool fl))) 10 (by kernel_rfl) hS10 (fun hHeld => ?_)
          refine wpAnyZ_take (i := 0) (oi := ?oi0b) (u := ?v0b) ?hi0b (by kernel_rfl) (by decide) (by kernel_rfl) (by kernel_rfl) (by kernel_rfl) ?hq0b (Or.inl ⟨?hw0b, ?hy0b⟩) (by assumption) ?rest0b
          case hi0b => (simp only [List.getElem?_toArray, List.getElem?_cons_succ, List.getElem?_cons_zero]; rfl)
          case hq0b => exact fun _ _ _ h => h
          case hw0b => rfl
          case hy0b => (intro w hSw; (try dsimp only at hSw); go_simp <;> with_reducible rfl)
          try simp only [Act.put, List.setIfInBounds_toArray, List.set_cons_zero, List.set_cons_succ]
          refine wpAnyZ_take (i := 1) (oi := ?oi1b) (u := ?v1b) ?hi1b (by kernel_rfl) (by decide) (by kernel_rfl) (by kernel_rfl) (by kernel_rfl) ?hq1b (Or.inl ⟨?hw1b, ?hy1b⟩) (by assumption) ?rest1b
          case hi1b => (simp only [List.getElem?_toArray, List.getElem?_cons_succ, List.getElem?_cons_zero]; rfl)
          case hq1b => exact fun _ _ _ h => h
          case hw1b => rfl
          case hy1b => (intro w hSw; (try dsimp only at hSw); go_simp <;> with_reducible rfl)
          try simp only [Act.put, List.setIfInBounds_toArray, List.set_cons_zero, List.set_cons_succ]
          refine wpAnyZ_take (i := 2) (oi := ?oi2b) (u := ?v2b) ?hi2b (by kernel_rfl) (by decide) (by kernel_rfl) (by kernel_rfl) (by kernel_rfl) ?hq2b (Or.inl ⟨?hw2b, ?hy2b⟩) (by assumption) ?rest2b
          case hi2b => (simp only [List.getElem?_toArray, List.getElem?_cons_succ, List.getElem?_cons_zero]; rfl)
          case hq2b => exact fun _ _ _ h => h
          case hw2b => rfl
          case hy2b => (intro w hSw; (try dsimp only at hSw); go_simp <;> with_reducible rfl)
          try simp only [Act.put, List.setIfInBounds_toArray, List.set_cons_zero, List.set_cons_succ]
          refine wpAnyZ_take (i := 3) (oi := ?oi3b) (u := ?v3b) ?hi3b (by kernel_rfl) (by decide) (by kernel_rfl) (by kernel_rfl) (by kernel_rfl) ?hq3b (Or.inl ⟨?hw3b, ?hy3b⟩) (by assumption) ?rest3b
          case hi3b => (simp only [List.getElem?_toArray, List.getElem?_cons_succ, List.getElem?_cons_zero]; rfl)
          case hq3b => exact fun _ _ _ h => h
          case hw3b => rfl
          case hy3b => (intro w hSw; (try dsimp only at hSw); go_simp <;> with_reducible rfl)
          try simp only [Act.put, List.setIfInBounds_toArray, List.set_cons_zero, List.set_cons_succ]
          refine wpAnyZ_take (i := 4) (oi := ?oi4b) (u := ?v4b) ?hi4b (by kernel_rfl) (by decide) (by kernel_rfl) (by kernel_rfl) (by kernel_rfl) ?hq4b (Or.inl ⟨?hw4b, ?hy4b⟩) (by assumption) ?rest4b
          case hi4b => (simp only [List.getElem?_toArray, List.getElem?_cons_succ, List.getElem?_cons_zero]; rfl)
          case hq4b => exact fun _ _ _ h => h
          case hw4b => rfl
          case hy4b => (intro w hSw; (try dsimp only at hSw); go_simp <;> with_reducible rfl)
          try simp only [Act.put, List.setIfInBounds_toArray, List.set_cons_zero, List.set_cons_succ]
          refine wpAnyZ_take (i := 5) (oi := ?oi5b) (u := ?v5b) ?hi5b (by kernel_rfl) (by decide) (by kernel_rfl) (by kernel_rfl) (by kernel_rfl) ?hq5b (Or.inl ⟨?hw5b, ?hy5b⟩) (by assumption) ?rest5b
          case hi5b => (simp only [List.getElem?_toArray, List.getElem?_cons_succ, List.getElem?_cons_zero]; rfl)
          case hq5b => exact fun _ _ _ h => h
          case hw5b => rfl
          case hy5b => (intro w hSw; (try dsimp only at hSw); go_simp <;> with_reducible rfl)
          try simp only [Act.put, List.setIfInBounds_toArray, List.set_cons_zero, List.set_cons_succ]
          refine wpAnyZ_one (i := 6) (o := ?o6b) (by kernel_rfl) ?hi6b (fun K hK => ?st6b)
          case hi6b => (simp only [List.getElem?_toArray, List.getElem?_cons_succ, List.getElem?_cons_zero]; rfl)
          go_simp
          have hb11 := hbd.alloc hbd.size (.cells #[.int .i64 x, .bool fl] 62)
          have hb11' := (Below.refl W10.drew.heap.size W10.drew).alloc (Nat.le_refl _) (.cells #[.int .i64 x, .bool fl] 62)
          have hn11 := Blk.new W10.drew 62 #[.int .i64 x, .bool fl]
          have s11 := hS11 _ hb11
          have hO11 := hVd.own.alloc (.cells #[.int .i64 x, .bool fl] 62)
          refine hK.out _ _ (fun _ => s11) (fun hHeld2 => ?_)
          clear hK K hHeld
          have hHeld := hHeld2 (by decide)
          clear hHeld2
          try simp only [Act.put, List.setIfInBounds_toArray, List.set_cons_zero, List.set_cons_succ]
          refine wpAnyZ_one (i := 7) (o := ?o7b) (by kernel_rfl) ?hi7b (fun K hK => ?st7b)
          case hi7b => (simp only [List.getElem?_toArray, List.getElem?_cons_succ, List.getElem?_cons_zero]; rfl)
          rw [if_pos (by rfl)]
          refine wp_appQOn (.tmp 52) (.tmp 54) rfl 0 (.slice Aq k cq) l rfl hO11 (some ⟨W10.drew.heap.size, 0, none⟩) 1 1 rfl [⟨x, fl⟩] (QR.one hn11) (.inr ⟨_, 0, rfl⟩) (by omega) (Nat.zero_le _) ?_
          intro v12 w12 hO12 hK12 e12
          change _ ∨ _ = some (W10.drew.alloc (.cells #[.int .i64 x, .bool fl] 62)).heap.size at e12
          change Keep _ (W10.drew.alloc (.cells #[.int .i64 x, .bool fl] 62)) w12 at hK12
          have s12 := And.intro (hK12.cell s11.1 hneP) (And.intro (hK12.cell s11.2.1 hneQ) (hK12.cell s11.2.2 hneQ))
          obtain ⟨A12, c12, rfl, hx12⟩ := hO12.form
          clear hx12
          refine hK.out _ _ (fun _ => s12) (fun hHeld2 => ?_)
          clear hK K hHeld
          have hHeld := hHeld2 (by decide)
          clear hHeld2
          try simp only [Act.put, List.setIfInBounds_toArray, List.set_cons_zero, List.set_cons_succ]
          refine wpAnyZ_one (i := 8) (o := ?o8b) (by kernel_rfl) ?hi8b (fun K hK => ?st8b)
          case hi8b => (simp only [List.getElem?_toArray, List.getElem?_cons_succ, List.getElem?_cons_zero]; rfl)
          go_simp
          refine hK.out _ _ (fun _ => s12) (fun hHeld2 => ?_)
          clear hK K hHeld
          have hHeld := hHeld2 (by decide)
          clear hHeld2
          try simp only [Act.put, List.setIfInBounds_toArray, List.set_cons_zero, List.set_cons_succ]
          refine wpAnyZ_take (i := 9) (oi := ?oi9b) (u := ?v9b) ?hi9b (by kernel_rfl) (by decide) (by kernel_rfl) (by kernel_rfl) (by kernel_rfl) ?hq9b (Or.inl ⟨?hw9b, ?hy9b⟩) (by assumption) ?rest9b
          case hi9b => (simp only [List.getElem?_toArray, List.getElem?_cons_succ, List.getElem?_cons_zero]; rfl)
          case hq9b => exact fun _ _ _ h => h
          case hw9b => rfl
          case hy9b => (intro w hSw; (try dsimp only at hSw); go_simp <;> with_reducible rfl)
          try simp only [Act.put, List.setIfInBounds_toArray, List.set_cons_zero, List.set_cons_succ]
          refine wpAnyZ_one (i := 10) (o := ?o10b) (by kernel_rfl) ?hi10b (fun K hK => ?st10b)
          case hi10b => (simp only [List.getElem?_toArray, List.getElem?_cons_succ, List.getElem?_cons_zero]; rfl)
          have hpc12 := (hVd.pc.alloc (.cells #[.int .i64 x, .bool fl] 62)).kept hK12 hneP
          have f12 := hpc12.frozen 0
          have hpl12 := hpc12.lt
          have q12 := hpc12.cell 0
          simp at q12
          go_simp
          refine hK.out _ _ (fun h => absurd rfl h) (fun hHeld2 => ?_)
          clear hK K hHeld
          clear hHeld2
          try simp only [Act.put, List.setIfInBounds_toArray, List.set_cons_zero, List.set_cons_succ]
          refine wpAnyZ_done (by kernel_rfl) ?_ _
          have hpcE := hpc12.set_ 0 (.slice A12 (l ++ [(⟨x, fl⟩ : Wt)]).length c12)
          simp only [List.setIfInBounds_toArray, List.set_cons_zero] at hpcE
          have kp : Keep (fun k => k = pb) w12 (w12.setCell ⟨pb, 0, none⟩ (.slice A12 (l ++ [(⟨x, fl⟩ : Wt)]).length c12)) := (Keep.refl (fun k => k = pb) w12).setCell (p := ⟨pb, 0, none⟩) (fun _ => rfl) _
          have hneE : (Value.slice A12 (l ++ [(⟨x, fl⟩ : Wt)]).length c12).ownBlock ≠ some pb := by
            rcases e12 with e | e
            · rw [e]; exact hV10.ne
            · rw [e]; exact fun h => by injection h with h; have := hb11.size; omega
          have hKE : QK (fun i => tg < i) (w12.setCell ⟨pb, 0, none⟩ (.slice A12 (l ++ [(⟨x, fl⟩ : Wt)]).length c12)) pb (l ++ [⟨x, fl⟩]) o := ⟨_, hpcE, hO12.kept kp (fun g hg e => hneE (by rw [hg, e])), hneE, hV10.fp.1, fun g hg => by
            rcases e12 with e | e
            · rw [e] at hg; exact (hV10.fv g hg).1
            · rw [e] at hg; injection hg with hg; have := hb11.size; omega⟩
          have hT11 := TK.below (w := W10.drew) ⟨hT10.blk, hT10.rd, hT10.cap, hT10.apart⟩ hb11'
          have hT12 := hT11.keptF (K := tg) hK12 (fun i e => by have := (hV10.fv i e).1; omega) (fun e => by have := (hV10.fv tg e).1; omega) hA9
          have hTE := hT12.keptF (K := tg) kp (fun i e => by omega) (by omega) hA9
          have hbE := (hb10.trans (hb11.mono (show tg ≤ W10.heap.size by omega))).trans (hK12.below (B := tg) (by have := hb11.size; omega) (fun i hi e => by have := (hV10.fv i e).1; omega))
          have hbF := hbE.trans (kp.below (B := tg) (by have := hbE.size; omega) (fun i hi e => by omega))
          have hlE : (l ++ [(⟨x, fl⟩ : Wt)]).length = k + 1 := by rw [List.length_append, hlk]; rfl
          clear hT10 hT11 hT12 hV10 hVd hbd hb11 hb11' hn11 hO11 hO12 hK12 s11 s12 hS11 hS10 hpc12 hpcE f12 hpl12 q12 r0 r1 t0 t1 kp hbE e12 hneE hr9 hb10
          rw [hlE] at hKE hTE hbF
          go_wp2
          go_roundw
          case measure => simp [intOf]; omega
          case rel => exact ⟨k + 1, _, l9, false, A9, c9, by go_num, by omega, hlE, hKE, hTE, hA9, hbF, HD⟩
    · as_aux_lemma =>
      have hlz : ¬ (k : Int) < (N : Int) := by omega
      have hkn : k = N := by omega
      have hde := decT_end o l (some l')
      have hre : r = if some l' = some [] ∧ outOK l o = true then some (l, o) else none := by
        rw [hD.out, show N - k = 0 by omega]
        exact hde
      have HRE := Lib.hid hre
      clear hde hre hD
      by_cases hl0 : l' = []
      · subst hl0
        have t0 : wr.cell? ⟨tg, 0, none⟩ = some (.slice A6 0 c6) := t0
        have hpla := rplace_any o hK (by omega)
        have hKF : QK (fun i => w.heap.size ≤ i) wr pb l o := hK.mono fun i _ e => by omega
        obtain ⟨v, hV⟩ := hK
        obtain ⟨q0, q1⟩ := hV.fields
        by_cases ho : o = 0
        · have hne : (o != 0) = false := by simp [ho]
          have HR := Lib.hid (show r = some (l, o) by rw [HRE.out, if_pos ⟨rfl, by unfold outOK; rw [if_pos ho]⟩])
          clear HRE ho hpla
          go_wp2
          refine bodyPost_ret (v := .tuple #[.pointer (some ⟨pb, 0, none⟩), .bool true]) (by simp [results, Try.results31, go_sem]) rfl ⟨by rw [htg]; exact hb, .inr ⟨l, o, pb, HR.out, rfl, hKF⟩⟩
        · have hne : (o != 0) = true := by simp [ho]
          obtain ⟨Aq, cq, rfl, hfm⟩ := hV.own.form
          clear hfm
          rcases idx_cases (fun x => decide (x.k = o)) l with ⟨hn, _⟩ | ⟨i, x, hix, hx, hr, hil, hfi⟩
          · have hpl : placeW l o = -1 := hn
            rw [hpl] at hpla
            have hout : outOK l o = false := by
              unfold outOK
              rw [if_neg ho]
              have h2 : ∀ x ∈ l, x.k ≠ o := place_none.1 hpl
              have h3 : (l.findIdx fun x => decide (x.k = o)) = l.length := List.findIdx_eq_length.2 fun x hx => by simpa using h2 x hx
              rw [h3, List.getElem?_eq_none (Nat.le_refl _)]
            have HR := Lib.hid (show r = none by rw [HRE.out, if_neg (by rw [hout]; simp)])
            clear HRE ho hpl hn hout
            go_wp2_with fail
            refine hpla.mono ?_
            rintro e w' ⟨rfl, hww⟩
            subst hww
            clear hpla
            go_wp2
            refine bodyPost_ret (v := .tuple #[.pointer none, .bool false]) (by simp [results, Try.results31, go_sem]) rfl ⟨by rw [htg]; exact hb, .inl ⟨HR.out, rfl⟩⟩
          · have hpl : placeW l o = (i : Int) := hix
            rw [hpl] at hpla
            obtain ⟨xk, xr⟩ := x
            have hout : outOK l o = !xr := by
              unfold outOK
              rw [if_neg ho, hfi, hx]
            have hi0 : decide ((i : Int) < 0) = false := decide_eq_false (by omega)
            have hi1 : (0 : Int) ≤ (i : Int) := by omega
            have hi2 : (i : Int) < (l.length : Int) := by omega
            obtain ⟨g, y, rfl, hy, c0, c1⟩ := hV.own.place hil
            rw [hx] at hy
            cases hy
            dsimp only at c0 c1
            cases xr with
            | true =>
              have HR := Lib.hid (show r = none by rw [HRE.out, if_neg (by rw [hout]; simp)])
              clear HRE ho hpl hix hfi hr hout hx
              go_wp2_with fail
              refine hpla.mono ?_
              rintro e w' ⟨rfl, hww⟩
              subst hww
              clear hpla
              go_wp2
              refine bodyPost_ret (v := .tuple #[.pointer none, .bool false]) (by simp [results, Try.results31, go_sem]) rfl ⟨by rw [htg]; exact hb, .inl ⟨HR.out, rfl⟩⟩
            | false =>
              have HR := Lib.hid (show r = some (l, o) by rw [HRE.out, if_pos ⟨rfl, by rw [hout]; rfl⟩])
              clear HRE ho hpl hix hfi hr hout hx
              go_wp2_with fail
              refine hpla.mono ?_
              rintro e w' ⟨rfl, hww⟩
              subst hww
              clear hpla
              go_wp2
              refine bodyPost_ret (v := .tuple #[.pointer (some ⟨pb, 0, none⟩), .bool true]) (by simp [results, Try.results31, go_sem]) rfl ⟨by rw [htg]; exact hb, .inr ⟨l, o, pb, HR.out, rfl, hKF⟩⟩
      · have hlp : 0 < l'.length := List.length_pos_iff.2 hl0
        have hlI : (0 : Int) < (l'.length : Int) := by omega
        have HR := Lib.hid (show r = none by rw [HRE.out, if_neg (fun h => hl0 (Option.some.inj h.1))])
        clear HRE hl0
        go_wp2
        refine bodyPost_ret (v := .tuple #[.pointer none, .bool false]) (by simp [results, Try.results31, go_sem]) rfl ⟨by rw [htg]; exact hb, .inl ⟨HR.out, rfl⟩⟩
end Go.Proofs.Ytnkekjaljhpmjaa
