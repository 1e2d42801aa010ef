/- The contracts of the document's taker. No condition. -/
import Derived.Test.YtfpcnenohidfpaaGreatRef
namespace Go.Proofs.YtfpcnenohidfpaaGreat
open Go.RowKit
set_option linter.unusedVariables false

def RTPost (w : World) (g : Nat) (A : Option Addr) (n : Nat) (st : Option (List UInt8)) (v : Value) (e : Ending) (w' : World) : Prop :=
  ∃ A' c' l' bad', e = .returned v ∧ TK 54 w' g A' c' l' bad' ∧ rst l' bad' = st ∧ Keep (fun k => k = g) w w' ∧ SameBlock A A' ∧ l'.length ≤ n

theorem TK.setBad {t : TypeId} {w : World} {g : Nat} {A : Option Addr} {c : Nat} {l : List UInt8} {bad : Bool} (h : TK t w g A c l bad) : TK t (w.setCell ⟨g, 1, none⟩ (.bool true)) g A c l true :=
  ⟨by simpa using h.blk.set_ 1 (.bool true), h.rd.kept' ((Keep.refl (fun k => k = g) w).setCell (p := ⟨g, 1, none⟩) (fun _ => rfl) (.bool true)) fun hp ad had he => h.apart hp ad had he, h.cap, h.apart⟩
theorem TK.cut_ {t : TypeId} {w : World} {g : Nat} {A : Option Addr} {c : Nat} {l : List UInt8} {bad : Bool} (h : TK t w g A c l bad) (k : Nat) (hk : k ≤ l.length) :
    TK t (w.setCell ⟨g, 0, none⟩ (.slice (subA A c k) (l.length - k) (c - k))) g (subA A c k) (c - k) (l.drop k) bad := by
  have hl : (l.drop k).length = l.length - k := List.length_drop
  have hap : 0 < l.length - k → ∀ ad, subA A c k = some ad → ad.block ≠ g := fun hp ad had => by
    obtain ⟨a0, h0, hb0⟩ := subA_block had
    rw [hb0]
    exact h.apart (by omega) a0 h0
  refine ⟨?_, ?_, ?_, fun hp => hap (by rw [hl] at hp; exact hp)⟩
  · rw [hl]
    simpa using h.blk.set_ 0 (.slice (subA A c k) (l.length - k) (c - k))
  · rw [hl]
    exact (h.rd.sub k hk h.cap.1).kept' ((Keep.refl (fun k => k = g) w).setCell (p := ⟨g, 0, none⟩) (fun _ => rfl) _) fun hp ad had he => hap hp ad had he
  · rw [hl]
    have := h.cap
    omega
theorem TK.below {t : TypeId} {w w' : World} {g : Nat} {A : Option Addr} {c : Nat} {l : List UInt8} {bad : Bool} (h : TK t w g A c l bad) (hb : Below w.heap.size w w') : TK t w' g A c l bad :=
  ⟨h.blk.kept (Keep.of_below hb) (by have := h.blk.lt; omega), h.rd.below hb, h.cap, h.apart⟩
theorem Keep.of_below' {S : Nat → Prop} {w w' : World} (h : Below w.heap.size w w') : Keep S w w' := ⟨h.os, h.tape, h.output, h.size, fun k hk _ => h.block k hk⟩

set_option maxRecDepth 100000 in
set_option maxHeartbeats 1600000 in
theorem rtnum_any (w : World) (g : Nat) (A : Option Addr) (c : Nat) (l : List UInt8) (bad : Bool) (least most : Int) (h : TK 54 w g A c l bad) :
    Calls Tryz.prog 18 #[.pointer (some ⟨g, 0, none⟩), .int .i64 least, .int .i64 most] w (RTPost w g A l.length (tnum (rst l bad) least most).2 (.int .i64 (tnum (rst l bad) least most).1)) := by
  have hb := h.blk
  have hc0 := hb.cell 0
  have hc1 := hb.cell 1
  simp at hc0 hc1
  have hrd := h.rd
  obtain ⟨hcap1, hcap2⟩ := h.cap
  cases bad with
  | true =>
    go_enter Tryz.func18, Tryz.ntmps18
    go_wp2
    go_ret
    exact ⟨A, c, l, true, rfl, h, rfl, Keep.refl _ _, SameBlock.refl A, Nat.le_refl _⟩
  | false =>
    cases hf : first l with
    | none =>
      have e := Lib.hid (pt_none_first (some l) least most hf)
      have HF := Lib.hid hf
      clear hf
      go_enter Tryz.func18, Tryz.ntmps18
      go_wp2_with fail
      with_reducible refine (refFirst_any A _ c l w hrd hcap1 hcap2).mono ?_
      rintro e' w1 ⟨rfl, hb1⟩
      rw [HF.out, refFirstV]
      have h1 := h.below hb1
      have hf1 := h1.blk.frozen 1
      have hc11 := h1.blk.cell 1
      simp at hc11
      go_wp2
      go_ret
      rw [show tnum (rst l false) least most = (0, none) from e.out]
      exact ⟨A, c, l, true, rfl, h1.setBad, rfl, (Keep.of_below' (S := fun k => k = g) hb1).setCell (fun _ => rfl) _, SameBlock.refl A, Nat.le_refl _⟩
    | some p =>
      obtain ⟨n, k⟩ := p
      have e := Lib.hid (pt_some_first (st := some l) least most hf)
      obtain ⟨hk1, hk2, _, hz1, hz2⟩ := first_some hf
      have HF := Lib.hid hf
      clear hf
      have hk0 : ((k : Int) == 0) = false := by simp; omega
      by_cases hbad : n < least ∨ most < n
      · have hd : decide (n < least) = true ∨ decide (most < n) = true := by
          rcases hbad with h | h
          · exact .inl (decide_eq_true h)
          · exact .inr (decide_eq_true h)
        have e2 : Hid (tnum (rst l false) least most = (0, none)) := Lib.hid (e.out.trans (if_pos hbad))
        clear e hbad
        rcases hd with hd | hd
        all_goals
          go_enter Tryz.func18, Tryz.ntmps18
          go_wp2_with fail
          with_reducible refine (refFirst_any A _ c l w hrd hcap1 hcap2).mono ?_
          rintro e' w1 ⟨rfl, hb1⟩
          rw [HF.out, refFirstV]
          have h1 := h.below hb1
          have hf1 := h1.blk.frozen 1
          have hc11 := h1.blk.cell 1
          simp at hc11
          go_wp2
          all_goals go_ret
          all_goals rw [e2.out]
          all_goals exact ⟨A, c, l, true, rfl, h1.setBad, rfl, (Keep.of_below' (S := fun k => k = g) hb1).setCell (fun _ => rfl) _, SameBlock.refl A, Nat.le_refl _⟩
      · have e2 : Hid (tnum (rst l false) least most = (n, some (l.drop k))) := Lib.hid (e.out.trans (if_neg hbad))
        have hd1 : decide (n < least) = false := decide_eq_false (by omega)
        have hd2 : decide (most < n) = false := decide_eq_false (by omega)
        clear e hbad
        have hs2 := fun W => run_from W A l.length c (k : Int) (by omega) (by omega)
        rw [Int.toNat_natCast] at hs2
        go_enter Tryz.func18, Tryz.ntmps18
        go_wp2_with fail
        with_reducible refine (refFirst_any A _ c l w hrd hcap1 hcap2).mono ?_
        rintro e' w1 ⟨rfl, hb1⟩
        rw [HF.out, refFirstV]
        have h1 := h.below hb1
        have hf1 := h1.blk.frozen 0
        have hc11 := h1.blk.cell 0
        simp at hc11
        go_wp2
        go_ret
        rw [e2.out]
        exact ⟨_, _, _, false, rfl, h1.cut_ k hk2, rfl, (Keep.of_below' (S := fun k => k = g) hb1).setCell (fun _ => rfl) _, SameBlock.sub A c k, by rw [List.length_drop]; omega⟩

theorem ttext_of_num {l : List UInt8} {most most' : Int} (hm : most' = if (l.length : Int) < most then (l.length : Int) else most) :
    ttext (some l) most = match tnum (some l) 0 most' with
      | (_, none) => ([], none)
      | (n, some l') => if (l'.length : Int) < n then ([], none) else (l'.take n.toNat, some (l'.drop n.toNat)) := by
  cases hf : first l with
  | none =>
    rw [pt_none_first (some l) 0 most' hf, pt_none_ft (some l) most (ft_none hf)]
  | some p =>
    obtain ⟨z, k⟩ := p
    obtain ⟨hk1, hk2, _, _, _⟩ := first_some hf
    rw [pt_some_first (st := some l) 0 most' hf]
    have hft := ft_some hf
    by_cases hz : z < 0 ∨ (l.length : Int) - k < z
    · rw [if_pos hz] at hft
      rw [pt_none_ft (some l) most hft]
      by_cases h2 : z < 0 ∨ most' < z
      · rw [if_pos h2]
      · rw [if_neg h2]
        simp only [Option.getD_some]
        rw [if_pos (by rw [List.length_drop]; omega)]
    · rw [if_neg hz] at hft
      rw [pt_some_ft (st := some l) most hft]
      by_cases h2 : z < 0 ∨ most' < z
      · rw [if_pos h2, if_pos (by split at hm <;> omega)]
      · rw [if_neg h2, if_neg (by split at hm <;> omega)]
        simp only [Option.getD_some]
        rw [if_neg (by rw [List.length_drop]; omega), List.drop_drop]

def tstep (n : Int) : Option (List UInt8) → List UInt8 × Option (List UInt8)
  | none => ([], none)
  | some l' => if (l'.length : Int) < n then ([], none) else (l'.take n.toNat, some (l'.drop n.toNat))

theorem tnum_nonneg {st : Option (List UInt8)} {m n : Int} {l' : List UInt8} (h : tnum st 0 m = (n, some l')) : 0 ≤ n := by
  cases hf : first (st.getD []) with
  | none =>
    rw [pt_none_first st 0 m hf] at h
    cases h
  | some p =>
    obtain ⟨z, k⟩ := p
    rw [pt_some_first (st := st) 0 m hf] at h
    split at h
    · cases h
    · injection h with h1 h2
      omega

set_option maxRecDepth 100000 in
set_option maxHeartbeats 3200000 in
theorem rttext_any (w : World) (g : Nat) (A : Option Addr) (c : Nat) (l : List UInt8) (bad : Bool) (most : Int) (h : TK 54 w g A c l bad) :
    Calls Tryz.prog 19 #[.pointer (some ⟨g, 0, none⟩), .int .i64 most] w (RTPost w g A l.length (ttext (rst l bad) most).2 (strV (ttext (rst l bad) most).1)) := by
  have hb := h.blk
  have hc0 := hb.cell 0
  simp at hc0
  obtain ⟨most', hm⟩ : ∃ m : Int, m = if (l.length : Int) < most then (l.length : Int) else most := ⟨_, rfl⟩
  obtain ⟨n1, st1, hT⟩ : ∃ n1 st1, tnum (rst l bad) 0 most' = (n1, st1) := ⟨_, _, rfl⟩
  have key : Calls Tryz.prog 18 #[.pointer (some ⟨g, 0, none⟩), .int .i64 0, .int .i64 most'] w (RTPost w g A l.length (tnum (rst l bad) 0 most').2 (.int .i64 (tnum (rst l bad) 0 most').1)) := rtnum_any w g A c l bad 0 most' h
  rw [hT] at key
  have htt : Hid (ttext (rst l bad) most = tstep n1 st1) := Lib.hid (by
    cases bad with
    | true =>
      have e : (n1, st1) = (0, none) := hT.symm
      injection e with e1 e2
      subst e1 e2
      rfl
    | false =>
      have := ttext_of_num hm
      rw [show tnum (some l) 0 most' = (n1, st1) from hT] at this
      refine this.trans ?_
      cases st1 <;> rfl)
  have hnb : ∀ l', st1 = some l' → 0 ≤ n1 := fun l' hl' => by
    subst hl'
    exact tnum_nonneg hT
  have KEY := Lib.hid key
  clear key hT
  rw [htt.out]
  clear htt
  by_cases hlm : (l.length : Int) < most
  all_goals
    first | rw [if_pos hlm] at hm | rw [if_neg hlm] at hm
    subst hm
    go_enter Tryz.func19, Tryz.ntmps19
    go_wp2_with fail
    refine KEY.out.mono ?_
    rintro e w1 ⟨A1, c1, l1, bad1, rfl, h1, hr1, hk1, hsb1, hln1⟩
    subst hr1
    have hc11 := h1.blk.cell 1
    have hc10 := h1.blk.cell 0
    have hf11 := h1.blk.frozen 1
    have hf10 := h1.blk.frozen 0
    simp at hc11 hc10
    obtain ⟨hcp1, hcp2⟩ := h1.cap
    clear KEY hc0
    cases bad1 with
    | true =>
      clear hnb
      go_wp2
      go_ret
      exact ⟨A1, c1, l1, true, rfl, h1.setBad, rfl, hk1.setCell (fun _ => rfl) _, hsb1, hln1⟩
    | false =>
      have hn0 := hnb l1 rfl
      clear hnb
      obtain ⟨m, rfl⟩ := Int.eq_ofNat_of_zero_le hn0
      by_cases hbig : (l1.length : Int) < (m : Int)
      · have hd : decide ((l1.length : Int) < (m : Int)) = true := decide_eq_true hbig
        have e2 : Hid (tstep (m : Int) (rst l1 false) = ([], none)) := Lib.hid (if_pos hbig)
        go_wp2
        go_ret
        exact ⟨A1, c1, l1, true, by rw [e2.out]; rfl, h1.setBad, by rw [e2.out]; rfl, hk1.setCell (fun _ => rfl) _, hsb1, hln1⟩
      · have hml : m ≤ l1.length := by omega
        have hd : decide ((l1.length : Int) < (m : Int)) = false := decide_eq_false hbig
        have e2 : Hid (tstep (m : Int) (rst l1 false) = (l1.take m, some (l1.drop m))) := Lib.hid (if_neg hbig)
        have hsl := fun W => run_from W A1 l1.length c1 (m : Int) (by omega) (by omega)
        rw [Int.toNat_natCast] at hsl
        have hst := run_str w1 A1 m c1 _ (h1.rd.take m hml)
        have hmc : (m : Int) ≤ (c1 : Int) := by omega
        clear hbig
        go_wp2
        go_ret
        exact ⟨_, _, _, false, by rw [e2.out]; rfl, h1.cut_ m hml, by rw [e2.out]; rfl, hk1.setCell (fun _ => rfl) _, hsb1.trans (SameBlock.sub A1 c1 m), by rw [List.length_drop]; omega⟩

theorem TK.kept' {S : Nat → Prop} {t : TypeId} {w w' : World} {g : Nat} {A : Option Addr} {c : Nat} {l : List UInt8} {bad : Bool} (h : TK t w g A c l bad) (k : Keep S w w') (hg : ¬ S g) (hA : 0 < l.length → ∀ ad, A = some ad → ¬ S ad.block) : TK t w' g A c l bad :=
  ⟨h.blk.kept k hg, h.rd.kept' k hA, h.cap, h.apart⟩
end Go.Proofs.YtfpcnenohidfpaaGreat
