/- The contracts of a taker's calls. No condition. -/
import Derived.Test.YtfpcnenohidfpaaGreatMaker
namespace Go.Proofs.YtfpcnenohidfpaaGreat
open Go.RowKit
set_option linter.unusedVariables false

/-- With which text's cell bytes begin: how many bytes its number has, and how many the text. -/
def ft (l : List UInt8) : Option (Nat × Nat) :=
  match first l with
  | some (n, k) => if n < 0 ∨ (l.length : Int) - k < n then none else some (k, n.toNat)
  | none => none

theorem ft_none {l : List UInt8} (h : first l = none) : ft l = none := by
  unfold ft
  rw [h]
theorem ft_some {l : List UInt8} {n : Int} {k : Nat} (h : first l = some (n, k)) : ft l = if n < 0 ∨ (l.length : Int) - k < n then none else some (k, n.toNat) := by
  unfold ft
  rw [h]

def ftV (A : Option Addr) (n c : Nat) : Option (Nat × Nat) → Value
  | some (k, m) => .tuple #[.slice (subA A c k) m (c - k), .slice (subA A c (k + m)) (n - (k + m)) (c - (k + m)), .bool true]
  | none => .tuple #[.slice none 0 0, .slice none 0 0, .bool false]
def FtPost (A : Option Addr) (n c : Nat) (l : List UInt8) (w : World) (e : Ending) (w' : World) : Prop := e = .returned (ftV A n c (ft l)) ∧ ∃ q, w' = w.drewN q

set_option maxRecDepth 100000 in
set_option maxHeartbeats 800000 in
theorem firstText_any (A : Option Addr) (n c : Nat) (l : List UInt8) (w : World) (hr : RB w A n l) (hc : n ≤ c) (hm : c ≤ 9223372036854775807) :
    Calls Tryz.prog 37 #[.slice A n c] w (FtPost A n c l w) := by
  have hl := hr.1
  cases hf : first l with
  | none =>
    have e := Lib.hid (ft_none hf)
    have HF := Lib.hid hf
    clear hf
    go_enter Tryz.func37, Tryz.ntmps37
    go_wp2_with fail
    with_reducible refine (first_any A n c l w hr hc hm).mono ?_
    rintro e' w' ⟨rfl, rfl⟩
    rw [HF.out, firstV]
    go_wp2
    go_ret3
    exact ⟨by rw [e.out]; rfl, 0, rfl⟩
  | some p =>
    obtain ⟨z, k⟩ := p
    have e := Lib.hid (ft_some hf)
    have hs := first_some hf
    obtain ⟨hk1, hk2, _, hz1, hz2⟩ := hs
    have HF := Lib.hid hf
    clear hf
    by_cases hbad : z < 0 ∨ (l.length : Int) - k < z
    · have hd : decide (z < 0) = true ∨ decide ((n : Int) - (k : Int) < z) = true := by
        rcases hbad with h | h
        · exact .inl (decide_eq_true h)
        · exact .inr (decide_eq_true (by omega))
      have e2 := Lib.hid (e.out.trans (if_pos hbad))
      clear hbad e
      rcases hd with hd | hd
      all_goals
        go_enter Tryz.func37, Tryz.ntmps37
        go_wp2_with fail
        with_reducible refine (first_any A n c l w hr hc hm).mono ?_
        rintro e' w' ⟨rfl, rfl⟩
        rw [HF.out, firstV]
        go_wp2
        all_goals go_ret3
        all_goals exact ⟨by rw [e2.out]; rfl, 0, rfl⟩
    · have e2 := Lib.hid (e.out.trans (if_neg hbad))
      clear e
      obtain ⟨m, rfl⟩ := Int.eq_ofNat_of_zero_le (show 0 ≤ z by omega)
      rw [Int.toNat_natCast] at e2
      have hmn : k + m ≤ n := by omega
      have hd1 : decide ((m : Int) < 0) = false := decide_eq_false (by omega)
      have hd2 : decide ((n : Int) - (k : Int) < (m : Int)) = false := decide_eq_false (by omega)
      clear hbad
      have hs1 := fun W => run_win W A n c k ((k : Int) + (m : Int)) (by omega) (by omega) (by omega)
      have hs2 := fun W => run_from W A n c ((k : Int) + (m : Int)) (by omega) (by omega)
      rw [show ((k : Int) + (m : Int)).toNat = k + m from by omega] at hs1 hs2
      rw [Int.toNat_natCast] at hs1
      rw [show k + m - k = m from by omega] at hs1
      go_enter Tryz.func37, Tryz.ntmps37
      go_wp2_with fail
      with_reducible refine (first_any A n c l w hr hc hm).mono ?_
      rintro e' w' ⟨rfl, rfl⟩
      rw [HF.out, firstV]
      go_wp2
      go_quiet (fail)
      go_wp2
      go_ret3
      exact ⟨by rw [e2.out]; rfl, _, rfl⟩

theorem RB.kept' {S : Nat → Prop} {w w' : World} {A : Option Addr} {n : Nat} {l : List UInt8} (h : RB w A n l) (k : Keep S w w') (hs : 0 < n → ∀ ad, A = some ad → ¬ S ad.block) : RB w' A n l :=
  ⟨h.1, fun hn => (h.kept k (hs hn)).2 hn⟩

/-- A taker (of either kind: t) in block g: what is left, and whether it is at fault. -/
structure TK (t : TypeId) (w : World) (g : Nat) (A : Option Addr) (c : Nat) (l : List UInt8) (bad : Bool) : Prop where
  blk : Blk w g t #[.slice A l.length c, .bool bad]
  rd : RB w A l.length l
  cap : l.length ≤ c ∧ c ≤ 9223372036854775807
  apart : 0 < l.length → ∀ ad, A = some ad → ad.block ≠ g
theorem TK.kept {S : Nat → Prop} {t : TypeId} {w w' : World} {g : Nat} {A : Option Addr} {c : Nat} {l : List UInt8} {bad : Bool} (h : TK t w g A c l bad) (k : Keep S w w') (hg : ¬ S g) (hA : ∀ ad, A = some ad → ¬ S ad.block) : TK t w' g A c l bad :=
  ⟨h.blk.kept k hg, h.rd.kept k hA, h.cap, h.apart⟩
theorem TK.drewN {t : TypeId} {w : World} {g : Nat} {A : Option Addr} {c : Nat} {l : List UInt8} {bad : Bool} (h : TK t w g A c l bad) (n : Nat) : TK t (w.drewN n) g A c l bad := ⟨h.blk, h.rd, h.cap, h.apart⟩

/-- The program's taker in a state; none: at fault. -/
def PT (w : World) (g : Nat) (A : Option Addr) (c : Nat) (st : Option (List UInt8)) : Prop := TK 83 w g A c (st.getD []) st.isNone

def SameBlock (A A' : Option Addr) : Prop := ∀ ad', A' = some ad' → ∃ ad, A = some ad ∧ ad'.block = ad.block
theorem SameBlock.refl (A : Option Addr) : SameBlock A A := fun ad h => ⟨ad, h, rfl⟩
theorem SameBlock.sub (A : Option Addr) (c k : Nat) : SameBlock A (subA A c k) := fun ad h => subA_block h
theorem SameBlock.none_ (A : Option Addr) : SameBlock A none := fun ad h => by cases h
theorem SameBlock.trans {A A' A'' : Option Addr} (h : SameBlock A A') (k : SameBlock A' A'') : SameBlock A A'' := fun ad hd => by
  obtain ⟨a1, h1, e1⟩ := k ad hd
  obtain ⟨a0, h0, e0⟩ := h a1 h1
  exact ⟨a0, h0, e1.trans e0⟩

def TPost (w : World) (g : Nat) (A : Option Addr) (st : Option (List UInt8)) (v : Value) (e : Ending) (w' : World) : Prop :=
  ∃ A' c', e = .returned v ∧ PT w' g A' c' st ∧ Keep (fun k => k = g) w w' ∧ SameBlock A A'

def tnum : Option (List UInt8) → Int → Int → Int × Option (List UInt8)
  | none, _, _ => (0, none)
  | some l, least, most => match first l with
    | some (n, k) => if n < least ∨ most < n then (0, none) else (n, some (l.drop k))
    | none => (0, none)
def ttext : Option (List UInt8) → Int → List UInt8 × Option (List UInt8)
  | none, _ => ([], none)
  | some l, most => match ft l with
    | some (k, m) => if most < m then ([], none) else ((l.drop k).take m, some (l.drop (k + m)))
    | none => ([], none)

theorem PT.next {w : World} {g : Nat} {A : Option Addr} {c : Nat} {st : Option (List UInt8)} {k : Nat} (h : PT w g A c st) (hi : Hid (st.isNone = false)) (hk : k ≤ (st.getD []).length) :
    PT (w.setCell ⟨g, 0, none⟩ (.slice (subA A c k) ((st.getD []).length - k) (c - k))) g (subA A c k) (c - k) (some ((st.getD []).drop k)) := by
  have hb := h.blk.set_ 0 (.slice (subA A c k) ((st.getD []).length - k) (c - k))
  rw [hi.out] at hb
  have hl : ((st.getD []).drop k).length = (st.getD []).length - k := List.length_drop
  have hap : 0 < (st.getD []).length - k → ∀ ad, subA A c k = some ad → ad.block ≠ g := fun hp ad had => by
    obtain ⟨a0, h0, hb0⟩ := subA_block had
    rw [hb0]
    exact h.apart (by omega) a0 h0
  refine ⟨?_, ?_, ?_, fun hp => hap (by rw [Option.getD_some, hl] at hp; exact hp)⟩
  · rw [Option.getD_some, hl]
    simpa using hb
  · rw [Option.getD_some, hl]
    exact (h.rd.sub k hk h.cap.1).kept' ((Keep.refl (fun k => k = g) w).setCell (fun _ => rfl) _) fun hp ad had he => hap hp ad had he
  · rw [Option.getD_some, hl]
    have := h.cap
    omega

theorem fail_any (w : World) (g : Nat) (a b : Value) (A : Option Addr) (h : Blk w g 83 #[a, b]) :
    Calls Tryz.prog 36 #[.pointer (some ⟨g, 0, none⟩)] w (TPost w g A none (.tuple #[])) := by
  have hc0 := h.cell 0
  have hc1 := h.cell 1
  have hf0 := h.frozen 0
  have hf1 := h.frozen 1
  simp at hc0 hc1
  go_enter Tryz.func36, Tryz.ntmps36
  go_wp2
  go_end0
  refine ⟨none, 0, rfl, ⟨?_, RB.nil _ _, by simp, fun _ _ h => by cases h⟩, ((Keep.refl (fun k => k = g) w).setCell (fun _ => rfl) _).setCell (fun _ => rfl) _, SameBlock.none_ A⟩
  simpa using (h.set_ 0 (.slice none 0 0)).set_ 1 (.bool true)

theorem pt_none_first (st : Option (List UInt8)) (least most : Int) (h : first (st.getD []) = none) : tnum st least most = (0, none) := by
  cases st with
  | none => rfl
  | some l =>
    unfold tnum
    simp only []
    rw [show first l = none from h]
theorem pt_some_first {st : Option (List UInt8)} {n : Int} {k : Nat} (least most : Int) (h : first (st.getD []) = some (n, k)) : tnum st least most = if n < least ∨ most < n then (0, none) else (n, some ((st.getD []).drop k)) := by
  cases st with
  | none => cases h
  | some l =>
    unfold tnum
    simp only []
    rw [show first l = some (n, k) from h]
    rfl

set_option maxRecDepth 100000 in
set_option maxHeartbeats 800000 in
theorem tnum_any (w : World) (g : Nat) (A : Option Addr) (c : Nat) (st : Option (List UInt8)) (least most : Int) (h : PT w g A c st) :
    Calls Tryz.prog 11 #[.pointer (some ⟨g, 0, none⟩), .int .i64 least, .int .i64 most] w (TPost w g A (tnum st least most).2 (.int .i64 (tnum st least most).1)) := by
  have hb := h.blk
  have hc0 := hb.cell 0
  have hf0 := hb.frozen 0
  simp at hc0
  have hrd := h.rd
  obtain ⟨hcap1, hcap2⟩ := h.cap
  cases hf : first (st.getD []) with
  | none =>
    have e := Lib.hid (pt_none_first st least most hf)
    have HF := Lib.hid hf
    clear hf
    go_enter Tryz.func11, Tryz.ntmps11
    go_wp2_with fail
    with_reducible refine (first_any A _ c (st.getD []) w hrd hcap1 hcap2).mono ?_
    rintro e' w' ⟨rfl, rfl⟩
    rw [HF.out, firstV]
    go_wp2_with fail
    refine (fail_any w g _ _ A hb).mono ?_
    rintro e' w1 ⟨A', c', rfl, r1, r2, r3⟩
    go_wp2
    go_ret
    rw [e.out]
    exact ⟨A', c', rfl, r1, r2, r3⟩
  | some p =>
    obtain ⟨n, k⟩ := p
    have e := Lib.hid (pt_some_first least most hf)
    obtain ⟨hk1, hk2, _, hz1, hz2⟩ := first_some hf
    have hisn : Hid (st.isNone = false) := by
      cases st with
      | none => cases hf
      | some l => rfl
    have HF := Lib.hid hf
    clear hf
    by_cases hbad : n < least ∨ most < n
    · have hd : decide (n < least) = true ∨ decide (most < n) = true := by
        rcases hbad with h | h
        · exact .inl (decide_eq_true h)
        · exact .inr (decide_eq_true h)
      have e2 := Lib.hid (e.out.trans (if_pos hbad))
      clear e hbad
      rcases hd with hd | hd
      all_goals
        go_enter Tryz.func11, Tryz.ntmps11
        go_wp2_with fail
        with_reducible refine (first_any A _ c (st.getD []) w hrd hcap1 hcap2).mono ?_
        rintro e' w' ⟨rfl, rfl⟩
        rw [HF.out, firstV]
        go_wp2_with fail
        all_goals
          refine (fail_any w g _ _ A hb).mono ?_
          rintro e' w1 ⟨A', c', rfl, r1, r2, r3⟩
          go_wp2
          go_ret
          rw [e2.out]
          exact ⟨A', c', rfl, r1, r2, r3⟩
    · have e2 := Lib.hid (e.out.trans (if_neg hbad))
      have hd1 : decide (n < least) = false := decide_eq_false (by omega)
      have hd2 : decide (most < n) = false := decide_eq_false (by omega)
      clear e hbad
      have hs2 := fun W => run_from W A (st.getD []).length c (k : Int) (by omega) (by omega)
      rw [Int.toNat_natCast] at hs2
      go_enter Tryz.func11, Tryz.ntmps11
      go_wp2_with fail
      with_reducible refine (first_any A _ c (st.getD []) w hrd hcap1 hcap2).mono ?_
      rintro e' w' ⟨rfl, rfl⟩
      rw [HF.out, firstV]
      go_wp2
      go_ret
      rw [e2.out]
      exact ⟨_, _, rfl, PT.next h hisn hk2, (Keep.refl (fun k => k = g) w).setCell (fun _ => rfl) _, SameBlock.sub _ _ _⟩

theorem pt_none_ft (st : Option (List UInt8)) (most : Int) (h : ft (st.getD []) = none) : ttext st most = ([], none) := by
  cases st with
  | none => rfl
  | some l =>
    unfold ttext
    simp only []
    rw [show ft l = none from h]
theorem pt_some_ft {st : Option (List UInt8)} {k m : Nat} (most : Int) (h : ft (st.getD []) = some (k, m)) : ttext st most = if most < m then ([], none) else (((st.getD []).drop k).take m, some ((st.getD []).drop (k + m))) := by
  cases st with
  | none => cases h
  | some l =>
    unfold ttext
    simp only []
    rw [show ft l = some (k, m) from h]
    rfl
theorem ft_le {l : List UInt8} {k m : Nat} (h : ft l = some (k, m)) : k + m ≤ l.length := by
  cases hf : first l with
  | none => rw [ft_none hf] at h; cases h
  | some p =>
    obtain ⟨z, k'⟩ := p
    rw [ft_some hf] at h
    have hs := first_some hf
    split at h
    · cases h
    · simp only [Option.some.injEq, Prod.mk.injEq] at h
      obtain ⟨h1, h2⟩ := h
      omega

def strV (l : List UInt8) : Value := .string ⟨l.toArray⟩

set_option maxRecDepth 100000 in
set_option maxHeartbeats 800000 in
theorem ttext_any (w : World) (g : Nat) (A : Option Addr) (c : Nat) (st : Option (List UInt8)) (most : Int) (h : PT w g A c st) :
    Calls Tryz.prog 12 #[.pointer (some ⟨g, 0, none⟩), .int .i64 most] w (TPost w g A (ttext st most).2 (strV (ttext st most).1)) := by
  have hb := h.blk
  have hc0 := hb.cell 0
  have hf0 := hb.frozen 0
  simp at hc0
  have hrd := h.rd
  obtain ⟨hcap1, hcap2⟩ := h.cap
  cases hf : ft (st.getD []) with
  | none =>
    have e := Lib.hid (pt_none_ft st most hf)
    have HF := Lib.hid hf
    clear hf
    go_enter Tryz.func12, Tryz.ntmps12
    go_wp2_with fail
    with_reducible refine (firstText_any A _ c (st.getD []) w hrd hcap1 hcap2).mono ?_
    rintro e' w' ⟨rfl, q, rfl⟩
    rw [HF.out, ftV]
    go_wp2_with fail
    refine (fail_any (w.drewN q) g _ _ A hb).mono ?_
    rintro e' w1 ⟨A', c', rfl, r1, r2, r3⟩
    go_wp2
    go_ret
    rw [e.out]
    exact ⟨A', c', rfl, r1, (Keep.drewN (Keep.refl _ w) q).trans r2 (fun _ _ h => h), r3⟩
  | some p =>
    obtain ⟨k, m⟩ := p
    have e := Lib.hid (pt_some_ft most hf)
    have hle := ft_le hf
    have hisn : st.isNone = false := by
      cases st with
      | none => cases hf
      | some l => rfl
    have hI := Lib.hid hisn
    clear hisn
    have HF := Lib.hid hf
    clear hf
    by_cases hbad : most < m
    · have hd : decide (most < (m : Int)) = true := decide_eq_true hbad
      have e2 := Lib.hid (e.out.trans (if_pos hbad))
      clear e hbad
      go_enter Tryz.func12, Tryz.ntmps12
      go_wp2_with fail
      with_reducible refine (firstText_any A _ c (st.getD []) w hrd hcap1 hcap2).mono ?_
      rintro e' w' ⟨rfl, q, rfl⟩
      rw [HF.out, ftV]
      go_wp2_with fail
      refine (fail_any (w.drewN q) g _ _ A hb).mono ?_
      rintro e' w1 ⟨A', c', rfl, r1, r2, r3⟩
      go_wp2
      go_ret
      rw [e2.out]
      exact ⟨A', c', rfl, r1, (Keep.drewN (Keep.refl _ w) q).trans r2 (fun _ _ h => h), r3⟩
    · have e2 := Lib.hid (e.out.trans (if_neg hbad))
      have hd1 : decide (most < (m : Int)) = false := decide_eq_false (by omega)
      clear e hbad
      have hkeep : ∀ q u, Keep (fun k => k = g) w ((w.drewN q).setCell ⟨g, 0, none⟩ u) := fun q u => (Keep.drewN (Keep.refl (fun k => k = g) w) q).setCell (fun _ => rfl) u
      have hsub := (hrd.sub k (by omega) hcap1).take m (by omega)
      have hstr := fun q u => run_str ((w.drewN q).setCell ⟨g, 0, none⟩ u) (subA A c k) m (c - k) _ (hsub.kept' (hkeep q u) fun hp ad had he => by
        obtain ⟨a0, h0, hb0⟩ := subA_block had
        exact h.apart (by omega) a0 h0 (hb0.symm.trans he))
      have hstr2 := fun u => hstr 0 u
      go_enter Tryz.func12, Tryz.ntmps12
      go_wp2_with fail
      with_reducible refine (firstText_any A _ c (st.getD []) w hrd hcap1 hcap2).mono ?_
      rintro e' w' ⟨rfl, q, rfl⟩
      rw [HF.out, ftV]
      go_wp2
      go_ret
      rw [e2.out]
      exact ⟨_, _, rfl, PT.next (w := w.drewN q) (TK.drewN h q) hI (by omega), hkeep q _, SameBlock.sub _ _ _⟩


def tdoneN (st : Option (List UInt8)) : Int := if st = some [] then 0 else 10

theorem tdone_any (w : World) (g : Nat) (A : Option Addr) (c : Nat) (st : Option (List UInt8)) (h : PT w g A c st) :
    Calls Tryz.prog 17 #[.pointer (some ⟨g, 0, none⟩)] w fun e w' => e = .returned (.int .i64 (tdoneN st)) ∧ w = w' := by
  have hc0 := h.blk.cell 0
  have hc1 := h.blk.cell 1
  cases st with
  | none =>
    simp at hc0 hc1
    go_enter Tryz.func17, Tryz.ntmps17
    go_wp2
    go_ret
    exact ⟨rfl, rfl⟩
  | some l =>
    simp at hc0 hc1
    cases l with
    | nil =>
      simp at hc0
      go_enter Tryz.func17, Tryz.ntmps17
      go_wp2
      go_ret
      exact ⟨rfl, rfl⟩
    | cons x r =>
      have hd : decide ((0 : Int) < (((x :: r).length : Nat) : Int)) = true := decide_eq_true (by rw [List.length_cons]; omega)
      obtain ⟨n, hn⟩ : ∃ n, n = (x :: r).length := ⟨_, rfl⟩
      have hd0 : 0 < n := by rw [hn, List.length_cons]; omega
      rw [← hn] at hc0
      clear hn hd
      go_enter Tryz.func17, Tryz.ntmps17
      go_wp2
      go_ret
      exact ⟨by simp [tdoneN], rfl⟩

theorem take_any (A : Option Addr) (n c : Nat) (l : List UInt8) (w : World) (hr : RB w A n l) (hn : n ≤ 140737488355328) :
    Calls Tryz.prog 10 #[.slice A n c] w fun e w' => ∃ g A' c', e = .returned (.pointer (some ⟨g, 0, none⟩)) ∧ w.heap.size ≤ g ∧ PT w' g A' c' (some l) ∧ Below w.heap.size w w' ∧ ∀ ad, A' = some ad → w.heap.size ≤ ad.block := by
  go_enter Tryz.func10, Tryz.ntmps10
  go_wp2_with fail
  refine (fresh_any A n c l w hr hn).mono ?_
  rintro e' w1 ⟨v1, rfl, hg1⟩
  have hb1 := hg1.fresh
  obtain ⟨A1, cap1, rfl, h1, h2, h3, h4⟩ := hg1.own.form
  clear hg1
  go_wp2
  go_ret
  refine ⟨w1.heap.size, A1, cap1, rfl, hb1.size, ⟨Blk.new _ _ _, h3.alloc _, ⟨h1, h2⟩, fun _ ad had => ?_⟩, hb1.alloc hb1.size _, fun ad had => (h4 ad had).1⟩
  have := (h4 ad had).2.1
  omega
end Go.Proofs.YtfpcnenohidfpaaGreat
