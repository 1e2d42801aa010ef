/- Unpack of a backlog. No condition but that the bytes lie in memory. -/
import Derived.Test.YtnkekjaljhpmjaaBkG
namespace Go.Proofs.Ytnkekjaljhpmjaa
open Go.RowKit
set_option linter.unusedVariables false
set_option linter.unusedSimpArgs false

set_option maxHeartbeats 800000 in
theorem mayOut_any {F : Nat → Prop} {w : World} {p : Nat} {l : List Wt} {o : Int} (h : BK F w p l o) (hl : l.length ≤ 1048576) :
    Calls Try.prog 49 #[.pointer (some ⟨p, 0, none⟩)] w fun e w' => e = .returned (.bool (outOK l o)) ∧ Below w.heap.size w w' := by
  obtain ⟨v, hV⟩ := h
  obtain ⟨h0, h1⟩ := hV.fields
  by_cases ho : o = 0
  · have he : (o == 0) = true := by simp [ho]
    rw [show outOK l o = true from by unfold outOK; rw [if_pos ho]]
    clear ho
    go_enter Try.func49, Try.ntmps49
    go_wp2
    go_ret
    exact ⟨rfl, Below.refl _ _⟩
  · have he : (o == 0) = false := beq_eq_false_iff_ne.2 ho
    have hp := bplace_any o ⟨v, hV⟩ hl
    obtain ⟨A, c, rfl, hfm⟩ := hV.own.form
    clear hfm
    rcases idx_cases (fun x => decide (x.k = o)) l with ⟨hn, _⟩ | ⟨i, x, hix, hx, hr, hil, hfi⟩
    · have hpl : placeW l o = -1 := hn
      rw [hpl] at hp
      have hout : outOK l o = false := by
        unfold outOK
        rw [if_neg ho]
        have h2 : ∀ x ∈ l, x.k ≠ o := place_none.1 hpl
        have h3 : (l.findIdx fun x => decide (x.k = o)) = l.length := List.findIdx_eq_length.2 fun x hx => by simpa using h2 x hx
        rw [h3, List.getElem?_eq_none (Nat.le_refl _)]
      rw [hout]
      clear ho hout hpl hn
      go_enter Try.func49, Try.ntmps49
      go_wp2_with fail
      refine hp.mono ?_
      rintro e w1 ⟨rfl, hb⟩
      go_wp2
      go_ret
      exact ⟨rfl, hb⟩
    · have hpl : placeW l o = (i : Int) := hix
      rw [hpl] at hp
      obtain ⟨xk, xr⟩ := x
      have hout : outOK l o = !xr := by
        unfold outOK
        rw [if_neg ho, hfi, hx]
      rw [hout]
      have hi0 : decide ((0 : Int) ≤ (i : Int)) = true := decide_eq_true (by omega)
      have hi1 : (0 : Int) ≤ (i : Int) := by omega
      have hi2 : (i : Int) < (l.length : Int) := by omega
      clear ho hout hpl hix hfi hr
      go_enter Try.func49, Try.ntmps49
      go_wp2_with fail
      refine hp.mono ?_
      rintro e w1 ⟨rfl, hb⟩
      have hV1 := hV.below hb
      obtain ⟨g0, g1⟩ := hV1.fields
      obtain ⟨g, y, rfl, hy, c0, c1⟩ := hV1.own.place hil
      rw [hx] at hy
      cases hy
      dsimp only at c0 c1
      go_wp2
      go_ret
      exact ⟨rfl, hb⟩
theorem PT.dr {w : World} {g : Nat} {A : Option Addr} {c : Nat} {st : Option (List UInt8)} (h : PT w g A c st) : PT w.drew g A c st := ⟨h.blk, h.rd, h.cap, h.apart⟩
theorem tnum_flag (w : World) (g : Nat) (A : Option Addr) (c : Nat) (st : Option (List UInt8)) (h : PT w g A c st) :
    Calls Try.prog 47 #[.pointer (some ⟨g, 0, none⟩)] w (TPost w g A (tnum st 0 1).2 (.bool ((tnum st 0 1).1 == 1))) := tflag_any w g A c st h
/-- Where the taker's bytes lie, if any are left: below K. -/
def Under (K : Nat) (A : Option Addr) (st : Option (List UInt8)) : Prop := st.getD [] ≠ [] → ∀ ad, A = some ad → ad.block < K
theorem tnum_left {st : Option (List UInt8)} {a b : Int} (h : (tnum st a b).2.getD [] ≠ []) : st.getD [] ≠ [] := by
  intro he
  apply h
  cases st with
  | none => rfl
  | some l =>
    rw [Option.getD_some] at he
    subst he
    rfl
theorem Under.next {K : Nat} {A A' : Option Addr} {st : Option (List UInt8)} {a b : Int} (h : Under K A st) (hs : SameBlock A A') : Under K A' (tnum st a b).2 := fun hne ad e => by
  obtain ⟨a0, h0, e0⟩ := hs ad e
  rw [e0]
  exact h (tnum_left hne) a0 h0
theorem PT.keptF {F : Nat → Prop} {K : Nat} {w w' : World} {g : Nat} {A : Option Addr} {c : Nat} {st : Option (List UInt8)} (h : PT w g A c st) (k : Keep F w w') (hF : ∀ i, F i → K ≤ i) (hg : g < K) (hU : Under K A st) : PT w' g A c st :=
  TK.kept' h k (fun e => by have := hF _ e; omega) (fun hl ad e e2 => by
    have := hF _ e2
    have := hU (fun h0 => by rw [h0] at hl; exact absurd hl (by decide)) ad e
    omega)
theorem tnum_range {st : Option (List UInt8)} {a b : Int} (h : a ≤ 0) (h0 : 0 ≤ b) : a ≤ (tnum st a b).1 ∧ (tnum st a b).1 ≤ b := by
  cases ht : tnum st a b with
  | mk n st2 =>
    cases st2 with
    | none => rw [tnum_none ht]; exact ⟨h, h0⟩
    | some s2 =>
      cases st with
      | none => cases ht
      | some s => exact ⟨(tnum_some ht).1, (tnum_some ht).2.1⟩
theorem tnum_range1 {st : Option (List UInt8)} : 0 ≤ (tnum st 1 topM).1 ∧ (tnum st 1 topM).1 ≤ topM := by
  cases ht : tnum st 1 topM with
  | mk n st2 =>
    cases st2 with
    | none => rw [tnum_none ht]; exact ⟨Int.le_refl _, by decide⟩
    | some s2 =>
      cases st with
      | none => cases ht
      | some s => exact ⟨by have := (tnum_some ht).1; dsimp only; omega, (tnum_some ht).2.1⟩
/-- What Unpack answers. -/
def UnpackPost (w : World) (r : Option (List Wt × Int)) (e : Ending) (w' : World) : Prop :=
  Below w.heap.size w w' ∧ ((r = none ∧ e = .returned (.tuple #[.pointer none, .int .i64 10])) ∨ ∃ l o p, r = some (l, o) ∧ e = .returned (.tuple #[.pointer (some ⟨p, 0, none⟩), .int .i64 0]) ∧ BK (fun k => w.heap.size ≤ k) w' p l o)
theorem take_in (A : Option Addr) (n c : Nat) (l : List UInt8) (w : World) (hr : RB w A n l) (hn : n ≤ 140737488355328) :
    Calls Try.prog 45 #[.slice A n c] w fun e w' => ∃ g A' c', e = .returned (.pointer (some ⟨g, 0, none⟩)) ∧ w.heap.size ≤ g ∧ PT w' g A' c' (some l) ∧ Below w.heap.size w w' ∧ ∀ ad, A' = some ad → w.heap.size ≤ ad.block := take_any A n c l w hr hn
set_option maxRecDepth 100000 in
set_option maxHeartbeats 3200000 in
theorem bunpack_any (A : Option Addr) (n c : Nat) (s : List UInt8) (w : World) (hr : RB w A n s) (hn : n ≤ 140737488355328) :
    Calls Try.prog 30 #[.slice A n c] w (UnpackPost w (decB s)) := by
  have hdec : decB s = decT (tnum (some s) 0 topM).1 (tnum (tnum (some s) 0 topM).2 0 256).1.toNat [] (tnum (tnum (some s) 0 topM).2 0 256).2 := rfl
  obtain ⟨r, hrd⟩ : ∃ r, decB s = r := ⟨_, rfl⟩
  rw [hrd] at hdec ⊢
  go_enter Try.func30, Try.ntmps30
  go_wp2_with fail
  refine (take_in A n c s w hr hn).mono ?_
  rintro e w1 ⟨tg, A1, c1, rfl, htg, hPT1, hb1, hA1⟩
  have hU1 : Under w1.heap.size A1 (some s) := fun hne ad e => by
    have h1 := hPT1.rd
    rw [Option.getD_some] at h1 hne
    cases s with
    | nil => exact absurd rfl hne
    | cons x t =>
      obtain ⟨b, off, e2, hc⟩ := h1.2 (by simp)
      rw [e] at e2
      cases e2
      exact World.block_lt_of_cell? _ _ (hc 0 x rfl)
  have htl := hPT1.blk.lt
  obtain ⟨KB, hK⟩ : ∃ KB, w1.heap.size = KB := ⟨_, rfl⟩
  rw [hK] at hU1 htl
  go_wp2_with fail
  refine (bnew_any _).mono ?_
  rintro e w2 ⟨rfl, hB2, hb2⟩
  rw [hK] at hB2 ⊢
  have hPT2 : PT w2 tg A1 c1 (some s) := TK.kept' hPT1 (Keep.of_below hb2) (by omega) (fun hl ad e e2 => by have := hU1 (fun h0 => by rw [h0] at hl; exact absurd hl (by decide)) ad e; omega)
  have hbw2 := hb1.trans (hb2.mono hb1.size)
  have hKw : w.heap.size ≤ KB := by have := hb1.size; omega
  clear hPT1 hb1 hb2
  obtain ⟨st1, hst1⟩ : ∃ x, tnum (some s) 0 topM = x := ⟨_, rfl⟩
  have hrg := tnum_range (st := some s) (a := 0) (b := topM) (by decide) (by decide)
  rw [hst1] at hdec hrg
  have hU2 : ∀ A', SameBlock A1 A' → Under KB A' st1.2 := fun A' hs => by rw [← hst1]; exact hU1.next hs
  have htn := tnum_any w2 tg A1 c1 (some s) 0 topM hPT2
  rw [hst1] at htn
  obtain ⟨o, st1⟩ := st1
  dsimp only at hdec htn hU2 hrg
  unfold topM at htn hrg
  go_wp2_with fail
  refine htn.mono ?_
  rintro e w3 ⟨A3, c3, rfl, hPT3, hk3, hsb3⟩
  have hU3 := hU2 A3 hsb3
  have hB3 := hB2.kept hk3 (fun k e e2 => by omega)
  have hbw3 := hbw2.trans (hk3.below (B := w.heap.size) hbw2.size (fun i hi e => by omega))
  clear htn hk3 hPT2 hB2 hbw2 hU2
  obtain ⟨v, hV⟩ := hB3
  have hpc := hV.pc.set_ 1 (.int .i64 o)
  simp at hpc
  have f1 := hV.pc.frozen 1
  have hpl := hV.pc.lt
  obtain ⟨q0, q1⟩ := hV.fields
  have kk : Keep (fun k => k = KB) w3 (w3.setCell ⟨KB, 1, none⟩ (.int .i64 o)) := (Keep.refl (fun k => k = KB) w3).setCell (p := ⟨KB, 1, none⟩) (fun _ => rfl) _
  have hB4 : BK (fun k => KB ≤ k) (w3.setCell ⟨KB, 1, none⟩ (.int .i64 o)) KB [] o := ⟨v, hpc, hV.own.kept kk (fun g hg e => hV.ne (by rw [hg, e])), hV.ne, hV.fp, hV.fv⟩
  have hPT4 := hPT3.keptF (F := fun k => k = KB) (K := KB) kk (fun i e => by omega) htl hU3
  have hbw4 := hbw3.trans (kk.below (B := w.heap.size) hbw3.size (fun i hi e => by omega))
  clear hV hpc kk hPT3 hbw3
  obtain ⟨st2, hst2⟩ : ∃ x, tnum st1 0 256 = x := ⟨_, rfl⟩
  have hrg2 := tnum_range (st := st1) (a := 0) (b := 256) (by decide) (by decide)
  have hU4 : ∀ A', SameBlock A3 A' → Under KB A' (tnum st1 0 256).2 := fun A' hs => hU3.next hs
  have htn := tnum_any _ tg A3 c3 st1 0 256 hPT4
  rw [hst2] at hdec hrg2 hU4 htn
  obtain ⟨nI, st2⟩ := st2
  dsimp only at hdec htn hU4 hrg2
  go_wp2_with fail
  refine htn.mono ?_
  rintro e w5 ⟨A5, c5, rfl, hPT5, hk5, hsb5⟩
  have hU5 := hU4 A5 hsb5
  have hB5 := hB4.kept hk5 (fun k e e2 => by omega)
  have hbw5 := hbw4.trans (hk5.below (B := w.heap.size) hbw4.size (fun i hi e => by omega))
  clear htn hk5 hPT4 hB4 hbw4 hU4 hst1 hst2 q0 q1 f1 hpl
  obtain ⟨N, hN⟩ : ∃ N, nI.toNat = N := ⟨_, rfl⟩
  have hNI : nI = (N : Int) := by omega
  subst hNI
  rw [hN] at hdec
  have hDEC := Lib.hid hdec
  clear hdec hN hrd
  go_wp2
  go_loopw [17] (fun i wr => ∃ (k : Nat) (l : List Wt) (st : Option (List UInt8)) (A' : Option Addr) (c' : Nat), i = .int .i64 (k : Int) ∧ k ≤ N ∧ l.length = k ∧ BK (fun k => KB ≤ k) wr KB l o ∧ PT wr tg A' c' st ∧ Under KB A' st ∧ Below w.heap.size w wr ∧ Hid (r = decT o (N - k) l st)) (fun i _ => N - (intOf i).toNat)
  case atStart => exact ⟨0, [], st2, A5, c5, by go_num, by omega, rfl, hB5, hPT5, hU5, hbw5, hDEC⟩
  case round =>
    obtain ⟨k, l, st, A6, c6, rfl, hk, hlk, hB, hPT, hU, hb, hD⟩ := hrel
    clear hB5 hPT5 hU5 hbw5 hDEC
    by_cases hlt : k < N
    · as_aux_lemma =>
      have hlz : decide ((k : Int) < (N : Int)) = true := decide_eq_true (by omega)
      have hl256 : l.length < 256 := by omega
      have htn := tnum_any _ tg A6 c6 st 1 topM hPT
      have hrg1 := tnum_range1 (st := st)
      have hU7 : ∀ A', SameBlock A6 A' → Under KB A' (tnum st 1 topM).2 := fun A' hs => hU.next hs
      have hbad := fun h => decT_bad (o := o) (n := N - (k + 1)) (l := l) (st := st) hl256 h
      have hgood := fun h => decT_good (o := o) (n := N - (k + 1)) (l := l) (st := st) h
      rw [show N - (k + 1) + 1 = N - k by omega] at hbad hgood
      obtain ⟨st7, hst7⟩ : ∃ x, tnum st 1 topM = x := ⟨_, rfl⟩
      rw [hst7] at htn hrg1 hU7 hbad hgood
      obtain ⟨x, st7⟩ := st7
      dsimp only at htn hrg1 hU7 hbad hgood
      unfold topM at htn hrg1
      clear hst7
      go_wp2_with fail
      refine htn.mono ?_
      rintro e w7 ⟨A7, c7, rfl, hPT7, hk7, hsb7⟩
      have hU8 := hU7 A7 hsb7
      have hB7 := hB.kept hk7 (fun k e e2 => by omega)
      have hb7 := hb.trans (hk7.below (B := w.heap.size) hb.size (fun i hi e => by omega))
      clear htn hk7 hPT hB hb hU7 hU
      have hpu := bpush_any x hB7 (by omega)
      obtain ⟨E, hE⟩ : ∃ E, pushE l x = E := ⟨_, rfl⟩
      have hpl : pushL l x = if E = 0 then l ++ [⟨x, false⟩] else l := by unfold pushL; rw [hE]
      rw [hE, hpl] at hpu
      rw [hE] at hbad hgood
      have hw7 : KB ≤ w7.heap.size := by have := hB7.lt; omega
      by_cases hE0 : E = 0
      · subst hE0
        rw [if_pos rfl] at hpu
        have hgd := hgood rfl
        clear hgood hbad hpl
        go_wp2_with fail
        refine hpu.mono ?_
        rintro e W3 ⟨rfl, hB8, hk8⟩
        have hB9 : BK (fun k => KB ≤ k) W3 KB (l ++ [⟨x, false⟩]) o := hB8.mono fun i _ e => by rcases e with e | e <;> omega
        have hPT3 := hPT7.keptF (K := KB) hk8 (fun i e => e) htl hU8
        have hb8 := hb7.trans (hk8.below (B := w.heap.size) hb7.size (fun i hi e => by omega))
        clear hpu hB7 hB8 hk8 hPT7 hb7
        obtain ⟨v3, hB3⟩ := hB9
        obtain ⟨Ag, c3, rfl, hfm⟩ := hB3.own.form
        clear hfm
        have hl1 : (l ++ [(⟨x, false⟩ : Wt)]).length = k + 1 := by rw [List.length_append, hlk]; rfl
        rw [hl1] at hB3
        obtain ⟨g, y, rfl, hy, d0', d1'⟩ := hB3.own.place (k := k) (by omega)
        have hyx : y = ⟨x, false⟩ := by
          rw [List.getElem?_append_right (by omega), hlk, Nat.sub_self] at hy
          cases hy
          rfl
        subst hyx
        have hgp : ¬ g = KB := fun e => hB3.ne (by rw [← e]; rfl)
        have hgK : KB ≤ g := hB3.fv g rfl
        obtain ⟨q3, q31⟩ := hB3.fields
        have q3d : W3.drew.cell? ⟨KB, 0, none⟩ = some (.slice (some ⟨g, 0, none⟩) ((k : Nat) + 1) c3) := q3
        have hk0 : (0 : Int) ≤ (k : Int) := by omega
        have hk1 : (k : Int) < ((k + 1 : Nat) : Int) := by omega
        have hk2 : (k : Int) < (k : Int) + 1 := by omega
        obtain ⟨fl, hfl⟩ : ∃ fl, ((tnum st7 0 1).1 == 1) = fl := ⟨_, rfl⟩
        have htf := tnum_flag _ _ _ _ _ hPT3.dr
        rw [hfl] at htf hgd
        have hU9 : ∀ A', SameBlock A7 A' → Under KB A' (tnum st7 0 1).2 := fun A' hs => hU8.next hs
        obtain ⟨st9, hst9⟩ : ∃ x, (tnum st7 0 1).2 = x := ⟨_, rfl⟩
        rw [hst9] at htf hgd hU9
        clear hfl hst9 d0' d1' hPT3
        go_wp2
        refine wp_region_held_drew (S := (fun W => W.cell? ⟨KB, 0, none⟩ = some (.slice (some ⟨g, 0, none⟩) (k + 1) c3))) (by kernel_rfl) q3d (fun hHeld => ?_)
        refine wpAnyH_take (i := 0) (oi := ?oi0a) (v := ?v0a) ?hi0a (by kernel_rfl) (by kernel_rfl) (by kernel_rfl) ?hq0a (Or.inl ⟨?hw0a, ?hy0a⟩) (by assumption) ?rest0a
        case hi0a => (simp only [List.getElem?_toArray, List.getElem?_cons_succ, List.getElem?_cons_zero]; rfl)
        case hq0a => exact fun _ _ _ h => h
        case hw0a => rfl
        case hy0a => (intro w hSw; (try dsimp only at hSw); go_simp <;> with_reducible rfl)
        try simp only [Act.put, List.setIfInBounds_toArray, List.set_cons_zero, List.set_cons_succ]
        refine wpAnyH_take (i := 1) (oi := ?oi1a) (v := ?v1a) ?hi1a (by kernel_rfl) (by kernel_rfl) (by kernel_rfl) ?hq1a (Or.inl ⟨?hw1a, ?hy1a⟩) (by assumption) ?rest1a
        case hi1a => (simp only [List.getElem?_toArray, List.getElem?_cons_succ, List.getElem?_cons_zero]; rfl)
        case hq1a => exact fun _ _ _ h => h
        case hw1a => rfl
        case hy1a => (intro w hSw; (try dsimp only at hSw); go_simp <;> with_reducible rfl)
        try simp only [Act.put, List.setIfInBounds_toArray, List.set_cons_zero, List.set_cons_succ]
        refine wpAnyH_take (i := 2) (oi := ?oi2a) (v := ?v2a) ?hi2a (by kernel_rfl) (by kernel_rfl) (by kernel_rfl) ?hq2a (Or.inl ⟨?hw2a, ?hy2a⟩) (by assumption) ?rest2a
        case hi2a => (simp only [List.getElem?_toArray, List.getElem?_cons_succ, List.getElem?_cons_zero]; rfl)
        case hq2a => exact fun _ _ _ h => h
        case hw2a => rfl
        case hy2a => (intro w hSw; (try dsimp only at hSw); go_simp <;> with_reducible rfl)
        try simp only [Act.put, List.setIfInBounds_toArray, List.set_cons_zero, List.set_cons_succ]
        refine wpAnyH_take (i := 3) (oi := ?oi3a) (v := ?v3a) ?hi3a (by kernel_rfl) (by kernel_rfl) (by kernel_rfl) ?hq3a (Or.inl ⟨?hw3a, ?hy3a⟩) (by assumption) ?rest3a
        case hi3a => (simp only [List.getElem?_toArray, List.getElem?_cons_succ, List.getElem?_cons_zero]; rfl)
        case hq3a => exact fun _ _ _ h => h
        case hw3a => rfl
        case hy3a => (intro w hSw; (try dsimp only at hSw); go_simp <;> with_reducible rfl)
        try simp only [Act.put, List.setIfInBounds_toArray, List.set_cons_zero, List.set_cons_succ]
        refine wpAnyH_take (i := 4) (oi := ?oi4a) (v := ?v4a) ?hi4a (by kernel_rfl) (by kernel_rfl) (by kernel_rfl) ?hq4a (Or.inl ⟨?hw4a, ?hy4a⟩) (by assumption) ?rest4a
        case hi4a => (simp only [List.getElem?_toArray, List.getElem?_cons_succ, List.getElem?_cons_zero]; rfl)
        case hq4a => exact fun _ _ _ h => h
        case hw4a => rfl
        case hy4a => (intro w hSw; (try dsimp only at hSw); go_simp <;> with_reducible rfl)
        try simp only [Act.put, List.setIfInBounds_toArray, List.set_cons_zero, List.set_cons_succ]
        refine wpAnyH_take (i := 5) (oi := ?oi5a) (v := ?v5a) ?hi5a (by kernel_rfl) (by kernel_rfl) (by kernel_rfl) ?hq5a (Or.inl ⟨?hw5a, ?hy5a⟩) (by assumption) ?rest5a
        case hi5a => (simp only [List.getElem?_toArray, List.getElem?_cons_succ, List.getElem?_cons_zero]; rfl)
        case hq5a => exact fun _ _ _ h => h
        case hw5a => rfl
        case hy5a => (intro w hSw; (try dsimp only at hSw); go_simp <;> with_reducible rfl)
        try simp only [Act.put, List.setIfInBounds_toArray, List.set_cons_zero, List.set_cons_succ]
        refine wpAnyH_ready (rs := [6]) (by kernel_rfl) (by simp) ?_
        refine AllReadyH.cons (o := ?o6a) ?hi6a (fun K hK => ?st6a) AllReadyH.nil
        case hi6a => (simp only [List.getElem?_toArray, List.getElem?_cons_succ, List.getElem?_cons_zero]; rfl)
        go_simp
        refine htf.mono ?_
        rintro e W4 ⟨A4, c4, rfl, hPT4, hK4, hsb4⟩
        have hU4 := hU9 A4 hsb4
        have hB4 := hB3.drew.kept hK4 (fun i e e2 => by have : KB ≤ i := e; omega)
        have hp4 : W4.cell? ⟨KB, 0, none⟩ = some (.slice (some ⟨g, 0, none⟩) (k + 1) c3) := hK4.cell q3d (fun e => by dsimp only at e; omega)
        obtain ⟨g9, y9, e9, hy9, d0, d1⟩ := hB4.own.place (k := k) (by omega)
        cases e9
        have hgl4 := (hB4.own.lt g rfl).2
        have f4 := hB4.own.fz (g := g) rfl (k * 2 + 1)
        refine hK.out _ _ hp4 (fun hHeld2 => ?_)
        clear hK K hHeld
        have hHeld := hHeld2
        clear hHeld2
        try simp only [Act.put, List.setIfInBounds_toArray, List.set_cons_zero, List.set_cons_succ]
        refine wpAnyH_take (i := 7) (oi := ?oi7a) (v := ?v7a) ?hi7a (by kernel_rfl) (by kernel_rfl) (by kernel_rfl) ?hq7a (Or.inl ⟨?hw7a, ?hy7a⟩) (by assumption) ?rest7a
        case hi7a => (simp only [List.getElem?_toArray, List.getElem?_cons_succ, List.getElem?_cons_zero]; rfl)
        case hq7a => exact fun _ _ _ h => h
        case hw7a => rfl
        case hy7a => (intro w hSw; (try dsimp only at hSw); go_simp <;> with_reducible rfl)
        try simp only [Act.put, List.setIfInBounds_toArray, List.set_cons_zero, List.set_cons_succ]
        refine wpAnyH_take (i := 8) (oi := ?oi8a) (v := ?v8a) ?hi8a (by kernel_rfl) (by kernel_rfl) (by kernel_rfl) ?hq8a (Or.inl ⟨?hw8a, ?hy8a⟩) (by assumption) ?rest8a
        case hi8a => (simp only [List.getElem?_toArray, List.getElem?_cons_succ, List.getElem?_cons_zero]; rfl)
        case hq8a => exact fun _ _ _ h => h
        case hw8a => rfl
        case hy8a => (intro w hSw; (try dsimp only at hSw); go_simp <;> with_reducible rfl)
        try simp only [Act.put, List.setIfInBounds_toArray, List.set_cons_zero, List.set_cons_succ]
        refine wpAnyH_ready (rs := [9]) (by kernel_rfl) (by simp) ?_
        refine AllReadyH.cons (o := ?o9a) ?hi9a (fun K hK => ?st9a) AllReadyH.nil
        case hi9a => (simp only [List.getElem?_toArray, List.getElem?_cons_succ, List.getElem?_cons_zero]; rfl)
        go_simp
        have kS : Keep (fun k => k = g) W4 (W4.setCell ⟨g, k * 2 + 1, none⟩ (.bool fl)) := (Keep.refl (fun k => k = g) W4).setCell (p := ⟨g, k * 2 + 1, none⟩) (fun _ => rfl) _
        have hp5 : (W4.setCell ⟨g, k * 2 + 1, none⟩ (.bool fl)).cell? ⟨KB, 0, none⟩ = some (.slice (some ⟨g, 0, none⟩) (k + 1) c3) := kS.cell hp4 (fun e => hgp e.symm)
        refine hK.out _ _ hp5 (fun hHeld2 => ?_)
        clear hK K hHeld
        have hHeld := hHeld2
        clear hHeld2
        try simp only [Act.put, List.setIfInBounds_toArray, List.set_cons_zero, List.set_cons_succ]
        refine wpAnyH_done (by kernel_rfl) ?_ _
        have hown := hB4.own.put hl1 k 1 ⟨x, false⟩ ⟨x, fl⟩ (.bool fl) hy rfl (by omega)
        rw [show (l ++ [(⟨x, false⟩ : Wt)]).set k ⟨x, fl⟩ = l ++ [⟨x, fl⟩] from by rw [List.set_append_right (h := by omega), hlk, Nat.sub_self]; rfl] at hown
        have hBE : BK (fun i => KB ≤ i) (W4.setCell ⟨g, k * 2 + 1, none⟩ (.bool fl)) KB (l ++ [⟨x, fl⟩]) o := ⟨_, hB4.pc.kept kS (fun e => hgp e.symm), hown, hB4.ne, hB4.fp, hB4.fv⟩
        have hPTE := hPT4.keptF (F := fun i => i = g) (K := KB) kS (fun i e => by omega) htl hU4
        have hb9 := hb8.drew.trans (hK4.below (B := w.heap.size) (hb8.drew).size (fun i hi e => by omega))
        have hbE := hb9.trans (kS.below (B := w.heap.size) hb9.size (fun i hi e => by omega))
        have hDE := Lib.hid (hD.out.trans hgd)
        have hlE : (l ++ [(⟨x, fl⟩ : Wt)]).length = k + 1 := by rw [List.length_append, hlk]; rfl
        clear hown hB4 hPT4 hb9 hb8 hB3 hK4 kS hp4 hp5 f4 q3 q3d q31 hgd hD hU8 hU9 htf d0 d1 hy9
        go_wp2
        go_roundw
        case measure => simp [intOf]; omega
        case rel => exact ⟨k + 1, _, st9, A4, c4, by go_num, by omega, hlE, hBE, hPTE, hU4, hbE, hDE⟩
      · rw [if_neg hE0] at hpu
        have hen : (E == 0) = false := beq_eq_false_iff_ne.2 hE0
        have hen2 : (E != 0) = true := by simp [hE0]
        have hbd := hbad hE0
        have hrn : r = none := hD.out.trans hbd
        have HR := Lib.hid hrn
        clear hgood hbad hpl hbd hrn
        go_wp2_with fail
        refine hpu.mono ?_
        rintro e w8 ⟨rfl, hB8, hk8⟩
        have hb8 := hb7.trans (hk8.below (B := w.heap.size) hb7.size (fun i hi e => by omega))
        clear hpu
        go_wp2
        refine bodyPost_ret (v := .tuple #[.pointer none, .int .i64 10]) (by simp [results, Try.results30, go_sem]) rfl ⟨hb8, .inl ⟨HR.out, rfl⟩⟩
    · as_aux_lemma =>
      have hlz : decide ((k : Int) < (N : Int)) = false := decide_eq_false (by omega)
      have hkn : k = N := by omega
      have hde := decT_end o l st
      have hre : r = if st = some [] ∧ outOK l o = true then some (l, o) else none := by
        rw [hD.out, show N - k = 0 by omega]
        exact hde
      have HRE := Lib.hid hre
      clear hde hre
      have hdn := tdone_any _ tg A6 c6 st hPT
      have hmo := mayOut_any hB (by omega)
      by_cases hst : st = some []
      · rw [show tdoneN st = 0 from by unfold tdoneN; rw [if_pos hst]] at hdn
        obtain ⟨ok, hok⟩ : ∃ b, outOK l o = b := ⟨_, rfl⟩
        rw [hok] at hmo
        go_wp2_with fail
        refine hdn.mono ?_
        rintro e w8 ⟨rfl, hww⟩
        subst hww
        go_wp2_with fail
        refine hmo.mono ?_
        rintro e w9 ⟨rfl, hb9⟩
        have hBf := hB.below hb9
        have hbf := hb.trans (hb9.mono hb.size)
        cases ok with
        | true =>
          have HR : Hid (r = some (l, o)) := Lib.hid (by rw [HRE.out, if_pos ⟨hst, hok⟩])
          clear hB hb hst hok HRE hdn hmo
          go_wp2
          refine bodyPost_ret (v := .tuple #[.pointer (some ⟨KB, 0, none⟩), .int .i64 0]) (by simp [results, Try.results30, go_sem]) rfl ⟨hbf, .inr ⟨l, o, KB, HR.out, rfl, hBf.mono fun i _ e => by omega⟩⟩
        | false =>
          have HR : Hid (r = none) := Lib.hid (by rw [HRE.out, if_neg (by rw [hok]; simp)])
          clear hB hb hst hok HRE hdn hmo
          go_wp2
          refine bodyPost_ret (v := .tuple #[.pointer none, .int .i64 10]) (by simp [results, Try.results30, go_sem]) rfl ⟨hbf, .inl ⟨HR.out, rfl⟩⟩
      · rw [show tdoneN st = 10 from by unfold tdoneN; rw [if_neg hst]] at hdn
        have HR : Hid (r = none) := Lib.hid (by rw [HRE.out, if_neg (fun h => hst h.1)])
        clear hst HRE hmo
        go_wp2_with fail
        refine hdn.mono ?_
        rintro e w8 ⟨rfl, hww⟩
        subst hww
        clear hdn
        go_wp2
        refine bodyPost_ret (v := .tuple #[.pointer none, .int .i64 10]) (by simp [results, Try.results30, go_sem]) rfl ⟨hb, .inl ⟨HR.out, rfl⟩⟩
end Go.Proofs.Ytnkekjaljhpmjaa
