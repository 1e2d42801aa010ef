/- The program's Unpack of an end. No condition but that the bytes lie in memory. -/
import Derived.Test.YtfgceplafjbmhaaLqW
import Derived.Test.YtfgceplafjbmhaaLkL
namespace Go.Proofs.Ytfgceplafjbmhaa
open Go.RowKit
set_option linter.unusedVariables false
set_option linter.unusedSimpArgs false

theorem PT.dr {w : World} {g : Nat} {A : Option Addr} {c : Nat} {st : Option (List UInt8)} (h : PT w g A c st) : PT w.drew g A c st := ⟨h.blk, h.rd, h.cap, h.apart⟩
/-- Where the taker's bytes lie, if any are left: below K. -/
def Under (K : Nat) (A : Option Addr) (st : Option (List UInt8)) : Prop := st.getD [] ≠ [] → ∀ ad, A = some ad → ad.block < K
theorem Under.on {K : Nat} {A A' : Option Addr} {st st' : Option (List UInt8)} (h : Under K A st) (hl : st'.getD [] ≠ [] → st.getD [] ≠ []) (hs : SameBlock A A') : Under K A' st' := fun hne ad e => by
  obtain ⟨a0, h0, e0⟩ := hs ad e
  rw [e0]
  exact h (hl hne) a0 h0
theorem Under.next {K : Nat} {A A' : Option Addr} {st : Option (List UInt8)} {a b : Int} (h : Under K A st) (hs : SameBlock A A') : Under K A' (tnum st a b).2 := h.on tnum_left hs
theorem takeE_left {seq : Int} {st : Option (List UInt8)} (h : (takeE seq st).2.getD [] ≠ []) : st.getD [] ≠ [] := by
  have h2 : (ttext st 2048).2.getD [] ≠ [] := tnum_left (tnum_left h)
  intro he
  apply h2
  cases st with
  | none => rfl
  | some l =>
    rw [Option.getD_some] at he
    subst he
    rfl
theorem PT.keptF {F : Nat → Prop} {K : Nat} {w w' : World} {g : Nat} {A : Option Addr} {c : Nat} {st : Option (List UInt8)} (h : PT w g A c st) (k : Keep F w w') (hF : ∀ i, F i → K ≤ i) (hg : g < K) (hU : Under K A st) : PT w' g A c st :=
  TK.kept' h k (fun e => by have := hF _ e; omega) (fun hl ad e e2 => by
    have := hF _ e2
    have := hU (fun h0 => by rw [h0] at hl; exact absurd hl (by decide)) ad e
    omega)
theorem tnum_range {st : Option (List UInt8)} {a b : Int} (h : a ≤ 0) (h0 : 0 ≤ b) : a ≤ (tnum st a b).1 ∧ (tnum st a b).1 ≤ b := by
  cases ht : tnum st a b with
  | mk n st2 =>
    cases st2 with
    | none =>
      have : n = 0 := by
        unfold tnum at ht
        repeat' split at ht
        all_goals first | (cases ht; rfl) | cases ht
      rw [this]
      exact ⟨h, h0⟩
    | some s2 =>
      cases st with
      | none => cases ht
      | some s => exact ⟨(tnum_some ht).1, (tnum_some ht).2.1⟩
/-- What Unpack answers. -/
def UnpackPost (w : World) (r : Option (List Bd × Int × Int)) (e : Ending) (w' : World) : Prop :=
  Below w.heap.size w w' ∧ ((r = none ∧ e = .returned (.tuple #[.pointer none, .int .i64 10])) ∨ ∃ l s m p v, r = some (l, s, m) ∧ e = .returned (.tuple #[.pointer (some ⟨p, 0, none⟩), .int .i64 0]) ∧ ES w.heap.size w' p s m v l)
theorem take_in (A : Option Addr) (n c : Nat) (l : List UInt8) (w : World) (hr : RB w A n l) (hn : n ≤ 140737488355328) :
    Calls Try.prog 52 #[.slice A n c] w fun e w' => ∃ g A' c', e = .returned (.pointer (some ⟨g, 0, none⟩)) ∧ w.heap.size ≤ g ∧ PT w' g A' c' (some l) ∧ Below w.heap.size w w' ∧ ∀ ad, A' = some ad → w.heap.size ≤ ad.block := take_any A n c l w hr hn
set_option maxRecDepth 100000 in
set_option maxHeartbeats 3200000 in
theorem lunpack_any (A : Option Addr) (n c : Nat) (s : List UInt8) (w : World) (hr : RB w A n s) (hn : n ≤ 140737488355328) :
    Calls Try.prog 36 #[.slice A n c] w (UnpackPost w (decE s)) := by
  obtain ⟨r, hrd⟩ : ∃ r, decE s = r := ⟨_, rfl⟩
  rw [hrd]
  go_enter Try.func36, Try.ntmps36
  go_wp2_with fail
  refine (take_in A n c s w hr hn).mono ?_
  rintro e w1 ⟨tg, A1, c1, rfl, htg, hPT1, hb1, hA1⟩
  have hU1 : Under w1.heap.size A1 (some s) := fun hne ad e => by
    have h1 := hPT1.rd
    rw [Option.getD_some] at h1 hne
    cases s with
    | nil => exact absurd rfl hne
    | cons x t =>
      obtain ⟨b, off, e2, hc⟩ := h1.2 (by simp)
      rw [e] at e2
      cases e2
      exact World.block_lt_of_cell? _ _ (hc 0 x rfl)
  have htl := hPT1.blk.lt
  obtain ⟨KB, hK⟩ : ∃ KB, w1.heap.size = KB := ⟨_, rfl⟩
  rw [hK] at hU1 htl
  have hKw : w.heap.size ≤ KB := by have := hb1.size; omega
  obtain ⟨st1, hst1⟩ : ∃ x, tnum (some s) 0 topE = x := ⟨_, rfl⟩
  have hrg1 := tnum_range (st := some s) (a := 0) (b := topE) (by decide) (by decide)
  rw [hst1] at hrg1
  have hU2 : ∀ A', SameBlock A1 A' → Under KB A' st1.2 := fun A' hs => by rw [← hst1]; exact hU1.next hs
  have htn := tnum_any w1 tg A1 c1 (some s) 0 topE hPT1
  rw [hst1] at htn
  obtain ⟨sent, st1⟩ := st1
  dsimp only at htn hU2 hrg1
  unfold topE at htn hrg1
  go_wp2_with fail
  refine htn.mono ?_
  rintro e w2 ⟨A2, c2, rfl, hPT2, hk2, hsb2⟩
  have hU3 := hU2 A2 hsb2
  have hbw2 := hb1.trans (hk2.below (B := w.heap.size) hb1.size (fun i hi e => by omega))
  have hKw2 : KB ≤ w2.heap.size := by have := hk2.size; omega
  clear htn hk2 hPT1 hb1 hU2 hU1 hA1 hsb2
  obtain ⟨st2, hst2⟩ : ∃ x, tnum st1 0 topE = x := ⟨_, rfl⟩
  have hrg2 := tnum_range (st := st1) (a := 0) (b := topE) (by decide) (by decide)
  rw [hst2] at hrg2
  have hU4 : ∀ A', SameBlock A2 A' → Under KB A' st2.2 := fun A' hs => by rw [← hst2]; exact hU3.next hs
  have htn := tnum_any w2 tg A2 c2 st1 0 topE hPT2
  rw [hst2] at htn
  obtain ⟨mark, st2⟩ := st2
  dsimp only at htn hU4 hrg2
  unfold topE at htn hrg2
  go_wp2_with fail
  refine htn.mono ?_
  rintro e w3 ⟨A3, c3, rfl, hPT3, hk3, hsb3⟩
  have hU5 := hU4 A3 hsb3
  have hbw3 := hbw2.trans (hk3.below (B := w.heap.size) hbw2.size (fun i hi e => by omega))
  have hKw3 : KB ≤ w3.heap.size := by have := hk3.size; omega
  clear htn hk3 hPT2 hbw2 hU4 hU3 hsb3
  have hbl := Blk.new w3 79 #[.int .i64 sent, .int .i64 mark, .slice none 0 0]
  have hal := (Below.refl w3.heap.size w3).alloc (Nat.le_refl _) (.cells #[.int .i64 sent, .int .i64 mark, .slice none 0 0] 79)
  have hPT4 := TKbelow hPT3 hal
  have hbw4 := hbw3.trans (hal.mono hbw3.size)
  have hE4 : ES KB (w3.alloc (.cells #[.int .i64 sent, .int .i64 mark, .slice none 0 0] 79)) w3.heap.size sent mark (.slice none 0 0) [] := ⟨hbl, BO.nil _ _, by simp [Value.ownBlock], hKw3⟩
  obtain ⟨q0, q1, q2⟩ := hE4.fields
  obtain ⟨Mx, hMx9⟩ : ∃ Mx, min 64 sent = Mx := ⟨_, rfl⟩
  have hMx : (if sent < 64 then sent else 64) = Mx := by rw [← hMx9]; split <;> omega
  have hMx0 : 0 ≤ Mx ∧ Mx ≤ 64 ∧ Mx ≤ sent := by omega
  have hdec : r = restE sent mark (tnum st2 0 Mx).1.toNat (sent - (tnum st2 0 Mx).1) [] (tnum st2 0 Mx).2 := by
    rw [← hrd]
    unfold decE
    dsimp only
    rw [hst1]
    dsimp only
    rw [hst2]
    dsimp only
    rw [hMx]
  clear hrd hst1 hst2
  have HMX := Lib.hid hMx9
  clear hMx hMx9
  obtain ⟨st3, hst3⟩ : ∃ x, tnum st2 0 Mx = x := ⟨_, rfl⟩
  have hrg3 := tnum_range (st := st2) (a := 0) (b := Mx) (by decide) hMx0.1
  rw [hst3] at hdec hrg3
  have hU6 : ∀ A', SameBlock A3 A' → Under KB A' st3.2 := fun A' hs => by rw [← hst3]; exact hU5.next hs
  have htn := tnum_any _ tg A3 c3 st2 0 Mx hPT4
  rw [hst3] at htn
  obtain ⟨nI, st3⟩ := st3
  dsimp only at hdec htn hU6 hrg3
  clear hst3
  go_wp2_with fail
  rw [HMX.out]
  refine htn.mono ?_
  rintro e w5 ⟨A5, c5, rfl, hPT5, hk5, hsb5⟩
  have hU7 := hU6 A5 hsb5
  have hbw5 := hbw4.trans (hk5.below (B := w.heap.size) hbw4.size (fun i hi e => by omega))
  have hE5 := hE4.kept hk5 (show ¬ w3.heap.size = tg by omega) (fun g hg => by simp [Value.ownBlock] at hg)
  obtain ⟨pb, hpb⟩ : ∃ b, w3.heap.size = b := ⟨_, rfl⟩
  rw [hpb] at hE5 ⊢
  have hKp : KB ≤ pb := by omega
  clear htn hk5 hPT4 hbw4 hU6 hU5 hsb5 hE4 q0 q1 q2 hal hbl hPT3 hbw3 HMX hpb
  obtain ⟨N, hN⟩ : ∃ N, nI.toNat = N := ⟨_, rfl⟩
  have hNI : nI = (N : Int) := by omega
  subst hNI
  rw [hN] at hdec
  have hDEC : Hid (r = restE sent mark (N - 0) (sent - (N : Int) + ((0 : Nat) : Int)) [] st3) := Lib.hid (by rw [hdec]; simp)
  clear hdec hN
  obtain ⟨e0, e1, e2⟩ := hE5.fields
  go_wp2
  go_loopw [7] (fun i wr => ∃ (k : Nat) (l : List Bd) (st : Option (List UInt8)) (A' : Option Addr) (c' : Nat) (v : Value), i = .int .i64 (sent - (N : Int) + (k : Int)) ∧ k ≤ N ∧ l.length = k ∧ ES KB wr pb sent mark v l ∧ PT wr tg A' c' st ∧ Under KB A' st ∧ Below w.heap.size w wr ∧ Hid (r = restE sent mark (N - k) (sent - (N : Int) + (k : Int)) l st)) (fun i _ => (sent - intOf i).toNat)
  case atStart => exact ⟨0, [], st3, A5, c5, _, by go_num, by omega, rfl, hE5, hPT5, hU7, hbw5, hDEC⟩
  case round =>
    obtain ⟨k, l, st, A6, c6, v, rfl, hk, hlk, hE, hPT, hU, hb, hD⟩ := hrel
    clear hE5 hPT5 hU7 hbw5 hDEC e0 e1 e2
    obtain ⟨e0, e1, e2⟩ := hE.fields
    by_cases hlt : k < N
    · as_aux_lemma =>
      have hlz : (sent - (N : Int) + (k : Int)) < sent := by omega
      have hwr : IntKind.i64.wrap (sent - (N : Int) + (k : Int) + 1) = sent - (N : Int) + (k : Int) + 1 := by rw [show IntKind.i64.wrap (sent - (N : Int) + (k : Int) + 1) = wrap64 (sent - (N : Int) + (k : Int) + 1) by rw [IntKind.wrap_i64, wrap64], IntWalk.wrap64_in _ (by omega)]
      obtain ⟨sq, hsq⟩ : ∃ q, sent - (N : Int) + (k : Int) + 1 = q := ⟨_, rfl⟩
      have htb := takeBody_any wr.drew tg A6 c6 st sq hPT.dr (fun hne ad e => by have := hU hne ad e; have := hE.pc.lt; show ad.block < wr.heap.size; omega)
      have hU9 : ∀ A', SameBlock A6 A' → Under KB A' (takeE sq st).2 := fun A' hs => hU.on takeE_left hs
      have hDn := restE_step sent mark (N - (k + 1)) (sent - (N : Int) + (k : Int)) l st
      rw [hsq, show N - (k + 1) + 1 = N - k by omega] at hDn
      have HDN : Hid (r = restE sent mark (N - (k + 1)) sq (l ++ [(takeE sq st).1]) (takeE sq st).2) := Lib.hid (hD.out.trans hDn)
      unfold TBPost at htb
      obtain ⟨TE, hTE⟩ : ∃ x, takeE sq st = x := ⟨_, rfl⟩
      rw [hTE] at htb hU9 HDN
      obtain ⟨⟨bs, bt, btr, bd⟩, st9⟩ := TE
      have hbs : bs = sq := by unfold takeE at hTE; injection hTE with h1 _; injection h1 with h1 _ _ _; exact h1.symm
      subst hbs
      dsimp only at htb hU9 HDN
      rw [hsq] at hwr
      have HSQ := Lib.hid hsq
      clear hDn hD hTE
      obtain ⟨Ag, cg, rfl, hfm⟩ := hE.own.form
      clear hfm
      rw [hlk] at hE e2
      have hS0 : wr.drew.cell? ⟨pb, 2, none⟩ = some (.slice Ag k cg) := e2
      have hk64 : N ≤ 64 := by omega
      go_wp2_with fail
      refine wp_region_z (S := (fun W => W.cell? ⟨pb, 2, none⟩ = some (.slice Ag k cg))) 13 (by kernel_rfl) hS0 (fun hHeld => ?_)
      refine wpAnyZ_take (i := 0) (oi := ?oi0x) (u := ?v0x) ?hi0x (by kernel_rfl) (by decide) (by kernel_rfl) (by kernel_rfl) (by kernel_rfl) ?hq0x (Or.inl ⟨?hw0x, ?hy0x⟩) (by assumption) ?rest0x
      case hi0x => (simp only [List.getElem?_toArray, List.getElem?_cons_succ, List.getElem?_cons_zero]; rfl)
      case hq0x => exact fun _ _ _ h => h
      case hw0x => rfl
      case hy0x => (intro w hSw; (try dsimp only at hSw); go_simp <;> with_reducible rfl)
      try simp only [Act.put, List.setIfInBounds_toArray, List.set_cons_zero, List.set_cons_succ]
      refine wpAnyZ_take (i := 1) (oi := ?oi1x) (u := ?v1x) ?hi1x (by kernel_rfl) (by decide) (by kernel_rfl) (by kernel_rfl) (by kernel_rfl) ?hq1x (Or.inl ⟨?hw1x, ?hy1x⟩) (by assumption) ?rest1x
      case hi1x => (simp only [List.getElem?_toArray, List.getElem?_cons_succ, List.getElem?_cons_zero]; rfl)
      case hq1x => exact fun _ _ _ h => h
      case hw1x => rfl
      case hy1x => (intro w hSw; (try dsimp only at hSw); go_simp <;> with_reducible rfl)
      try simp only [Act.put, List.setIfInBounds_toArray, List.set_cons_zero, List.set_cons_succ]
      refine wpAnyZ_take (i := 2) (oi := ?oi2x) (u := ?v2x) ?hi2x (by kernel_rfl) (by decide) (by kernel_rfl) (by kernel_rfl) (by kernel_rfl) ?hq2x (Or.inl ⟨?hw2x, ?hy2x⟩) (by assumption) ?rest2x
      case hi2x => (simp only [List.getElem?_toArray, List.getElem?_cons_succ, List.getElem?_cons_zero]; rfl)
      case hq2x => exact fun _ _ _ h => h
      case hw2x => rfl
      case hy2x => (intro w hSw; (try dsimp only at hSw); go_simp <;> with_reducible rfl)
      try simp only [Act.put, List.setIfInBounds_toArray, List.set_cons_zero, List.set_cons_succ]
      refine wpAnyZ_take (i := 3) (oi := ?oi3x) (u := ?v3x) ?hi3x (by kernel_rfl) (by decide) (by kernel_rfl) (by kernel_rfl) (by kernel_rfl) ?hq3x (Or.inl ⟨?hw3x, ?hy3x⟩) (by assumption) ?rest3x
      case hi3x => (simp only [List.getElem?_toArray, List.getElem?_cons_succ, List.getElem?_cons_zero]; rfl)
      case hq3x => exact fun _ _ _ h => h
      case hw3x => rfl
      case hy3x => (intro w hSw; (try dsimp only at hSw); go_simp <;> with_reducible rfl)
      try simp only [Act.put, List.setIfInBounds_toArray, List.set_cons_zero, List.set_cons_succ]
      refine wpAnyZ_take (i := 4) (oi := ?oi4x) (u := ?v4x) ?hi4x (by kernel_rfl) (by decide) (by kernel_rfl) (by kernel_rfl) (by kernel_rfl) ?hq4x (Or.inl ⟨?hw4x, ?hy4x⟩) (by assumption) ?rest4x
      case hi4x => (simp only [List.getElem?_toArray, List.getElem?_cons_succ, List.getElem?_cons_zero]; rfl)
      case hq4x => exact fun _ _ _ h => h
      case hw4x => rfl
      case hy4x => (intro w hSw; (try dsimp only at hSw); go_simp <;> with_reducible rfl)
      try simp only [Act.put, List.setIfInBounds_toArray, List.set_cons_zero, List.set_cons_succ]
      refine wpAnyZ_take (i := 5) (oi := ?oi5x) (u := ?v5x) ?hi5x (by kernel_rfl) (by decide) (by kernel_rfl) (by kernel_rfl) (by kernel_rfl) ?hq5x (Or.inl ⟨?hw5x, ?hy5x⟩) (by assumption) ?rest5x
      case hi5x => (simp only [List.getElem?_toArray, List.getElem?_cons_succ, List.getElem?_cons_zero]; rfl)
      case hq5x => exact fun _ _ _ h => h
      case hw5x => rfl
      case hy5x => (intro w hSw; (try dsimp only at hSw); go_simp <;> with_reducible rfl)
      try simp only [Act.put, List.setIfInBounds_toArray, List.set_cons_zero, List.set_cons_succ]
      refine wpAnyZ_take (i := 6) (oi := ?oi6x) (u := ?v6x) ?hi6x (by kernel_rfl) (by decide) (by kernel_rfl) (by kernel_rfl) (by kernel_rfl) ?hq6x (Or.inl ⟨?hw6x, ?hy6x⟩) (by assumption) ?rest6x
      case hi6x => (simp only [List.getElem?_toArray, List.getElem?_cons_succ, List.getElem?_cons_zero]; rfl)
      case hq6x => exact fun _ _ _ h => h
      case hw6x => rfl
      case hy6x => (intro w hSw; (try dsimp only at hSw); go_simp <;> with_reducible rfl)
      try simp only [Act.put, List.setIfInBounds_toArray, List.set_cons_zero, List.set_cons_succ]
      refine wpAnyZ_take (i := 7) (oi := ?oi7x) (u := ?v7x) ?hi7x (by kernel_rfl) (by decide) (by kernel_rfl) (by kernel_rfl) (by kernel_rfl) ?hq7x (Or.inl ⟨?hw7x, ?hy7x⟩) (by assumption) ?rest7x
      case hi7x => (simp only [List.getElem?_toArray, List.getElem?_cons_succ, List.getElem?_cons_zero]; rfl)
      case hq7x => exact fun _ _ _ h => h
      case hw7x => rfl
      case hy7x => (intro w hSw; (try dsimp only at hSw); go_simp <;> with_reducible rfl)
      try simp only [Act.put, List.setIfInBounds_toArray, List.set_cons_zero, List.set_cons_succ]
      refine wpAnyZ_one (i := 8) (o := ?o8x) (by kernel_rfl) ?hi8x (fun K hK => ?st8x)
      case hi8x => (simp only [List.getElem?_toArray, List.getElem?_cons_succ, List.getElem?_cons_zero]; rfl)
      go_simp
      refine htb.mono ?_
      rintro e W4 ⟨A4, c4, rfl, hPT4, hK4, hsb4⟩
      have hU4 := hU9 A4 hsb4
      have hE4 := hE.drew.kept hK4 (by omega) (fun i hi e => by have := (hE.own.lt i hi).1; omega)
      have s4 := hE4.fields.2.2
      refine hK.out _ _ (fun _ => s4) (fun hHeld2 => ?_)
      clear hK K hHeld
      have hHeld := hHeld2 (by decide)
      clear hHeld2
      try simp only [Act.put, List.setIfInBounds_toArray, List.set_cons_zero, List.set_cons_succ]
      refine wpAnyZ_one (i := 9) (o := ?o9x) (by kernel_rfl) ?hi9x (fun K hK => ?st9x)
      case hi9x => (simp only [List.getElem?_toArray, List.getElem?_cons_succ, List.getElem?_cons_zero]; rfl)
      go_simp
      have hE5 := hE4.alloc (.cells #[.int .i64 bs, .string ⟨bt.toArray⟩, .int .i64 btr, .int .i64 bd] 81)
      have hn5 := Blk.new W4 81 #[.int .i64 bs, .string ⟨bt.toArray⟩, .int .i64 btr, .int .i64 bd]
      have s5 := hE5.fields.2.2
      have hal5 := (Below.refl W4.heap.size W4).alloc (Nat.le_refl _) (.cells #[.int .i64 bs, .string ⟨bt.toArray⟩, .int .i64 btr, .int .i64 bd] 81)
      have hPT5 : PT (W4.alloc (.cells #[.int .i64 bs, .string ⟨bt.toArray⟩, .int .i64 btr, .int .i64 bd] 81)) tg A4 c4 st9 := TKbelow hPT4 hal5
      refine hK.out _ _ (fun _ => s5) (fun hHeld2 => ?_)
      clear hK K hHeld
      have hHeld := hHeld2 (by decide)
      clear hHeld2
      try simp only [Act.put, List.setIfInBounds_toArray, List.set_cons_zero, List.set_cons_succ]
      refine wpAnyZ_one (i := 10) (o := ?o10x) (by kernel_rfl) ?hi10x (fun K hK => ?st10x)
      case hi10x => (simp only [List.getElem?_toArray, List.getElem?_cons_succ, List.getElem?_cons_zero]; rfl)
      rw [if_pos (by rfl)]
      refine wp_appBO (.tmp 41) (.tmp 46) rfl KB (.slice Ag k cg) l rfl hE5.own ⟨W4.heap.size, 0, none⟩ rfl ⟨bs, bt, btr, bd⟩ (fun j u hu => by rw [Addr.add_lit, Nat.zero_add, hn5.cell]; simpa [Bd.cs] using hu) (by omega) (by have := hK4.size; have := hal5.size; have : pb < wr.drew.heap.size := hE.pc.lt; omega) ?_
      intro v6 W6 hO6 hK6 e6
      have hne6 : ¬ (Value.slice Ag k cg).ownBlock = some pb := hE.ne
      have s6 := hK6.cell s5 hne6
      obtain ⟨A16, cc6, rfl, hfm⟩ := hO6.form
      clear hfm
      refine hK.out _ _ (fun _ => s6) (fun hHeld2 => ?_)
      clear hK K hHeld
      have hHeld := hHeld2 (by decide)
      clear hHeld2
      try simp only [Act.put, List.setIfInBounds_toArray, List.set_cons_zero, List.set_cons_succ]
      refine wpAnyZ_one (i := 11) (o := ?o11x) (by kernel_rfl) ?hi11x (fun K hK => ?st11x)
      case hi11x => (simp only [List.getElem?_toArray, List.getElem?_cons_succ, List.getElem?_cons_zero]; rfl)
      go_simp
      refine hK.out _ _ (fun _ => s6) (fun hHeld2 => ?_)
      clear hK K hHeld
      have hHeld := hHeld2 (by decide)
      clear hHeld2
      try simp only [Act.put, List.setIfInBounds_toArray, List.set_cons_zero, List.set_cons_succ]
      refine wpAnyZ_take (i := 12) (oi := ?oi12x) (u := ?v12x) ?hi12x (by kernel_rfl) (by decide) (by kernel_rfl) (by kernel_rfl) (by kernel_rfl) ?hq12x (Or.inl ⟨?hw12x, ?hy12x⟩) (by assumption) ?rest12x
      case hi12x => (simp only [List.getElem?_toArray, List.getElem?_cons_succ, List.getElem?_cons_zero]; rfl)
      case hq12x => exact fun _ _ _ h => h
      case hw12x => rfl
      case hy12x => (intro w hSw; (try dsimp only at hSw); go_simp <;> with_reducible rfl)
      try simp only [Act.put, List.setIfInBounds_toArray, List.set_cons_zero, List.set_cons_succ]
      refine wpAnyZ_one (i := 13) (o := ?o13x) (by kernel_rfl) ?hi13x (fun K hK => ?st13x)
      case hi13x => (simp only [List.getElem?_toArray, List.getElem?_cons_succ, List.getElem?_cons_zero]; rfl)
      have hpc6 := hE5.pc.kept hK6 hne6
      have f6 := hpc6.frozen 2
      have hpl6 := hpc6.lt
      have q6 := hpc6.cell 2
      simp at q6
      go_simp
      refine hK.out _ _ (fun h => absurd rfl h) (fun hHeld2 => ?_)
      clear hK K hHeld
      clear hHeld2
      try simp only [Act.put, List.setIfInBounds_toArray, List.set_cons_zero, List.set_cons_succ]
      refine wpAnyZ_done (by kernel_rfl) ?_ _
      have hpcE := hpc6.set_ 2 (.slice A16 (l ++ [(⟨bs, bt, btr, bd⟩ : Bd)]).length cc6)
      simp only [List.setIfInBounds_toArray, List.set_cons_zero, List.set_cons_succ] at hpcE
      have kp : Keep (fun k => k = pb) W6 (W6.setCell ⟨pb, 2, none⟩ (.slice A16 (l ++ [(⟨bs, bt, btr, bd⟩ : Bd)]).length cc6)) := (Keep.refl (fun k => k = pb) W6).setCell (p := ⟨pb, 2, none⟩) (fun _ => rfl) _
      have hplt := hE.pc.lt
      have h5z := hK4.size
      have hdz : wr.drew.heap.size = wr.heap.size := rfl
      have hneE : (Value.slice A16 (l ++ [(⟨bs, bt, btr, bd⟩ : Bd)]).length cc6).ownBlock ≠ some pb := by
        rcases e6 with e | e
        · rw [e]; exact hE.ne
        · rw [e]
          intro h
          injection h with h
          have := hal5.size
          omega
      have hEE : ES KB (W6.setCell ⟨pb, 2, none⟩ (.slice A16 (l ++ [(⟨bs, bt, btr, bd⟩ : Bd)]).length cc6)) pb sent mark (.slice A16 (l ++ [(⟨bs, bt, btr, bd⟩ : Bd)]).length cc6) (l ++ [⟨bs, bt, btr, bd⟩]) := ⟨hpcE, hO6.kept kp (fun g hg e => hneE (by rw [hg, e])), hneE, hKp⟩
      have hPT6 := hPT5.keptF (K := KB) hK6 (fun i e => (hE.own.lt i e).1) htl hU4
      have hPTE := hPT6.keptF (K := KB) kp (fun i e => by omega) htl hU4
      have hb4 := hb.drew.trans (hK4.below (B := w.heap.size) hb.drew.size (fun i hi e => by omega))
      have hb5 := hb4.trans (hal5.mono hb4.size)
      have hb6 := hb5.trans (hK6.below (B := w.heap.size) hb5.size (fun i hi e => by have := (hE.own.lt i e).1; omega))
      have hbE := hb6.trans (kp.below (B := w.heap.size) hb6.size (fun i hi e => by omega))
      have hDE : Hid (r = restE sent mark (N - (k + 1)) (sent - (N : Int) + ((k + 1 : Nat) : Int)) (l ++ [⟨bs, bt, btr, bd⟩]) st9) := Lib.hid (by
        rw [show sent - (N : Int) + ((k + 1 : Nat) : Int) = bs by rw [← HSQ.out]; omega]
        exact HDN.out)
      have hlE : (l ++ [(⟨bs, bt, btr, bd⟩ : Bd)]).length = k + 1 := by rw [List.length_append, hlk]; rfl
      rw [hlE] at hEE hPTE hbE
      clear hK4 hK6 hO6 hE4 hE5 hn5 hal5 hPT4 hPT5 hPT6 hb4 hb5 hb6 hb hpc6 f6 q6 kp s4 s5 s6 HDN hE htb hpcE e0 e1 e2 hS0 hPT hU hU9
      go_wp2
      go_roundw
      case measure => simp [intOf]; omega
      case rel => exact ⟨k + 1, _, st9, A4, c4, _, by first | go_num | (have := HSQ.out; simp; omega), by omega, hlE, hEE, hPTE, hU4, hbE, hDE⟩
    · as_aux_lemma =>
      have hkn : k = N := by omega
      have hlz : ¬ (sent - (N : Int) + (k : Int)) < sent := by omega
      have hre : r = if st = some [] then some (l, sent, mark) else none := by
        rw [hD.out, show N - k = 0 by omega]
        exact restE_end sent mark _ l st
      have HRE := Lib.hid hre
      clear hre hD
      have hdn := tdone_any _ tg A6 c6 st hPT
      by_cases hst : st = some []
      · rw [show tdoneN st = 0 from by unfold tdoneN; rw [if_pos hst]] at hdn
        have HR : Hid (r = some (l, sent, mark)) := Lib.hid (by rw [HRE.out, if_pos hst])
        clear HRE hst
        go_wp2_with fail
        refine hdn.mono ?_
        rintro e w8 ⟨rfl, hww⟩
        subst hww
        clear hdn
        go_wp2
        refine bodyPost_ret (v := .tuple #[.pointer (some ⟨pb, 0, none⟩), .int .i64 0]) (by simp [results, Try.results36, go_sem]) rfl ⟨hb, .inr ⟨l, sent, mark, pb, v, HR.out, rfl, hE.mono' hKw⟩⟩
      · rw [show tdoneN st = 10 from by unfold tdoneN; rw [if_neg hst]] at hdn
        have HR : Hid (r = none) := Lib.hid (by rw [HRE.out, if_neg hst])
        clear HRE hst
        go_wp2_with fail
        refine hdn.mono ?_
        rintro e w8 ⟨rfl, hww⟩
        subst hww
        clear hdn
        go_wp2
        refine bodyPost_ret (v := .tuple #[.pointer none, .int .i64 10]) (by simp [results, Try.results36, go_sem]) rfl ⟨hb, .inl ⟨HR.out, rfl⟩⟩
end Go.Proofs.Ytfgceplafjbmhaa
