/- items.Take and the document's Read. No condition. -/
import Derived.Test.YtpfkhalomnfcfaaPutI
namespace Go.Proofs.Ytpfkhalomnfcfaa
open Go.RowKit Go.Maps Go.Shelf
set_option linter.unusedVariables false
set_option linter.unusedSimpArgs false

theorem tnum_len (st : Option (List UInt8)) (a b : Int) : ((tnum st a b).2.getD []).length ≤ (st.getD []).length := by
  cases hf : first (st.getD []) with
  | none => rw [pt_none_first st a b hf]; simp
  | some p =>
    obtain ⟨z, k⟩ := p
    rw [pt_some_first a b hf]
    split
    · simp
    · simp
theorem ttext_len (st : Option (List UInt8)) (b : Int) : ((ttext st b).2.getD []).length ≤ (st.getD []).length := by
  cases hf : ft (st.getD []) with
  | none => rw [pt_none_ft st b hf]; simp
  | some p =>
    obtain ⟨k, m⟩ := p
    rw [pt_some_ft b hf]
    split
    · simp
    · simp
theorem PT.lt {w : World} {g : Nat} {A : Option Addr} {c : Nat} {st : Option (List UInt8)} (h : PT w g A c st) : 0 < (st.getD []).length → ∀ ad, A = some ad → ad.block < w.heap.size := fun hp ad ha => h.rd.addr_lt ha hp
/-- Where a taker's bytes lie: in old memory. -/
def OldA (B : Nat) (A : Option Addr) (st : Option (List UInt8)) : Prop := 0 < (st.getD []).length → ∀ ad, A = some ad → ad.block < B
theorem OldA.next {B : Nat} {A A' : Option Addr} {st st' : Option (List UInt8)} (h : OldA B A st) (hs : SameBlock A A') (hl : (st'.getD []).length ≤ (st.getD []).length) : OldA B A' st' := fun hp ad ha => by
  obtain ⟨a0, h0, e⟩ := hs ad ha
  rw [e]
  exact h (by omega) a0 h0
theorem PT.keep {S : Nat → Prop} {w w' : World} {g : Nat} {A : Option Addr} {c : Nat} {st : Option (List UInt8)} {B : Nat} (h : PT w g A c st) (ho : OldA B A st) (k : Keep S w w') (hg : ¬ S g) (hS : ∀ i, i < B → ¬ S i) : PT w' g A c st :=
  ⟨h.blk.kept k hg, h.rd.kept' k fun hp ad ha => hS _ (ho hp ad ha), h.cap, h.apart⟩

def TakePost (w : World) (g : Nat) (A : Option Addr) (st : Option (List UInt8)) (l : List It) (e : Ending) (w' : World) : Prop :=
  ∃ v A' c', e = .returned v ∧ OI w.heap.size w' v l ∧ PT w' g A' c' st ∧ Keep (fun k => k = g) w w' ∧ SameBlock A A'

theorem tnum_refuse (st : Option (List UInt8)) : (tnum st 1 0).2 = none := by
  cases hf : first (st.getD []) with
  | none => rw [pt_none_first st 1 0 hf]
  | some p =>
    obtain ⟨z, k⟩ := p
    rw [pt_some_first 1 0 hf, if_pos (by omega)]
theorem refuse_any (w : World) (g : Nat) (A : Option Addr) (c : Nat) (st : Option (List UInt8)) (h : PT w g A c st) :
    Calls Try.prog 70 #[.pointer (some ⟨g, 0, none⟩)] w (TPost w g A none (.tuple #[])) := by
  go_enter Try.func70, Try.ntmps70
  go_wp2_with fail
  refine (tnum_any w g A c st 1 0 h).mono ?_
  rintro e w1 ⟨A', c', rfl, r1, r2, r3⟩
  rw [tnum_refuse] at r1
  go_wp2
  go_end0
  exact ⟨A', c', rfl, r1, r2, r3⟩

theorem strV_eq (l : List UInt8) : strV l = .string ⟨l.toArray⟩ := rfl

set_option maxRecDepth 100000 in
set_option maxHeartbeats 1600000 in
theorem itake_any (w : World) (g : Nat) (A : Option Addr) (c : Nat) (st : Option (List UInt8)) (h : PT w g A c st) :
    Calls Try.prog 38 #[.pointer (some ⟨g, 0, none⟩)] w (TakePost w g A (takeL st).2 (takeL st).1) := by
  have hgw := h.blk.lt
  have hold : OldA w.heap.size A st := h.lt
  obtain ⟨hb0, hb1⟩ := takeN_bound st
  obtain ⟨N, hN⟩ := Int.eq_ofNat_of_zero_le hb0
  obtain ⟨st1, hst1⟩ : ∃ s, (takeN st).2 = s := ⟨_, rfl⟩
  have key := tnum_any w g A c st 0 16 h
  rw [show tnum st 0 16 = ((N : Int), st1) from Prod.ext hN hst1] at key
  have hlen1 : (st1.getD []).length ≤ (st.getD []).length := by rw [← hst1]; exact tnum_len st 0 16
  have hR : takeR st = itIter st1 N := by unfold takeR; rw [hst1, hN]; rfl
  have hL : takeL st = if mayL (itIter st1 N).1 then itIter st1 N else ([], none) := by unfold takeL; rw [hR]
  have hN16 : N ≤ 16 := by omega
  have HL := Lib.hid hL
  have KEY := Lib.hid key
  clear key hL hR hst1 hN hb0 hb1
  go_enter Try.func38, Try.ntmps38
  go_wp2_with fail
  refine KEY.out.mono ?_
  rintro e w1 ⟨A1, c1, rfl, h1, hk1, hs1⟩
  have ho1 := hold.next hs1 hlen1
  clear KEY
  go_wp2_with fail
  go_loopw [3, 7] (fun v i wr => ∃ (k : Nat) (A' : Option Addr) (c' : Nat), i = .int .i64 (k : Int) ∧ k ≤ N ∧ OI w.heap.size wr v (itIter st1 k).1 ∧ PT wr g A' c' (itIter st1 k).2 ∧ OldA w.heap.size A' (itIter st1 k).2 ∧ Keep (fun k => k = g) w wr ∧ SameBlock A A') (fun v i _ => N - (intOf i).toNat)
  case atStart => exact ⟨0, A1, c1, by go_num, by omega, OI.nil _ _, h1, ho1, hk1, hs1⟩
  case round =>
    obtain ⟨k, A2, c2, rfl, hk, hO, hP, ho2, hk2, hs2⟩ := hrel
    by_cases hlt : k < N
    · have hlz : (k : Int) < (N : Int) := by omega
      obtain ⟨l2, st2, hp2⟩ : ∃ l s, itIter st1 k = (l, s) := ⟨_, _, rfl⟩
      have hl2 : l2.length = k := by have := itIter_len st1 k; rw [hp2] at this; exact this
      rw [hp2] at hO hP ho2
      dsimp only at hO hP ho2
      obtain ⟨s, st3, hT⟩ : ∃ s t, ttext st2 16 = (s, t) := ⟨_, _, rfl⟩
      obtain ⟨q, st4, hQ⟩ : ∃ s t, tnum st3 1 1099511627776 = (s, t) := ⟨_, _, rfl⟩
      have hI : itIter st1 (k + 1) = (l2 ++ [(s, q)], st4) := by rw [itIter, hp2, itStep, hT]; simp only []; rw [hQ]
      have key2 := ttext_any wr g A2 c2 st2 16 hP
      rw [hT] at key2
      have hlen3 : (st3.getD []).length ≤ (st2.getD []).length := by have := ttext_len st2 16; rw [hT] at this; exact this
      have hlen4 : (st4.getD []).length ≤ (st3.getD []).length := by have := tnum_len st3 1 1099511627776; rw [hQ] at this; exact this
      have HI := Lib.hid hI
      have HQ := Lib.hid hQ
      clear hI hT hp2 hQ
      have hz2 := hk2.size
      go_wp2_with fail
      refine key2.mono ?_
      rintro e w3 ⟨A3, c3, rfl, h3, hk3, hs3⟩
      have hO3 := hO.kept hk3 fun gg hg e => by have := (hO.lt gg hg).1; omega
      have ho3 := ho2.next hs3 hlen3
      have key3 := tnum_any w3 g A3 c3 st3 1 1099511627776 h3
      rw [HQ.out] at key3
      rw [strV_eq]
      clear key2
      go_wp2_with fail
      refine key3.mono ?_
      rintro e w4 ⟨A4, c4, rfl, h4, hk4, hs4⟩
      have hO4 := hO3.kept hk4 fun gg hg e => by have := (hO3.lt gg hg).1; omega
      have ho4 := ho3.next hs4 hlen4
      have hk24 := (hk2.trans hk3 fun i hi e => e).trans hk4 fun i hi e => e
      have hs24 := (hs2.trans hs3).trans hs4
      have hz4 := hk24.size
      clear key3 hO hO3 hP h3
      go_wp2_with (at_builtin; refine wpAppI rfl _ _ rfl w.heap.size _ _ rfl (hO4.alloc _) _ 1 1 [(s, q)] rfl (IL.one w4 s q _) (fun h => by cases h) (by omega) (by simp; omega) ?_; rintro v' w5 hO5 hk5 hl5)
      go_roundw
      case rel =>
        have hv : ∀ i, i < w.heap.size → ¬ u3.ownBlock = some i := fun i hi e => by have := (hO4.lt i e).1; omega
        have hk45 : Keep (fun i => u3.ownBlock = some i) w4 w5 := ((Keep.refl (fun i => u3.ownBlock = some i) w4).alloc _).trans hk5 fun _ _ e => e
        refine ⟨k + 1, A4, c4, by go_num, by omega, ?_, ?_, ?_, hk24.trans hk45 fun i hi e => absurd e (hv i hi), hs24⟩
        · rw [HI.out]; exact hO5
        · rw [HI.out]; exact h4.keep ho4 hk45 (hv g hgw) hv
        · rw [HI.out]; exact ho4
      case measure => simp [intOf]; omega
    · have hlz : ¬ (k : Int) < (N : Int) := by omega
      have hkN : k = N := by omega
      subst hkN
      have hl2 := itIter_len st1 k
      obtain ⟨l2, st2, hp2⟩ : ∃ l s, itIter st1 k = (l, s) := ⟨_, _, rfl⟩
      rw [hp2] at hO hP ho2 HL hl2
      dsimp only at hO hP ho2 HL hl2
      obtain ⟨A5, c5, rfl, _, _, hi5, hAd⟩ := hO.form
      rw [hl2] at hi5 hO
      rw [hl2]
      have hz2 := hk2.size
      cases hm : mayL l2 with
      | true =>
        go_wp2_with fail
        refine (mayI_any A5 k c5 l2 wr hi5 (by omega)).mono ?_
        rintro e w6 ⟨rfl, hb6⟩
        rw [hm]
        go_wp2
        go_ret
        have HL' := HL.out
        rw [hm, if_pos rfl] at HL'
        rw [HL']
        have hk6 := Keep.of_below' (S := fun i => i = g) hb6
        refine ⟨_, A2, c2, rfl, hO.below hb6, TK.below hP hb6, hk2.trans hk6 fun _ _ e => e, hs2⟩
      | false =>
        go_wp2_with fail
        refine (mayI_any A5 k c5 l2 wr hi5 (by omega)).mono ?_
        rintro e w6 ⟨rfl, hb6⟩
        rw [hm]
        go_wp2_with fail
        refine (refuse_any w6 g A2 c2 st2 (TK.below hP hb6)).mono ?_
        rintro e w7 ⟨A7, c7, rfl, h7, hk7, hs7⟩
        go_wp2
        go_ret
        have HL' := HL.out
        rw [hm, if_neg (by decide)] at HL'
        rw [HL']
        have hk6 := Keep.of_below' (S := fun i => i = g) hb6
        exact ⟨_, A7, c7, rfl, OI.nil _ _, h7, (hk2.trans hk6 fun _ _ e => e).trans hk7 fun _ _ e => e, hs2.trans hs7⟩
end Go.Proofs.Ytpfkhalomnfcfaa
