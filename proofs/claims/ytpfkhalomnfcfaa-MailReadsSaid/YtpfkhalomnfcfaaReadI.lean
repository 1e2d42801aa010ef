/- The document's Read of a list. No condition. -/
import Derived.Test.YtpfkhalomnfcfaaTakeI
namespace Go.Proofs.Ytpfkhalomnfcfaa
open Go.RowKit Go.Maps Go.Shelf
set_option linter.unusedVariables false
set_option linter.unusedSimpArgs false

theorem TK.keep {S : Nat → Prop} {t : TypeId} {w w' : World} {g : Nat} {A : Option Addr} {c : Nat} {l : List UInt8} {bad : Bool} {B : Nat} (h : TK t w g A c l bad) (ho : OldA B A (some l)) (k : Keep S w w') (hg : ¬ S g) (hS : ∀ i, i < B → ¬ S i) : TK t w' g A c l bad :=
  ⟨h.blk.kept k hg, h.rd.kept' k fun hp ad ha => hS _ (ho hp ad ha), h.cap, h.apart⟩
theorem TK.lt {t : TypeId} {w : World} {g : Nat} {A : Option Addr} {c : Nat} {l : List UInt8} {bad : Bool} (h : TK t w g A c l bad) : OldA w.heap.size A (some l) := fun hp ad ha => h.rd.addr_lt ha hp
theorem OldA.less {B : Nat} {A A' : Option Addr} {l l' : List UInt8} (h : OldA B A (some l)) (hs : SameBlock A A') (hl : l'.length ≤ l.length) : OldA B A' (some l') := h.next hs hl

def ReadPost (w : World) (g : Nat) (A : Option Addr) (n : Nat) (st : Option (List UInt8)) (e : Ending) (w' : World) : Prop :=
  ∃ v ok A' c' l' bad' lr, e = .returned (.tuple #[v, .bool ok]) ∧ OI w.heap.size w' v lr ∧ TK 80 w' g A' c' l' bad' ∧ Keep (fun k => k = g) w w' ∧ SameBlock A A' ∧ l'.length ≤ n ∧
    (ok = true → takeL st = (lr, some l') ∧ bad' = false) ∧ (ok = false → (takeL st).2 = none)

set_option maxRecDepth 100000 in
set_option maxHeartbeats 3200000 in
theorem rread_any (w : World) (g : Nat) (A : Option Addr) (c : Nat) (l : List UInt8) (bad : Bool) (h : TK 80 w g A c l bad) :
    Calls Try.prog 49 #[.pointer (some ⟨g, 0, none⟩)] w (ReadPost w g A l.length (rst l bad)) := by
  have hgw := h.blk.lt
  have hold := h.lt
  obtain ⟨hb0, hb1⟩ := takeN_bound (rst l bad)
  obtain ⟨N, hN⟩ := Int.eq_ofNat_of_zero_le hb0
  obtain ⟨st1, hst1⟩ : ∃ s, (takeN (rst l bad)).2 = s := ⟨_, rfl⟩
  have key := rtnum_any w g A c l bad 0 16 h
  rw [show tnum (rst l bad) 0 16 = ((N : Int), st1) from Prod.ext hN hst1] at key
  have hR : takeR (rst l bad) = itIter st1 N := by unfold takeR; rw [hst1, hN]; rfl
  have hL : takeL (rst l bad) = if mayL (itIter st1 N).1 then itIter st1 N else ([], none) := by unfold takeL; rw [hR]
  have hN16 : N ≤ 16 := by omega
  have HL := Lib.hid hL
  have KEY := Lib.hid key
  clear key hL hR hst1 hN hb0 hb1
  go_enter Try.func49, Try.ntmps49
  go_wp2_with fail
  refine KEY.out.mono ?_
  rintro e w1 ⟨A1, c1, l1, bad1, rfl, h1, hr1, hk1, hs1, hln1⟩
  have ho1 := hold.less hs1 hln1
  clear KEY
  go_wp2_with fail
  go_loopw [5, 6] (fun v i wr => ∃ (k : Nat) (A' : Option Addr) (c' : Nat) (l' : List UInt8) (bad' : Bool), i = .int .i64 (k : Int) ∧ k ≤ N ∧ OI w.heap.size wr v (itIter st1 k).1 ∧ TK 80 wr g A' c' l' bad' ∧ rst l' bad' = (itIter st1 k).2 ∧ OldA w.heap.size A' (some l') ∧ Keep (fun k => k = g) w wr ∧ SameBlock A A' ∧ l'.length ≤ l.length) (fun v i _ => N - (intOf i).toNat)
  case atStart => exact ⟨0, A1, c1, l1, bad1, by go_num, by omega, OI.nil _ _, h1, hr1, ho1, hk1, hs1, hln1⟩
  case round =>
    obtain ⟨k, A2, c2, l2, bad2, rfl, hk, hO, hP, hr2, ho2, hk2, hs2, hln2⟩ := hrel
    obtain ⟨li, st2, hp2⟩ : ∃ l s, itIter st1 k = (l, s) := ⟨_, _, rfl⟩
    have hli : li.length = k := by have := itIter_len st1 k; rw [hp2] at this; exact this
    rw [hp2] at hO hr2
    dsimp only at hO hr2
    subst hr2
    have hcb := hP.blk.cell 1
    simp at hcb
    have hz2 := hk2.size
    by_cases hlt : k < N
    case pos =>
      have hlz : (k : Int) < (N : Int) := by omega
      cases bad2 with
      | true =>
        have hnone : (takeL (rst l bad)).2 = none := by
          have h2 := itIter_none (st := st1) (k := k) (by rw [hp2]; rfl) N (by omega)
          rw [HL.out]
          split
          · exact h2
          · rfl
        go_wp2
        go_ret2
        exact ⟨_, false, A2, c2, l2, true, li, rfl, hO, hP, hk2, hs2, hln2, (fun h => by cases h), fun _ => hnone⟩
      | false =>
        obtain ⟨s, st3, hT⟩ : ∃ s t, ttext (rst l2 false) 16 = (s, t) := ⟨_, _, rfl⟩
        obtain ⟨q, st4, hQ⟩ : ∃ s t, tnum st3 1 1099511627776 = (s, t) := ⟨_, _, rfl⟩
        have hI : itIter st1 (k + 1) = (li ++ [(s, q)], st4) := by rw [itIter, hp2, itStep]; simp only []; rw [hT]; simp only []; rw [hQ]
        have HI := Lib.hid hI
        have HQ := Lib.hid hQ
        have HT := Lib.hid hT
        clear hI hp2 hQ hT
        have hP2 := hP.keep ho2 ((Keep.refl (fun _ => False) wr).alloc (.cells #[.string ⟨#[]⟩, .int .i64 0] 46)) id (fun _ _ => id)
        have hX2 := Blk.new wr 46 #[.string ⟨#[]⟩, .int .i64 0]
        have hO2 := hO.alloc (.cells #[.string ⟨#[]⟩, .int .i64 0] 46)
        have hK2 := hk2.alloc (.cells #[.string ⟨#[]⟩, .int .i64 0] 46)
        have key2 := rttext_any _ g A2 c2 l2 false 16 hP2
        rw [HT.out] at key2
        have hgb : g ≠ wr.heap.size := by omega
        have hx0 := hX2.cell 0
        have hx1 := hX2.cell 1
        have hxf0 := hX2.frozen 0
        have hxf1 := hX2.frozen 1
        simp at hx0 hx1
        go_wp2_with fail
        refine key2.mono ?_
        rintro e w3 ⟨A3, c3, l3, bad3, rfl, h3, hr3, hk3, hs3, hln3⟩
        have hz3 := hk3.size
        rw [World.size_alloc] at hz3
        have hO3 := hO2.kept hk3 fun gg hg e => by have := (hO2.lt gg hg).1; omega
        have hX3 := hX2.kept hk3 (fun e => hgb e.symm)
        have ho3 := ho2.less hs3 hln3
        have hK3 := hK2.trans hk3 fun _ _ e => e
        rw [strV_eq]
        subst hr3
        clear key2 hx0 hx1 hxf0 hxf1
        have hx0 := hX3.cell 0
        have hxf0 := hX3.frozen 0
        simp at hx0
        have hS3 := (Keep.refl (fun i => i = wr.heap.size) w3).setCell (p := ⟨wr.heap.size, 0, none⟩) (fun _ => rfl) (.string ⟨s.toArray⟩)
        have hX4 := hX3.set_ 0 (.string ⟨s.toArray⟩)
        simp at hX4
        have hP4 := h3.keep ho3 hS3 hgb (fun i hi e => by omega)
        have hO4 := hO3.kept hS3 fun gg hg e => by have := (hO.lt gg hg).2; omega
        have hK4 := hK3.setCell (p := ⟨wr.heap.size, 0, none⟩) (fun h => absurd h (by dsimp only; omega)) (.string ⟨s.toArray⟩)
        have key3 := rtnum_any _ g A3 c3 l3 bad3 1 1099511627776 hP4
        rw [HQ.out] at key3
        go_wp2_with fail
        refine key3.mono ?_
        rintro e w5 ⟨A5, c5, l5, bad5, rfl, h5, hr5, hk5, hs5, hln5⟩
        have hz5 := hk5.size
        have hz4 : (w3.setCell ⟨wr.heap.size, 0, none⟩ (.string ⟨s.toArray⟩)).heap.size = w3.heap.size := by simp [World.setCell]
        rw [hz4] at hz5
        have hO5 := hO4.kept hk5 fun gg hg e => by have := (hO4.lt gg hg).1; omega
        have hX5 := hX4.kept hk5 (fun e => hgb e.symm)
        have ho5 := ho3.less hs5 hln5
        have hK5 := hK4.trans hk5 fun _ _ e => e
        have hx1 := hX5.cell 1
        have hxf1 := hX5.frozen 1
        simp at hx1
        have hS5 := (Keep.refl (fun i => i = wr.heap.size) w5).setCell (p := ⟨wr.heap.size, 1, none⟩) (fun _ => rfl) (.int .i64 q)
        have hX6 := hX5.set_ 1 (.int .i64 q)
        simp at hX6
        have hP6 := h5.keep ho5 hS5 hgb (fun i hi e => by omega)
        have hO6 := hO5.kept hS5 fun gg hg e => by have := (hO.lt gg hg).2; omega
        have hK6 := hK5.setCell (p := ⟨wr.heap.size, 1, none⟩) (fun h => absurd h (by dsimp only; omega)) (.int .i64 q)
        have hx6 := hX6.cell 0
        have hx7 := hX6.cell 1
        simp at hx6 hx7
        clear hX2 hX3 hX4 hX5 hx0 hxf0
        have hsz5 : (w5.setCell ⟨wr.heap.size, 1, none⟩ (.int .i64 q)).heap.size = w5.heap.size := by simp [World.setCell]
        have hone := IL.one (w5.setCell ⟨wr.heap.size, 1, none⟩ (.int .i64 q)) s q 46
        rw [hsz5] at hone
        go_wp2_with (at_builtin; (refine wpAppI rfl _ _ rfl w.heap.size _ _ rfl (hO6.alloc _) _ 1 1 [(s, q)] rfl hone (fun h => by cases h) (by omega) (by simp [World.setCell]; omega) ?_); rintro v' w7 hO7 hk7 hl7)
        go_roundw
        case rel =>
          have hv : ∀ i, i < w.heap.size → ¬ u5.ownBlock = some i := fun i hi e => by have := (hO.lt i e).1; omega
          have hk67 := ((Keep.refl (fun i => u5.ownBlock = some i) (w5.setCell ⟨wr.heap.size, 1, none⟩ (.int .i64 q))).alloc _).trans hk7 fun _ _ e => e
          refine ⟨k + 1, A5, c5, l5, bad5, by go_num, by omega, ?_, hP6.keep ho5 hk67 (hv g hgw) hv, ?_, ho5, hK6.trans hk67 fun i hi e => absurd e (hv i hi), (hs2.trans hs3).trans hs5, by omega⟩
          · rw [HI.out]; exact hO7
          · rw [HI.out]; exact hr5
        case measure => simp [intOf]; omega
    case neg =>
      have hlz : ¬ (k : Int) < (N : Int) := by omega
      have hkN : k = N := by omega
      subst hkN
      obtain ⟨A5, c5, rfl, _, _, hi5, hAd⟩ := hO.form
      rw [hp2] at HL
      dsimp only at HL
      rw [hli] at hi5 hO
      rw [hli]
      cases bad2 with
      | true =>
        have hnone : (takeL (rst l bad)).2 = none := by
          rw [HL.out]
          split <;> rfl
        go_wp2
        go_ret2
        exact ⟨_, false, A2, c2, l2, true, li, rfl, hO, hP, hk2, hs2, hln2, (fun h => by cases h), fun _ => hnone⟩
      | false =>
        go_wp2_with fail
        refine (refmay_b A5 k c5 li wr hi5 (by omega) (fun x hx => by have := (itIter_ok k hp2 x hx).1; omega)).mono ?_
        rintro e w6 ⟨rfl, hb6⟩
        cases hm : mayL li with
        | true =>
          go_wp2
          go_ret2
          have HL' := HL.out
          rw [hm, if_pos rfl] at HL'
          have hk6 := Keep.of_below' (S := fun i => i = g) hb6
          exact ⟨_, true, A2, c2, l2, false, li, rfl, hO.below hb6, hP.below hb6, hk2.trans hk6 fun _ _ e => e, hs2, hln2, fun _ => ⟨HL', rfl⟩, fun h => by cases h⟩
        | false =>
          go_wp2
          go_ret2
          have HL' := HL.out
          rw [hm, if_neg (by decide)] at HL'
          have hk6 := Keep.of_below' (S := fun i => i = g) hb6
          exact ⟨_, false, A2, c2, l2, false, li, rfl, hO.below hb6, hP.below hb6, hk2.trans hk6 fun _ _ e => e, hs2, hln2, (fun h => by cases h), fun _ => by rw [HL']⟩
end Go.Proofs.Ytpfkhalomnfcfaa
