/- The document's moves: Under; Same of two moves. No condition but that they lie in memory. -/
import Derived.Test.YtligpmnpfdaknaaMwF
import Derived.Test.YtligpmnpfdaknaaRNorm
import Derived.Test.YtligpmnpfdaknaaRgT
namespace Go.Proofs.Ytligpmnpfdaknaa
open Go.RowKit Go.Shelf
set_option linter.unusedVariables false
set_option linter.unusedSimpArgs false

/-- The sums over rows, up to the first that is refused. -/
def underW (fr to : Int) : List Rec → List It → List It
  | [], acc => acc
  | r :: rs, acc => match onWay r fr to with
    | false => underW fr to rs acc
    | true => if plusE acc r.l.l = 0 then underW fr to rs (plusR acc r.l.l) else acc
theorem my_long {l : List It} (h : MY l) : ∀ x ∈ l, x.1.length ≤ 9223372036854775807 := fun x hx => by
  have := (my_wl h x hx).1
  simp only [maxLen] at this
  omega
theorem drop_at {l : List Rec} {k : Nat} {x : Rec} (h : l[k]? = some x) : l.drop k = x :: l.drop (k + 1) := by
  obtain ⟨hk, rfl⟩ := List.getElem?_eq_some_iff.1 h
  exact List.drop_eq_getElem_cons hk
set_option maxRecDepth 100000 in
set_option maxHeartbeats 6400000 in
theorem runder_any {F : Nat → Prop} {w : World} {p : Nat} {l : List Rec} (h : QK F w p l) (hl : l.length ≤ 1048576) (hls : ∀ r ∈ l, IL w r.l.A r.l.n r.l.l ∧ MY r.l.l) (fr to : Int) :
    Calls Try.prog 20 #[.pointer (some ⟨p, 0, none⟩), .int .i64 fr, .int .i64 to] w fun e w' => ∃ v, e = .returned v ∧ OI w.heap.size w' v (underW fr to l []) ∧ Below w.heap.size w w' := by
  obtain ⟨R, hR⟩ : ∃ R, underW fr to l [] = R := ⟨_, rfl⟩
  rw [hR]
  replace hR := Lib.hid hR
  obtain ⟨v, h⟩ := h
  obtain ⟨AR, cR, rfl, hfm⟩ := h.own.form
  clear hfm
  obtain ⟨N, hN⟩ : ∃ N, l.length = N := ⟨_, rfl⟩
  rw [hN] at h hl
  replace hN := Lib.hid hN
  go_enter Try.func20, Try.ntmps20
  go_wp2
  go_loopw [7, 8, 9, 10, 11] (fun o i s9 s10 s11 wr => ∃ k acc A c, o = .slice A acc.length c ∧ i = .int .i64 ((k : Nat) : Int) ∧ k ≤ N ∧ OI w.heap.size wr (.slice A acc.length c) acc ∧ MY acc ∧ Hid (underW fr to (l.drop k) acc = R) ∧ QV F wr p (.slice AR N cR) l ∧ Below w.heap.size w wr) (fun _ i _ _ _ _ => N - (intOf i).toNat)
  case atStart => exact ⟨0, [], none, 0, rfl, by go_num, by omega, OI.nil _ _, MY.of_ pl_may0, Lib.hid (by rw [List.drop_zero]; exact hR.out), h, Below.refl _ _⟩
  case round =>
    obtain ⟨k, acc, A, c, rfl, rfl, hk, hO, hMY, hu, hr, hb⟩ := hrel
    have h0 := hr.field
    have hacc16 := hMY.len
    by_cases hlt : k < N
    · have hlz : (k : Int) < (N : Int) := by omega
      have hk0 : (0 : Int) ≤ (k : Int) := by omega
      obtain ⟨g, x, rfl, hx, c0_, c1_, c2_, c3_, c4_⟩ := hr.own.place hlt
      obtain ⟨hilx, hmy0⟩ := hls x (List.mem_of_getElem? hx)
      have hu2 := hu.out
      rw [drop_at hx] at hu2
      unfold underW at hu2
      obtain ⟨rm, rf, rt, ⟨A0, n0, c0, l0⟩, rc⟩ := x
      dsimp only at hilx hmy0 c0_ c1_ c2_ c4_ hu2
      change _ = some (Value.slice A0 n0 c0) at c3_
      have hskip : onWay ⟨rm, rf, rt, ⟨A0, n0, c0, l0⟩, rc⟩ fr to = false → underW fr to (l.drop (k + 1)) acc = R := fun e => by
        rw [e] at hu2
        exact hu2
      have hgo : onWay ⟨rm, rf, rt, ⟨A0, n0, c0, l0⟩, rc⟩ fr to = true → (if plusE acc l0 = 0 then underW fr to (l.drop (k + 1)) (plusR acc l0) else acc) = R := fun e => by
        rw [e] at hu2
        exact hu2
      replace hskip := Lib.hid hskip
      replace hgo := Lib.hid hgo
      have tO := Blk.new wr 42 #[.int .i64 rm, .int .i64 rf, .int .i64 rt, .slice A0 n0 c0, .bool rc]
      have xa := (Below.refl wr.heap.size wr).alloc (Nat.le_refl _) (.cells #[.int .i64 rm, .int .i64 rf, .int .i64 rt, .slice A0 n0 c0, .bool rc] 42)
      have h5 := hr.below xa
      have hO5 := hO.below xa
      have hb5 := hb.trans (xa.mono hb.size)
      have hil0 := hilx.below hb5
      have ye := tO.cell 4
      have y1 := tO.cell 1
      have y2 := tO.cell 2
      have y3 := tO.cell 3
      simp only [List.getElem?_toArray, List.getElem?_cons_succ, List.getElem?_cons_zero] at ye y1 y2 y3
      have hlen0 := hilx.len
      have hmy16 := hmy0.len
      clear hu hu2 hx hr hO hb xa hilx
      cases rc with
      | true =>
        have hs := hskip.out rfl
        clear tO
        go_wp2
        go_roundw
        case measure => simp [intOf]; omega
        case rel => exact ⟨k + 1, acc, A, c, rfl, by go_num, by omega, hO5, hMY, Lib.hid hs, h5, hb5⟩
      | false =>
      by_cases g1 : rf = fr
      case neg =>
        have b1 : (rf != fr) = true := by simp [g1]
        have hs := hskip.out (by unfold onWay; simp [g1])
        clear g1
        clear tO
        go_wp2
        go_roundw
        case measure => simp [intOf]; omega
        case rel => exact ⟨k + 1, acc, A, c, rfl, by go_num, by omega, hO5, hMY, Lib.hid hs, h5, hb5⟩
      by_cases g2 : rt = to
      case neg =>
        have b1 : (rf != fr) = false := by simp [g1]
        have b2 : (rt != to) = true := by simp [g2]
        have hs := hskip.out (by unfold onWay; simp [g2])
        clear g1 g2
        clear tO
        go_wp2
        go_roundw
        case measure => simp [intOf]; omega
        case rel => exact ⟨k + 1, acc, A, c, rfl, by go_num, by omega, hO5, hMY, Lib.hid hs, h5, hb5⟩
      have b1 : (rf != fr) = false := by simp [g1]
      have b2 : (rt != to) = false := by simp [g2]
      have hs := hgo.out (by unfold onWay; simp [g1, g2])
      clear hskip hgo g1 g2
      replace hs := Lib.hid hs
      have hlong : ∀ z ∈ acc ++ l0, z.1.length ≤ 9223372036854775807 := fun z hz => (List.mem_append.1 hz).elim (my_long hMY z) (my_long hmy0 z)
      go_upto_region 7 with fail
      obtain ⟨_, _, e1, hcap, hcapm, hil, _⟩ := hO5.form
      cases e1
      obtain ⟨ob, hob⟩ : ∃ ob, ob = wr.heap.size := ⟨_, rfl⟩
      rw [← hob] at tO ⊢
      replace hob := Lib.hid hob
      generalize wr.alloc (.cells #[.int .i64 rm, .int .i64 rf, .int .i64 rt, .slice A0 n0 c0, .bool false] 42) = wr5 at *
      have sd : (fun W => W.cell? ⟨ob, 3, none⟩ = some (.slice A0 n0 c0)) wr5.drew := by
        have := tO.drew.cell 3
        simp only [List.getElem?_toArray, List.getElem?_cons_succ, List.getElem?_cons_zero] at this
        exact this
      replace tO := tO.drew
      replace hil := hil.drew
      have hO5q := hO5.drew
      replace hil0 := hil0.drew
      replace h5 := h5.drew
      replace hb5 := hb5.drew
      clear ye y1 y2 y3 c0_ c1_ c2_ c3_ c4_ hO5 h0
      refine wp_region_held_drew (S := (fun W => W.cell? ⟨ob, 3, none⟩ = some (.slice A0 n0 c0))) (by kernel_rfl) sd (fun hHeld => ?_)
      generalize wr5.drew = wz at *
      refine wpAnyH_take (i := 1) (oi := ?oi1) (v := ?v1) ?hi1 (by kernel_rfl) (by kernel_rfl) (by kernel_rfl) ?hq1 (Or.inl ⟨?hw1, ?hy1⟩) (by assumption) ?rest1
      case hi1 => (simp only [List.getElem?_toArray, List.getElem?_cons_succ, List.getElem?_cons_zero]; rfl)
      case hq1 => exact fun _ _ _ h => h
      case hw1 => rfl
      case hy1 => (intro w hSw; (try dsimp only at hSw); go_simp <;> with_reducible rfl)
      try simp only [Act.put, List.setIfInBounds_toArray, List.set_cons_zero, List.set_cons_succ]
      refine wpAnyH_take (i := 3) (oi := ?oi3) (v := ?v3) ?hi3 (by kernel_rfl) (by kernel_rfl) (by kernel_rfl) ?hq3 (Or.inl ⟨?hw3, ?hy3⟩) (by assumption) ?rest3
      case hi3 => (simp only [List.getElem?_toArray, List.getElem?_cons_succ, List.getElem?_cons_zero]; rfl)
      case hq3 => exact fun _ _ _ h => h
      case hw3 => rfl
      case hy3 => (intro w hSw; (try dsimp only at hSw); go_simp <;> with_reducible rfl)
      try simp only [Act.put, List.setIfInBounds_toArray, List.set_cons_zero, List.set_cons_succ]
      refine wpAnyH_take (i := 4) (oi := ?oi4) (v := ?v4) ?hi4 (by kernel_rfl) (by kernel_rfl) (by kernel_rfl) ?hq4 (Or.inl ⟨?hw4, ?hy4⟩) (by assumption) ?rest4
      case hi4 => (simp only [List.getElem?_toArray, List.getElem?_cons_succ, List.getElem?_cons_zero]; rfl)
      case hq4 => exact fun _ _ _ h => h
      case hw4 => rfl
      case hy4 => (intro w hSw; (try dsimp only at hSw); go_simp <;> with_reducible rfl)
      try simp only [Act.put, List.setIfInBounds_toArray, List.set_cons_zero, List.set_cons_succ]
      refine wpAnyH_ready (rs := [0]) (by kernel_rfl) (by simp) ?_
      refine AllReadyH.cons (o := ?o0) ?hi0 (fun K hK => ?st0) AllReadyH.nil
      case hi0 => (simp only [List.getElem?_toArray, List.getElem?_cons_succ, List.getElem?_cons_zero]; rfl)
      go_simp
      have sA := (tO.alloc (.cells #[] 36)).cell 3
      simp only [List.getElem?_toArray, List.getElem?_cons_succ, List.getElem?_cons_zero] at sA
      have oA := OI.made wz.heap.size wz (Nat.le_refl _)
      have bA := (Below.refl wz.heap.size wz).alloc (Nat.le_refl _) (.cells #[] 36)
      refine hK.out _ _ sA (fun hHeld2 => ?_)
      clear hK K hHeld
      have hHeld := hHeld2
      clear hHeld2
      try simp only [Act.put, List.setIfInBounds_toArray, List.set_cons_zero, List.set_cons_succ]
      refine wpAnyH_ready (rs := [2]) (by kernel_rfl) (by simp) ?_
      refine AllReadyH.cons (o := ?o2) ?hi2 (fun K hK => ?st2) AllReadyH.nil
      case hi2 => (simp only [List.getElem?_toArray, List.getElem?_cons_succ, List.getElem?_cons_zero]; rfl)
      rw [if_pos (by rfl)]
      refine wp_appI (.tmp 43) (.tmp 44) rfl wz.heap.size _ [] rfl oA A acc.length c acc rfl ((hil.below bA)) (hil.none_zero) (by simp; omega) (by simp) ?_
      intro va wa hoa ka _
      rw [List.nil_append] at hoa
      have bB := bA.trans (ka.below (B := wz.heap.size) (by simp) (fun i hi e => by have := (oA.lt i e).1; omega))
      have sB := (tO.kept (Keep.of_below bB) (Nat.not_le.2 tO.lt)).cell 3
      simp only [List.getElem?_toArray, List.getElem?_cons_succ, List.getElem?_cons_zero] at sB
      refine hK.out _ _ sB (fun hHeld2 => ?_)
      clear hK K hHeld
      have hHeld := hHeld2
      clear hHeld2
      try simp only [Act.put, List.setIfInBounds_toArray, List.set_cons_zero, List.set_cons_succ]
      refine wpAnyH_ready (rs := [5]) (by kernel_rfl) (by simp) ?_
      refine AllReadyH.cons (o := ?o5) ?hi5 (fun K hK => ?st5) AllReadyH.nil
      case hi5 => (simp only [List.getElem?_toArray, List.getElem?_cons_succ, List.getElem?_cons_zero]; rfl)
      rw [if_pos (by rfl)]
      refine wp_appI (.tmp 45) (.tmp 47) rfl wz.heap.size va acc rfl hoa A0 n0 c0 l0 rfl (hil0.below bB) (hil0.none_zero) (by omega) bB.size ?_
      intro vb wb hob kb _
      have bC := bB.trans (kb.below (B := wz.heap.size) bB.size (fun i hi e => by have := (hoa.lt i e).1; omega))
      have sC := (tO.kept (Keep.of_below bC) (Nat.not_le.2 tO.lt)).cell 3
      simp only [List.getElem?_toArray, List.getElem?_cons_succ, List.getElem?_cons_zero] at sC
      obtain ⟨Mb, mcb, rfl, _, _, hilb, _⟩ := hob.form
      obtain ⟨NB, hNB⟩ : ∃ NB, (acc ++ l0).length = NB := ⟨_, rfl⟩
      rw [hNB] at hilb hob ⊢
      have hNB2 : NB ≤ 1048576 := by rw [← hNB, List.length_append]; omega
      refine hK.out _ _ sC (fun hHeld2 => ?_)
      clear hK K hHeld
      have hHeld := hHeld2
      clear hHeld2
      try simp only [Act.put, List.setIfInBounds_toArray, List.set_cons_zero, List.set_cons_succ]
      refine wpAnyH_ready (rs := [6]) (by kernel_rfl) (by simp) ?_
      refine AllReadyH.cons (o := ?o6) ?hi6 (fun K hK => ?st6) AllReadyH.nil
      case hi6 => (simp only [List.getElem?_toArray, List.getElem?_cons_succ, List.getElem?_cons_zero]; rfl)
      go_simp
      refine (refnorm_any Mb NB mcb (acc ++ l0) _ hilb hNB2 hlong).mono ?_
      rintro e wd ⟨vd, rfl, hod, hxd⟩
      have bD := bC.trans (hxd.mono bC.size)
      have sD := (tO.kept (Keep.of_below bD) (Nat.not_le.2 tO.lt)).cell 3
      simp only [List.getElem?_toArray, List.getElem?_cons_succ, List.getElem?_cons_zero] at sD
      rw [← plusE_norm hMY hmy0]
      rw [← plusR_norm hMY hmy0] at hod
      obtain ⟨Md, mcd, rfl, hd1, hd2, hild, _⟩ := hod.form
      refine hK.out _ _ sD (fun hHeld2 => ?_)
      clear hK K hHeld
      have hHeld := hHeld2
      clear hHeld2
      try simp only [Act.put, List.setIfInBounds_toArray, List.set_cons_zero, List.set_cons_succ]
      refine wpAnyH_take (i := 7) (oi := ?oi7) (v := ?v7) ?hi7 (by kernel_rfl) (by kernel_rfl) (by kernel_rfl) ?hq7 (Or.inl ⟨?hw7, ?hy7⟩) (by assumption) ?rest7
      case hi7 => (simp only [List.getElem?_toArray, List.getElem?_cons_succ, List.getElem?_cons_zero]; rfl)
      case hq7 => exact fun _ _ _ h => h
      case hw7 => rfl
      case hy7 => (intro w hSw; (try dsimp only at hSw); go_simp <;> with_reducible rfl)
      try simp only [Act.put, List.setIfInBounds_toArray, List.set_cons_zero, List.set_cons_succ]
      refine wpAnyH_take (i := 8) (oi := ?oi8) (v := ?v8) ?hi8 (by kernel_rfl) (by kernel_rfl) (by kernel_rfl) ?hq8 (Or.inl ⟨?hw8, ?hy8⟩) (by assumption) ?rest8
      case hi8 => (simp only [List.getElem?_toArray, List.getElem?_cons_succ, List.getElem?_cons_zero]; rfl)
      case hq8 => exact fun _ _ _ h => h
      case hw8 => rfl
      case hy8 => (intro w hSw; (try dsimp only at hSw); go_simp <;> with_reducible rfl)
      try simp only [Act.put, List.setIfInBounds_toArray, List.set_cons_zero, List.set_cons_succ]
      refine wpAnyH_take (i := 9) (oi := ?oi9) (v := ?v9) ?hi9 (by kernel_rfl) (by kernel_rfl) (by kernel_rfl) ?hq9 (Or.inl ⟨?hw9, ?hy9⟩) (by assumption) ?rest9
      case hi9 => (simp only [List.getElem?_toArray, List.getElem?_cons_succ, List.getElem?_cons_zero]; rfl)
      case hq9 => exact fun _ _ _ h => h
      case hw9 => rfl
      case hy9 => (intro w hSw; (try dsimp only at hSw); go_simp <;> with_reducible rfl)
      try simp only [Act.put, List.setIfInBounds_toArray, List.set_cons_zero, List.set_cons_succ]
      refine wpAnyH_take (i := 10) (oi := ?oi10) (v := ?v10) ?hi10 (by kernel_rfl) (by kernel_rfl) (by kernel_rfl) ?hq10 (Or.inl ⟨?hw10, ?hy10⟩) (by assumption) ?rest10
      case hi10 => (simp only [List.getElem?_toArray, List.getElem?_cons_succ, List.getElem?_cons_zero]; rfl)
      case hq10 => exact fun _ _ _ h => h
      case hw10 => rfl
      case hy10 => (intro w hSw; (try dsimp only at hSw); go_simp <;> with_reducible rfl)
      try simp only [Act.put, List.setIfInBounds_toArray, List.set_cons_zero, List.set_cons_succ]
      refine wpAnyH_take (i := 11) (oi := ?oi11) (v := ?v11) ?hi11 (by kernel_rfl) (by kernel_rfl) (by kernel_rfl) ?hq11 (Or.inl ⟨?hw11, ?hy11⟩) (by assumption) ?rest11
      case hi11 => (simp only [List.getElem?_toArray, List.getElem?_cons_succ, List.getElem?_cons_zero]; rfl)
      case hq11 => exact fun _ _ _ h => h
      case hw11 => rfl
      case hy11 => (intro w hSw; (try dsimp only at hSw); go_simp <;> with_reducible rfl)
      try simp only [Act.put, List.setIfInBounds_toArray, List.set_cons_zero, List.set_cons_succ]
      refine wpAnyH_done (by kernel_rfl) ?_ _
      have hq := h5.below bD
      have hbq := hb5.trans (bD.mono hb5.size)
      have hOq := (hO5q.below bD)
      have hbD : wz.heap.size ≤ wb.heap.size := bC.size
      clear sA sB sC sD oA hoa ka kb hob
      by_cases hz : plusE acc l0 = 0
      · have hs2 := hs.out
        rw [if_pos hz] at hs2
        have hmy2 := (plus_ok hMY hmy0 hz).1
        replace hs2 := Lib.hid hs2
        have hzb : (plusE acc l0 != 0) = false := by simp [hz]
        have hod2 := hod.mono (Nat.le_trans hb5.size hbD)
        clear hs hz
        go_wp2
        go_roundw
        case measure => simp [intOf]; omega
        case rel => exact ⟨k + 1, _, Md, mcd, rfl, by go_num, by omega, hod2, hmy2, hs2, hq, hbq⟩
      · have hs2 := hs.out
        rw [if_neg hz] at hs2
        subst hs2
        have hzb : (plusE acc l0 != 0) = true := by simp [hz]
        clear hs hz
        go_wp2
        go_ret
        exact ⟨_, rfl, hOq, hbq⟩
    · have hlz : ¬ (k : Int) < (N : Int) := by omega
      have hu2 := hu.out
      rw [List.drop_eq_nil_of_le (by have := hN.out; omega)] at hu2
      unfold underW at hu2
      subst hu2
      clear hu
      go_wp2
      go_ret
      exact ⟨_, rfl, hO, hb⟩
end Go.Proofs.Ytligpmnpfdaknaa
