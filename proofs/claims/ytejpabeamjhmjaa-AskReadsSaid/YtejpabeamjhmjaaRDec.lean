/- The reference's Decode of requests. No condition but that the bytes lie in memory. -/
import Derived.Test.YtejpabeamjhmjaaRAskD
namespace Go.Proofs.Ytejpabeamjhmjaa
open Go.RowKit Go.Maps Go.Shelf
set_option linter.unusedVariables false
set_option linter.unusedSimpArgs false

def RDecAPost (r : Option AV) (w : World) (e : Ending) (w' : World) : Prop :=
  Below w.heap.size w w' ∧ match r with
    | none => e = .returned (.tuple #[x0.v none 0, .bool false])
    | some x => ∃ A cap, e = .returned (.tuple #[x.v A cap, .bool true]) ∧ IL w' A x.l.length x.l

set_option maxRecDepth 100000 in
set_option maxHeartbeats 6400000 in
theorem raskdecode_any (A : Option Addr) (n c : Nat) (b : List UInt8) (w : World) (hr : RB w A n b) (hc : n ≤ c) (hm : c ≤ 9223372036854775807) :
    Calls Try.prog 42 #[.slice A n c] w (RDecAPost (decA b) w) := by
  have hln := hr.1
  subst hln
  have ht1 : TK 47 ((w.alloc (.cells zeroA 53)).alloc (.cells #[.slice A b.length c, .bool false] 47)) (w.heap.size + 1) A c b false := by
    have hbk := Blk.new (w.alloc (.cells zeroA 53)) 47 #[.slice A b.length c, .bool false]
    rw [World.size_alloc] at hbk
    exact ⟨hbk, (hr.alloc _).alloc _, ⟨hc, hm⟩, fun hp ad ha => by have := hr.addr_lt ha hp; omega⟩
  have hb00 : Blk ((w.alloc (.cells zeroA 53)).alloc (.cells #[.slice A b.length c, .bool false] 47)) w.heap.size 53 zeroA := (Blk.new _ _ _).alloc _
  have hbel0 := ((Below.refl w.heap.size w).alloc (Nat.le_refl _) (.cells zeroA 53)).alloc (by simp only [World.size_alloc]; omega) (.cells #[.slice A b.length c, .bool false] 47)
  have key := raskread_any _ (w.heap.size + 1) A c b false ht1
  rw [show rst b false = some b from rfl] at key
  replace key := Lib.hid key
  go_enter Try.func42, Try.ntmps42
  go_wp2_with fail
  refine key.out.mono ?_
  rintro e w1 ⟨y, AL, cL, ok, A', c', l', bad', s1, s2, s3, s4, s5, s6, s7, s8, rfl, hRT, hil1, hal1, htk1, hkp1, hsm1, hyes, hno⟩
  have hb01 := hb00.kept hkp1 (by omega)
  have hlt01 := hb01.lt
  have hbel1 := hbel0.trans (hkp1.below (B := w.heap.size) hbel0.size (fun i hi e => by omega))
  have hgl1 := htk1.blk.lt
  have HR := Lib.hid hRT
  have HY := Lib.hid hyes
  have HN := Lib.hid hno
  clear key hRT hyes hno hb00 ht1 hbel0 hkp1 hsm1
  have htb := htk1.blk
  obtain ⟨xc, xm, xk, xo, xr, xt, xn, xg, lr⟩ := y
  dsimp only at hil1
  unfold AV.v
  dsimp only
  have hSz := boxS (c := 0) (m := 0) (k := 0) (o := 0) (r := 0) (t := 0) (n := 0) (g := []) (l := []) (A := none) (cap := 0) hb01
  have hFz := fun i => hb01.frozen i
  have hc0 := htb.cell 0
  simp at hc0
  have hne1 : w.heap.size ≠ w1.heap.size := by omega
  have hne2 : w.heap.size + 1 ≠ w1.heap.size := by omega
  cases ok with
  | false =>
    have hD : Hid (decA b = none) := Lib.hid (HR.out.none_ (by
      rcases HN.out rfl with h | ⟨r, h, h2⟩
      · exact .inl (by rw [h]; simp)
      · cases r with
        | nil => exact .inr ⟨h, h2⟩
        | cons p q => exact .inl (by rw [h]; simp)))
    go_wp2
    have hbE := fill9 hb01 (.int .i64 0) (.int .i64 0) (.int .i64 0) (.int .i64 0) (.int .i64 0) (.int .i64 0) (.int .i64 0) (.string ⟨#[]⟩) (.slice none 0 0)
    have hkE := keep9 w1 w.heap.size (.int .i64 0) (.int .i64 0) (.int .i64 0) (.int .i64 0) (.int .i64 0) (.int .i64 0) (.int .i64 0) (.string ⟨#[]⟩) (.slice none 0 0)
    generalize (((((((((w1.setCell ⟨w.heap.size, 0, none⟩ (.int .i64 0)).setCell ⟨w.heap.size, 1, none⟩ (.int .i64 0)).setCell ⟨w.heap.size, 2, none⟩ (.int .i64 0)).setCell ⟨w.heap.size, 3, none⟩ (.int .i64 0)).setCell ⟨w.heap.size, 4, none⟩ (.int .i64 0)).setCell ⟨w.heap.size, 5, none⟩ (.int .i64 0)).setCell ⟨w.heap.size, 6, none⟩ (.int .i64 0)).setCell ⟨w.heap.size, 7, none⟩ (.string ⟨#[]⟩)).setCell ⟨w.heap.size, 8, none⟩ (.slice none 0 0)) = WE at hbE hkE ⊢
    have hltE := hbE.lt
    have hneE : w.heap.size ≠ WE.heap.size := by omega
    obtain ⟨j0, j1, j2, j3, j4, j5, j6, j7, j8⟩ := boxS (c := 0) (m := 0) (k := 0) (o := 0) (r := 0) (t := 0) (n := 0) (g := []) (l := []) (A := none) (cap := 0) hbE
    clear hSz hFz
    refine bodyPost_ret (v := .tuple #[.agg #[.int .i64 0, .int .i64 0, .int .i64 0, .int .i64 0, .int .i64 0, .int .i64 0, .int .i64 0, .string ⟨#[]⟩, .slice none 0 0], .bool false]) (by simp [results, Try.results42, go_sem, hltE, hneE, j0, j1, j2, j3, j4, j5, j6, j7, j8]) rfl ?_
    refine ⟨(hbel1.trans (hkE.below (B := w.heap.size) hbel1.size (fun i hi e => by omega))).alloc (Nat.le_trans hbel1.size hkE.size) _, ?_⟩
    rw [hD.out]
    rfl
  | true =>
    obtain ⟨hT, hmay, rfl⟩ := HY.out rfl
    cases l' with
    | nil =>
      have hD : Hid (decA b = some ⟨xc, xm, xk, xo, xr, xt, xn, xg, lr⟩) := Lib.hid (HR.out.some_ hT hmay)
      simp at hc0
      go_wp2
      have hbE := fill9 hb01 (.int .i64 xc) (.int .i64 xm) (.int .i64 xk) (.int .i64 xo) (.int .i64 xr) (.int .i64 xt) (.int .i64 xn) (.string ⟨xg.toArray⟩) (.slice AL lr.length cL)
      have hkE := keep9 w1 w.heap.size (.int .i64 xc) (.int .i64 xm) (.int .i64 xk) (.int .i64 xo) (.int .i64 xr) (.int .i64 xt) (.int .i64 xn) (.string ⟨xg.toArray⟩) (.slice AL lr.length cL)
      generalize (((((((((w1.setCell ⟨w.heap.size, 0, none⟩ (.int .i64 xc)).setCell ⟨w.heap.size, 1, none⟩ (.int .i64 xm)).setCell ⟨w.heap.size, 2, none⟩ (.int .i64 xk)).setCell ⟨w.heap.size, 3, none⟩ (.int .i64 xo)).setCell ⟨w.heap.size, 4, none⟩ (.int .i64 xr)).setCell ⟨w.heap.size, 5, none⟩ (.int .i64 xt)).setCell ⟨w.heap.size, 6, none⟩ (.int .i64 xn)).setCell ⟨w.heap.size, 7, none⟩ (.string ⟨xg.toArray⟩)).setCell ⟨w.heap.size, 8, none⟩ (.slice AL lr.length cL)) = WE at hbE hkE ⊢
      have hltE := hbE.lt
      have hneE : w.heap.size ≠ WE.heap.size := by omega
      obtain ⟨j0, j1, j2, j3, j4, j5, j6, j7, j8⟩ := boxS (c := xc) (m := xm) (k := xk) (o := xo) (r := xr) (t := xt) (n := xn) (g := xg) (l := lr) (A := AL) (cap := cL) hbE
      clear hSz hFz
      refine bodyPost_ret (v := .tuple #[.agg #[.int .i64 xc, .int .i64 xm, .int .i64 xk, .int .i64 xo, .int .i64 xr, .int .i64 xt, .int .i64 xn, .string ⟨xg.toArray⟩, .slice AL lr.length cL], .bool true]) (by simp [results, Try.results42, go_sem, hltE, hneE, j0, j1, j2, j3, j4, j5, j6, j7, j8]) rfl ?_
      refine ⟨(hbel1.trans (hkE.below (B := w.heap.size) hbel1.size (fun i hi e => by omega))).alloc (Nat.le_trans hbel1.size hkE.size) _, ?_⟩
      rw [hD.out]
      exact ⟨AL, cL, rfl, (hil1.kept hkE (fun ad h1 h2 e => by have := hal1 ad h1; simp only [World.size_alloc] at this; omega)).alloc _⟩
    | cons z0 zs =>
      have hD : Hid (decA b = none) := Lib.hid (HR.out.none_ (.inl (by rw [hT]; simp)))
      obtain ⟨q, hq⟩ : ∃ q, q = (z0 :: zs).length := ⟨_, rfl⟩
      have hq0 : (0 : Int) < (q : Int) := by rw [hq, List.length_cons]; omega
      rw [← hq] at hc0
      clear hq
      go_wp2
      have hbE := fill9 hb01 (.int .i64 0) (.int .i64 0) (.int .i64 0) (.int .i64 0) (.int .i64 0) (.int .i64 0) (.int .i64 0) (.string ⟨#[]⟩) (.slice none 0 0)
      have hkE := keep9 w1 w.heap.size (.int .i64 0) (.int .i64 0) (.int .i64 0) (.int .i64 0) (.int .i64 0) (.int .i64 0) (.int .i64 0) (.string ⟨#[]⟩) (.slice none 0 0)
      generalize (((((((((w1.setCell ⟨w.heap.size, 0, none⟩ (.int .i64 0)).setCell ⟨w.heap.size, 1, none⟩ (.int .i64 0)).setCell ⟨w.heap.size, 2, none⟩ (.int .i64 0)).setCell ⟨w.heap.size, 3, none⟩ (.int .i64 0)).setCell ⟨w.heap.size, 4, none⟩ (.int .i64 0)).setCell ⟨w.heap.size, 5, none⟩ (.int .i64 0)).setCell ⟨w.heap.size, 6, none⟩ (.int .i64 0)).setCell ⟨w.heap.size, 7, none⟩ (.string ⟨#[]⟩)).setCell ⟨w.heap.size, 8, none⟩ (.slice none 0 0)) = WE at hbE hkE ⊢
      have hltE := hbE.lt
      have hneE : w.heap.size ≠ WE.heap.size := by omega
      obtain ⟨j0, j1, j2, j3, j4, j5, j6, j7, j8⟩ := boxS (c := 0) (m := 0) (k := 0) (o := 0) (r := 0) (t := 0) (n := 0) (g := []) (l := []) (A := none) (cap := 0) hbE
      clear hSz hFz
      refine bodyPost_ret (v := .tuple #[.agg #[.int .i64 0, .int .i64 0, .int .i64 0, .int .i64 0, .int .i64 0, .int .i64 0, .int .i64 0, .string ⟨#[]⟩, .slice none 0 0], .bool false]) (by simp [results, Try.results42, go_sem, hltE, hneE, j0, j1, j2, j3, j4, j5, j6, j7, j8]) rfl ?_
      refine ⟨(hbel1.trans (hkE.below (B := w.heap.size) hbel1.size (fun i hi e => by omega))).alloc (Nat.le_trans hbel1.size hkE.size) _, ?_⟩
      rw [hD.out]
      rfl
end Go.Proofs.Ytejpabeamjhmjaa
