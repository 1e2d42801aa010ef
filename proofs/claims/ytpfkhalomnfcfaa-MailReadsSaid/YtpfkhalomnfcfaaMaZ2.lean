/- The document's Decode of mail: three texts in one. No condition. -/
import Derived.Test.YtpfkhalomnfcfaaRAskD
import Derived.Test.YtpfkhalomnfcfaaMaZ1
import Derived.Test.YtpfkhalomnfcfaaMaR
import Derived.Test.YtpfkhalomnfcfaaRgT
namespace Go.Proofs.Ytpfkhalomnfcfaa
section
open Go.RowKit Go.Maps Go.Shelf
set_option linter.unusedVariables false
set_option linter.unusedSimpArgs false

def RDecBPost (r : Option AV) (w : World) (e : Ending) (w' : World) : Prop :=
  Below w.heap.size w w' ∧ match r with
    | none => e = .returned (.tuple #[x0.v none 0, .bool false])
    | some x => ∃ A cap, e = .returned (.tuple #[x.v A cap, .bool true]) ∧ IL w' A x.l.length x.l ∧ ∀ ad, A = some ad → w.heap.size < ad.block

set_option maxRecDepth 100000 in
set_option maxHeartbeats 6400000 in
theorem raskdecode2_any (A : Option Addr) (n c : Nat) (b : List UInt8) (w : World) (hr : RB w A n b) (hc : n ≤ c) (hm : c ≤ 9223372036854775807) :
    Calls Try.prog 51 #[.slice A n c] w (RDecBPost (decA b) w) := by
  have hln := hr.1
  subst hln
  have ht1 : TK 80 ((w.alloc (.cells zeroA 24)).alloc (.cells #[.slice A b.length c, .bool false] 80)) (w.heap.size + 1) A c b false := by
    have hbk := Blk.new (w.alloc (.cells zeroA 24)) 80 #[.slice A b.length c, .bool false]
    rw [World.size_alloc] at hbk
    exact ⟨hbk, (hr.alloc _).alloc _, ⟨hc, hm⟩, fun hp ad ha => by have := hr.addr_lt ha hp; omega⟩
  have hb00 : Blk ((w.alloc (.cells zeroA 24)).alloc (.cells #[.slice A b.length c, .bool false] 80)) w.heap.size 24 zeroA := (Blk.new _ _ _).alloc _
  have hbel0 := ((Below.refl w.heap.size w).alloc (Nat.le_refl _) (.cells zeroA 24)).alloc (by simp only [World.size_alloc]; omega) (.cells #[.slice A b.length c, .bool false] 80)
  have key := raskread_any _ (w.heap.size + 1) A c b false ht1
  rw [show rst b false = some b from rfl] at key
  replace key := Lib.hid key
  go_enter Try.func51, Try.ntmps51
  go_wp2_with fail
  refine key.out.mono ?_
  rintro e w1 ⟨y, AL, cL, ok, A', c', l', bad', s1, s2, s3, s4, s5, s6, s7, s8, rfl, hRT, hil1, hal1, htk1, hkp1, hsm1, hyes, hno⟩
  have hb01 := hb00.kept hkp1 (by omega)
  have hlt01 := hb01.lt
  have hbel1 := hbel0.trans (hkp1.below (B := w.heap.size) hbel0.size (fun i hi e => by omega))
  have hgl1 := htk1.blk.lt
  have HR := Lib.hid hRT
  have HY := Lib.hid hyes
  have HN := Lib.hid hno
  clear key hRT hyes hno hb00 ht1 hbel0 hkp1 hsm1
  have htb := htk1.blk
  obtain ⟨xc, xm, xk, xo, xr, xt, xn, xg, lr⟩ := y
  dsimp only at hil1
  unfold AV.v
  dsimp only
  have hSz := boxS (c := 0) (m := 0) (k := 0) (o := 0) (r := 0) (t := 0) (n := 0) (g := []) (l := []) (A := none) (cap := 0) hb01
  have hFz := fun i => hb01.frozen i
  have hc0 := htb.cell 0
  simp at hc0
  have hne1 : w.heap.size ≠ w1.heap.size := by omega
  have hne2 : w.heap.size + 1 ≠ w1.heap.size := by omega
  cases ok with
  | false =>
    have hD : Hid (decA b = none) := Lib.hid (HR.out.none_ (by
      rcases HN.out rfl with h | ⟨r, h, h2⟩
      · exact .inl (by rw [h]; simp)
      · cases r with
        | nil => exact .inr ⟨h, h2⟩
        | cons p q => exact .inl (by rw [h]; simp)))
    go_wp2
    have hbE := fill9 hb01 (.int .i64 0) (.int .i64 0) (.int .i64 0) (.int .i64 0) (.int .i64 0) (.int .i64 0) (.int .i64 0) (.string ⟨#[]⟩) (.slice none 0 0)
    have hkE := keep9 w1 w.heap.size (.int .i64 0) (.int .i64 0) (.int .i64 0) (.int .i64 0) (.int .i64 0) (.int .i64 0) (.int .i64 0) (.string ⟨#[]⟩) (.slice none 0 0)
    generalize (((((((((w1.setCell ⟨w.heap.size, 0, none⟩ (.int .i64 0)).setCell ⟨w.heap.size, 1, none⟩ (.int .i64 0)).setCell ⟨w.heap.size, 2, none⟩ (.int .i64 0)).setCell ⟨w.heap.size, 3, none⟩ (.int .i64 0)).setCell ⟨w.heap.size, 4, none⟩ (.int .i64 0)).setCell ⟨w.heap.size, 5, none⟩ (.int .i64 0)).setCell ⟨w.heap.size, 6, none⟩ (.int .i64 0)).setCell ⟨w.heap.size, 7, none⟩ (.string ⟨#[]⟩)).setCell ⟨w.heap.size, 8, none⟩ (.slice none 0 0)) = WE at hbE hkE ⊢
    have hltE := hbE.lt
    have hneE : w.heap.size ≠ WE.heap.size := by omega
    obtain ⟨j0, j1, j2, j3, j4, j5, j6, j7, j8⟩ := boxS (c := 0) (m := 0) (k := 0) (o := 0) (r := 0) (t := 0) (n := 0) (g := []) (l := []) (A := none) (cap := 0) hbE
    clear hSz hFz
    refine bodyPost_ret (v := .tuple #[.agg #[.int .i64 0, .int .i64 0, .int .i64 0, .int .i64 0, .int .i64 0, .int .i64 0, .int .i64 0, .string ⟨#[]⟩, .slice none 0 0], .bool false]) (by simp [results, Try.results51, go_sem, hltE, hneE, j0, j1, j2, j3, j4, j5, j6, j7, j8]) rfl ?_
    refine ⟨(hbel1.trans (hkE.below (B := w.heap.size) hbel1.size (fun i hi e => by omega))).alloc (Nat.le_trans hbel1.size hkE.size) _, ?_⟩
    rw [hD.out]
    rfl
  | true =>
    obtain ⟨hT, hmay, rfl⟩ := HY.out rfl
    cases l' with
    | nil =>
      have hD : Hid (decA b = some ⟨xc, xm, xk, xo, xr, xt, xn, xg, lr⟩) := Lib.hid (HR.out.some_ hT hmay)
      simp at hc0
      go_wp2
      have hbE := fill9 hb01 (.int .i64 xc) (.int .i64 xm) (.int .i64 xk) (.int .i64 xo) (.int .i64 xr) (.int .i64 xt) (.int .i64 xn) (.string ⟨xg.toArray⟩) (.slice AL lr.length cL)
      have hkE := keep9 w1 w.heap.size (.int .i64 xc) (.int .i64 xm) (.int .i64 xk) (.int .i64 xo) (.int .i64 xr) (.int .i64 xt) (.int .i64 xn) (.string ⟨xg.toArray⟩) (.slice AL lr.length cL)
      generalize (((((((((w1.setCell ⟨w.heap.size, 0, none⟩ (.int .i64 xc)).setCell ⟨w.heap.size, 1, none⟩ (.int .i64 xm)).setCell ⟨w.heap.size, 2, none⟩ (.int .i64 xk)).setCell ⟨w.heap.size, 3, none⟩ (.int .i64 xo)).setCell ⟨w.heap.size, 4, none⟩ (.int .i64 xr)).setCell ⟨w.heap.size, 5, none⟩ (.int .i64 xt)).setCell ⟨w.heap.size, 6, none⟩ (.int .i64 xn)).setCell ⟨w.heap.size, 7, none⟩ (.string ⟨xg.toArray⟩)).setCell ⟨w.heap.size, 8, none⟩ (.slice AL lr.length cL)) = WE at hbE hkE ⊢
      have hltE := hbE.lt
      have hneE : w.heap.size ≠ WE.heap.size := by omega
      obtain ⟨j0, j1, j2, j3, j4, j5, j6, j7, j8⟩ := boxS (c := xc) (m := xm) (k := xk) (o := xo) (r := xr) (t := xt) (n := xn) (g := xg) (l := lr) (A := AL) (cap := cL) hbE
      clear hSz hFz
      refine bodyPost_ret (v := .tuple #[.agg #[.int .i64 xc, .int .i64 xm, .int .i64 xk, .int .i64 xo, .int .i64 xr, .int .i64 xt, .int .i64 xn, .string ⟨xg.toArray⟩, .slice AL lr.length cL], .bool true]) (by simp [results, Try.results51, go_sem, hltE, hneE, j0, j1, j2, j3, j4, j5, j6, j7, j8]) rfl ?_
      refine ⟨(hbel1.trans (hkE.below (B := w.heap.size) hbel1.size (fun i hi e => by omega))).alloc (Nat.le_trans hbel1.size hkE.size) _, ?_⟩
      rw [hD.out]
      exact ⟨AL, cL, rfl, (hil1.kept hkE (fun ad h1 h2 e => by have := hal1 ad h1; simp only [World.size_alloc] at this; omega)).alloc _, fun ad h1 => by have := hal1 ad h1; simp only [World.size_alloc] at this; omega⟩
    | cons z0 zs =>
      have hD : Hid (decA b = none) := Lib.hid (HR.out.none_ (.inl (by rw [hT]; simp)))
      obtain ⟨q, hq⟩ : ∃ q, q = (z0 :: zs).length := ⟨_, rfl⟩
      have hq0 : (0 : Int) < (q : Int) := by rw [hq, List.length_cons]; omega
      rw [← hq] at hc0
      clear hq
      go_wp2
      have hbE := fill9 hb01 (.int .i64 0) (.int .i64 0) (.int .i64 0) (.int .i64 0) (.int .i64 0) (.int .i64 0) (.int .i64 0) (.string ⟨#[]⟩) (.slice none 0 0)
      have hkE := keep9 w1 w.heap.size (.int .i64 0) (.int .i64 0) (.int .i64 0) (.int .i64 0) (.int .i64 0) (.int .i64 0) (.int .i64 0) (.string ⟨#[]⟩) (.slice none 0 0)
      generalize (((((((((w1.setCell ⟨w.heap.size, 0, none⟩ (.int .i64 0)).setCell ⟨w.heap.size, 1, none⟩ (.int .i64 0)).setCell ⟨w.heap.size, 2, none⟩ (.int .i64 0)).setCell ⟨w.heap.size, 3, none⟩ (.int .i64 0)).setCell ⟨w.heap.size, 4, none⟩ (.int .i64 0)).setCell ⟨w.heap.size, 5, none⟩ (.int .i64 0)).setCell ⟨w.heap.size, 6, none⟩ (.int .i64 0)).setCell ⟨w.heap.size, 7, none⟩ (.string ⟨#[]⟩)).setCell ⟨w.heap.size, 8, none⟩ (.slice none 0 0)) = WE at hbE hkE ⊢
      have hltE := hbE.lt
      have hneE : w.heap.size ≠ WE.heap.size := by omega
      obtain ⟨j0, j1, j2, j3, j4, j5, j6, j7, j8⟩ := boxS (c := 0) (m := 0) (k := 0) (o := 0) (r := 0) (t := 0) (n := 0) (g := []) (l := []) (A := none) (cap := 0) hbE
      clear hSz hFz
      refine bodyPost_ret (v := .tuple #[.agg #[.int .i64 0, .int .i64 0, .int .i64 0, .int .i64 0, .int .i64 0, .int .i64 0, .int .i64 0, .string ⟨#[]⟩, .slice none 0 0], .bool false]) (by simp [results, Try.results51, go_sem, hltE, hneE, j0, j1, j2, j3, j4, j5, j6, j7, j8]) rfl ?_
      refine ⟨(hbel1.trans (hkE.below (B := w.heap.size) hbel1.size (fun i hi e => by omega))).alloc (Nat.le_trans hbel1.size hkE.size) _, ?_⟩
      rw [hD.out]
      rfl
end
section
open Go.RowKit Go.Maps Go.Shelf
set_option linter.unusedVariables false
set_option linter.unusedSimpArgs false

/-- What the document takes ahead of the answer, if the items could be taken. -/
structure RTM (b : List UInt8) (k o : Int) (l : List It) (S : List UInt8) (s1 s2 : Option (List UInt8)) (r3 : List UInt8) (s4 : Option (List UInt8)) : Prop where
  e1 : tnum (some b) 1 14 = (k, s1)
  e2 : tnum s1 0 1099511627776 = (o, s2)
  e3 : takeL s2 = (l, some r3)
  e4 : ttext (some r3) 262144 = (S, s4)
/-- .. and the answer. -/
structure RTY (s : Option (List UInt8)) (y : AN) (t1 t2 t3 t4 : Option (List UInt8)) : Prop where
  e1 : tnum s 0 63 = (y.c, t1)
  e2 : tnum t1 1 4294967296 = (y.m, t2)
  e3 : tnum t2 0 1000 = (y.e, t3)
  e4 : tnum t3 (-9223372036854775808) 9223372036854775807 = (y.n, t4)
theorem has_ay {k : Int} (h : hasB (hasM k) 97 = true) : hasB (hasM k) 121 = false := by
  unfold hasM at h ⊢
  repeat' split
  all_goals first | rfl | skip
  all_goals (exfalso; revert h; simp_all [hasB])
theorem read_fwd {b : List UInt8} {k o : Int} {s1 s2 : Option (List UInt8)} (e1 : tnum (some b) 1 14 = (k, s1)) (e2 : tnum s1 0 1099511627776 = (o, s2)) {x : MV} (hx : mayM x = true) (hb : b = encM x) :
    k = x.k ∧ o = x.o ∧ takeL s2 = (x.l, some ((numCell (askB (hasM x.k) x.a).length ++ askB (hasM x.k) x.a) ++ ansB (hasM x.k) x.y)) := by
  have hok : OKM (hasM x.k) x := OKM.of hx
  have hk := hok.k
  have ho := hok.order
  rw [hb, encM_flat, take_num x.k _ (by omega) (by omega) _ _ (by omega) (by omega)] at e1
  cases e1
  rw [take_num x.o _ (by omega) (by omega) _ _ (by omega) (by omega)] at e2
  cases e2
  exact ⟨rfl, rfl, takeL_enc x.l hok.list _⟩
theorem read_no {b : List UInt8} {k o : Int} {s1 s2 : Option (List UInt8)} (e1 : tnum (some b) 1 14 = (k, s1)) (e2 : tnum s1 0 1099511627776 = (o, s2)) (h : (takeL s2).2 = none) (x : MV) (hx : mayM x = true) : b ≠ encM x := fun hb => by
  obtain ⟨_, _, h3⟩ := read_fwd e1 e2 hx hb
  rw [h3] at h
  cases h
theorem RTM.fwd {b : List UInt8} {k o : Int} {l : List It} {S : List UInt8} {s1 s2 s4 : Option (List UInt8)} {r3 : List UInt8} (T : RTM b k o l S s1 s2 r3 s4) {x : MV} (hx : mayM x = true) (hb : b = encM x) :
    k = x.k ∧ o = x.o ∧ l = x.l ∧ S = askB (hasM x.k) x.a ∧ s4 = some (ansB (hasM x.k) x.y) := by
  obtain ⟨e1, e2, e3, e4⟩ := T
  obtain ⟨h1, h2, h3⟩ := read_fwd e1 e2 hx hb
  have hS := askB_len (OKM.of hx)
  rw [e3] at h3
  injection h3 with h4 h5
  injection h5 with h5
  rw [h5, take_text (askB (hasM x.k) x.a) _ 262144 (by omega) (by omega)] at e4
  obtain ⟨h6, h7⟩ := Prod.mk.inj e4
  exact ⟨h1, h2, h4, h6.symm, h7.symm⟩
theorem RTM.back {b : List UInt8} {k o : Int} {l : List It} {S : List UInt8} {s1 s2 s4 : Option (List UInt8)} {r3 : List UInt8} (T : RTM b k o l S s1 s2 r3 s4) {r : List UInt8} (h : s4 = some r) : b = numCell k ++ (numCell o ++ (encL l ++ ((numCell S.length ++ S) ++ r))) := by
  obtain ⟨e1, e2, e3, e4⟩ := T
  rw [h] at e4
  have h3 := (text_taken e4).1
  injection h3 with h3
  rw [h3] at e3
  have h2 := (takeL_some e3).2
  rw [h2] at e2
  have h1 := (num_taken e2).1
  rw [h1] at e1
  have h0 := (num_taken e1).1
  injection h0
theorem RTY.fwd {s : Option (List UInt8)} {y : AN} {s1 s2 s3 s4 : Option (List UInt8)} (T : RTY s y s1 s2 s3 s4) {z : AN} (hz : mayY z = true) (hn : -9223372036854775808 ≤ z.n ∧ z.n ≤ 9223372036854775807) (hs : s = some (numCell z.c ++ (numCell z.m ++ (numCell z.e ++ numCell z.n)))) : y = z ∧ s4 = some [] := by
  obtain ⟨h1, h2, h3⟩ := mayY_facts hz
  obtain ⟨e1, e2, e3, e4⟩ := T
  obtain ⟨yc, ym, ye, yn⟩ := y
  obtain ⟨zc, zm, ze, zn⟩ := z
  dsimp only at h1 h2 h3 hn hs e1 e2 e3 e4
  rw [hs, take_num zc _ (by omega) (by omega) _ _ (by omega) (by omega)] at e1
  cases e1
  rw [take_num zm _ (by omega) (by omega) _ _ (by omega) (by omega)] at e2
  cases e2
  rw [take_num ze _ (by omega) (by omega) _ _ (by omega) (by omega)] at e3
  cases e3
  have h4 := take_num zn [] hn.1 hn.2 _ _ hn.1 hn.2
  rw [List.append_nil] at h4
  rw [h4] at e4
  cases e4
  exact ⟨rfl, rfl⟩
theorem RTY.back {s : Option (List UInt8)} {y : AN} {s1 s2 s3 s4 : Option (List UInt8)} (T : RTY s y s1 s2 s3 s4) (h : s4 = some []) : s = some (numCell y.c ++ (numCell y.m ++ (numCell y.e ++ numCell y.n))) ∧ -9223372036854775808 ≤ y.n ∧ y.n ≤ 9223372036854775807 := by
  obtain ⟨e1, e2, e3, e4⟩ := T
  rw [h] at e4
  obtain ⟨h3, _, _, hn1, hn2⟩ := num_taken e4
  rw [h3] at e3
  have h2 := (num_taken e3).1
  rw [h2] at e2
  have h1 := (num_taken e2).1
  rw [h1] at e1
  rw [(num_taken e1).1, List.append_nil]
  exact ⟨rfl, hn1, hn2⟩
/-- What is asked of the request's text. -/
def askR (k : Int) (S : List UInt8) : Option AV := match hasB (hasM k) 97 with
  | true => decA S
  | false => match S with | [] => some x0 | _ :: _ => none
theorem RTM.iff {b : List UInt8} {k o : Int} {l : List It} {S : List UInt8} {s1 s2 s4 : Option (List UInt8)} {r3 : List UInt8} (T : RTM b k o l S s1 s2 r3 s4) {y : AN} {t1 t2 t3 sE : Option (List UInt8)}
    (hy : match hasB (hasM k) 121 with | true => RTY s4 y t1 t2 t3 sE | false => y = y0 ∧ sE = s4) :
    (∀ a, askR k S = some a → sE = some [] → mayM ⟨k, o, l, a, y⟩ = true → b = encM ⟨k, o, l, a, y⟩ ∧ YN ⟨k, o, l, a, y⟩) ∧
    (∀ x, mayM x = true → YN x → b = encM x → askR k S = some x.a ∧ sE = some [] ∧ x = ⟨k, o, l, x.a, y⟩) := by
  constructor
  · intro a ha hE hm
    have hS : S = askB (hasM k) a := by
      unfold askR at ha
      unfold askB
      cases h : hasB (hasM k) 97 with
      | true =>
        rw [h] at ha
        exact (decA_ok ha).2
      | false =>
        rw [h] at ha
        cases S with
        | nil => rfl
        | cons c r => cases ha
    rw [encM_flat]
    dsimp only
    rw [← hS]
    cases h : hasB (hasM k) 121 with
    | true =>
      rw [h] at hy
      obtain ⟨h4, hn1, hn2⟩ := hy.back hE
      refine ⟨?_, hn1, hn2⟩
      rw [T.back h4]
      unfold ansB
      rw [h]
    | false =>
      rw [h] at hy
      obtain ⟨rfl, hy⟩ := hy
      rw [hy] at hE
      refine ⟨?_, by show (-9223372036854775808 : Int) ≤ 0; omega, by show (0 : Int) ≤ 9223372036854775807; omega⟩
      rw [T.back hE]
      unfold ansB
      rw [h]
  · intro x hx hyn hb
    obtain ⟨rfl, rfl, rfl, hS, h4⟩ := T.fwd hx hb
    have hok : OKM (hasM x.k) x := OKM.of hx
    have ha : askR x.k S = some x.a := by
      have h5 := hok.a
      rw [hS]
      unfold askR askB
      cases h : hasB (hasM x.k) 97 with
      | true =>
        rw [h] at h5
        exact decA_enc h5
      | false =>
        rw [h] at h5
        rw [(sameA_iff _ _).1 h5]
    have hyy := hok.y
    cases h : hasB (hasM x.k) 121 with
    | true =>
      rw [h] at hy hyy
      unfold ansB at h4
      rw [h] at h4
      obtain ⟨rfl, hE⟩ := hy.fwd hyy hyn h4
      exact ⟨ha, hE, rfl⟩
    | false =>
      rw [h] at hy hyy
      unfold ansB at h4
      rw [h] at h4
      have he := (sameY_iff _ _).1 hyy
      refine ⟨ha, by rw [hy.2, h4], ?_⟩
      rw [hy.1, ← he]

/-- The document's taker, mail that is being filled, its result. -/
structure DT (w : World) (cs : Array Value) (W : World) (A : Option Addr) (c : Nat) (l : List UInt8) (bad : Bool) (st : Option (List UInt8)) : Prop where
  tk : TK 80 W (w.heap.size + 1) A c l bad
  eq : rst l bad = st
  old : OldA w.heap.size A (some l)
  bel : Below w.heap.size w W
  ba : Blk W (w.heap.size + 2) 29 cs
  b0 : Blk W w.heap.size 29 zeroM
section
variable {w : World} {cs : Array Value} {W W' : World} {A A' : Option Addr} {c c' : Nat} {l l' : List UInt8} {bad bad' : Bool} {st st' : Option (List UInt8)}
theorem DT.step (h : DT w cs W A c l bad st) (ht : TK 80 W' (w.heap.size + 1) A' c' l' bad') (he : rst l' bad' = st') (hk : Keep (fun k => k = w.heap.size + 1) W W') (hs : SameBlock A A') (hl : l'.length ≤ l.length) : DT w cs W' A' c' l' bad' st' :=
  ⟨ht, he, h.old.less hs hl, h.bel.trans (hk.below (B := w.heap.size) h.bel.size (fun k hk e => by omega)), h.ba.kept hk (by omega), h.b0.kept hk (by omega)⟩
theorem DT.put (h : DT w cs W A c l bad st) (i : Nat) (u : Value) : DT w (cs.setIfInBounds i u) (W.setCell ⟨w.heap.size + 2, i, none⟩ u) A c l bad st := by
  have hk : Keep (fun k => k = w.heap.size + 2) W (W.setCell ⟨w.heap.size + 2, i, none⟩ u) := (Keep.refl (fun k => k = w.heap.size + 2) W).setCell (p := ⟨w.heap.size + 2, i, none⟩) (fun _ => rfl) u
  exact ⟨h.tk.keep h.old hk (by omega) (fun j hj => by omega), h.eq, h.old, h.bel.trans (hk.below (B := w.heap.size) h.bel.size (fun k hk e => by omega)), h.ba.set_ i u, h.b0.kept hk (by omega)⟩
theorem DT.setM (h : DT w cs W A c l bad st) {cs' : Array Value} (hb : Blk W' (w.heap.size + 2) 29 cs') (hk : Keep (fun k => k = w.heap.size + 2) W W') : DT w cs' W' A c l bad st :=
  ⟨h.tk.keep h.old hk (by omega) (fun j hj => by omega), h.eq, h.old, h.bel.trans (hk.below (B := w.heap.size) h.bel.size (fun k hk e => by omega)), hb, h.b0.kept hk (by omega)⟩
theorem DT.below (h : DT w cs W A c l bad st) (k : Below W.heap.size W W') : DT w cs W' A c l bad st := by
  have h2 := h.ba.lt
  have kk := Keep.of_below k
  exact ⟨h.tk.below k, h.eq, h.old, h.bel.trans (k.mono h.bel.size), h.ba.kept kk (by omega), h.b0.kept kk (by omega)⟩
end
theorem rmres {W : World} {B : Nat} {b0 b1 b2 b3 b4 b5 b6 b7 b8 b9 b10 b11 b12 b13 b14 b15 : Value} (hb : Blk W B 29 #[b0, b1, b2, b3, b4, b5, b6, b7, b8, b9, b10, b11, b12, b13, b14, b15]) (tmps : Array Value) (e : Value) (h0 : tmps.getD 2 undef = .pointer (some ⟨B, 0, none⟩)) (h1 : tmps.getD 3 undef = e) :
    (results Try.f14 tmps).run Try.prog W = .ok (.tuple #[.agg #[b0, b1, b2, b3, b4, b5, b6, b7, b8, b9, b10, b11, b12, b13, b14, b15], e]) W := by
  obtain ⟨j0, j1, j2, j3, j4, j5, j6, j7, j8, j9, j10, j11, j12, j13, j14, j15⟩ := box16 hb
  have g0 := h0
  have g1 := h1
  simp at g0 g1
  simp [results, Try.results14, go_sem, h0, h1, g0, g1, j0, j1, j2, j3, j4, j5, j6, j7, j8, j9, j10, j11, j12, j13, j14, j15]
end
section
open Go.RowKit Go.Maps Go.Shelf
set_option linter.unusedVariables false
set_option linter.unusedSimpArgs false

theorem DT.drew {w : World} {cs : Array Value} {W : World} {A : Option Addr} {c : Nat} {l : List UInt8} {bad : Bool} {st : Option (List UInt8)} (h : DT w cs W A c l bad st) : DT w cs W.drew A c l bad st := ⟨h.tk.drewN 1, h.eq, h.old, Below.drew h.bel, h.ba.drew, h.b0.drew⟩
theorem tkL {P : Program} {md : Region.Mode} {ops : Array Oper} {Q : Exit → Act → World → Prop} {S : World → Prop} {oi : Oper} {fuel : Nat} {listed : Array Bool} {a : Act} {w : World} (i : Nat) (hi : ops[i]? = some oi)
    (hs : Region.noSelect ops = true) (hf : Region.free md ops listed i = true) (hr : (Region.ready md ops listed).contains i = true) {cs : Array Value}
    (hQ : ∀ c a w, Q (.panic c) (a.put oi.dst (.agg cs)) w → Q (.panic c) a w) (hw : Region.wanted oi (yielded ops a.tmps) = true) (ty : TypeId) (x : Operand) (ho : oi.op = .load ty x) (b : Nat) (hx : a.eval x = .pointer (some ⟨b, 0, none⟩)) (t : TypeId)
    (hb : ∀ w, S w → Blk w b t cs) (d : TypeDesc) (hu : P.underlying ty = some d) (hd : d.isRow = true) (hn : (P.info? ty).map (·.size) = some cs.size) (hS : S w)
    (h : wpAnyH P md ops Q S fuel (listed.setIfInBounds i true) (a.put oi.dst (.agg cs)) w) : wpAnyH P md ops Q S (fuel + 1) listed a w :=
  wpAnyH_take (v := .agg cs) hi hs hf hr hQ (yieldsIf_load_mid hw ty x ho b 0 hx cs.toList d (fun w h => (hb w h).range) hu hd (by rw [hn]; simp)) hS h
set_option maxRecDepth 100000 in
set_option maxHeartbeats 25600000 in
theorem rmdec_any (A : Option Addr) (n c : Nat) (b : List UInt8) (w : World) (hr : RB w A n b) (hc : n ≤ c) (hm : c ≤ 9223372036854775807) :
    Calls Try.prog 14 #[.slice A n c] w (DecM b w fun u v => v = u) := by
  have hln := hr.1
  subst hln
  obtain ⟨k, s1, E1⟩ : ∃ n s, tnum (some b) 1 14 = (n, s) := ⟨_, _, rfl⟩
  obtain ⟨o, s2, E2⟩ : ∃ n s, tnum s1 0 1099511627776 = (n, s) := ⟨_, _, rfl⟩
  have K1 : Hid (∀ (W : World) (A' : Option Addr) (c' : Nat) (l' : List UInt8) (bad' : Bool), TK 80 W (w.heap.size + 1) A' c' l' bad' → rst l' bad' = (some b) → Calls Try.prog 48 #[.pointer (some ⟨w.heap.size + 1, 0, none⟩), .int .i64 1, .int .i64 14] W (RTPost W (w.heap.size + 1) A' l'.length s1 (.int .i64 k))) := Lib.hid (fun W A' c' l' bad' h1 h2 => by have := rtnum_any W (w.heap.size + 1) A' c' l' bad' 1 14 h1; rw [h2, E1] at this; exact this)
  have K2 : Hid (∀ (W : World) (A' : Option Addr) (c' : Nat) (l' : List UInt8) (bad' : Bool), TK 80 W (w.heap.size + 1) A' c' l' bad' → rst l' bad' = s1 → Calls Try.prog 48 #[.pointer (some ⟨w.heap.size + 1, 0, none⟩), .int .i64 0, .int .i64 1099511627776] W (RTPost W (w.heap.size + 1) A' l'.length s2 (.int .i64 o))) := Lib.hid (fun W A' c' l' bad' h1 h2 => by have := rtnum_any W (w.heap.size + 1) A' c' l' bad' 0 1099511627776 h1; rw [h2, E2] at this; exact this)
  replace E1 := Lib.hid E1
  replace E2 := Lib.hid E2
  have ht1 : TK 80 ((w.alloc (.cells zeroM 29)).alloc (.cells #[.slice A b.length c, .bool false] 80)) (w.heap.size + 1) A c b false := by
    have hbk := Blk.new (w.alloc (.cells zeroM 29)) 80 #[.slice A b.length c, .bool false]
    rw [World.size_alloc] at hbk
    exact ⟨hbk, (hr.alloc _).alloc _, ⟨hc, hm⟩, fun hp ad ha => by have := hr.addr_lt ha hp; omega⟩
  have h00 : DT w zeroM (((w.alloc (.cells zeroM 29)).alloc (.cells #[.slice A b.length c, .bool false] 80)).alloc (.cells zeroM 29)) A c b false (some b) := by
    refine ⟨ht1.below ((Below.refl _ _).alloc (Nat.le_refl _) _), rfl, fun hp ad ha => hr.addr_lt ha hp, ?_, ?_, ?_⟩
    · exact (((Below.refl w.heap.size w).alloc (Nat.le_refl _) _).alloc (by simp only [World.size_alloc]; omega) _).alloc (by simp only [World.size_alloc]; omega) _
    · have := Blk.new ((w.alloc (.cells zeroM 29)).alloc (.cells #[.slice A b.length c, .bool false] 80)) 29 zeroM
      simp only [World.size_alloc] at this
      exact this
    · exact ((Blk.new w 29 zeroM).alloc _).alloc _
  have hgB : w.heap.size + 1 < w.heap.size + 2 := Nat.lt_succ_self _
  unfold zeroM at h00
  clear ht1
  go_enter Try.func14, Try.ntmps14
  go_wp2_with fail
  refine (K1.out _ _ _ _ _ h00.tk h00.eq).mono ?_
  rintro e W1 ⟨A2, c2, l2, bad2, rfl, ht, he, hk, hs, hle⟩
  have hd := h00.step ht he hk hs hle
  have f0 := hd.ba.frozen 0
  have q0 := hd.ba.cell 0
  simp at q0
  have h1 : DT w #[.int .i64 k, .int .i64 0, .slice none 0 0, .int .i64 0, .int .i64 0, .int .i64 0, .int .i64 0, .int .i64 0, .int .i64 0, .int .i64 0, .string ⟨#[]⟩, .slice none 0 0, .int .i64 0, .int .i64 0, .int .i64 0, .int .i64 0] (W1.setCell ⟨w.heap.size + 2, 0, none⟩ (.int .i64 k)) A2 c2 l2 bad2 s1 := by simpa using hd.put 0 (.int .i64 k)
  clear ht he hk hs hle hd K1 h00
  go_wp2_with fail
  refine (K2.out _ _ _ _ _ h1.tk h1.eq).mono ?_
  rintro e W2 ⟨A3, c3, l3, bad3, rfl, ht, he, hk, hs, hle⟩
  have hd := h1.step ht he hk hs hle
  have f1 := hd.ba.frozen 1
  have q1 := hd.ba.cell 1
  simp at q1
  have h2 : DT w #[.int .i64 k, .int .i64 o, .slice none 0 0, .int .i64 0, .int .i64 0, .int .i64 0, .int .i64 0, .int .i64 0, .int .i64 0, .int .i64 0, .string ⟨#[]⟩, .slice none 0 0, .int .i64 0, .int .i64 0, .int .i64 0, .int .i64 0] (W2.setCell ⟨w.heap.size + 2, 1, none⟩ (.int .i64 o)) A3 c3 l3 bad3 s2 := by simpa using hd.put 1 (.int .i64 o)
  clear ht he hk hs hle hd K2 h1
  go_wp2_with fail
  refine (rread_any _ (w.heap.size + 1) A3 c3 l3 bad3 h2.tk).mono ?_
  rintro e W3 ⟨v3, ok, A4, c4, l4, bad4, lr, rfl, hO, ht, hk, hs, hle, hyes, hno⟩
  rw [h2.eq] at hyes hno
  obtain ⟨AL, cL, rfl, hl1, hl2, hil, hal⟩ := hO.form
  have hB1 := h2.ba.lt
  have halB : ∀ ad, AL = some ad → w.heap.size + 2 < ad.block := fun ad ha => by have := (hal ad ha).1; omega
  have hd := h2.step ht rfl hk hs hle
  have f2 := hd.ba.frozen 2
  have q2 := hd.ba.cell 2
  simp at q2
  have h3 : DT w #[.int .i64 k, .int .i64 o, .slice AL lr.length cL, .int .i64 0, .int .i64 0, .int .i64 0, .int .i64 0, .int .i64 0, .int .i64 0, .int .i64 0, .string ⟨#[]⟩, .slice none 0 0, .int .i64 0, .int .i64 0, .int .i64 0, .int .i64 0] (W3.setCell ⟨w.heap.size + 2, 2, none⟩ (.slice AL lr.length cL)) A4 c4 l4 bad4 (rst l4 bad4) := by simpa using hd.put 2 (.slice AL lr.length cL)
  have hil3 := hil.put halB 2 (.slice AL lr.length cL)
  obtain ⟨S, s4, E4⟩ : ∃ n s, ttext (rst l4 bad4) 262144 = (n, s) := ⟨_, _, rfl⟩
  have K4 := rttext_any (W3.setCell ⟨w.heap.size + 2, 2, none⟩ (.slice AL lr.length cL)) (w.heap.size + 1) A4 c4 l4 bad4 262144 h3.tk
  rw [E4] at K4
  dsimp only at K4
  replace K4 := Lib.hid K4
  have hLN : lr.length ≤ 9223372036854775807 := by unfold maxLen at hl2; omega
  replace hyes := Lib.hid hyes
  replace hno := Lib.hid hno
  have hSl : S.length ≤ maxLen := by
    have h5 := text_le (by omega) E4
    unfold maxLen
    omega
  replace E4 := Lib.hid E4
  clear ht hk hs hle hd h2 hO hal hB1 hl1 hl2 hil
  go_wp2_with fail
  refine K4.out.mono ?_
  rintro e W4 ⟨A5, c5, l5, bad5, rfl, ht, he, hk, hs, hle⟩
  have h4 := h3.step ht he hk hs hle
  have hil4 := hil3.keepG halB hgB hk
  clear ht he hk hs hle h3 hil3 K4 f0 f1 f2 q0 q1 q2
  rw [strV_eq]
  have q0 := h4.ba.cell 0
  simp at q0
  cases h97 : hasB (hasM k) 97 with
  | true =>
    have h121 := has_ay h97
    have hask : askR k S = decA S := by unfold askR; rw [h97]
    go_wp2_with fail
    refine (rmhas1_at k 97 97 true rfl h97 _).mono ?_
    rintro e W5 ⟨rfl, hx5⟩
    have h5 := h4.below hx5
    have hil5 := hil4.below hx5
    have hB5 := h5.ba.lt
    obtain ⟨cB, W6, hcv, hrB, hx6, hlt6, hcB1, hcB2⟩ := run_bts W5 S hSl
    have h6 := h5.below hx6
    have hil6 := hil5.below hx6
    have key := raskdecode2_any (some ⟨W5.heap.size, 0, none⟩) S.length cB S W6 hrB hcB1 hcB2
    clear q0 h4 hil4 hx5
    go_wp2_with fail
    refine key.mono ?_
    rintro e W7 ⟨hx7, hd7⟩
    clear key
    have h7 := h6.below hx7
    have hil7 := hil6.below hx7
    clear h5 hil5 h6 hil6
    cases hdec : decA S with
    | none =>
      rw [hdec] at hd7 hask
      dsimp only at hd7
      subst hd7
      unfold x0
      unfold AV.v
      dsimp only
      have hbx := Blk.new W7 24 #[.int .i64 0, .int .i64 0, .int .i64 0, .int .i64 0, .int .i64 0, .int .i64 0, .int .i64 0, .string ⟨#[]⟩, .slice none 0 0]
      have h8 := h7.below ((Below.refl _ W7).alloc (Nat.le_refl _) (.cells #[.int .i64 0, .int .i64 0, .int .i64 0, .int .i64 0, .int .i64 0, .int .i64 0, .int .i64 0, .string ⟨#[]⟩, .slice none 0 0] 24))
      have hil8 := hil7.alloc (.cells #[.int .i64 0, .int .i64 0, .int .i64 0, .int .i64 0, .int .i64 0, .int .i64 0, .int .i64 0, .string ⟨#[]⟩, .slice none 0 0] 24)
      cases ok with
      | false =>
        go_wp2_with (first | (refine wpLoadM 24 (by rfl) (.tmp 9) rfl rfl hbx _ Try.underlying24 rfl ask_info9 ?_) | (refine wpStoreM 24 3 #[.int .i64 0, .int .i64 0, .int .i64 0, .int .i64 0, .int .i64 0, .int .i64 0, .int .i64 0, .string ⟨#[]⟩, .slice none 0 0] rfl (.tmp 40) (.tmp 39) rfl rfl rfl h8.ba (by simp) ask_info9 rfl (fun W9 hb9 hk9 => ?_); have h9 : DT w #[.int .i64 k, .int .i64 o, .slice AL lr.length cL, .int .i64 0, .int .i64 0, .int .i64 0, .int .i64 0, .int .i64 0, .int .i64 0, .int .i64 0, .string ⟨#[]⟩, .slice none 0 0, .int .i64 0, .int .i64 0, .int .i64 0, .int .i64 0] W9 A5 c5 l5 bad5 s4 := h8.setM hb9 hk9; have hil9 := hil8.setM halB hk9; have q0 := h9.ba.cell 0; simp at q0))
        refine (rmhas1_at k 121 121 false rfl h121 _).mono ?_
        rintro e WA ⟨rfl, hxA⟩
        have hA := h9.below hxA
        have ilA := hil9.below hxA
        go_wp2_with (refine wpStoreM 29 0 #[.int .i64 0, .int .i64 0, .slice none 0 0, .int .i64 0, .int .i64 0, .int .i64 0, .int .i64 0, .int .i64 0, .int .i64 0, .int .i64 0, .string ⟨#[]⟩, .slice none 0 0, .int .i64 0, .int .i64 0, .int .i64 0, .int .i64 0] rfl (.tmp 2) (.tmp 90) rfl rfl rfl hA.b0 (by simp [zeroM]) mail_info rfl (fun WE hbE hkE => ?_))
        have hbE2 : Blk WE w.heap.size 29 #[.int .i64 0, .int .i64 0, .slice none 0 0, .int .i64 0, .int .i64 0, .int .i64 0, .int .i64 0, .int .i64 0, .int .i64 0, .int .i64 0, .string ⟨#[]⟩, .slice none 0 0, .int .i64 0, .int .i64 0, .int .i64 0, .int .i64 0] := hbE
        clear hbE
        refine bodyPost_ret (rmres hbE2 _ _ rfl rfl) rfl ?_
        have hbl := hA.bel
        refine ⟨hbl.trans (hkE.below (B := w.heap.size) hbl.size (fun k hk e => by omega)), ?_⟩
        refine .inr ⟨fun x hx hxn hb => ?_, _, rfl, rfl⟩
        exact read_no E1.out E2.out (hno.out (by simp)) x hx hb
      | true =>
        obtain ⟨hT, hb4⟩ := hyes.out (by simp)
        subst hb4
        have hRT := Lib.hid (⟨E1.out, E2.out, hT, E4.out⟩ : RTM b k o lr S s1 s2 l4 s4)
        have hWL : WL lr := may_wl (takeL_some hT).1
        go_wp2_with (first | (refine wpLoadM 24 (by rfl) (.tmp 9) rfl rfl hbx _ Try.underlying24 rfl ask_info9 ?_) | (refine wpStoreM 24 3 #[.int .i64 0, .int .i64 0, .int .i64 0, .int .i64 0, .int .i64 0, .int .i64 0, .int .i64 0, .string ⟨#[]⟩, .slice none 0 0] rfl (.tmp 40) (.tmp 39) rfl rfl rfl h8.ba (by simp) ask_info9 rfl (fun W9 hb9 hk9 => ?_); have h9 : DT w #[.int .i64 k, .int .i64 o, .slice AL lr.length cL, .int .i64 0, .int .i64 0, .int .i64 0, .int .i64 0, .int .i64 0, .int .i64 0, .int .i64 0, .string ⟨#[]⟩, .slice none 0 0, .int .i64 0, .int .i64 0, .int .i64 0, .int .i64 0] W9 A5 c5 l5 bad5 s4 := h8.setM hb9 hk9; have hil9 := hil8.setM halB hk9; have q0 := h9.ba.cell 0; simp at q0))
        refine (rmhas1_at k 121 121 false rfl h121 _).mono ?_
        rintro e WA ⟨rfl, hxA⟩
        have hA := h9.below hxA
        have ilA := hil9.below hxA
        have hI := RTM.iff (y := y0) (t1 := none) (t2 := none) (t3 := none) (sE := s4) hRT.out (by rw [h121]; exact ⟨rfl, rfl⟩)
        replace hI := Lib.hid hI
        go_wp2_with (refine wpStoreM 29 0 #[.int .i64 0, .int .i64 0, .slice none 0 0, .int .i64 0, .int .i64 0, .int .i64 0, .int .i64 0, .int .i64 0, .int .i64 0, .int .i64 0, .string ⟨#[]⟩, .slice none 0 0, .int .i64 0, .int .i64 0, .int .i64 0, .int .i64 0] rfl (.tmp 2) (.tmp 90) rfl rfl rfl hA.b0 (by simp [zeroM]) mail_info rfl (fun WE hbE hkE => ?_))
        have hbE2 : Blk WE w.heap.size 29 #[.int .i64 0, .int .i64 0, .slice none 0 0, .int .i64 0, .int .i64 0, .int .i64 0, .int .i64 0, .int .i64 0, .int .i64 0, .int .i64 0, .string ⟨#[]⟩, .slice none 0 0, .int .i64 0, .int .i64 0, .int .i64 0, .int .i64 0] := hbE
        clear hbE
        refine bodyPost_ret (rmres hbE2 _ _ rfl rfl) rfl ?_
        have hbl := hA.bel
        refine ⟨hbl.trans (hkE.below (B := w.heap.size) hbl.size (fun k hk e => by omega)), ?_⟩
        refine .inr ⟨fun x hx hxn hb => ?_, _, rfl, rfl⟩
        have hq := (hI.out.2 x hx hxn hb).1
        rw [hask] at hq
        cases hq
    | some a =>
      rw [hdec] at hd7 hask
      obtain ⟨a1, a2, a3, a4, a5, a6, a7, ag, al⟩ := a
      obtain ⟨AA, cA, rfl, hia7, hA7⟩ := hd7
      have hma := mayA_facts (decA_ok hdec).1
      dsimp only at hma
      have hALN : al.length ≤ 9223372036854775807 := by have := (mayL_okI hma.2.2.2.2.2.2.2.2).1; omega
      have hWA : WL al := may_wl hma.2.2.2.2.2.2.2.2
      have hAG : ag.length ≤ 9223372036854775807 := by have := hma.2.2.2.2.2.2.2.1; omega
      clear hma
      have haaB : ∀ ad, AA = some ad → w.heap.size + 2 < ad.block := fun ad h => by have := hA7 ad h; omega
      unfold AV.v
      dsimp only
      have hbx := Blk.new W7 24 #[.int .i64 a1, .int .i64 a2, .int .i64 a3, .int .i64 a4, .int .i64 a5, .int .i64 a6, .int .i64 a7, .string ⟨ag.toArray⟩, .slice AA al.length cA]
      have h8 := h7.below ((Below.refl _ W7).alloc (Nat.le_refl _) (.cells #[.int .i64 a1, .int .i64 a2, .int .i64 a3, .int .i64 a4, .int .i64 a5, .int .i64 a6, .int .i64 a7, .string ⟨ag.toArray⟩, .slice AA al.length cA] 24))
      have hil8 := hil7.alloc (.cells #[.int .i64 a1, .int .i64 a2, .int .i64 a3, .int .i64 a4, .int .i64 a5, .int .i64 a6, .int .i64 a7, .string ⟨ag.toArray⟩, .slice AA al.length cA] 24)
      have hia8 := hia7.alloc (.cells #[.int .i64 a1, .int .i64 a2, .int .i64 a3, .int .i64 a4, .int .i64 a5, .int .i64 a6, .int .i64 a7, .string ⟨ag.toArray⟩, .slice AA al.length cA] 24)
      cases ok with
      | false =>
        go_wp2_with (first | (refine wpLoadM 24 (by rfl) (.tmp 9) rfl rfl hbx _ Try.underlying24 rfl ask_info9 ?_) | (refine wpStoreM 24 3 #[.int .i64 a1, .int .i64 a2, .int .i64 a3, .int .i64 a4, .int .i64 a5, .int .i64 a6, .int .i64 a7, .string ⟨ag.toArray⟩, .slice AA al.length cA] rfl (.tmp 40) (.tmp 39) rfl rfl rfl h8.ba (by simp) ask_info9 rfl (fun W9 hb9 hk9 => ?_); have h9 : DT w #[.int .i64 k, .int .i64 o, .slice AL lr.length cL, .int .i64 a1, .int .i64 a2, .int .i64 a3, .int .i64 a4, .int .i64 a5, .int .i64 a6, .int .i64 a7, .string ⟨ag.toArray⟩, .slice AA al.length cA, .int .i64 0, .int .i64 0, .int .i64 0, .int .i64 0] W9 A5 c5 l5 bad5 s4 := h8.setM hb9 hk9; have hil9 := hil8.setM halB hk9; have hia9 := hia8.setM haaB hk9; have q0 := h9.ba.cell 0; simp at q0))
        refine (rmhas1_at k 121 121 false rfl h121 _).mono ?_
        rintro e WA ⟨rfl, hxA⟩
        have hA := h9.below hxA
        have ilA := hil9.below hxA
        go_wp2_with (refine wpStoreM 29 0 #[.int .i64 0, .int .i64 0, .slice none 0 0, .int .i64 0, .int .i64 0, .int .i64 0, .int .i64 0, .int .i64 0, .int .i64 0, .int .i64 0, .string ⟨#[]⟩, .slice none 0 0, .int .i64 0, .int .i64 0, .int .i64 0, .int .i64 0] rfl (.tmp 2) (.tmp 90) rfl rfl rfl hA.b0 (by simp [zeroM]) mail_info rfl (fun WE hbE hkE => ?_))
        have hbE2 : Blk WE w.heap.size 29 #[.int .i64 0, .int .i64 0, .slice none 0 0, .int .i64 0, .int .i64 0, .int .i64 0, .int .i64 0, .int .i64 0, .int .i64 0, .int .i64 0, .string ⟨#[]⟩, .slice none 0 0, .int .i64 0, .int .i64 0, .int .i64 0, .int .i64 0] := hbE
        clear hbE
        refine bodyPost_ret (rmres hbE2 _ _ rfl rfl) rfl ?_
        have hbl := hA.bel
        refine ⟨hbl.trans (hkE.below (B := w.heap.size) hbl.size (fun k hk e => by omega)), ?_⟩
        refine .inr ⟨fun x hx hxn hb => ?_, _, rfl, rfl⟩
        exact read_no E1.out E2.out (hno.out (by simp)) x hx hb
      | true =>
        obtain ⟨hT, hb4⟩ := hyes.out (by simp)
        subst hb4
        have hRT := Lib.hid (⟨E1.out, E2.out, hT, E4.out⟩ : RTM b k o lr S s1 s2 l4 s4)
        have hWL : WL lr := may_wl (takeL_some hT).1
        go_wp2_with (first | (refine wpLoadM 24 (by rfl) (.tmp 9) rfl rfl hbx _ Try.underlying24 rfl ask_info9 ?_) | (refine wpStoreM 24 3 #[.int .i64 a1, .int .i64 a2, .int .i64 a3, .int .i64 a4, .int .i64 a5, .int .i64 a6, .int .i64 a7, .string ⟨ag.toArray⟩, .slice AA al.length cA] rfl (.tmp 40) (.tmp 39) rfl rfl rfl h8.ba (by simp) ask_info9 rfl (fun W9 hb9 hk9 => ?_); have h9 : DT w #[.int .i64 k, .int .i64 o, .slice AL lr.length cL, .int .i64 a1, .int .i64 a2, .int .i64 a3, .int .i64 a4, .int .i64 a5, .int .i64 a6, .int .i64 a7, .string ⟨ag.toArray⟩, .slice AA al.length cA, .int .i64 0, .int .i64 0, .int .i64 0, .int .i64 0] W9 A5 c5 l5 bad5 s4 := h8.setM hb9 hk9; have hil9 := hil8.setM halB hk9; have hia9 := hia8.setM haaB hk9; have q0 := h9.ba.cell 0; simp at q0))
        refine (rmhas1_at k 121 121 false rfl h121 _).mono ?_
        rintro e WA ⟨rfl, hxA⟩
        have hA := h9.below hxA
        have ilA := hil9.below hxA
        have iaA := hia9.below hxA
        have hI := RTM.iff (y := y0) (t1 := none) (t2 := none) (t3 := none) (sE := s4) hRT.out (by rw [h121]; exact ⟨rfl, rfl⟩)
        replace hI := Lib.hid hI
        have hE := hA.eq
        cases bad5 with
        | true =>
          have qb := hA.tk.blk.cell 1
          simp at qb
          go_wp2_with (refine wpStoreM 29 0 #[.int .i64 0, .int .i64 0, .slice none 0 0, .int .i64 0, .int .i64 0, .int .i64 0, .int .i64 0, .int .i64 0, .int .i64 0, .int .i64 0, .string ⟨#[]⟩, .slice none 0 0, .int .i64 0, .int .i64 0, .int .i64 0, .int .i64 0] rfl (.tmp 2) (.tmp 90) rfl rfl rfl hA.b0 (by simp [zeroM]) mail_info rfl (fun WE hbE hkE => ?_))
          have hbE2 : Blk WE w.heap.size 29 #[.int .i64 0, .int .i64 0, .slice none 0 0, .int .i64 0, .int .i64 0, .int .i64 0, .int .i64 0, .int .i64 0, .int .i64 0, .int .i64 0, .string ⟨#[]⟩, .slice none 0 0, .int .i64 0, .int .i64 0, .int .i64 0, .int .i64 0] := hbE
          clear hbE
          refine bodyPost_ret (rmres hbE2 _ _ rfl rfl) rfl ?_
          have hbl := hA.bel
          refine ⟨hbl.trans (hkE.below (B := w.heap.size) hbl.size (fun k hk e => by omega)), ?_⟩
          refine .inr ⟨fun x hx hxn hb => ?_, _, rfl, rfl⟩
          have hq := (hI.out.2 x hx hxn hb).2.1
          rw [← hE] at hq
          simp [rst] at hq
        | false =>
          have qb := hA.tk.blk.cell 1
          simp at qb
          have qa := hA.tk.blk.cell 0
          simp at qa
          cases l5 with
          | cons z0 zs =>
            obtain ⟨q, hq⟩ : ∃ q, q = (z0 :: zs).length := ⟨_, rfl⟩
            have hq0 : (0 : Int) < (q : Int) := by rw [hq, List.length_cons]; omega
            rw [← hq] at qa
            clear hq
            go_wp2_with (refine wpStoreM 29 0 #[.int .i64 0, .int .i64 0, .slice none 0 0, .int .i64 0, .int .i64 0, .int .i64 0, .int .i64 0, .int .i64 0, .int .i64 0, .int .i64 0, .string ⟨#[]⟩, .slice none 0 0, .int .i64 0, .int .i64 0, .int .i64 0, .int .i64 0] rfl (.tmp 2) (.tmp 90) rfl rfl rfl hA.b0 (by simp [zeroM]) mail_info rfl (fun WE hbE hkE => ?_))
            have hbE2 : Blk WE w.heap.size 29 #[.int .i64 0, .int .i64 0, .slice none 0 0, .int .i64 0, .int .i64 0, .int .i64 0, .int .i64 0, .int .i64 0, .int .i64 0, .int .i64 0, .string ⟨#[]⟩, .slice none 0 0, .int .i64 0, .int .i64 0, .int .i64 0, .int .i64 0] := hbE
            clear hbE
            refine bodyPost_ret (rmres hbE2 _ _ rfl rfl) rfl ?_
            have hbl := hA.bel
            refine ⟨hbl.trans (hkE.below (B := w.heap.size) hbl.size (fun k hk e => by omega)), ?_⟩
            refine .inr ⟨fun x hx hxn hb => ?_, _, rfl, rfl⟩
            have hq := (hI.out.2 x hx hxn hb).2.1
            rw [← hE] at hq
            simp [rst] at hq
          | nil =>
            have hE : s4 = some [] := by rw [← hE]; rfl
            simp only [List.length_nil] at qa
            obtain ⟨mm, hmm⟩ : ∃ m, mayM ⟨k, o, lr, ⟨a1, a2, a3, a4, a5, a6, a7, ag, al⟩, y0⟩ = m := ⟨_, rfl⟩
            have key := rmmay_any ⟨k, o, lr, ⟨a1, a2, a3, a4, a5, a6, a7, ag, al⟩, y0⟩ AL cL AA cA _ ilA iaA hWL hWA hLN hALN hAG
            rw [hmm] at key
            unfold MV.v MV.cs y0 at key
            dsimp only at key
            replace key := Lib.hid key
            go_wp2_with (refine wpLoadM 29 (by rfl) (.tmp 5) rfl rfl hA.ba _ Try.underlying29 rfl mail_info ?_)
            refine key.out.mono ?_
            rintro e WG ⟨rfl, hxG⟩
            have hG := hA.below hxG
            have ilG := ilA.below hxG
            have iaG := iaA.below hxG
            cases mm with
            | false =>
              go_wp2_with (refine wpStoreM 29 0 #[.int .i64 0, .int .i64 0, .slice none 0 0, .int .i64 0, .int .i64 0, .int .i64 0, .int .i64 0, .int .i64 0, .int .i64 0, .int .i64 0, .string ⟨#[]⟩, .slice none 0 0, .int .i64 0, .int .i64 0, .int .i64 0, .int .i64 0] rfl (.tmp 2) (.tmp 90) rfl rfl rfl hG.b0 (by simp [zeroM]) mail_info rfl (fun WE hbE hkE => ?_))
              have hbE2 : Blk WE w.heap.size 29 #[.int .i64 0, .int .i64 0, .slice none 0 0, .int .i64 0, .int .i64 0, .int .i64 0, .int .i64 0, .int .i64 0, .int .i64 0, .int .i64 0, .string ⟨#[]⟩, .slice none 0 0, .int .i64 0, .int .i64 0, .int .i64 0, .int .i64 0] := hbE
              clear hbE
              refine bodyPost_ret (rmres hbE2 _ _ rfl rfl) rfl ?_
              have hbl := hG.bel
              refine ⟨hbl.trans (hkE.below (B := w.heap.size) hbl.size (fun k hk e => by omega)), ?_⟩
              refine .inr ⟨fun x hx hxn hb => ?_, _, rfl, rfl⟩
              have hq := hI.out.2 x hx hxn hb
              have h1 := hq.1
              rw [hask] at h1
              injection h1 with h1
              have h2 := hq.2.2
              rw [← h1] at h2
              rw [h2, hmm] at hx
              cases hx
            | true =>
              go_wp2_with (first | (refine wpLoadM 29 (by rfl) (.tmp 5) rfl rfl hG.ba _ Try.underlying29 rfl mail_info ?_) | (refine wpStoreM 29 0 #[.int .i64 k, .int .i64 o, .slice AL lr.length cL, .int .i64 a1, .int .i64 a2, .int .i64 a3, .int .i64 a4, .int .i64 a5, .int .i64 a6, .int .i64 a7, .string ⟨ag.toArray⟩, .slice AA al.length cA, .int .i64 0, .int .i64 0, .int .i64 0, .int .i64 0] rfl (.tmp 2) (.tmp 91) rfl rfl rfl hG.b0 (by simp [zeroM]) mail_info rfl (fun WE hbE hkE => ?_)))
              have hbE2 : Blk WE w.heap.size 29 #[.int .i64 k, .int .i64 o, .slice AL lr.length cL, .int .i64 a1, .int .i64 a2, .int .i64 a3, .int .i64 a4, .int .i64 a5, .int .i64 a6, .int .i64 a7, .string ⟨ag.toArray⟩, .slice AA al.length cA, .int .i64 0, .int .i64 0, .int .i64 0, .int .i64 0] := hbE
              clear hbE
              refine bodyPost_ret (rmres hbE2 _ _ rfl rfl) rfl ?_
              have hbl := hG.bel
              refine ⟨hbl.trans (hkE.below (B := w.heap.size) hbl.size (fun k hk e => by omega)), ?_⟩
              refine .inl ⟨⟨k, o, lr, ⟨a1, a2, a3, a4, a5, a6, a7, ag, al⟩, y0⟩, AL, cL, AA, cA, hmm, (hI.out.1 _ hask hE hmm).2, (hI.out.1 _ hask hE hmm).1, ilG.kept hkE (fun ad h1 _ e => by have := halB ad h1; omega), iaG.kept hkE (fun ad h1 _ e => by have := haaB ad h1; omega), _, rfl, rfl⟩
  | false =>
    go_wp2_with fail
    refine (rmhas1_at k 97 97 false rfl h97 _).mono ?_
    rintro e W5 ⟨rfl, hx5⟩
    have h5 := h4.below hx5
    have hil5 := hil4.below hx5
    clear q0 h4 hil4
    have q0 := h5.ba.cell 0
    simp at q0
    cases ok with
    | false =>
      cases h121 : hasB (hasM k) 121 with
      | true =>
        go_wp2_with fail
        refine (rmhas1_at k 121 121 true rfl h121 _).mono ?_
        rintro e WA ⟨rfl, hxA⟩
        have hA := h5.below hxA
        have ilA := hil5.below hxA
        clear q0
        obtain ⟨yc, t1, F1⟩ : ∃ n s, tnum s4 0 63 = (n, s) := ⟨_, _, rfl⟩
        have KY : Hid (∀ (W : World) (A' : Option Addr) (c' : Nat) (l' : List UInt8) (bad' : Bool), TK 80 W (w.heap.size + 1) A' c' l' bad' → rst l' bad' = s4 → Calls Try.prog 48 #[.pointer (some ⟨w.heap.size + 1, 0, none⟩), .int .i64 0, .int .i64 63] W (RTPost W (w.heap.size + 1) A' l'.length t1 (.int .i64 yc))) := Lib.hid (fun W A' c' l' bad' h1 h2 => by have := rtnum_any W (w.heap.size + 1) A' c' l' bad' 0 63 h1; rw [h2, F1] at this; exact this)
        replace F1 := Lib.hid F1
        go_wp2_with fail
        refine (KY.out _ _ _ _ _ hA.tk hA.eq).mono ?_
        rintro e V1 ⟨Ay1, cy1, ly1, by1, rfl, ht, he, hk, hs, hle⟩
        have hd := hA.step ht he hk hs hle
        have f12 := hd.ba.frozen 12
        have q12 := hd.ba.cell 12
        simp at q12
        have hy1 : DT w #[.int .i64 k, .int .i64 o, .slice AL lr.length cL, .int .i64 0, .int .i64 0, .int .i64 0, .int .i64 0, .int .i64 0, .int .i64 0, .int .i64 0, .string ⟨#[]⟩, .slice none 0 0, .int .i64 yc, .int .i64 0, .int .i64 0, .int .i64 0] (V1.setCell ⟨w.heap.size + 2, 12, none⟩ (.int .i64 yc)) Ay1 cy1 ly1 by1 t1 := by simpa using hd.put 12 (.int .i64 yc)
        have il1 := (ilA.keepG halB hgB hk).put halB 12 (.int .i64 yc)
        clear ht he hk hs hle hd KY hA ilA
        obtain ⟨ym, t2, F2⟩ : ∃ n s, tnum t1 1 4294967296 = (n, s) := ⟨_, _, rfl⟩
        have KY : Hid (∀ (W : World) (A' : Option Addr) (c' : Nat) (l' : List UInt8) (bad' : Bool), TK 80 W (w.heap.size + 1) A' c' l' bad' → rst l' bad' = t1 → Calls Try.prog 48 #[.pointer (some ⟨w.heap.size + 1, 0, none⟩), .int .i64 1, .int .i64 4294967296] W (RTPost W (w.heap.size + 1) A' l'.length t2 (.int .i64 ym))) := Lib.hid (fun W A' c' l' bad' h1 h2 => by have := rtnum_any W (w.heap.size + 1) A' c' l' bad' 1 4294967296 h1; rw [h2, F2] at this; exact this)
        replace F2 := Lib.hid F2
        go_wp2_with fail
        refine (KY.out _ _ _ _ _ hy1.tk hy1.eq).mono ?_
        rintro e V2 ⟨Ay2, cy2, ly2, by2, rfl, ht, he, hk, hs, hle⟩
        have hd := hy1.step ht he hk hs hle
        have f13 := hd.ba.frozen 13
        have q13 := hd.ba.cell 13
        simp at q13
        have hy2 : DT w #[.int .i64 k, .int .i64 o, .slice AL lr.length cL, .int .i64 0, .int .i64 0, .int .i64 0, .int .i64 0, .int .i64 0, .int .i64 0, .int .i64 0, .string ⟨#[]⟩, .slice none 0 0, .int .i64 yc, .int .i64 ym, .int .i64 0, .int .i64 0] (V2.setCell ⟨w.heap.size + 2, 13, none⟩ (.int .i64 ym)) Ay2 cy2 ly2 by2 t2 := by simpa using hd.put 13 (.int .i64 ym)
        have il2 := (il1.keepG halB hgB hk).put halB 13 (.int .i64 ym)
        clear ht he hk hs hle hd KY hy1 il1
        obtain ⟨ye, t3, F3⟩ : ∃ n s, tnum t2 0 1000 = (n, s) := ⟨_, _, rfl⟩
        have KY : Hid (∀ (W : World) (A' : Option Addr) (c' : Nat) (l' : List UInt8) (bad' : Bool), TK 80 W (w.heap.size + 1) A' c' l' bad' → rst l' bad' = t2 → Calls Try.prog 48 #[.pointer (some ⟨w.heap.size + 1, 0, none⟩), .int .i64 0, .int .i64 1000] W (RTPost W (w.heap.size + 1) A' l'.length t3 (.int .i64 ye))) := Lib.hid (fun W A' c' l' bad' h1 h2 => by have := rtnum_any W (w.heap.size + 1) A' c' l' bad' 0 1000 h1; rw [h2, F3] at this; exact this)
        replace F3 := Lib.hid F3
        go_wp2_with fail
        refine (KY.out _ _ _ _ _ hy2.tk hy2.eq).mono ?_
        rintro e V3 ⟨Ay3, cy3, ly3, by3, rfl, ht, he, hk, hs, hle⟩
        have hd := hy2.step ht he hk hs hle
        have f14 := hd.ba.frozen 14
        have q14 := hd.ba.cell 14
        simp at q14
        have hy3 : DT w #[.int .i64 k, .int .i64 o, .slice AL lr.length cL, .int .i64 0, .int .i64 0, .int .i64 0, .int .i64 0, .int .i64 0, .int .i64 0, .int .i64 0, .string ⟨#[]⟩, .slice none 0 0, .int .i64 yc, .int .i64 ym, .int .i64 ye, .int .i64 0] (V3.setCell ⟨w.heap.size + 2, 14, none⟩ (.int .i64 ye)) Ay3 cy3 ly3 by3 t3 := by simpa using hd.put 14 (.int .i64 ye)
        have il3 := (il2.keepG halB hgB hk).put halB 14 (.int .i64 ye)
        clear ht he hk hs hle hd KY hy2 il2
        obtain ⟨yn, t4, F4⟩ : ∃ n s, tnum t3 (-9223372036854775808) 9223372036854775807 = (n, s) := ⟨_, _, rfl⟩
        have KY : Hid (∀ (W : World) (A' : Option Addr) (c' : Nat) (l' : List UInt8) (bad' : Bool), TK 80 W (w.heap.size + 1) A' c' l' bad' → rst l' bad' = t3 → Calls Try.prog 48 #[.pointer (some ⟨w.heap.size + 1, 0, none⟩), .int .i64 (-9223372036854775808), .int .i64 9223372036854775807] W (RTPost W (w.heap.size + 1) A' l'.length t4 (.int .i64 yn))) := Lib.hid (fun W A' c' l' bad' h1 h2 => by have := rtnum_any W (w.heap.size + 1) A' c' l' bad' (-9223372036854775808) 9223372036854775807 h1; rw [h2, F4] at this; exact this)
        replace F4 := Lib.hid F4
        go_wp2_with fail
        refine (KY.out _ _ _ _ _ hy3.tk hy3.eq).mono ?_
        rintro e V4 ⟨Ay4, cy4, ly4, by4, rfl, ht, he, hk, hs, hle⟩
        have hd := hy3.step ht he hk hs hle
        have f15 := hd.ba.frozen 15
        have q15 := hd.ba.cell 15
        simp at q15
        have hy4 : DT w #[.int .i64 k, .int .i64 o, .slice AL lr.length cL, .int .i64 0, .int .i64 0, .int .i64 0, .int .i64 0, .int .i64 0, .int .i64 0, .int .i64 0, .string ⟨#[]⟩, .slice none 0 0, .int .i64 yc, .int .i64 ym, .int .i64 ye, .int .i64 yn] (V4.setCell ⟨w.heap.size + 2, 15, none⟩ (.int .i64 yn)) Ay4 cy4 ly4 by4 t4 := by simpa using hd.put 15 (.int .i64 yn)
        have il4 := (il3.keepG halB hgB hk).put halB 15 (.int .i64 yn)
        clear ht he hk hs hle hd KY hy3 il3
        go_wp2_with (refine wpStoreM 29 0 #[.int .i64 0, .int .i64 0, .slice none 0 0, .int .i64 0, .int .i64 0, .int .i64 0, .int .i64 0, .int .i64 0, .int .i64 0, .int .i64 0, .string ⟨#[]⟩, .slice none 0 0, .int .i64 0, .int .i64 0, .int .i64 0, .int .i64 0] rfl (.tmp 2) (.tmp 90) rfl rfl rfl hy4.b0 (by simp [zeroM]) mail_info rfl (fun WE hbE hkE => ?_))
        have hbE2 : Blk WE w.heap.size 29 #[.int .i64 0, .int .i64 0, .slice none 0 0, .int .i64 0, .int .i64 0, .int .i64 0, .int .i64 0, .int .i64 0, .int .i64 0, .int .i64 0, .string ⟨#[]⟩, .slice none 0 0, .int .i64 0, .int .i64 0, .int .i64 0, .int .i64 0] := hbE
        clear hbE
        refine bodyPost_ret (rmres hbE2 _ _ rfl rfl) rfl ?_
        have hbl := hy4.bel
        refine ⟨hbl.trans (hkE.below (B := w.heap.size) hbl.size (fun k hk e => by omega)), ?_⟩
        refine .inr ⟨fun x hx hxn hb => ?_, _, rfl, rfl⟩
        exact read_no E1.out E2.out (hno.out (by simp)) x hx hb
      | false =>
        go_wp2_with fail
        refine (rmhas1_at k 121 121 false rfl h121 _).mono ?_
        rintro e WA ⟨rfl, hxA⟩
        have hA := h5.below hxA
        have ilA := hil5.below hxA
        go_wp2_with (refine wpStoreM 29 0 #[.int .i64 0, .int .i64 0, .slice none 0 0, .int .i64 0, .int .i64 0, .int .i64 0, .int .i64 0, .int .i64 0, .int .i64 0, .int .i64 0, .string ⟨#[]⟩, .slice none 0 0, .int .i64 0, .int .i64 0, .int .i64 0, .int .i64 0] rfl (.tmp 2) (.tmp 90) rfl rfl rfl hA.b0 (by simp [zeroM]) mail_info rfl (fun WE hbE hkE => ?_))
        have hbE2 : Blk WE w.heap.size 29 #[.int .i64 0, .int .i64 0, .slice none 0 0, .int .i64 0, .int .i64 0, .int .i64 0, .int .i64 0, .int .i64 0, .int .i64 0, .int .i64 0, .string ⟨#[]⟩, .slice none 0 0, .int .i64 0, .int .i64 0, .int .i64 0, .int .i64 0] := hbE
        clear hbE
        refine bodyPost_ret (rmres hbE2 _ _ rfl rfl) rfl ?_
        have hbl := hA.bel
        refine ⟨hbl.trans (hkE.below (B := w.heap.size) hbl.size (fun k hk e => by omega)), ?_⟩
        refine .inr ⟨fun x hx hxn hb => ?_, _, rfl, rfl⟩
        exact read_no E1.out E2.out (hno.out (by simp)) x hx hb
    | true =>
      obtain ⟨hT, hb4⟩ := hyes.out (by simp)
      subst hb4
      have hRT := Lib.hid (⟨E1.out, E2.out, hT, E4.out⟩ : RTM b k o lr S s1 s2 l4 s4)
      have hWL : WL lr := may_wl (takeL_some hT).1
      cases hS : S with
      | nil =>
        subst hS
        have hask : askR k [] = some x0 := by unfold askR; rw [h97]
        cases h121 : hasB (hasM k) 121 with
        | true =>
          go_wp2_with fail
          refine (rmhas1_at k 121 121 true rfl h121 _).mono ?_
          rintro e WA ⟨rfl, hxA⟩
          have hA := h5.below hxA
          have ilA := hil5.below hxA
          clear q0
          obtain ⟨yc, t1, F1⟩ : ∃ n s, tnum s4 0 63 = (n, s) := ⟨_, _, rfl⟩
          have KY : Hid (∀ (W : World) (A' : Option Addr) (c' : Nat) (l' : List UInt8) (bad' : Bool), TK 80 W (w.heap.size + 1) A' c' l' bad' → rst l' bad' = s4 → Calls Try.prog 48 #[.pointer (some ⟨w.heap.size + 1, 0, none⟩), .int .i64 0, .int .i64 63] W (RTPost W (w.heap.size + 1) A' l'.length t1 (.int .i64 yc))) := Lib.hid (fun W A' c' l' bad' h1 h2 => by have := rtnum_any W (w.heap.size + 1) A' c' l' bad' 0 63 h1; rw [h2, F1] at this; exact this)
          replace F1 := Lib.hid F1
          go_wp2_with fail
          refine (KY.out _ _ _ _ _ hA.tk hA.eq).mono ?_
          rintro e V1 ⟨Ay1, cy1, ly1, by1, rfl, ht, he, hk, hs, hle⟩
          have hd := hA.step ht he hk hs hle
          have f12 := hd.ba.frozen 12
          have q12 := hd.ba.cell 12
          simp at q12
          have hy1 : DT w #[.int .i64 k, .int .i64 o, .slice AL lr.length cL, .int .i64 0, .int .i64 0, .int .i64 0, .int .i64 0, .int .i64 0, .int .i64 0, .int .i64 0, .string ⟨#[]⟩, .slice none 0 0, .int .i64 yc, .int .i64 0, .int .i64 0, .int .i64 0] (V1.setCell ⟨w.heap.size + 2, 12, none⟩ (.int .i64 yc)) Ay1 cy1 ly1 by1 t1 := by simpa using hd.put 12 (.int .i64 yc)
          have il1 := (ilA.keepG halB hgB hk).put halB 12 (.int .i64 yc)
          clear ht he hk hs hle hd KY hA ilA
          obtain ⟨ym, t2, F2⟩ : ∃ n s, tnum t1 1 4294967296 = (n, s) := ⟨_, _, rfl⟩
          have KY : Hid (∀ (W : World) (A' : Option Addr) (c' : Nat) (l' : List UInt8) (bad' : Bool), TK 80 W (w.heap.size + 1) A' c' l' bad' → rst l' bad' = t1 → Calls Try.prog 48 #[.pointer (some ⟨w.heap.size + 1, 0, none⟩), .int .i64 1, .int .i64 4294967296] W (RTPost W (w.heap.size + 1) A' l'.length t2 (.int .i64 ym))) := Lib.hid (fun W A' c' l' bad' h1 h2 => by have := rtnum_any W (w.heap.size + 1) A' c' l' bad' 1 4294967296 h1; rw [h2, F2] at this; exact this)
          replace F2 := Lib.hid F2
          go_wp2_with fail
          refine (KY.out _ _ _ _ _ hy1.tk hy1.eq).mono ?_
          rintro e V2 ⟨Ay2, cy2, ly2, by2, rfl, ht, he, hk, hs, hle⟩
          have hd := hy1.step ht he hk hs hle
          have f13 := hd.ba.frozen 13
          have q13 := hd.ba.cell 13
          simp at q13
          have hy2 : DT w #[.int .i64 k, .int .i64 o, .slice AL lr.length cL, .int .i64 0, .int .i64 0, .int .i64 0, .int .i64 0, .int .i64 0, .int .i64 0, .int .i64 0, .string ⟨#[]⟩, .slice none 0 0, .int .i64 yc, .int .i64 ym, .int .i64 0, .int .i64 0] (V2.setCell ⟨w.heap.size + 2, 13, none⟩ (.int .i64 ym)) Ay2 cy2 ly2 by2 t2 := by simpa using hd.put 13 (.int .i64 ym)
          have il2 := (il1.keepG halB hgB hk).put halB 13 (.int .i64 ym)
          clear ht he hk hs hle hd KY hy1 il1
          obtain ⟨ye, t3, F3⟩ : ∃ n s, tnum t2 0 1000 = (n, s) := ⟨_, _, rfl⟩
          have KY : Hid (∀ (W : World) (A' : Option Addr) (c' : Nat) (l' : List UInt8) (bad' : Bool), TK 80 W (w.heap.size + 1) A' c' l' bad' → rst l' bad' = t2 → Calls Try.prog 48 #[.pointer (some ⟨w.heap.size + 1, 0, none⟩), .int .i64 0, .int .i64 1000] W (RTPost W (w.heap.size + 1) A' l'.length t3 (.int .i64 ye))) := Lib.hid (fun W A' c' l' bad' h1 h2 => by have := rtnum_any W (w.heap.size + 1) A' c' l' bad' 0 1000 h1; rw [h2, F3] at this; exact this)
          replace F3 := Lib.hid F3
          go_wp2_with fail
          refine (KY.out _ _ _ _ _ hy2.tk hy2.eq).mono ?_
          rintro e V3 ⟨Ay3, cy3, ly3, by3, rfl, ht, he, hk, hs, hle⟩
          have hd := hy2.step ht he hk hs hle
          have f14 := hd.ba.frozen 14
          have q14 := hd.ba.cell 14
          simp at q14
          have hy3 : DT w #[.int .i64 k, .int .i64 o, .slice AL lr.length cL, .int .i64 0, .int .i64 0, .int .i64 0, .int .i64 0, .int .i64 0, .int .i64 0, .int .i64 0, .string ⟨#[]⟩, .slice none 0 0, .int .i64 yc, .int .i64 ym, .int .i64 ye, .int .i64 0] (V3.setCell ⟨w.heap.size + 2, 14, none⟩ (.int .i64 ye)) Ay3 cy3 ly3 by3 t3 := by simpa using hd.put 14 (.int .i64 ye)
          have il3 := (il2.keepG halB hgB hk).put halB 14 (.int .i64 ye)
          clear ht he hk hs hle hd KY hy2 il2
          obtain ⟨yn, t4, F4⟩ : ∃ n s, tnum t3 (-9223372036854775808) 9223372036854775807 = (n, s) := ⟨_, _, rfl⟩
          have KY : Hid (∀ (W : World) (A' : Option Addr) (c' : Nat) (l' : List UInt8) (bad' : Bool), TK 80 W (w.heap.size + 1) A' c' l' bad' → rst l' bad' = t3 → Calls Try.prog 48 #[.pointer (some ⟨w.heap.size + 1, 0, none⟩), .int .i64 (-9223372036854775808), .int .i64 9223372036854775807] W (RTPost W (w.heap.size + 1) A' l'.length t4 (.int .i64 yn))) := Lib.hid (fun W A' c' l' bad' h1 h2 => by have := rtnum_any W (w.heap.size + 1) A' c' l' bad' (-9223372036854775808) 9223372036854775807 h1; rw [h2, F4] at this; exact this)
          replace F4 := Lib.hid F4
          go_wp2_with fail
          refine (KY.out _ _ _ _ _ hy3.tk hy3.eq).mono ?_
          rintro e V4 ⟨Ay4, cy4, ly4, by4, rfl, ht, he, hk, hs, hle⟩
          have hd := hy3.step ht he hk hs hle
          have f15 := hd.ba.frozen 15
          have q15 := hd.ba.cell 15
          simp at q15
          have hy4 : DT w #[.int .i64 k, .int .i64 o, .slice AL lr.length cL, .int .i64 0, .int .i64 0, .int .i64 0, .int .i64 0, .int .i64 0, .int .i64 0, .int .i64 0, .string ⟨#[]⟩, .slice none 0 0, .int .i64 yc, .int .i64 ym, .int .i64 ye, .int .i64 yn] (V4.setCell ⟨w.heap.size + 2, 15, none⟩ (.int .i64 yn)) Ay4 cy4 ly4 by4 t4 := by simpa using hd.put 15 (.int .i64 yn)
          have il4 := (il3.keepG halB hgB hk).put halB 15 (.int .i64 yn)
          clear ht he hk hs hle hd KY hy3 il3
          have hI := RTM.iff (y := ⟨yc, ym, ye, yn⟩) (t1 := t1) (t2 := t2) (t3 := t3) (sE := t4) hRT.out (by rw [h121]; exact ⟨F1.out, F2.out, F3.out, F4.out⟩)
          replace hI := Lib.hid hI
          have hE := hy4.eq
          cases by4 with
          | true =>
            have qb := hy4.tk.blk.cell 1
            simp at qb
            go_wp2_with (refine wpStoreM 29 0 #[.int .i64 0, .int .i64 0, .slice none 0 0, .int .i64 0, .int .i64 0, .int .i64 0, .int .i64 0, .int .i64 0, .int .i64 0, .int .i64 0, .string ⟨#[]⟩, .slice none 0 0, .int .i64 0, .int .i64 0, .int .i64 0, .int .i64 0] rfl (.tmp 2) (.tmp 90) rfl rfl rfl hy4.b0 (by simp [zeroM]) mail_info rfl (fun WE hbE hkE => ?_))
            have hbE2 : Blk WE w.heap.size 29 #[.int .i64 0, .int .i64 0, .slice none 0 0, .int .i64 0, .int .i64 0, .int .i64 0, .int .i64 0, .int .i64 0, .int .i64 0, .int .i64 0, .string ⟨#[]⟩, .slice none 0 0, .int .i64 0, .int .i64 0, .int .i64 0, .int .i64 0] := hbE
            clear hbE
            refine bodyPost_ret (rmres hbE2 _ _ rfl rfl) rfl ?_
            have hbl := hy4.bel
            refine ⟨hbl.trans (hkE.below (B := w.heap.size) hbl.size (fun k hk e => by omega)), ?_⟩
            refine .inr ⟨fun x hx hxn hb => ?_, _, rfl, rfl⟩
            have hq := (hI.out.2 x hx hxn hb).2.1
            rw [← hE] at hq
            simp [rst] at hq
          | false =>
            have qb := hy4.tk.blk.cell 1
            simp at qb
            have qa := hy4.tk.blk.cell 0
            simp at qa
            cases ly4 with
            | cons z0 zs =>
              obtain ⟨q, hq⟩ : ∃ q, q = (z0 :: zs).length := ⟨_, rfl⟩
              have hq0 : (0 : Int) < (q : Int) := by rw [hq, List.length_cons]; omega
              rw [← hq] at qa
              clear hq
              go_wp2_with (refine wpStoreM 29 0 #[.int .i64 0, .int .i64 0, .slice none 0 0, .int .i64 0, .int .i64 0, .int .i64 0, .int .i64 0, .int .i64 0, .int .i64 0, .int .i64 0, .string ⟨#[]⟩, .slice none 0 0, .int .i64 0, .int .i64 0, .int .i64 0, .int .i64 0] rfl (.tmp 2) (.tmp 90) rfl rfl rfl hy4.b0 (by simp [zeroM]) mail_info rfl (fun WE hbE hkE => ?_))
              have hbE2 : Blk WE w.heap.size 29 #[.int .i64 0, .int .i64 0, .slice none 0 0, .int .i64 0, .int .i64 0, .int .i64 0, .int .i64 0, .int .i64 0, .int .i64 0, .int .i64 0, .string ⟨#[]⟩, .slice none 0 0, .int .i64 0, .int .i64 0, .int .i64 0, .int .i64 0] := hbE
              clear hbE
              refine bodyPost_ret (rmres hbE2 _ _ rfl rfl) rfl ?_
              have hbl := hy4.bel
              refine ⟨hbl.trans (hkE.below (B := w.heap.size) hbl.size (fun k hk e => by omega)), ?_⟩
              refine .inr ⟨fun x hx hxn hb => ?_, _, rfl, rfl⟩
              have hq := (hI.out.2 x hx hxn hb).2.1
              rw [← hE] at hq
              simp [rst] at hq
            | nil =>
              have hE : t4 = some [] := by rw [← hE]; rfl
              simp only [List.length_nil] at qa
              obtain ⟨mm, hmm⟩ : ∃ m, mayM ⟨k, o, lr, x0, ⟨yc, ym, ye, yn⟩⟩ = m := ⟨_, rfl⟩
              have key := rmmay_any ⟨k, o, lr, x0, ⟨yc, ym, ye, yn⟩⟩ AL cL none 0 _ il4 (IL.nil _ _) hWL (may_wl (l := []) rfl) hLN (Nat.zero_le _) (Nat.zero_le _)
              rw [hmm] at key
              unfold MV.v MV.cs x0 at key
              dsimp only at key
              replace key := Lib.hid key
              go_wp2_with (refine wpLoadM 29 (by rfl) (.tmp 5) rfl rfl hy4.ba _ Try.underlying29 rfl mail_info ?_)
              refine key.out.mono ?_
              rintro e WG ⟨rfl, hxG⟩
              have hG := hy4.below hxG
              have ilG := il4.below hxG
              cases mm with
              | false =>
                go_wp2_with (refine wpStoreM 29 0 #[.int .i64 0, .int .i64 0, .slice none 0 0, .int .i64 0, .int .i64 0, .int .i64 0, .int .i64 0, .int .i64 0, .int .i64 0, .int .i64 0, .string ⟨#[]⟩, .slice none 0 0, .int .i64 0, .int .i64 0, .int .i64 0, .int .i64 0] rfl (.tmp 2) (.tmp 90) rfl rfl rfl hG.b0 (by simp [zeroM]) mail_info rfl (fun WE hbE hkE => ?_))
                have hbE2 : Blk WE w.heap.size 29 #[.int .i64 0, .int .i64 0, .slice none 0 0, .int .i64 0, .int .i64 0, .int .i64 0, .int .i64 0, .int .i64 0, .int .i64 0, .int .i64 0, .string ⟨#[]⟩, .slice none 0 0, .int .i64 0, .int .i64 0, .int .i64 0, .int .i64 0] := hbE
                clear hbE
                refine bodyPost_ret (rmres hbE2 _ _ rfl rfl) rfl ?_
                have hbl := hG.bel
                refine ⟨hbl.trans (hkE.below (B := w.heap.size) hbl.size (fun k hk e => by omega)), ?_⟩
                refine .inr ⟨fun x hx hxn hb => ?_, _, rfl, rfl⟩
                have hq := hI.out.2 x hx hxn hb
                have h1 := hq.1
                rw [hask] at h1
                injection h1 with h1
                have h2 := hq.2.2
                rw [← h1] at h2
                rw [h2, hmm] at hx
                cases hx
              | true =>
                go_wp2_with (first | (refine wpLoadM 29 (by rfl) (.tmp 5) rfl rfl hG.ba _ Try.underlying29 rfl mail_info ?_) | (refine wpStoreM 29 0 #[.int .i64 k, .int .i64 o, .slice AL lr.length cL, .int .i64 0, .int .i64 0, .int .i64 0, .int .i64 0, .int .i64 0, .int .i64 0, .int .i64 0, .string ⟨#[]⟩, .slice none 0 0, .int .i64 yc, .int .i64 ym, .int .i64 ye, .int .i64 yn] rfl (.tmp 2) (.tmp 91) rfl rfl rfl hG.b0 (by simp [zeroM]) mail_info rfl (fun WE hbE hkE => ?_)))
                have hbE2 : Blk WE w.heap.size 29 #[.int .i64 k, .int .i64 o, .slice AL lr.length cL, .int .i64 0, .int .i64 0, .int .i64 0, .int .i64 0, .int .i64 0, .int .i64 0, .int .i64 0, .string ⟨#[]⟩, .slice none 0 0, .int .i64 yc, .int .i64 ym, .int .i64 ye, .int .i64 yn] := hbE
                clear hbE
                refine bodyPost_ret (rmres hbE2 _ _ rfl rfl) rfl ?_
                have hbl := hG.bel
                refine ⟨hbl.trans (hkE.below (B := w.heap.size) hbl.size (fun k hk e => by omega)), ?_⟩
                refine .inl ⟨⟨k, o, lr, x0, ⟨yc, ym, ye, yn⟩⟩, AL, cL, none, 0, hmm, (hI.out.1 _ hask hE hmm).2, (hI.out.1 _ hask hE hmm).1, ilG.kept hkE (fun ad h1 _ e => by have := halB ad h1; omega), IL.nil _ _, _, rfl, rfl⟩
        | false =>
          go_wp2_with fail
          refine (rmhas1_at k 121 121 false rfl h121 _).mono ?_
          rintro e WA ⟨rfl, hxA⟩
          have hA := h5.below hxA
          have ilA := hil5.below hxA
          have hI := RTM.iff (y := y0) (t1 := none) (t2 := none) (t3 := none) (sE := s4) hRT.out (by rw [h121]; exact ⟨rfl, rfl⟩)
          replace hI := Lib.hid hI
          have hE := hA.eq
          cases bad5 with
          | true =>
            have qb := hA.tk.blk.cell 1
            simp at qb
            go_wp2_with (refine wpStoreM 29 0 #[.int .i64 0, .int .i64 0, .slice none 0 0, .int .i64 0, .int .i64 0, .int .i64 0, .int .i64 0, .int .i64 0, .int .i64 0, .int .i64 0, .string ⟨#[]⟩, .slice none 0 0, .int .i64 0, .int .i64 0, .int .i64 0, .int .i64 0] rfl (.tmp 2) (.tmp 90) rfl rfl rfl hA.b0 (by simp [zeroM]) mail_info rfl (fun WE hbE hkE => ?_))
            have hbE2 : Blk WE w.heap.size 29 #[.int .i64 0, .int .i64 0, .slice none 0 0, .int .i64 0, .int .i64 0, .int .i64 0, .int .i64 0, .int .i64 0, .int .i64 0, .int .i64 0, .string ⟨#[]⟩, .slice none 0 0, .int .i64 0, .int .i64 0, .int .i64 0, .int .i64 0] := hbE
            clear hbE
            refine bodyPost_ret (rmres hbE2 _ _ rfl rfl) rfl ?_
            have hbl := hA.bel
            refine ⟨hbl.trans (hkE.below (B := w.heap.size) hbl.size (fun k hk e => by omega)), ?_⟩
            refine .inr ⟨fun x hx hxn hb => ?_, _, rfl, rfl⟩
            have hq := (hI.out.2 x hx hxn hb).2.1
            rw [← hE] at hq
            simp [rst] at hq
          | false =>
            have qb := hA.tk.blk.cell 1
            simp at qb
            have qa := hA.tk.blk.cell 0
            simp at qa
            cases l5 with
            | cons z0 zs =>
              obtain ⟨q, hq⟩ : ∃ q, q = (z0 :: zs).length := ⟨_, rfl⟩
              have hq0 : (0 : Int) < (q : Int) := by rw [hq, List.length_cons]; omega
              rw [← hq] at qa
              clear hq
              go_wp2_with (refine wpStoreM 29 0 #[.int .i64 0, .int .i64 0, .slice none 0 0, .int .i64 0, .int .i64 0, .int .i64 0, .int .i64 0, .int .i64 0, .int .i64 0, .int .i64 0, .string ⟨#[]⟩, .slice none 0 0, .int .i64 0, .int .i64 0, .int .i64 0, .int .i64 0] rfl (.tmp 2) (.tmp 90) rfl rfl rfl hA.b0 (by simp [zeroM]) mail_info rfl (fun WE hbE hkE => ?_))
              have hbE2 : Blk WE w.heap.size 29 #[.int .i64 0, .int .i64 0, .slice none 0 0, .int .i64 0, .int .i64 0, .int .i64 0, .int .i64 0, .int .i64 0, .int .i64 0, .int .i64 0, .string ⟨#[]⟩, .slice none 0 0, .int .i64 0, .int .i64 0, .int .i64 0, .int .i64 0] := hbE
              clear hbE
              refine bodyPost_ret (rmres hbE2 _ _ rfl rfl) rfl ?_
              have hbl := hA.bel
              refine ⟨hbl.trans (hkE.below (B := w.heap.size) hbl.size (fun k hk e => by omega)), ?_⟩
              refine .inr ⟨fun x hx hxn hb => ?_, _, rfl, rfl⟩
              have hq := (hI.out.2 x hx hxn hb).2.1
              rw [← hE] at hq
              simp [rst] at hq
            | nil =>
              have hE : s4 = some [] := by rw [← hE]; rfl
              simp only [List.length_nil] at qa
              obtain ⟨mm, hmm⟩ : ∃ m, mayM ⟨k, o, lr, x0, y0⟩ = m := ⟨_, rfl⟩
              have key := rmmay_any ⟨k, o, lr, x0, y0⟩ AL cL none 0 _ ilA (IL.nil _ _) hWL (may_wl (l := []) rfl) hLN (Nat.zero_le _) (Nat.zero_le _)
              rw [hmm] at key
              unfold MV.v MV.cs y0 x0 at key
              dsimp only at key
              replace key := Lib.hid key
              go_wp2_with (refine wpLoadM 29 (by rfl) (.tmp 5) rfl rfl hA.ba _ Try.underlying29 rfl mail_info ?_)
              refine key.out.mono ?_
              rintro e WG ⟨rfl, hxG⟩
              have hG := hA.below hxG
              have ilG := ilA.below hxG
              cases mm with
              | false =>
                go_wp2_with (refine wpStoreM 29 0 #[.int .i64 0, .int .i64 0, .slice none 0 0, .int .i64 0, .int .i64 0, .int .i64 0, .int .i64 0, .int .i64 0, .int .i64 0, .int .i64 0, .string ⟨#[]⟩, .slice none 0 0, .int .i64 0, .int .i64 0, .int .i64 0, .int .i64 0] rfl (.tmp 2) (.tmp 90) rfl rfl rfl hG.b0 (by simp [zeroM]) mail_info rfl (fun WE hbE hkE => ?_))
                have hbE2 : Blk WE w.heap.size 29 #[.int .i64 0, .int .i64 0, .slice none 0 0, .int .i64 0, .int .i64 0, .int .i64 0, .int .i64 0, .int .i64 0, .int .i64 0, .int .i64 0, .string ⟨#[]⟩, .slice none 0 0, .int .i64 0, .int .i64 0, .int .i64 0, .int .i64 0] := hbE
                clear hbE
                refine bodyPost_ret (rmres hbE2 _ _ rfl rfl) rfl ?_
                have hbl := hG.bel
                refine ⟨hbl.trans (hkE.below (B := w.heap.size) hbl.size (fun k hk e => by omega)), ?_⟩
                refine .inr ⟨fun x hx hxn hb => ?_, _, rfl, rfl⟩
                have hq := hI.out.2 x hx hxn hb
                have h1 := hq.1
                rw [hask] at h1
                injection h1 with h1
                have h2 := hq.2.2
                rw [← h1] at h2
                rw [h2, hmm] at hx
                cases hx
              | true =>
                go_wp2_with (first | (refine wpLoadM 29 (by rfl) (.tmp 5) rfl rfl hG.ba _ Try.underlying29 rfl mail_info ?_) | (refine wpStoreM 29 0 #[.int .i64 k, .int .i64 o, .slice AL lr.length cL, .int .i64 0, .int .i64 0, .int .i64 0, .int .i64 0, .int .i64 0, .int .i64 0, .int .i64 0, .string ⟨#[]⟩, .slice none 0 0, .int .i64 0, .int .i64 0, .int .i64 0, .int .i64 0] rfl (.tmp 2) (.tmp 91) rfl rfl rfl hG.b0 (by simp [zeroM]) mail_info rfl (fun WE hbE hkE => ?_)))
                have hbE2 : Blk WE w.heap.size 29 #[.int .i64 k, .int .i64 o, .slice AL lr.length cL, .int .i64 0, .int .i64 0, .int .i64 0, .int .i64 0, .int .i64 0, .int .i64 0, .int .i64 0, .string ⟨#[]⟩, .slice none 0 0, .int .i64 0, .int .i64 0, .int .i64 0, .int .i64 0] := hbE
                clear hbE
                refine bodyPost_ret (rmres hbE2 _ _ rfl rfl) rfl ?_
                have hbl := hG.bel
                refine ⟨hbl.trans (hkE.below (B := w.heap.size) hbl.size (fun k hk e => by omega)), ?_⟩
                refine .inl ⟨⟨k, o, lr, x0, y0⟩, AL, cL, none, 0, hmm, (hI.out.1 _ hask hE hmm).2, (hI.out.1 _ hask hE hmm).1, ilG.kept hkE (fun ad h1 _ e => by have := halB ad h1; omega), IL.nil _ _, _, rfl, rfl⟩
      | cons c0 r0 =>
        have hask : askR k S = none := by unfold askR; rw [h97, hS]
        have hne : S ≠ [] := by rw [hS]; simp
        rw [← hS]
        clear hS
        have hS1 : (S == []) = false := beq_eq_false_iff_ne.2 hne
        have hS2 : decide (S = []) = false := decide_eq_false hne
        cases h121 : hasB (hasM k) 121 with
        | true =>
          go_wp2_with fail
          refine (rmhas1_at k 121 121 true rfl h121 _).mono ?_
          rintro e WA ⟨rfl, hxA⟩
          have hA := h5.below hxA
          have ilA := hil5.below hxA
          clear q0
          obtain ⟨yc, t1, F1⟩ : ∃ n s, tnum s4 0 63 = (n, s) := ⟨_, _, rfl⟩
          have KY : Hid (∀ (W : World) (A' : Option Addr) (c' : Nat) (l' : List UInt8) (bad' : Bool), TK 80 W (w.heap.size + 1) A' c' l' bad' → rst l' bad' = s4 → Calls Try.prog 48 #[.pointer (some ⟨w.heap.size + 1, 0, none⟩), .int .i64 0, .int .i64 63] W (RTPost W (w.heap.size + 1) A' l'.length t1 (.int .i64 yc))) := Lib.hid (fun W A' c' l' bad' h1 h2 => by have := rtnum_any W (w.heap.size + 1) A' c' l' bad' 0 63 h1; rw [h2, F1] at this; exact this)
          replace F1 := Lib.hid F1
          go_wp2_with fail
          refine (KY.out _ _ _ _ _ hA.tk hA.eq).mono ?_
          rintro e V1 ⟨Ay1, cy1, ly1, by1, rfl, ht, he, hk, hs, hle⟩
          have hd := hA.step ht he hk hs hle
          have f12 := hd.ba.frozen 12
          have q12 := hd.ba.cell 12
          simp at q12
          have hy1 : DT w #[.int .i64 k, .int .i64 o, .slice AL lr.length cL, .int .i64 0, .int .i64 0, .int .i64 0, .int .i64 0, .int .i64 0, .int .i64 0, .int .i64 0, .string ⟨#[]⟩, .slice none 0 0, .int .i64 yc, .int .i64 0, .int .i64 0, .int .i64 0] (V1.setCell ⟨w.heap.size + 2, 12, none⟩ (.int .i64 yc)) Ay1 cy1 ly1 by1 t1 := by simpa using hd.put 12 (.int .i64 yc)
          have il1 := (ilA.keepG halB hgB hk).put halB 12 (.int .i64 yc)
          clear ht he hk hs hle hd KY hA ilA
          obtain ⟨ym, t2, F2⟩ : ∃ n s, tnum t1 1 4294967296 = (n, s) := ⟨_, _, rfl⟩
          have KY : Hid (∀ (W : World) (A' : Option Addr) (c' : Nat) (l' : List UInt8) (bad' : Bool), TK 80 W (w.heap.size + 1) A' c' l' bad' → rst l' bad' = t1 → Calls Try.prog 48 #[.pointer (some ⟨w.heap.size + 1, 0, none⟩), .int .i64 1, .int .i64 4294967296] W (RTPost W (w.heap.size + 1) A' l'.length t2 (.int .i64 ym))) := Lib.hid (fun W A' c' l' bad' h1 h2 => by have := rtnum_any W (w.heap.size + 1) A' c' l' bad' 1 4294967296 h1; rw [h2, F2] at this; exact this)
          replace F2 := Lib.hid F2
          go_wp2_with fail
          refine (KY.out _ _ _ _ _ hy1.tk hy1.eq).mono ?_
          rintro e V2 ⟨Ay2, cy2, ly2, by2, rfl, ht, he, hk, hs, hle⟩
          have hd := hy1.step ht he hk hs hle
          have f13 := hd.ba.frozen 13
          have q13 := hd.ba.cell 13
          simp at q13
          have hy2 : DT w #[.int .i64 k, .int .i64 o, .slice AL lr.length cL, .int .i64 0, .int .i64 0, .int .i64 0, .int .i64 0, .int .i64 0, .int .i64 0, .int .i64 0, .string ⟨#[]⟩, .slice none 0 0, .int .i64 yc, .int .i64 ym, .int .i64 0, .int .i64 0] (V2.setCell ⟨w.heap.size + 2, 13, none⟩ (.int .i64 ym)) Ay2 cy2 ly2 by2 t2 := by simpa using hd.put 13 (.int .i64 ym)
          have il2 := (il1.keepG halB hgB hk).put halB 13 (.int .i64 ym)
          clear ht he hk hs hle hd KY hy1 il1
          obtain ⟨ye, t3, F3⟩ : ∃ n s, tnum t2 0 1000 = (n, s) := ⟨_, _, rfl⟩
          have KY : Hid (∀ (W : World) (A' : Option Addr) (c' : Nat) (l' : List UInt8) (bad' : Bool), TK 80 W (w.heap.size + 1) A' c' l' bad' → rst l' bad' = t2 → Calls Try.prog 48 #[.pointer (some ⟨w.heap.size + 1, 0, none⟩), .int .i64 0, .int .i64 1000] W (RTPost W (w.heap.size + 1) A' l'.length t3 (.int .i64 ye))) := Lib.hid (fun W A' c' l' bad' h1 h2 => by have := rtnum_any W (w.heap.size + 1) A' c' l' bad' 0 1000 h1; rw [h2, F3] at this; exact this)
          replace F3 := Lib.hid F3
          go_wp2_with fail
          refine (KY.out _ _ _ _ _ hy2.tk hy2.eq).mono ?_
          rintro e V3 ⟨Ay3, cy3, ly3, by3, rfl, ht, he, hk, hs, hle⟩
          have hd := hy2.step ht he hk hs hle
          have f14 := hd.ba.frozen 14
          have q14 := hd.ba.cell 14
          simp at q14
          have hy3 : DT w #[.int .i64 k, .int .i64 o, .slice AL lr.length cL, .int .i64 0, .int .i64 0, .int .i64 0, .int .i64 0, .int .i64 0, .int .i64 0, .int .i64 0, .string ⟨#[]⟩, .slice none 0 0, .int .i64 yc, .int .i64 ym, .int .i64 ye, .int .i64 0] (V3.setCell ⟨w.heap.size + 2, 14, none⟩ (.int .i64 ye)) Ay3 cy3 ly3 by3 t3 := by simpa using hd.put 14 (.int .i64 ye)
          have il3 := (il2.keepG halB hgB hk).put halB 14 (.int .i64 ye)
          clear ht he hk hs hle hd KY hy2 il2
          obtain ⟨yn, t4, F4⟩ : ∃ n s, tnum t3 (-9223372036854775808) 9223372036854775807 = (n, s) := ⟨_, _, rfl⟩
          have KY : Hid (∀ (W : World) (A' : Option Addr) (c' : Nat) (l' : List UInt8) (bad' : Bool), TK 80 W (w.heap.size + 1) A' c' l' bad' → rst l' bad' = t3 → Calls Try.prog 48 #[.pointer (some ⟨w.heap.size + 1, 0, none⟩), .int .i64 (-9223372036854775808), .int .i64 9223372036854775807] W (RTPost W (w.heap.size + 1) A' l'.length t4 (.int .i64 yn))) := Lib.hid (fun W A' c' l' bad' h1 h2 => by have := rtnum_any W (w.heap.size + 1) A' c' l' bad' (-9223372036854775808) 9223372036854775807 h1; rw [h2, F4] at this; exact this)
          replace F4 := Lib.hid F4
          go_wp2_with fail
          refine (KY.out _ _ _ _ _ hy3.tk hy3.eq).mono ?_
          rintro e V4 ⟨Ay4, cy4, ly4, by4, rfl, ht, he, hk, hs, hle⟩
          have hd := hy3.step ht he hk hs hle
          have f15 := hd.ba.frozen 15
          have q15 := hd.ba.cell 15
          simp at q15
          have hy4 : DT w #[.int .i64 k, .int .i64 o, .slice AL lr.length cL, .int .i64 0, .int .i64 0, .int .i64 0, .int .i64 0, .int .i64 0, .int .i64 0, .int .i64 0, .string ⟨#[]⟩, .slice none 0 0, .int .i64 yc, .int .i64 ym, .int .i64 ye, .int .i64 yn] (V4.setCell ⟨w.heap.size + 2, 15, none⟩ (.int .i64 yn)) Ay4 cy4 ly4 by4 t4 := by simpa using hd.put 15 (.int .i64 yn)
          have il4 := (il3.keepG halB hgB hk).put halB 15 (.int .i64 yn)
          clear ht he hk hs hle hd KY hy3 il3
          have hI := RTM.iff (y := ⟨yc, ym, ye, yn⟩) (t1 := t1) (t2 := t2) (t3 := t3) (sE := t4) hRT.out (by rw [h121]; exact ⟨F1.out, F2.out, F3.out, F4.out⟩)
          replace hI := Lib.hid hI
          go_wp2_with (refine wpStoreM 29 0 #[.int .i64 0, .int .i64 0, .slice none 0 0, .int .i64 0, .int .i64 0, .int .i64 0, .int .i64 0, .int .i64 0, .int .i64 0, .int .i64 0, .string ⟨#[]⟩, .slice none 0 0, .int .i64 0, .int .i64 0, .int .i64 0, .int .i64 0] rfl (.tmp 2) (.tmp 90) rfl rfl rfl hy4.b0 (by simp [zeroM]) mail_info rfl (fun WE hbE hkE => ?_))
          have hbE2 : Blk WE w.heap.size 29 #[.int .i64 0, .int .i64 0, .slice none 0 0, .int .i64 0, .int .i64 0, .int .i64 0, .int .i64 0, .int .i64 0, .int .i64 0, .int .i64 0, .string ⟨#[]⟩, .slice none 0 0, .int .i64 0, .int .i64 0, .int .i64 0, .int .i64 0] := hbE
          clear hbE
          refine bodyPost_ret (rmres hbE2 _ _ rfl rfl) rfl ?_
          have hbl := hy4.bel
          refine ⟨hbl.trans (hkE.below (B := w.heap.size) hbl.size (fun k hk e => by omega)), ?_⟩
          refine .inr ⟨fun x hx hxn hb => ?_, _, rfl, rfl⟩
          have hq := (hI.out.2 x hx hxn hb).1
          rw [hask] at hq
          cases hq
        | false =>
          go_wp2_with fail
          refine (rmhas1_at k 121 121 false rfl h121 _).mono ?_
          rintro e WA ⟨rfl, hxA⟩
          have hA := h5.below hxA
          have ilA := hil5.below hxA
          have hI := RTM.iff (y := y0) (t1 := none) (t2 := none) (t3 := none) (sE := s4) hRT.out (by rw [h121]; exact ⟨rfl, rfl⟩)
          replace hI := Lib.hid hI
          go_wp2_with (refine wpStoreM 29 0 #[.int .i64 0, .int .i64 0, .slice none 0 0, .int .i64 0, .int .i64 0, .int .i64 0, .int .i64 0, .int .i64 0, .int .i64 0, .int .i64 0, .string ⟨#[]⟩, .slice none 0 0, .int .i64 0, .int .i64 0, .int .i64 0, .int .i64 0] rfl (.tmp 2) (.tmp 90) rfl rfl rfl hA.b0 (by simp [zeroM]) mail_info rfl (fun WE hbE hkE => ?_))
          have hbE2 : Blk WE w.heap.size 29 #[.int .i64 0, .int .i64 0, .slice none 0 0, .int .i64 0, .int .i64 0, .int .i64 0, .int .i64 0, .int .i64 0, .int .i64 0, .int .i64 0, .string ⟨#[]⟩, .slice none 0 0, .int .i64 0, .int .i64 0, .int .i64 0, .int .i64 0] := hbE
          clear hbE
          refine bodyPost_ret (rmres hbE2 _ _ rfl rfl) rfl ?_
          have hbl := hA.bel
          refine ⟨hbl.trans (hkE.below (B := w.heap.size) hbl.size (fun k hk e => by omega)), ?_⟩
          refine .inr ⟨fun x hx hxn hb => ?_, _, rfl, rfl⟩
          have hq := (hI.out.2 x hx hxn hb).1
          rw [hask] at hq
          cases hq
end
end Go.Proofs.Ytpfkhalomnfcfaa
