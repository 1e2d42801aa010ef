/- The document's Unpack of an end. No condition but that the bytes lie in memory. -/
import Derived.Test.YtfgceplafjbmhaaLqY
namespace Go.Proofs.Ytfgceplafjbmhaa
open Go.RowKit
set_option linter.unusedVariables false
set_option linter.unusedSimpArgs false

theorem wp_appIO {w : World} {o : Oper} {a : Act} {K : Act → World → Prop} {Q : Exit → Act → World → Prop} (s x : Operand) (ho : o.op = .call { callee := .builtin .append, args := #[s, x], argTypes := #[26, 26] })
    (base : Nat) (v : Value) (l : List Iv) (hs : a.eval s = v) (hown : IO base w v l) (ad : Addr) (hx : a.eval x = .slice (some ad) 1 1) (y : Iv) (hc : ∀ j u, y.cs[j]? = some u → w.cell? (ad.add j) = some u)
    (hn : (l.length + 1) * 48 ≤ 140737488355328) (hbase : base ≤ w.heap.size)
    (h : ∀ v' w', IO base w' v' (l ++ [y]) → Keep (fun k => v.ownBlock = some k) w w' → (v'.ownBlock = v.ownBlock ∨ v'.ownBlock = some w.heap.size) → K (a.put o.dst v') w') : o.wp Try.prog a w K Q := by
  obtain ⟨v', w', hrun, h2, h3, h4⟩ := run_appIO w base o.type v l hown ad y hc hn hbase
  unfold Oper.wp execOp
  simp only [ho, resolve, invoke, builtin, Sem.run_bind, Sem.run_pure, Result.andThen_ok, List.map_toArray, List.map_cons, List.map_nil, hs, hx, hrun]
  exact h v' w' h2 h3 h4
/-- '[]byte(s)', with its room. -/
theorem run_bts2 (w : World) (l : List UInt8) (hl : l.length ≤ maxLen) : ∃ cap w', (convert 9 30 (.string ⟨l.toArray⟩)).run Try.prog w = .ok (.slice (some ⟨w.heap.size, 0, none⟩) l.length cap) w' ∧ RB w' (some ⟨w.heap.size, 0, none⟩) l.length l ∧ Below w.heap.size w w' ∧ w.heap.size < w'.heap.size ∧ l.length ≤ cap ∧ cap ≤ maxLen := by
  refine ⟨_, _, run_bytes_of_string w _ _ _ _ Try.underlying9 Try.underlying30 Try.underlying5, ⟨rfl, fun _ => ⟨_, _, rfl, fun j y hy => ?_⟩⟩, (Below.drew (Below.refl _ w)).alloc (Nat.le_refl _) _, by simp, grownCap_ge _ _ _ _, grownCap_le_maxLen _ _ _ _ hl⟩
  have hj : j < l.length := (List.getElem?_eq_some_iff.1 hy).1
  rw [show w.heap.size = w.drew.heap.size from rfl, cell_of_row _ _ _ _ _ _ (heap_alloc_new w.drew _)]
  have hyy : l[j] = y := (List.getElem?_eq_some_iff.1 hy).2
  simp [bytesRow, Array.getElem?_append, hj, hy, bv, hyy]
theorem tnum_less {st : Option (List UInt8)} {sent : Int} (h0 : 0 ≤ sent) : ((tnum st 0 64).1 ≤ sent → tnum st 0 (if sent < 64 then sent else 64) = tnum st 0 64) ∧ (sent < (tnum st 0 64).1 → tnum st 0 (if sent < 64 then sent else 64) = (0, none)) := by
  by_cases hs : sent < 64
  · rw [if_pos hs]
    unfold tnum
    cases st with
    | none => exact ⟨fun _ => rfl, fun _ => rfl⟩
    | some s =>
      dsimp only
      cases first s with
      | none => exact ⟨fun _ => rfl, fun _ => rfl⟩
      | some p =>
        obtain ⟨n, k⟩ := p
        dsimp only
        by_cases h1 : n < 0 ∨ 64 < n
        · rw [if_pos h1, if_pos (show n < 0 ∨ sent < n by omega)]
          exact ⟨fun _ => rfl, fun _ => rfl⟩
        · rw [if_neg h1]
          by_cases h2 : n < 0 ∨ sent < n
          · rw [if_pos h2]
            exact ⟨fun h => absurd h (by dsimp only; omega), fun _ => rfl⟩
          · rw [if_neg h2]
            exact ⟨fun _ => rfl, fun h => absurd h (by dsimp only; omega)⟩
  · rw [if_neg hs]
    have := (tnum_range (st := st) (a := 0) (b := 64) (by decide) (by decide)).2
    exact ⟨fun _ => rfl, fun h => by omega⟩
theorem takesE_none : ∀ (n : Nat) (seq : Int), (takesE n seq none).2 = none
  | 0, _ => rfl
  | n + 1, seq => takesE_none n (seq + 1)
theorem restE_none (sent mark : Int) (n : Nat) (seq : Int) (l : List Bd) : restE sent mark n seq l none = none := by
  unfold restE
  rw [takesE_none]
  rfl
/-- Where the taker's bytes lie, if any are left. -/
def Low (K : Nat) (A : Option Addr) (l : List UInt8) : Prop := 0 < l.length → ∀ ad, A = some ad → ad.block < K
theorem Low.next {K : Nat} {A A' : Option Addr} {l l' : List UInt8} (h : Low K A l) (hs : SameBlock A A') (hn : l'.length ≤ l.length) : Low K A' l' := fun hl ad e => by
  obtain ⟨a0, h0, e0⟩ := hs ad e
  rw [e0]
  exact h (by omega) a0 h0
theorem TK.keptF {F : Nat → Prop} {t : TypeId} {K : Nat} {w w' : World} {g : Nat} {A : Option Addr} {c : Nat} {l : List UInt8} {bad : Bool} (h : TK t w g A c l bad) (k : Keep F w w') (hF : ∀ i, F i → K ≤ i) (hg : ¬ F g) (hU : Low K A l) : TK t w' g A c l bad :=
  TK.kept' h k hg (fun hl ad e e2 => by
    have := hF _ e2
    have := hU hl ad e
    omega)
/-- What the document's Unpack answers. -/
def RUnpackPost (w : World) (r : Option (List Bd × Int × Int)) (e : Ending) (w' : World) : Prop :=
  Below w.heap.size w w' ∧ ((r = none ∧ e = .returned (.tuple #[.pointer none, .bool false])) ∨ ∃ l s m p, r = some (l, s, m) ∧ e = .returned (.tuple #[.pointer (some ⟨p, 0, none⟩), .bool true]) ∧ QN (fun k => w.heap.size ≤ k) w' p l s m)
set_option maxRecDepth 100000 in
set_option maxHeartbeats 6400000 in
theorem runpackE_any (A : Option Addr) (n c : Nat) (s : List UInt8) (w : World) (hr : RB w A n s) (hnc : n ≤ c) (hc : c ≤ maxLen) (hA : Low w.heap.size A s) :
    Calls Try.prog 38 #[.slice A n c] w (RUnpackPost w (decE s)) := by
  obtain ⟨r, hrd⟩ : ∃ r, decE s = r := ⟨_, rfl⟩
  rw [hrd]
  have hB0 := Blk.new w 105 #[.slice A n c, .bool false]
  have hb0 := (Below.refl w.heap.size w).alloc (Nat.le_refl _) (.cells #[.slice A n c, .bool false] 105)
  have hT0 : TK 105 (w.alloc (.cells #[.slice A n c, .bool false] 105)) w.heap.size A c s false := by
    have hl := hr.1
    subst hl
    exact ⟨hB0, hr.alloc _, ⟨hnc, by unfold maxLen at hc; omega⟩, fun hl ad e e2 => by have := hA hl ad e; omega⟩
  have hE0 := Blk.new (w.alloc (.cells #[.slice A n c, .bool false] 105)) 28 #[.slice none 0 0, .int .i64 0, .int .i64 0]
  have hT1 := hT0.below ((Below.refl _ _).alloc (Nat.le_refl _) (.cells #[.slice none 0 0, .int .i64 0, .int .i64 0] 28))
  have hb1 := hb0.alloc (by simp) (.cells #[.slice none 0 0, .int .i64 0, .int .i64 0] 28)
  rw [World.size_alloc] at hE0
  obtain ⟨tg, htg⟩ : ∃ g, w.heap.size = g := ⟨_, rfl⟩
  rw [htg] at hT1 hA hb1 hE0
  clear hB0 hr hb0 hT0
  obtain ⟨sent, hsent⟩ : ∃ x, (tnum (some s) 0 topE).1 = x := ⟨_, rfl⟩
  obtain ⟨st1, hst1⟩ : ∃ x, (tnum (some s) 0 topE).2 = x := ⟨_, rfl⟩
  obtain ⟨mark, hmark⟩ : ∃ x, (tnum st1 0 topE).1 = x := ⟨_, rfl⟩
  obtain ⟨st2, hst2⟩ : ∃ x, (tnum st1 0 topE).2 = x := ⟨_, rfl⟩
  obtain ⟨nI, hnI⟩ : ∃ x, (tnum st2 0 64).1 = x := ⟨_, rfl⟩
  obtain ⟨st3, hst3⟩ : ∃ x, (tnum st2 0 64).2 = x := ⟨_, rfl⟩
  have hrg1 := tnum_range (st := some s) (a := 0) (b := topE) (by decide) (by decide)
  have hrg2 := tnum_range (st := st1) (a := 0) (b := topE) (by decide) (by decide)
  have hrg3 := tnum_range (st := st2) (a := 0) (b := 64) (by decide) (by decide)
  rw [hsent] at hrg1
  rw [hmark] at hrg2
  rw [hnI] at hrg3
  unfold topE at hrg1 hrg2
  have hless := tnum_less (st := st2) hrg1.1
  rw [hnI] at hless
  have hgood : Hid (nI ≤ sent → r = restE sent mark (nI.toNat - 0) (sent - nI + ((0 : Nat) : Int)) [] st3) := Lib.hid (fun h => by
    rw [← hrd]
    unfold decE
    dsimp only
    rw [hsent, hst1, hmark, hst2, hless.1 h, hnI, hst3]
    simp)
  have hbad : Hid (sent < nI → r = none) := Lib.hid (fun h => by
    rw [← hrd]
    unfold decE
    dsimp only
    rw [hsent, hst1, hmark, hst2, hless.2 h]
    exact restE_none _ _ _ _ _)
  have hn1 : Hid (∀ W g A c, TK 105 W g A c s false → Calls Try.prog 57 #[.pointer (some ⟨g, 0, none⟩), .int .i64 0, .int .i64 9223372036854775807] W (RTPost W g A s.length st1 (.int .i64 sent))) := Lib.hid (fun W g A c h => by have := rtnum_any W g A c s false 0 topE h; rw [show rst s false = some s from rfl, hsent, hst1] at this; exact this)
  have hn2 : Hid (∀ W g A c l bad, rst l bad = st1 → TK 105 W g A c l bad → Calls Try.prog 57 #[.pointer (some ⟨g, 0, none⟩), .int .i64 0, .int .i64 9223372036854775807] W (RTPost W g A l.length st2 (.int .i64 mark))) := Lib.hid (fun W g A c l bad e h => by have := rtnum_any W g A c l bad 0 topE h; rw [e, hmark, hst2] at this; exact this)
  have hn3 : Hid (∀ W g A c l bad, rst l bad = st2 → TK 105 W g A c l bad → Calls Try.prog 57 #[.pointer (some ⟨g, 0, none⟩), .int .i64 0, .int .i64 64] W (RTPost W g A l.length st3 (.int .i64 nI))) := Lib.hid (fun W g A c l bad e h => by have := rtnum_any W g A c l bad 0 64 h; rw [e, hnI, hst3] at this; exact this)
  clear hrd hsent hst1 hmark hst2 hnI hst3 hless
  go_enter Try.func38, Try.ntmps38
  go_wp2_with fail
  try rw [htg]
  generalize (w.alloc (.cells #[.slice A n c, .bool false] 105)).alloc (.cells #[.slice none 0 0, .int .i64 0, .int .i64 0] 28) = w1 at *
  refine (hn1.out _ _ _ _ hT1).mono ?_
  rintro e w2 ⟨A2, c2, l2, bad2, rfl, hT2, hr2, hk2, hsb2, hl2⟩
  have hA2 := hA.next hsb2 hl2
  have hE2 := hE0.kept hk2 (show ¬ tg + 1 = tg by omega)
  have hb2 := hb1.trans (hk2.below (B := tg) (by have := hb1.size; omega) (fun i hi e => by omega))
  clear hn1 hT1 hk2 hsb2 hl2 hA hb1 hE0
  obtain ⟨pb, hpb⟩ : ∃ p, tg + 1 = p := ⟨_, rfl⟩
  rw [hpb] at hE2
  have htp : tg < pb := by omega
  have y2 := hE2.cell 1
  simp at y2
  have yf2 := hE2.frozen 1
  have yl2 := hE2.lt
  have hE3 := hE2.set_ 1 (.int .i64 sent)
  simp only [List.setIfInBounds_toArray, List.set_cons_zero, List.set_cons_succ] at hE3
  have k3 : Keep (fun k => k = pb) w2 (w2.setCell ⟨pb, 1, none⟩ (.int .i64 sent)) := (Keep.refl (fun k => k = pb) w2).setCell (p := ⟨pb, 1, none⟩) (fun _ => rfl) _
  have hT3 := hT2.keptF (K := tg) k3 (fun i e => by omega) (by omega) hA2
  have hb3 := hb2.trans (k3.below (B := tg) (by have := hb2.size; omega) (fun i hi e => by omega))
  clear hE2 hT2 hb2 k3
  try rw [hpb]
  go_wp2_with fail
  generalize w2.setCell ⟨pb, 1, none⟩ (.int .i64 sent) = w3 at *
  clear y2 yf2 yl2
  refine (hn2.out _ _ _ _ _ _ hr2 hT3).mono ?_
  rintro e w4 ⟨A4, c4, l4, bad4, rfl, hT4, hr4, hk4, hsb4, hl4⟩
  have hA4 := hA2.next hsb4 hl4
  have hE4 := hE3.kept hk4 (show ¬ pb = tg by omega)
  have hb4 := hb3.trans (hk4.below (B := tg) (by have := hb3.size; omega) (fun i hi e => by omega))
  clear hn2 hT3 hk4 hsb4 hl4 hA2 hb3 hE3 hr2
  have y4 := hE4.cell 2
  simp at y4
  have yf4 := hE4.frozen 2
  have yl4 := hE4.lt
  have hE5 := hE4.set_ 2 (.int .i64 mark)
  simp only [List.setIfInBounds_toArray, List.set_cons_zero, List.set_cons_succ] at hE5
  have k5 : Keep (fun k => k = pb) w4 (w4.setCell ⟨pb, 2, none⟩ (.int .i64 mark)) := (Keep.refl (fun k => k = pb) w4).setCell (p := ⟨pb, 2, none⟩) (fun _ => rfl) _
  have hT5 := hT4.keptF (K := tg) k5 (fun i e => by omega) (by omega) hA4
  have hb5 := hb4.trans (k5.below (B := tg) (by have := hb4.size; omega) (fun i hi e => by omega))
  clear hE4 hT4 hb4 k5
  go_wp2_with fail
  generalize w4.setCell ⟨pb, 2, none⟩ (.int .i64 mark) = w5 at *
  clear y4 yf4 yl4
  refine (hn3.out _ _ _ _ _ _ hr4 hT5).mono ?_
  rintro e w6 ⟨A6, c6, l6, bad6, rfl, hT6, hr6, hk6, hsb6, hl6⟩
  have hA6 := hA4.next hsb6 hl6
  have hE6 := hE5.kept hk6 (show ¬ pb = tg by omega)
  have hb6 := hb5.trans (hk6.below (B := tg) (by have := hb5.size; omega) (fun i hi e => by omega))
  clear hn3 hT5 hk6 hsb6 hl6 hA4 hb5 hE5 hr4
  have z1 := hE6.cell 1
  simp at z1
  by_cases hns : sent < nI
  · have HR := Lib.hid (hbad.out hns)
    clear hgood hbad
    go_wp2
    refine bodyPost_ret (v := .tuple #[.pointer none, .bool false]) (by simp [results, Try.results38, go_sem]) rfl ⟨by rw [htg]; exact hb6, .inl ⟨HR.out, rfl⟩⟩
  have hg := hgood.out (by omega)
  obtain ⟨N, hN⟩ : ∃ N, nI.toNat = N := ⟨_, rfl⟩
  have hNI : nI = (N : Int) := by omega
  subst hNI
  rw [hN, ← hr6] at hg
  have hDEC := Lib.hid hg
  clear hg hgood hbad hN
  have hQ6 : QE (fun i => tg < i) w6 pb (.slice none 0 0) [] sent mark := ⟨hE6, IO.nil _ _, by simp [Value.ownBlock], htp, fun g hg => by simp [Value.ownBlock] at hg, fun x hx => by cases hx⟩
  have hap6 : Hid (∀ x ∈ ([] : List Iv), 0 < x.s.n → ∀ ad, x.s.A = some ad → (Value.slice none 0 0).ownBlock ≠ some ad.block) := Lib.hid (fun x hx => by cases hx)
  have hNs : (N : Int) ≤ sent := by omega
  go_wp2
  go_loopw [7] (fun i wr => ∃ (k : Nat) (v : Value) (xs : List Iv) (l' : List UInt8) (bad : Bool) (A' : Option Addr) (c' : Nat), i = .int .i64 (k : Int) ∧ k ≤ N ∧ xs.length = k ∧ QE (fun i => tg < i) wr pb v xs sent mark ∧ Hid (∀ x ∈ xs, 0 < x.s.n → ∀ ad, x.s.A = some ad → v.ownBlock ≠ some ad.block) ∧ TK 105 wr tg A' c' l' bad ∧ Low tg A' l' ∧ Below tg w wr ∧ Hid (r = restE sent mark (N - k) (sent - (N : Int) + (k : Int)) (xs.map Iv.b) (rst l' bad))) (fun i _ => N - (intOf i).toNat)
  case atStart => exact ⟨0, _, [], l6, bad6, A6, c6, by go_num, by omega, rfl, hQ6, hap6, hT6, hA6, hb6, hDEC⟩
  case round =>
    obtain ⟨k, v, xs, l', bad, A7, c7, rfl, hk, hlk, hE, hap, hT, hA, hb, hD⟩ := hrel
    clear hQ6 hap6 hT6 hA6 hb6 hDEC hr6 hE6 z1
    have t0 := hT.blk.cell 0
    have t1 := hT.blk.cell 1
    simp at t0 t1
    by_cases hbad : bad = true
    · as_aux_lemma =>
      subst hbad
      have HR := Lib.hid (show r = none from hD.out.trans (restE_none _ _ _ _ _))
      go_wp2
      all_goals refine bodyPost_ret (v := .tuple #[.pointer none, .bool false]) (by simp [results, Try.results38, go_sem]) rfl ⟨by rw [htg]; exact hb, .inl ⟨HR.out, rfl⟩⟩
    have hb0 : bad = false := by cases bad; rfl; exact absurd rfl hbad
    subst hb0
    clear hbad
    obtain ⟨e0, e1, e2⟩ := hE.fields
    by_cases hlt : k < N
    · as_aux_lemma =>
      have hlz : (k : Int) < (N : Int) := by omega
      have hw1 : IntKind.i64.wrap (sent - (N : Int)) = sent - (N : Int) := IntWalk.i64_in _ (by omega)
      have hw2 : IntKind.i64.wrap (sent - (N : Int) + 1) = sent - (N : Int) + 1 := IntWalk.i64_in _ (by omega)
      have hw3 : IntKind.i64.wrap (sent - (N : Int) + 1 + (k : Int)) = sent - (N : Int) + 1 + (k : Int) := IntWalk.i64_in _ (by omega)
      have hk0 : (0 : Int) ≤ (k : Int) := by omega
      have hk64 : (k : Int) < 64 := by omega
      obtain ⟨sq, hsq⟩ : ∃ q, sent - (N : Int) + 1 + (k : Int) = q := ⟨_, rfl⟩
      have hsr : sq = sent - (N : Int) + (k : Int) + 1 := by omega
      obtain ⟨tx, htx⟩ : ∃ x, (ttext (some l') 2048).1 = x := ⟨_, rfl⟩
      obtain ⟨s1, hs1⟩ : ∃ x, (ttext (some l') 2048).2 = x := ⟨_, rfl⟩
      obtain ⟨tr, htr⟩ : ∃ x, (tnum s1 1 topE).1 = x := ⟨_, rfl⟩
      obtain ⟨s2, hs2⟩ : ∃ x, (tnum s1 1 topE).2 = x := ⟨_, rfl⟩
      obtain ⟨du, hdu⟩ : ∃ x, (tnum s2 leastI topE).1 = x := ⟨_, rfl⟩
      obtain ⟨s3, hs3⟩ : ∃ x, (tnum s2 leastI topE).2 = x := ⟨_, rfl⟩
      have htl : tx.length ≤ 2048 := by have := ttext_len (some l') 2048; rw [← htx]; exact this
      have hDn := restE_step sent mark (N - (k + 1)) (sent - (N : Int) + (k : Int)) (xs.map Iv.b) (some l')
      have hte : takeE sq (some l') = (⟨sq, tx, tr, du⟩, s3) := by unfold takeE; rw [htx, hs1, htr, hs2, hdu, hs3]
      rw [← hsr, hte, show N - (k + 1) + 1 = N - k by omega] at hDn
      have HDN : Hid (r = restE sent mark (N - (k + 1)) sq (xs.map Iv.b ++ [⟨sq, tx, tr, du⟩]) s3) := Lib.hid (hD.out.trans hDn)
      have T1 : Hid (∀ W g A c, TK 105 W g A c l' false → Calls Try.prog 58 #[.pointer (some ⟨g, 0, none⟩), .int .i64 2048] W (RTPost W g A l'.length s1 (.string ⟨tx.toArray⟩))) := Lib.hid (fun W g A c h => by have := rttext_any W g A c l' false 2048 h; rw [show rst l' false = some l' from rfl, htx, hs1] at this; exact this)
      have T2 : Hid (∀ W g A c l bad, rst l bad = s1 → TK 105 W g A c l bad → Calls Try.prog 57 #[.pointer (some ⟨g, 0, none⟩), .int .i64 1, .int .i64 9223372036854775807] W (RTPost W g A l.length s2 (.int .i64 tr))) := Lib.hid (fun W g A c l bad e h => by have := rtnum_any W g A c l bad 1 topE h; rw [e, htr, hs2] at this; exact this)
      have T3 : Hid (∀ W g A c l bad, rst l bad = s2 → TK 105 W g A c l bad → Calls Try.prog 57 #[.pointer (some ⟨g, 0, none⟩), .int .i64 (-9223372036854775808), .int .i64 9223372036854775807] W (RTPost W g A l.length s3 (.int .i64 du))) := Lib.hid (fun W g A c l bad e h => by have := rtnum_any W g A c l bad leastI topE h; rw [e, hdu, hs3] at this; exact this)
      rw [hsq] at hw3
      have HSQ := Lib.hid hsq
      clear hDn hD hte htx hs1 htr hs2 hdu hs3 hsr hsq
      -- the item's block
      have hB8 := Blk.new wr 86 #[.int .i64 sq, .slice none 0 0, .int .i64 0, .int .i64 0]
      have hal := (Below.refl wr.heap.size wr).alloc (Nat.le_refl _) (.cells #[.int .i64 sq, .slice none 0 0, .int .i64 0, .int .i64 0] 86)
      have hE8 := (hE.mono (G := fun i => tg < i ∧ i < wr.heap.size) fun i hi e => ⟨e, hi⟩).below hal
      have hT8 := hT.below hal
      have hb8 := hb.trans (hal.mono (by have := hb.size; omega))
      have hvq : ∀ g, v.ownBlock = some g → g < wr.heap.size := hE.lt.2
      have hpq : pb < wr.heap.size := hE.pc.lt
      have htq : tg < wr.heap.size := hT.blk.lt
      obtain ⟨q, hq⟩ : ∃ g, wr.heap.size = g := ⟨_, rfl⟩
      rw [hq] at hB8 hE8 hvq hpq htq
      clear hE hT hb hal
      go_wp2_with fail
      try rw [hq]
      try rw [HSQ.out]
      clear e0 e1 e2 t0 t1
      generalize wr.alloc (.cells #[.int .i64 sq, .slice none 0 0, .int .i64 0, .int .i64 0] 86) = w8 at *
      refine (T1.out _ _ _ _ hT8).mono ?_
      rintro e w9 ⟨A9, c9, l9, bad9, rfl, hT9, hr9, hk9, hsb9, hl9⟩
      have hA9 := hA.next hsb9 hl9
      have hB9 := hB8.kept hk9 (show ¬ q = tg by omega)
      have hE9 := hE8.kept hk9 (fun i hi e => by have := hi.1; omega)
      have hb9 := hb8.trans (hk9.below (B := tg) (by have := hb8.size; omega) (fun i hi e => by omega))
      have hq9 : q < w9.heap.size := hB9.lt
      clear T1 hT8 hk9 hsb9 hl9 hA hb8 hE8 hB8
      obtain ⟨cb, w10, hcv, hr10, hx10, hs10, hcb1, hcb2⟩ := run_bts2 w9 tx (by unfold maxLen; omega)
      have hB10 := hB9.kept (Keep.of_below hx10) (Nat.not_le.2 hB9.lt)
      have hE10 := hE9.below hx10
      have hT10 := hT9.below hx10
      have hb10 := hb9.trans (hx10.mono (by have := hb9.size; omega))
      obtain ⟨tb, htb⟩ : ∃ g, w9.heap.size = g := ⟨_, rfl⟩
      obtain ⟨M, hM⟩ : ∃ M, tx.length = M := ⟨_, rfl⟩
      rw [htb] at hcv hr10 hq9
      rw [hM] at hcv hr10 hcb1 htl
      clear hT9 hE9 hB9 hb9 hx10
      have y10 := hB10.cell 1
      simp at y10
      have yf10 := hB10.frozen 1
      have yl10 := hB10.lt
      have hB11 := hB10.set_ 1 (.slice (some ⟨tb, 0, none⟩) M cb)
      simp only [List.setIfInBounds_toArray, List.set_cons_zero, List.set_cons_succ] at hB11
      have k11 : Keep (fun k => k = q) w10 (w10.setCell ⟨q, 1, none⟩ (.slice (some ⟨tb, 0, none⟩) M cb)) := (Keep.refl (fun k => k = q) w10).setCell (p := ⟨q, 1, none⟩) (fun _ => rfl) _
      have hT11 := hT10.keptF (K := tg) k11 (fun i e => by omega) (by omega) hA9
      have hE11 := hE10.kept k11 (fun i hi e => by have := hi.2; omega)
      have hb11 := hb10.trans (k11.below (B := tg) (by have := hb10.size; omega) (fun i hi e => by omega))
      have hr11 := hr10.kept k11 (fun ad e e2 => by cases e; have : tb = q := e2; omega)
      clear hT10 hE10 hB10 hb10 hr10 k11
      go_wp2_with fail
      try rw [htb]
      generalize w10.setCell ⟨q, 1, none⟩ (.slice (some ⟨tb, 0, none⟩) M cb) = w11 at *
      clear y10 yf10 yl10 hcv
      refine (T2.out _ _ _ _ _ _ hr9 hT11).mono ?_
      rintro e w12 ⟨A12, c12, l12, bad12, rfl, hT12, hr12, hk12, hsb12, hl12⟩
      have hA12 := hA9.next hsb12 hl12
      have hB12 := hB11.kept hk12 (show ¬ q = tg by omega)
      have hE12 := hE11.kept hk12 (fun i hi e => by have := hi.1; omega)
      have hr12b := hr11.kept hk12 (fun ad e e2 => by cases e; have : tb = tg := e2; omega)
      have hb12 := hb11.trans (hk12.below (B := tg) (by have := hb11.size; omega) (fun i hi e => by omega))
      clear T2 hT11 hk12 hsb12 hl12 hA9 hb11 hE11 hB11 hr11 hr9
      have y12 := hB12.cell 2
      simp at y12
      have yf12 := hB12.frozen 2
      have yl12 := hB12.lt
      have hB13 := hB12.set_ 2 (.int .i64 tr)
      simp only [List.setIfInBounds_toArray, List.set_cons_zero, List.set_cons_succ] at hB13
      have k13 : Keep (fun k => k = q) w12 (w12.setCell ⟨q, 2, none⟩ (.int .i64 tr)) := (Keep.refl (fun k => k = q) w12).setCell (p := ⟨q, 2, none⟩) (fun _ => rfl) _
      have hT13 := hT12.keptF (K := tg) k13 (fun i e => by omega) (by omega) hA12
      have hE13 := hE12.kept k13 (fun i hi e => by have := hi.2; omega)
      have hb13 := hb12.trans (k13.below (B := tg) (by have := hb12.size; omega) (fun i hi e => by omega))
      have hr13 := hr12b.kept k13 (fun ad e e2 => by cases e; have : tb = q := e2; omega)
      clear hT12 hE12 hB12 hb12 hr12b k13
      go_wp2_with fail
      generalize w12.setCell ⟨q, 2, none⟩ (.int .i64 tr) = w13 at *
      clear y12 yf12 yl12
      refine (T3.out _ _ _ _ _ _ hr12 hT13).mono ?_
      rintro e w14 ⟨A14, c14, l14, bad14, rfl, hT14, hr14, hk14, hsb14, hl14⟩
      have hA14 := hA12.next hsb14 hl14
      have hB14 := hB13.kept hk14 (show ¬ q = tg by omega)
      have hE14 := hE13.kept hk14 (fun i hi e => by have := hi.1; omega)
      have hr14b := hr13.kept hk14 (fun ad e e2 => by cases e; have : tb = tg := e2; omega)
      have hb14 := hb13.trans (hk14.below (B := tg) (by have := hb13.size; omega) (fun i hi e => by omega))
      clear T3 hT13 hk14 hsb14 hl14 hA12 hb13 hE13 hB13 hr13 hr12
      have y14 := hB14.cell 3
      simp at y14
      have yf14 := hB14.frozen 3
      have yl14 := hB14.lt
      have hB15 := hB14.set_ 3 (.int .i64 du)
      simp only [List.setIfInBounds_toArray, List.set_cons_zero, List.set_cons_succ] at hB15
      have k15 : Keep (fun k => k = q) w14 (w14.setCell ⟨q, 3, none⟩ (.int .i64 du)) := (Keep.refl (fun k => k = q) w14).setCell (p := ⟨q, 3, none⟩) (fun _ => rfl) _
      have hT15 := hT14.keptF (K := tg) k15 (fun i e => by omega) (by omega) hA14
      have hE15 := hE14.kept k15 (fun i hi e => by have := hi.2; omega)
      have hb15 := hb14.trans (k15.below (B := tg) (by have := hb14.size; omega) (fun i hi e => by omega))
      have hr15 := hr14b.kept k15 (fun ad e e2 => by cases e; have : tb = q := e2; omega)
      have htbl : M = 0 ∨ tb < w14.heap.size := by
        by_cases h0 : M = 0
        · exact .inl h0
        · have := hr14b.ltA (by omega) ⟨tb, 0, none⟩ rfl
          exact .inr this
      clear hT14 hE14 hB14 hb14 hr14b k15
      obtain ⟨Aq, cq, rfl, hfm⟩ := hE15.own.form
      clear hfm
      rw [hlk] at hE15 hvq hap
      go_upto_region 15 with fail
      obtain ⟨WE, hWE⟩ : ∃ W, w14.setCell ⟨q, 3, none⟩ (.int .i64 du) = W := ⟨_, rfl⟩
      rw [hWE] at hT15 hE15 hb15 hr15 hB15 ⊢
      clear y14 yf14 yl14 hWE
      have r0 := hB15.cell 0
      have r1 := hB15.cell 1
      have r2 := hB15.cell 2
      have r3 := hB15.cell 3
      simp at r0 r1 r2 r3
      have hS11 : ∀ W, Below WE.heap.size WE W → W.cell? ⟨pb, 0, none⟩ = some (.slice Aq k cq) ∧ W.cell? ⟨q, 0, none⟩ = some (.int .i64 sq) ∧ W.cell? ⟨q, 1, none⟩ = some (.slice (some ⟨tb, 0, none⟩) M cb) ∧ W.cell? ⟨q, 2, none⟩ = some (.int .i64 tr) ∧ W.cell? ⟨q, 3, none⟩ = some (.int .i64 du) := fun W hb => ⟨(hE15.below hb).fields.1, (hb.cell (World.block_lt_of_cell? _ _ r0)).trans r0, (hb.cell (World.block_lt_of_cell? _ _ r1)).trans r1, (hb.cell (World.block_lt_of_cell? _ _ r2)).trans r2, (hb.cell (World.block_lt_of_cell? _ _ r3)).trans r3⟩
      have hS10 := hS11 _ (Below.refl WE.heap.size WE).drew
      have hneP : ¬ (Value.slice Aq k cq).ownBlock = some pb := hE15.ne
      have hneQ : ¬ (Value.slice Aq k cq).ownBlock = some q := fun e => by have := hvq q e; omega
      have hqE : q < WE.heap.size := hB15.lt
      have hdz : WE.drew.heap.size = WE.heap.size := rfl
      refine wp_region_z (S := (fun W => W.cell? ⟨pb, 0, none⟩ = some (.slice Aq k cq) ∧ W.cell? ⟨q, 0, none⟩ = some (.int .i64 sq) ∧ W.cell? ⟨q, 1, none⟩ = some (.slice (some ⟨tb, 0, none⟩) M cb) ∧ W.cell? ⟨q, 2, none⟩ = some (.int .i64 tr) ∧ W.cell? ⟨q, 3, none⟩ = some (.int .i64 du))) 10 (by kernel_rfl) hS10 (fun hHeld => ?_)
      refine wpAnyZ_take (i := 0) (oi := ?oi0b) (u := ?v0b) ?hi0b (by kernel_rfl) (by decide) (by kernel_rfl) (by kernel_rfl) (by kernel_rfl) ?hq0b (Or.inl ⟨?hw0b, ?hy0b⟩) (by assumption) ?rest0b
      case hi0b => (simp only [List.getElem?_toArray, List.getElem?_cons_succ, List.getElem?_cons_zero]; rfl)
      case hq0b => exact fun _ _ _ h => h
      case hw0b => rfl
      case hy0b => (intro w hSw; (try dsimp only at hSw); go_simp <;> with_reducible rfl)
      try simp only [Act.put, List.setIfInBounds_toArray, List.set_cons_zero, List.set_cons_succ]
      refine wpAnyZ_take (i := 1) (oi := ?oi1b) (u := ?v1b) ?hi1b (by kernel_rfl) (by decide) (by kernel_rfl) (by kernel_rfl) (by kernel_rfl) ?hq1b (Or.inl ⟨?hw1b, ?hy1b⟩) (by assumption) ?rest1b
      case hi1b => (simp only [List.getElem?_toArray, List.getElem?_cons_succ, List.getElem?_cons_zero]; rfl)
      case hq1b => exact fun _ _ _ h => h
      case hw1b => rfl
      case hy1b => (intro w hSw; (try dsimp only at hSw); go_simp <;> with_reducible rfl)
      try simp only [Act.put, List.setIfInBounds_toArray, List.set_cons_zero, List.set_cons_succ]
      refine wpAnyZ_take (i := 2) (oi := ?oi2b) (u := ?v2b) ?hi2b (by kernel_rfl) (by decide) (by kernel_rfl) (by kernel_rfl) (by kernel_rfl) ?hq2b (Or.inl ⟨?hw2b, ?hy2b⟩) (by assumption) ?rest2b
      case hi2b => (simp only [List.getElem?_toArray, List.getElem?_cons_succ, List.getElem?_cons_zero]; rfl)
      case hq2b => exact fun _ _ _ h => h
      case hw2b => rfl
      case hy2b => (intro w hSw; (try dsimp only at hSw); go_simp <;> with_reducible rfl)
      try simp only [Act.put, List.setIfInBounds_toArray, List.set_cons_zero, List.set_cons_succ]
      refine wpAnyZ_take (i := 3) (oi := ?oi3b) (u := ?v3b) ?hi3b (by kernel_rfl) (by decide) (by kernel_rfl) (by kernel_rfl) (by kernel_rfl) ?hq3b (Or.inl ⟨?hw3b, ?hy3b⟩) (by assumption) ?rest3b
      case hi3b => (simp only [List.getElem?_toArray, List.getElem?_cons_succ, List.getElem?_cons_zero]; rfl)
      case hq3b => exact fun _ _ _ h => h
      case hw3b => rfl
      case hy3b => (intro w hSw; (try dsimp only at hSw); go_simp <;> with_reducible rfl)
      try simp only [Act.put, List.setIfInBounds_toArray, List.set_cons_zero, List.set_cons_succ]
      refine wpAnyZ_take (i := 4) (oi := ?oi4b) (u := ?v4b) ?hi4b (by kernel_rfl) (by decide) (by kernel_rfl) (by kernel_rfl) (by kernel_rfl) ?hq4b (Or.inl ⟨?hw4b, ?hy4b⟩) (by assumption) ?rest4b
      case hi4b => (simp only [List.getElem?_toArray, List.getElem?_cons_succ, List.getElem?_cons_zero]; rfl)
      case hq4b => exact fun _ _ _ h => h
      case hw4b => rfl
      case hy4b => (intro w hSw; (try dsimp only at hSw); go_simp <;> with_reducible rfl)
      try simp only [Act.put, List.setIfInBounds_toArray, List.set_cons_zero, List.set_cons_succ]
      refine wpAnyZ_take (i := 5) (oi := ?oi5b) (u := ?v5b) ?hi5b (by kernel_rfl) (by decide) (by kernel_rfl) (by kernel_rfl) (by kernel_rfl) ?hq5b (Or.inl ⟨?hw5b, ?hy5b⟩) (by assumption) ?rest5b
      case hi5b => (simp only [List.getElem?_toArray, List.getElem?_cons_succ, List.getElem?_cons_zero]; rfl)
      case hq5b => exact fun _ _ _ h => h
      case hw5b => rfl
      case hy5b => (intro w hSw; (try dsimp only at hSw); go_simp <;> with_reducible rfl)
      try simp only [Act.put, List.setIfInBounds_toArray, List.set_cons_zero, List.set_cons_succ]
      refine wpAnyZ_one (i := 6) (o := ?o6b) (by kernel_rfl) ?hi6b (fun K hK => ?st6b)
      case hi6b => (simp only [List.getElem?_toArray, List.getElem?_cons_succ, List.getElem?_cons_zero]; rfl)
      go_simp
      have hn11 := Blk.new WE.drew 86 #[.int .i64 sq, .slice (some ⟨tb, 0, none⟩) M cb, .int .i64 tr, .int .i64 du]
      have hal11 := (Below.refl WE.drew.heap.size WE.drew).alloc (Nat.le_refl _) (.cells #[.int .i64 sq, .slice (some ⟨tb, 0, none⟩) M cb, .int .i64 tr, .int .i64 du] 86)
      have s11 := hS11 _ ((Below.refl WE.heap.size WE).drew.alloc (Nat.le_refl _) (.cells #[.int .i64 sq, .slice (some ⟨tb, 0, none⟩) M cb, .int .i64 tr, .int .i64 du] 86))
      have hO11 := hE15.own.drew.alloc (.cells #[.int .i64 sq, .slice (some ⟨tb, 0, none⟩) M cb, .int .i64 tr, .int .i64 du] 86)
      refine hK.out _ _ (fun _ => s11) (fun hHeld2 => ?_)
      clear hK K hHeld
      have hHeld := hHeld2 (by decide)
      clear hHeld2
      try simp only [Act.put, List.setIfInBounds_toArray, List.set_cons_zero, List.set_cons_succ]
      refine wpAnyZ_one (i := 7) (o := ?o7b) (by kernel_rfl) ?hi7b (fun K hK => ?st7b)
      case hi7b => (simp only [List.getElem?_toArray, List.getElem?_cons_succ, List.getElem?_cons_zero]; rfl)
      rw [if_pos (by rfl)]
      refine wp_appIO (.tmp 68) (.tmp 70) rfl 0 (.slice Aq k cq) xs rfl hO11 ⟨WE.drew.heap.size, 0, none⟩ rfl ⟨sq, ⟨some ⟨tb, 0, none⟩, M, cb, tx⟩, tr, du⟩ (fun j u hu => by rw [Addr.add_lit, Nat.zero_add]; exact (hn11.cell j).trans (by simpa [Iv.cs, Sl.v] using hu)) (by omega) (Nat.zero_le _) ?_
      intro v12 w12 hO12 hK12 e12
      change _ ∨ _ = some (WE.drew.alloc (.cells #[.int .i64 sq, .slice (some ⟨tb, 0, none⟩) M cb, .int .i64 tr, .int .i64 du] 86)).heap.size at e12
      change Keep _ (WE.drew.alloc (.cells #[.int .i64 sq, .slice (some ⟨tb, 0, none⟩) M cb, .int .i64 tr, .int .i64 du] 86)) w12 at hK12
      have s12 := And.intro (hK12.cell s11.1 hneP) (And.intro (hK12.cell s11.2.1 hneQ) (And.intro (hK12.cell s11.2.2.1 hneQ) (And.intro (hK12.cell s11.2.2.2.1 hneQ) (hK12.cell s11.2.2.2.2 hneQ))))
      obtain ⟨A12, c12, rfl, hx12⟩ := hO12.form
      clear hx12
      refine hK.out _ _ (fun _ => s12) (fun hHeld2 => ?_)
      clear hK K hHeld
      have hHeld := hHeld2 (by decide)
      clear hHeld2
      try simp only [Act.put, List.setIfInBounds_toArray, List.set_cons_zero, List.set_cons_succ]
      refine wpAnyZ_one (i := 8) (o := ?o8b) (by kernel_rfl) ?hi8b (fun K hK => ?st8b)
      case hi8b => (simp only [List.getElem?_toArray, List.getElem?_cons_succ, List.getElem?_cons_zero]; rfl)
      go_simp
      refine hK.out _ _ (fun _ => s12) (fun hHeld2 => ?_)
      clear hK K hHeld
      have hHeld := hHeld2 (by decide)
      clear hHeld2
      try simp only [Act.put, List.setIfInBounds_toArray, List.set_cons_zero, List.set_cons_succ]
      refine wpAnyZ_take (i := 9) (oi := ?oi9b) (u := ?v9b) ?hi9b (by kernel_rfl) (by decide) (by kernel_rfl) (by kernel_rfl) (by kernel_rfl) ?hq9b (Or.inl ⟨?hw9b, ?hy9b⟩) (by assumption) ?rest9b
      case hi9b => (simp only [List.getElem?_toArray, List.getElem?_cons_succ, List.getElem?_cons_zero]; rfl)
      case hq9b => exact fun _ _ _ h => h
      case hw9b => rfl
      case hy9b => (intro w hSw; (try dsimp only at hSw); go_simp <;> with_reducible rfl)
      try simp only [Act.put, List.setIfInBounds_toArray, List.set_cons_zero, List.set_cons_succ]
      refine wpAnyZ_one (i := 10) (o := ?o10b) (by kernel_rfl) ?hi10b (fun K hK => ?st10b)
      case hi10b => (simp only [List.getElem?_toArray, List.getElem?_cons_succ, List.getElem?_cons_zero]; rfl)
      have hpc12 := (hE15.drew.pc.alloc (.cells #[.int .i64 sq, .slice (some ⟨tb, 0, none⟩) M cb, .int .i64 tr, .int .i64 du] 86)).kept hK12 hneP
      have f12 := hpc12.frozen 0
      have hpl12 := hpc12.lt
      have q12 := hpc12.cell 0
      simp at q12
      go_simp
      refine hK.out _ _ (fun h => absurd rfl h) (fun hHeld2 => ?_)
      clear hK K hHeld
      clear hHeld2
      try simp only [Act.put, List.setIfInBounds_toArray, List.set_cons_zero, List.set_cons_succ]
      refine wpAnyZ_done (by kernel_rfl) ?_ _
      have hpcE := hpc12.set_ 0 (.slice A12 (xs ++ [(⟨sq, ⟨some ⟨tb, 0, none⟩, M, cb, tx⟩, tr, du⟩ : Iv)]).length c12)
      simp only [List.setIfInBounds_toArray, List.set_cons_zero] at hpcE
      have kp : Keep (fun k => k = pb) w12 (w12.setCell ⟨pb, 0, none⟩ (.slice A12 (xs ++ [(⟨sq, ⟨some ⟨tb, 0, none⟩, M, cb, tx⟩, tr, du⟩ : Iv)]).length c12)) := (Keep.refl (fun k => k = pb) w12).setCell (p := ⟨pb, 0, none⟩) (fun _ => rfl) _
      have h11z := hal11.size
      have hneE : (Value.slice A12 (xs ++ [(⟨sq, ⟨some ⟨tb, 0, none⟩, M, cb, tx⟩, tr, du⟩ : Iv)]).length c12).ownBlock ≠ some pb := by
        rcases e12 with e | e
        · rw [e]; exact hE15.ne
        · rw [e]
          intro h
          injection h with h
          omega
      -- the bodies lie apart
      have hap2 : ∀ x ∈ xs ++ [(⟨sq, ⟨some ⟨tb, 0, none⟩, M, cb, tx⟩, tr, du⟩ : Iv)], 0 < x.s.n → ∀ ad, x.s.A = some ad → (Value.slice Aq k cq).ownBlock ≠ some ad.block ∧ ad.block < WE.heap.size ∧ ad.block ≠ pb ∧ tg < ad.block := by
        intro x hx hn ad had
        rcases List.mem_append.1 hx with hx | hx
        · have h1 := (hE15.bod x hx)
          exact ⟨hap.out x hx hn ad had, h1.1.ltA hn ad had, (h1.2.2.2 hn ad had).1, ((h1.2.2.2 hn ad had).2).1⟩
        · rw [List.mem_singleton] at hx
          subst hx
          cases had
          refine ⟨fun e => ?_, hr15.ltA hn _ rfl, ?_, ?_⟩
          · have := hvq _ e
            dsimp only at this
            omega
          · dsimp only; omega
          · dsimp only; omega
      have hbodE : ∀ x ∈ xs ++ [(⟨sq, ⟨some ⟨tb, 0, none⟩, M, cb, tx⟩, tr, du⟩ : Iv)], SB (fun i => tg < i) pb (w12.setCell ⟨pb, 0, none⟩ (.slice A12 (xs ++ [(⟨sq, ⟨some ⟨tb, 0, none⟩, M, cb, tx⟩, tr, du⟩ : Iv)]).length c12)) x.s := by
        intro x hx
        have h0 : RB WE x.s.A x.s.n x.s.t ∧ x.s.n ≤ x.s.c ∧ x.s.c ≤ maxLen := by
          rcases List.mem_append.1 hx with hx | hx
          · have h1 := hE15.bod x hx
            exact ⟨h1.1, h1.2.1, h1.2.2.1⟩
          · rw [List.mem_singleton] at hx
            subst hx
            exact ⟨hr15, hcb1, hcb2⟩
        have h2 := hap2 x hx
        have h3 : RB (WE.drew.alloc (.cells #[.int .i64 sq, .slice (some ⟨tb, 0, none⟩) M cb, .int .i64 tr, .int .i64 du] 86)) x.s.A x.s.n x.s.t := h0.1.drew.alloc _
        have h4 := (h3.kept' hK12 (fun hp ad e e2 => (h2 hp ad e).1 e2)).kept' kp (fun hp ad e e2 => (h2 hp ad e).2.2.1 e2)
        exact ⟨h4, h0.2.1, h0.2.2, fun hp ad e => ⟨(h2 hp ad e).2.2.1, (h2 hp ad e).2.2.2⟩⟩
      have hEE : QE (fun i => tg < i) (w12.setCell ⟨pb, 0, none⟩ (.slice A12 (xs ++ [(⟨sq, ⟨some ⟨tb, 0, none⟩, M, cb, tx⟩, tr, du⟩ : Iv)]).length c12)) pb (.slice A12 (xs ++ [(⟨sq, ⟨some ⟨tb, 0, none⟩, M, cb, tx⟩, tr, du⟩ : Iv)]).length c12) (xs ++ [⟨sq, ⟨some ⟨tb, 0, none⟩, M, cb, tx⟩, tr, du⟩]) sent mark :=
        ⟨hpcE, hO12.kept kp (fun g hg e => hneE (by rw [hg, e])), hneE, htp, fun g hg => by
          rcases e12 with e | e
          · rw [e] at hg; exact (hE15.fv g hg).1
          · rw [e] at hg; injection hg with hg; show tg < g; omega, hbodE⟩
      have hapE : Hid (∀ x ∈ xs ++ [(⟨sq, ⟨some ⟨tb, 0, none⟩, M, cb, tx⟩, tr, du⟩ : Iv)], 0 < x.s.n → ∀ ad, x.s.A = some ad → (Value.slice A12 (xs ++ [(⟨sq, ⟨some ⟨tb, 0, none⟩, M, cb, tx⟩, tr, du⟩ : Iv)]).length c12).ownBlock ≠ some ad.block) := Lib.hid (fun x hx hn ad had => by
        have h2 := hap2 x hx hn ad had
        rcases e12 with e | e
        · rw [e]; exact h2.1
        · rw [e]
          intro h
          injection h with h
          have := h2.2.1
          omega)
      have hT16 := TK.below (w := WE.drew) ⟨hT15.blk, hT15.rd, hT15.cap, hT15.apart⟩ hal11
      have hT17 := hT16.keptF (K := tg) hK12 (fun i e => by have := (hE15.fv i e).1; omega) (fun e => by have := (hE15.fv tg e).1; omega) hA14
      have hTE := hT17.keptF (K := tg) kp (fun i e => by omega) (by omega) hA14
      have hb16 := (hb15.drew).trans (hal11.mono (by have := hb15.size; omega))
      have hb17 := hb16.trans (hK12.below (B := tg) (by have := hb15.size; omega) (fun i hi e => by have := (hE15.fv i e).1; omega))
      have hbE := hb17.trans (kp.below (B := tg) (by have := hb17.size; omega) (fun i hi e => by omega))
      have hlE : (xs ++ [(⟨sq, ⟨some ⟨tb, 0, none⟩, M, cb, tx⟩, tr, du⟩ : Iv)]).length = k + 1 := by rw [List.length_append, hlk]; rfl
      have hDE : Hid (r = restE sent mark (N - (k + 1)) (sent - (N : Int) + ((k + 1 : Nat) : Int)) ((xs ++ [(⟨sq, ⟨some ⟨tb, 0, none⟩, M, cb, tx⟩, tr, du⟩ : Iv)]).map Iv.b) (rst l14 bad14)) := Lib.hid (by
        rw [show sent - (N : Int) + ((k + 1 : Nat) : Int) = sq by rw [← HSQ.out]; omega, hr14, List.map_append]
        exact HDN.out)
      clear hT15 hT16 hT17 hE15 hal11 hn11 hO11 hO12 hK12 s11 s12 hS11 hS10 hpc12 hpcE f12 hpl12 q12 r0 r1 r2 r3 kp hb15 hb16 hb17 e12 hneE hap2 hbodE hap HDN hr14 hr15
      rw [hlE] at hEE hTE hbE hapE
      go_wp2
      go_roundw
      case measure => simp [intOf]; omega
      case rel => exact ⟨k + 1, _, _, l14, bad14, A14, c14, by go_num, by omega, hlE, hEE, hapE, hTE, hA14, hbE, hDE⟩
    · as_aux_lemma =>
      have hlz : ¬ (k : Int) < (N : Int) := by omega
      have hre : r = if some l' = some [] then some (xs.map Iv.b, sent, mark) else none := by
        rw [hD.out, show N - k = 0 by omega]
        exact restE_end sent mark _ _ (some l')
      have HRE := Lib.hid hre
      clear hre hD
      by_cases hl0 : l' = []
      · subst hl0
        have t0 : wr.cell? ⟨tg, 0, none⟩ = some (.slice A7 0 c7) := t0
        have HR := Lib.hid (show r = some (xs.map Iv.b, sent, mark) by rw [HRE.out, if_pos rfl])
        have hKF : QN (fun i => w.heap.size ≤ i) wr pb (xs.map Iv.b) sent mark := ⟨v, xs, hE.mono fun i _ e => by omega, rfl⟩
        clear HRE
        go_wp2
        refine bodyPost_ret (v := .tuple #[.pointer (some ⟨pb, 0, none⟩), .bool true]) (by simp [results, Try.results38, go_sem]) rfl ⟨by rw [htg]; exact hb, .inr ⟨_, sent, mark, pb, HR.out, rfl, hKF⟩⟩
      · have hlp : (0 : Int) < (l'.length : Int) := by
          have : l'.length ≠ 0 := fun h => hl0 (List.eq_nil_of_length_eq_zero h)
          omega
        have HR := Lib.hid (show r = none by rw [HRE.out, if_neg (fun h => hl0 (Option.some.inj h))])
        clear HRE
        go_wp2
        refine bodyPost_ret (v := .tuple #[.pointer none, .bool false]) (by simp [results, Try.results38, go_sem]) rfl ⟨by rw [htg]; exact hb, .inl ⟨HR.out, rfl⟩⟩
end Go.Proofs.Ytfgceplafjbmhaa
