/- 'BacklogFair' returns true for every input: the row of this law, proved. No condition. -/
import Derived.Test.YtnkekjaljhpmjaaBkJ
import Derived.Test.YtnkekjaljhpmjaaBkL
import Derived.Deep.CutBlock
import Derived.Maps.Views
import Derived.Maps.OwnSet
import Derived.Maps.OwnOps
import Derived.ProofKit
import Derived.OpenShut
import Derived.ShutString
import Derived.ChangeOld
import Derived.SizedLaws
namespace Go.Proofs.Ytnkekjaljhpmjaa
open Go.RowKit
set_option linter.unusedVariables false
set_option linter.unusedSimpArgs false
open Go.Maps
theorem zero_boolB (w : World) : (zeroValue 4).run Try.prog w = .ok (.bool false) w := by kernel_rfl
theorem keyIB {k : Int} (h : (Lit.int .i64 k).wf = true) : keyOf Try.prog 3 (.int .i64 k) = some (.int .i64 k) := keyOf_int_mk Try.underlying3 h
theorem kIB : Keyed Try.prog 3 := int_keyed Try.underlying3
theorem elB_inv {P : Program} {e : TypeId} (he : P.underlying e = some .bool) {v : Value} {ps : List MemPlace} (h : (plainElem P e v : Option (DataW Unit × List MemPlace)) = some (.lit (.bool false), ps)) : v = .bool false := by
  unfold plainElem at h
  rw [he] at h
  cases v <;> simp at h
  rw [h.1]
theorem int_litB (k : Int) : WideAt.IsKeyLit (Lit.int .i64 k) := by simp [WideAt.IsKeyLit]
theorem ownsB_kept {S : Nat → Prop} {w w' : World} {b n : Nat} {D : DataW Unit} (h : w.ownsMap Try.prog 3 (plainElem Try.prog 4) b n D) (hk : Keep S w w') (hs : ¬ S b) : w'.ownsMap Try.prog 3 (plainElem Try.prog 4) b n D := by
  obtain ⟨es, clock, hb, F, h2⟩ := h
  exact ⟨es, clock, (hk.block b (Array.getElem?_eq_some_iff.1 hb).1 hs).trans hb, F, h2⟩
theorem ownsB_lt {w : World} {b n : Nat} {D : DataW Unit} (h : w.ownsMap Try.prog 3 (plainElem Try.prog 4) b n D) : b < w.heap.size := by
  obtain ⟨es, clock, hb, _⟩ := h
  exact (Array.getElem?_eq_some_iff.1 hb).1
/-- What was tried. -/
structure FairP (l : List Wt) (hs : Int → Bool) (last : Int) : Prop where
  one : ∀ x ∈ l, 1 ≤ x.k ∧ (Lit.int .i64 x.k).wf = true
  nd : (l.map Wt.k).Nodup
  rdy : ∀ (i : Nat) (x : Wt), l[i]? = some x → x.r = true → last < (i : Int)
  old : ∀ k, hs k = true → ∃ (i : Nat) (x : Wt), l[i]? = some x ∧ x.k = k ∧ (i : Int) ≤ last
theorem FairP.start : FairP [] (fun _ => false) (-1) := ⟨fun x h => (by cases h), List.nodup_nil, fun i x h => (by simp at h), fun k h => (by cases h)⟩
theorem FairP.push {l : List Wt} {hs : Int → Bool} {last : Int} (h : FairP l hs last) (k : Int) (hw : (Lit.int .i64 k).wf = true) : FairP (pushL l k) hs last := by
  unfold pushL
  split
  case isFalse => exact h
  case isTrue he =>
    unfold pushE at he
    by_cases h1 : k < 1
    · rw [if_pos h1] at he; omega
    · rw [if_neg h1] at he
      by_cases h2 : 0 ≤ placeW l k
      · rw [if_pos h2] at he; omega
      · have hp : ∀ x ∈ l, x.k ≠ k := by
          rcases place_cases l k with ⟨_, h3⟩ | ⟨i, x, h3, _⟩
          · exact h3
          · omega
        refine ⟨fun x hx => ?_, ?_, fun i x hx hr => ?_, fun j hj => ?_⟩
        · rcases List.mem_append.1 hx with hx | hx
          · exact h.one x hx
          · rw [List.mem_singleton.1 hx]
            exact ⟨by dsimp only; omega, hw⟩
        · rw [List.map_append, List.nodup_append]
          refine ⟨h.nd, by simp, fun a ha b hb e => ?_⟩
          obtain ⟨x, hx, rfl⟩ := List.mem_map.1 ha
          simp at hb
          subst hb
          exact hp x hx e
        · by_cases hi : i < l.length
          · rw [List.getElem?_append_left hi] at hx
            exact h.rdy i x hx hr
          · rw [List.getElem?_append_right (by omega)] at hx
            have : i - l.length = 0 := by
              have := (List.getElem?_eq_some_iff.1 hx).1
              simp at this
              omega
            rw [this] at hx
            simp at hx
            rw [← hx] at hr
            cases hr
        · obtain ⟨i, x, h3, h4, h5⟩ := h.old j hj
          exact ⟨i, x, by rw [List.getElem?_append_left (List.getElem?_eq_some_iff.1 h3).1]; exact h3, h4, h5⟩
theorem FairP.news {l : List Wt} {hs : Int → Bool} {last : Int} (h : FairP l hs last) (o : Int) : FairP (newsL l o) (fun _ => false) (-1) := by
  refine ⟨fun x hx => ?_, ?_, fun i x _ _ => by omega, fun k h => (by cases h)⟩
  · obtain ⟨y, hy, rfl⟩ := List.mem_map.1 hx
    exact h.one y hy
  · unfold newsL
    rw [List.map_map]
    exact h.nd
theorem FairP.tried {l : List Wt} {hs : Int → Bool} {last : Int} (h : FairP l hs last) {i : Nat} {x : Wt} (hf : l.findIdx isR = i) (hx : l[i]? = some x) (hr : x.r = true) :
    hs x.k = false ∧ last < (i : Int) ∧ placeW (l.set i ⟨x.k, false⟩) x.k = (i : Int) ∧ FairP (l.set i ⟨x.k, false⟩) (fun j => decide (j = x.k) || hs j) (i : Int) := by
  have hl := h.rdy i x hx hr
  obtain ⟨hi, he⟩ := List.getElem?_eq_some_iff.1 hx
  have hk : (l.set i ⟨x.k, false⟩).map Wt.k = l.map Wt.k := by
    rw [List.map_set]
    show (l.map Wt.k).set i x.k = _
    have h0 : x.k = (l.map Wt.k)[i]'(by simpa using hi) := by simp [he]
    rw [h0]
    exact List.set_getElem_self _
  have hat : (l.set i ⟨x.k, false⟩)[i]? = some ⟨x.k, false⟩ := by rw [List.getElem?_set_self hi]
  refine ⟨?_, hl, place_at (x := ⟨x.k, false⟩) hat (by rw [hk]; exact h.nd), ?_, by rw [hk]; exact h.nd, fun j y hy hr2 => ?_, fun k hk2 => ?_⟩
  · cases hh : hs x.k with
    | false => rfl
    | true =>
      obtain ⟨j, y, h3, h4, h5⟩ := h.old _ hh
      have h6 := place_at h3 h.nd
      rw [h4, place_at hx h.nd] at h6
      omega
  · intro y hy
    rcases List.mem_or_eq_of_mem_set hy with hy | hy
    · exact h.one y hy
    · rw [hy]
      exact h.one x (List.mem_of_getElem? hx)
  · by_cases e : i = j
    · subst e
      rw [hat] at hy
      cases hy
      cases hr2
    · rw [List.getElem?_set_ne e] at hy
      by_cases hij : j < i
      · have h7 := List.not_of_lt_findIdx (p := isR) (xs := l) (i := j) (by omega)
        obtain ⟨hj, hyj⟩ := List.getElem?_eq_some_iff.1 hy
        rw [hyj] at h7
        exact absurd hr2 (by simpa [isR] using h7)
      · omega
  · by_cases e : k = x.k
    · exact ⟨i, _, hat, e.symm, Int.le_refl _⟩
    · have h8 : hs k = true := by simpa [e] using hk2
      obtain ⟨j, y, h3, h4, h5⟩ := h.old k h8
      refine ⟨j, y, ?_, h4, by omega⟩
      rw [List.getElem?_set_ne (by omega)]
      exact h3
/-- Where the loop stands. -/
structure FairR (B : Nat) (w : World) (p mb N : Nat) (wr : World) (F : Nat → Prop) (l : List Wt) (D : DataW Unit) (o : Int) : Prop where
  bk : BK F wr p l o
  mp : wr.ownsMap Try.prog 3 (plainElem Try.prog 4) mb N D
  im : IsMap D
  ap : ¬ F mb
  lo : ∀ g, F g → B ≤ g
  mlo : B ≤ mb
  bel : Below B w wr
section
variable {B : Nat} {w : World} {p mb N : Nat} {wr w' : World} {F : Nat → Prop} {l l' : List Wt} {D : DataW Unit} {o o' : Int}
theorem FairR.call (h : FairR B w p mb N wr F l D o) (hB : B ≤ w.heap.size) (hk : Keep F wr w') (hb : BK (fun k => F k ∨ wr.heap.size ≤ k) w' p l' o') :
    FairR B w p mb N w' (fun k => F k ∨ wr.heap.size ≤ k) l' D o' := by
  have hs := h.bel.size
  have hml := ownsB_lt h.mp
  refine ⟨hb, ownsB_kept h.mp hk h.ap, h.im, fun e => ?_, fun g e => ?_, h.mlo, h.bel.trans (hk.below (Nat.le_trans hB hs) fun i hi e => by have := h.lo i e; omega)⟩
  · rcases e with e | e
    · exact h.ap e
    · omega
  · rcases e with e | e
    · exact h.lo g e
    · omega
theorem FairR.below (h : FairR B w p mb N wr F l D o) (hB : B ≤ w.heap.size) (hb : Below wr.heap.size wr w') : FairR B w p mb N w' F l D o :=
  ⟨h.bk.below hb, ownsB_kept h.mp (Keep.of_below hb) (Nat.not_le.2 (ownsB_lt h.mp)), h.im, h.ap, h.lo, h.mlo, h.bel.trans (hb.mono (Nat.le_trans hB h.bel.size))⟩
theorem FairR.fresh (h : FairR B w p mb N wr F l D o) (hB : B ≤ w.heap.size) :
    FairR B w p wr.heap.size 0 (wr.alloc (.map #[] 0)) (fun k => F k ∧ k < wr.heap.size) l (.map []) o := by
  have hs := h.bel.size
  exact ⟨(h.bk.mono fun k hk e => ⟨e, hk⟩).alloc _, World.ownsMap_made wr _ _ _, isMap_empty, fun e => by omega, fun g e => h.lo g e.1, Nat.le_trans hB hs, h.bel.alloc (Nat.le_trans hB hs) _⟩
theorem lit_neB {a b : Int} (h : a ≠ b) : Lit.int .i64 a ≠ Lit.int .i64 b := fun e => h (by injection e)
theorem FairR.mark {k : Int} (h : FairR B w p mb N wr F l D o) (hB : B ≤ w.heap.size) (hm : w'.ownsMap Try.prog 3 (plainElem Try.prog 4) mb (N + 1) (D.put (.int .i64 k) (.lit (.bool true)))) (hg : wr.grownBy w' (some mb)) :
    FairR B w p mb (N + 1) w' F l (D.put (.int .i64 k) (.lit (.bool true))) o := by
  have hk : Keep (fun i => i = mb) wr w' := (Keep.of_grown hg).mono fun i _ e => (Option.some.inj e).symm
  exact ⟨h.bk.kept hk (fun g hg e => h.ap (by rw [← e]; exact hg)), hm, h.im.put _ _, h.ap, h.lo, h.mlo, h.bel.trans (hk.below (Nat.le_trans hB h.bel.size) fun i hi e => by have := h.mlo; omega)⟩
theorem has_mark {k : Int} (h : IsMap D) : (fun j => has (D.put (.int .i64 k) (.lit (.bool true))) (.int .i64 j)) = fun j => decide (j = k) || has D (.int .i64 j) := by
  funext j
  by_cases e : j = k
  · subst e
    rw [has_put_same h (int_litB _)]
    simp
  · rw [has_put_other (lit_neB e)]
    simp [e]
/-- Whether it was tried: what the map says. -/
theorem FairR.look (h : FairR B w p mb N wr F l D o) {k : Int} (hk : (Lit.int .i64 k).wf = true) (hn : has D (.int .i64 k) = false) : (Instr.lookup 40 (.map (some mb)) (.int .i64 k) false).run Try.prog wr = .ok (.bool false) wr := by
  obtain ⟨v, ps, hrun, hv⟩ := h.mp.lookup kIB Try.underlying40 (zero_boolB wr) (plainElem_bool Try.underlying4 false) (keyIB hk)
  rw [atKey_of_not_has hn] at hv
  rw [elB_inv Try.underlying4 hv] at hrun
  exact hrun
end
theorem BK.widen {F : Nat → Prop} {w : World} {p : Nat} {l : List Wt} {o : Int} (h : BK F w p l o) (N : Nat) : BK (fun k => F k ∨ N ≤ k) w p l o := h.mono fun _ _ e => .inl e
theorem pushL_le (l : List Wt) (k : Int) : (pushL l k).length ≤ l.length + 1 := by
  unfold pushL
  split <;> simp
set_option maxRecDepth 100000 in
set_option maxHeartbeats 1600000 in
theorem backlogFair_walk {w : World} (A : Option Addr) (n c : Nat) (f : Nat → OpV) (ho : OPS w A n f) (hc : n ≤ c) (hm : c ≤ 9223372036854775807) :
    Calls Try.prog 4 #[.slice A n c] w fun e w' => e = .returned (.bool true) ∧ Below w.heap.size w w' := by
  have hmm := @run_makeMap Try.prog
  go_enter Try.func4, Try.ntmps4
  go_wp2_with fail
  refine (bnew_any _).mono ?_
  rintro e w1 ⟨rfl, h1, hb1⟩
  go_wp2_with fail
  refine (lives_any _).mono ?_
  rintro e w2 ⟨rfl, hx2⟩
  have h2 := h1.below hx2
  have hb2 := hb1.trans (hx2.mono hb1.size)
  obtain ⟨B, hB⟩ : ∃ B, w.heap.size = B := ⟨_, rfl⟩
  have hBw : B ≤ w.heap.size := by omega
  rw [hB] at h2 hb2 ⊢
  have hbz := hb2.size
  have hR : FairR B w B w2.heap.size 0 (w2.alloc (.map #[] 0)) (fun k => B ≤ k ∧ k < w2.heap.size) [] (.map []) 0 :=
    ⟨(h2.mono fun k hk e => ⟨e, hk⟩).alloc _, World.ownsMap_made w2 _ _ _, isMap_empty, fun e => by omega, fun g e => e.1, by omega, hb2.alloc (by omega) _⟩
  clear h1 hb1 hx2 h2 hb2 hbz
  go_wp2
  go_loopw [4, 5, 6] (fun m t i wr => ∃ (k mb N : Nat) (l : List Wt) (D : DataW Unit) (last : Int) (F : Nat → Prop), m = .map (some mb) ∧ t = .int .i64 last ∧ i = .int .i64 (k : Int) ∧ k ≤ n ∧ k ≤ 300 ∧ N ≤ k ∧ l.length ≤ k ∧ FairR B w B mb N wr F l D 0 ∧ Hid (FairP l (fun k => has D (.int .i64 k)) last)) (fun _ _ i _ => n - (intOf i).toNat)
  case atStart => exact ⟨0, w2.heap.size, 0, [], _, -1, _, rfl, rfl, by go_num, by omega, by omega, by omega, by simp, hR, Lib.hid FairP.start⟩
  case round =>
    obtain ⟨k, mb, N, l, D, last, F, rfl, rfl, rfl, hk, hk2, hNk, hlk, hR, hst⟩ := hrel
    by_cases hlt : k < n
    · by_cases h300 : k < 300
      · have hlz : (k : Int) < (n : Int) := by omega
        have hlz2 : (k : Int) < 300 := by omega
        have hk0 : (0 : Int) ≤ (k : Int) := by omega
        obtain ⟨b, off, rfl, hbl, hat⟩ := ho (by omega)
        obtain ⟨c0, c1, hwf⟩ := (hat k hlt).below (hB ▸ hR.bel) hbl
        have hblr : b < wr.heap.size := World.block_lt_of_cell? _ _ c0
        generalize f k = ov at c0 c1 hwf
        obtain ⟨ok, on⟩ := ov
        dsimp only at c0 c1 hwf
        have hR0 := hR.below hBw ((Below.refl wr.heap.size wr).alloc (Nat.le_refl _) (.cells #[.int .i64 ok, .int .i64 on] 31))
        have hop0 := Blk.new wr 31 #[.int .i64 ok, .int .i64 on]
        clear hR
        go_upto_block 2 with fail
        generalize hbo : wr.heap.size = bo at *
        generalize wr.alloc (.cells #[.int .i64 ok, .int .i64 on] 31) = w0 at *
        clear c0 c1 hat ho
        have o0 := hop0.cell 0
        have o1 := hop0.cell 1
        simp at o0 o1
        have hbol : bo < w0.heap.size := hop0.lt
        by_cases h1 : ok = 1
        · as_aux_lemma =>
          subst h1
          have hp := bpush_any on hR0.bk (by omega)
          have hst3 := Lib.hid (hst.out.push on hwf)
          have hpl := pushL_le l on
          go_wp2_with fail
          refine hp.mono ?_
          rintro e w3 ⟨rfl, hbk, hkp⟩
          have hR3 := hR0.call hBw hkp hbk
          clear hR0 hp hst hbk hkp
          go_wp2
          go_roundw
          case measure => simp [intOf]; omega
          case rel => exact ⟨k + 1, mb, N, _, D, last, _, rfl, rfl, by go_num, by omega, by omega, by omega, by omega, hR3, hst3⟩
        · by_cases h3 : ok = 3
          · as_aux_lemma =>
            subst h3
            have hp := bnews_any hR0.bk (by omega)
            have hst3 := Lib.hid (hst.out.news 0)
            have hpl : (newsL l 0).length = l.length := by simp [newsL]
            go_wp2_with fail
            refine hp.mono ?_
            rintro e w3 ⟨⟨_, rfl⟩, hbk, hkp⟩
            have hR3 := (hR0.call hBw hkp (hbk.widen _)).fresh hBw
            clear hR0 hp hst hbk hkp
            go_wp2
            go_roundw
            case measure => simp [intOf]; omega
            case rel => exact ⟨k + 1, w3.heap.size, 0, _, _, (-1), _, rfl, rfl, by go_num, by omega, by omega, by omega, by omega, hR3, hst3⟩
          · by_cases h4 : ok = 4
            · subst h4
              have hp := btry_any hR0.bk (by omega)
              rcases idx_cases isR l with ⟨hn, _⟩ | ⟨i, x, hix, hx, hr, hil, hfi⟩
              · as_aux_lemma =>
                rw [try_none (show readyW l = -1 from hn)] at hp
                go_wp2_with fail
                refine hp.mono ?_
                rintro e w3 ⟨rfl, hbk, hkp⟩
                have hR3 := hR0.call hBw hkp (hbk.widen _)
                clear hR0 hp hbk hkp
                go_wp2
                go_roundw
                case measure => simp [intOf]; omega
                case rel => exact ⟨k + 1, mb, N, l, D, last, _, rfl, rfl, by go_num, by omega, by omega, by omega, by omega, hR3, hst⟩
              · as_aux_lemma =>
                rw [try_at (o := 0) (by omega) (show l.findIdx (fun x => x.r) = i from hfi) hx] at hp
                obtain ⟨hhs, hli, hpl, hst3⟩ := hst.out.tried hfi hx hr
                have hwx := hst.out.one x (List.mem_of_getElem? hx)
                obtain ⟨xk, xr⟩ := x
                dsimp only at hp hhs hpl hst3 hwx
                obtain ⟨l2, hl2⟩ : ∃ l2, l.set i ⟨xk, false⟩ = l2 := ⟨_, rfl⟩
                have hl2l : l2.length = l.length := by rw [← hl2, List.length_set]
                rw [hl2] at hp hpl hst3
                obtain ⟨I, hI⟩ : ∃ I : Int, (i : Int) = I := ⟨_, rfl⟩
                rw [hI] at hli hpl hst3
                clear hfi hx hr hl2 hst hI hix
                go_wp2_with fail
                refine hp.mono ?_
                rintro e w3 ⟨rfl, hbk, hkp⟩
                dsimp only at hbk
                have hR3 := hR0.call hBw hkp (hbk.widen _)
                obtain ⟨F3, hF3⟩ : ∃ F3, (fun k => F k ∨ w0.heap.size ≤ k) = F3 := ⟨_, rfl⟩
                rw [hF3] at hR3
                clear hR0 hp hbk hkp hF3
                have hlk3 := hR3.look hwx.2 hhs
                have hpp := bplace_any xk hR3.bk (by omega)
                rw [hpl] at hpp
                have hdl : decide (I ≤ last) = false := decide_eq_false (by omega)
                go_wp2_with fail
                refine hpp.mono ?_
                rintro e w4 ⟨rfl, hb4⟩
                have hR4 := hR3.below hBw hb4
                clear hR3 hpp hb4 hlk3
                have hmp4 := hR4.mp
                go_wp2_with (at_mapUpdate; refine wpList_mapUpdate_own _ rfl _ _ _ 40 rfl 3 4 kIB Try.underlying40 (plainElem Try.prog 4) mb N D rfl hmp4 (by unfold maxLen; omega) _ _ _ rfl rfl (keyIB hwx.2) _ [] (plainElem_bool Try.underlying4 true) ?_; intro w5 hm5 hg5)
                have hR5 := hR4.mark hBw hm5 hg5
                have hst5 : Hid (FairP l2 (fun j => has (D.put (.int .i64 xk) (.lit (.bool true))) (.int .i64 j)) I) := Lib.hid (by rw [has_mark hR4.im]; exact hst3)
                clear hR4 hmp4 hm5 hg5 hst3
                have hpp := bplace_any xk hR5.bk (by omega)
                rw [hpl] at hpp
                refine hpp.mono ?_
                rintro e w6 ⟨rfl, hb6⟩
                have hR6 := hR5.below hBw hb6
                clear hR5 hpp hb6
                have hbb := bback_any xk hR6.bk
                have hbk1 : backB xk xk = true := by unfold backB; simp; omega
                have hbk2 : backO xk xk = 0 := by unfold backO; rw [hbk1]; rfl
                rw [hbk1, hbk2] at hbb
                go_wp2_with fail
                refine hbb.mono ?_
                rintro e w7 ⟨rfl, hbk, hkp⟩
                have hR7 := hR6.call hBw hkp (hbk.widen _)
                clear hR6 hbb hbk hkp
                go_wp2
                go_roundw
                case measure => simp [intOf]; omega
                case rel => exact ⟨k + 1, mb, N + 1, l2, _, I, _, rfl, rfl, by go_num, by omega, by omega, by omega, by omega, hR7, hst5⟩
            · as_aux_lemma =>
              go_wp2_with fail
              go_roundw
              case measure => simp [intOf]; omega
              case rel => exact ⟨k + 1, mb, N, l, D, last, _, rfl, rfl, by go_num, by omega, by omega, by omega, by omega, hR0, hst⟩
      · have hlz : (k : Int) < (n : Int) := by omega
        have hlz2 : ¬ (k : Int) < 300 := by omega
        have hb := hR.bel
        clear hR
        go_wp2
        go_ret
        exact ⟨rfl, hB ▸ hb⟩
    · have hlz : ¬ (k : Int) < (n : Int) := by omega
      have hb := hR.bel
      clear hR
      go_wp2
      go_ret
      exact ⟨rfl, hB ▸ hb⟩

namespace backlogFairDone
open Go.ChangeShapes Go.WideShapes Go.ChangeAt
set_option maxRecDepth 100000 in
theorem lifted (os : Os) (started : os.Started) (H : Type) (enc : TypeId × Value → H) :
    ReturnsInHanded {} Try.checked os 4 .any (Rows.backlogFairSpec.pre6 enc Try.prog Try.f4 Rows.backlogFairRow.domain false) (Rows.backlogFairSpec.post enc Try.prog Try.f4 false true false false) := by
  refine returnsInHanded_of_change_sized (C := Try.checked) own started (by kernel_rfl) Try.func4
    (ChangeSpec.witness6 (enc := enc) (C := Try.checked) false ⟨#[], #[Value.slice none 0 0], []⟩ 8 (by kernel_rfl) (by kernel_rfl) (by kernel_rfl) (by kernel_rfl)) ?_
  intro W base args ds gs before hval0 hW hcnd hsz0 _
  have hsz : (DataW.weightsEach Try.prog (Try.f4.params.toList ++ Rows.backlogFairSpec.plain.varTypes Try.prog) (ds ++ gs)).all (· ≤ reachBytes) = true := hsz0
  clear hsz0
  have hval : ∀ (j : Nat) t v, Try.f4.params[j]? = some t → args[j]? = some v → Value.okWide Try.prog W .any base t v := hval0
  have hW' := hW
  obtain ⟨p, q, hA0, hV, rfl, hfz, hnd⟩ := hW
  have hA : DataW.TrodAll enc Try.prog W 0 (fun _ => true) true Try.f4.params.toList args.toList ds p := hA0
  rw [Try.params4] at hA hval hsz
  obtain ⟨v0, vs0, d0, ds0, p0, q0, hargs, rfl, rfl, h0, r0⟩ := trodAll_cons hA
  obtain ⟨rfl, rfl, rfl⟩ := trodAll_nil r0
  obtain rfl : args = #[v0] := by cases args; simp_all
  obtain ⟨rfl, rfl⟩ := trodVars_none hV
  obtain ⟨a0, len0, cap0, rfl⟩ := okWide_slice Try.underlying22 (hval 0 22 v0 rfl rfl)
  have k0 := h0
  have lt0 : ∀ x ∈ p0, x.block < W.heap.size := by obtain ⟨m, hm⟩ := k0; exact DataW.trod_lt m _ _ _ hm
  obtain ⟨f0, ho0, hc0, hm0⟩ := ops_open h0
  clear hA0 hval0
  refine (backlogFair_walk (w := W) a0 len0 cap0 f0 ho0 hc0 hm0).mono fun e W' ⟨he, bel⟩ => ?_
  subst he
  exact ⟨_, rfl, _, _, _, [], _, [], hW', trodAll_mk1 (shut_bool Try.underlying4 _), (trodAll_cons_mk (Below.trod laidOut (by kernel_rfl) (of_decide_eq_true (by kernel_rfl)) k0 bel lt0) trodAll_mk0), rfl, bel.frame _, fun h => by cases h⟩

theorem over : Rows.backlogFairRow.holds Try.pinned (OpenSpec.ofChange Rows.backlogFairSpec) :=
  OpenClaim.holds_of_wide 4 Try.f4 rfl rfl rfl rfl rfl rfl rfl ⟨rfl, rfl, rfl, rfl, rfl⟩ rfl rfl rfl rfl rfl (by kernel_rfl) Try.func4 (by kernel_rfl)
    (of_decide_eq_true (by kernel_rfl)) (by unfold Func.isWrapper; first | (rw [if_pos (by decide +kernel)]; kernel_rfl) | (rw [if_neg (by decide +kernel)]; exact ⟨rfl, rfl⟩))
    (fun os started H enc _ => lifted os started H enc)

/-- The statement. -/
theorem proved : Rows.BacklogFairSaid := over
end backlogFairDone
end Go.Proofs.Ytnkekjaljhpmjaa
