/- 'BackoffDoes' returns true for every input: the row of this law, proved. No condition. -/
import Derived.Test.YtiinlcfggjcmoaaTmG
import Derived.Test.YtiinlcfggjcmoaaTmB
import Derived.ProofKit
import Derived.Deep.LoopGhost
import Derived.Deep.CutRange
import Derived.Deep.CutBlock
import Derived.StillTailTactics
import Derived.Deep.RegionHeld3
import Derived.OpenShut
import Derived.ShutString
import Derived.ChangeOld
import Derived.SizedLaws
namespace Go.Proofs.Ytiinlcfggjcmoaa
open Go.RowKit
set_option linter.unusedVariables false
set_option linter.unusedSimpArgs false
open Go.Maps Go.Sort
def WfT (x : List Tm) : Prop := ∀ t ∈ x, (Lit.int .i64 t.1).wf = true
theorem WfT.set {x : List Tm} (h : WfT x) (k a : Int) (hk : (Lit.int .i64 k).wf = true) : WfT (setT x k a) := by
  intro t ht
  rcases (mem_insT _ _ _).1 ht with rfl | ht
  · exact hk
  · exact h t (mem_dropT.1 ht).1
theorem WfT.drop {x : List Tm} (h : WfT x) (k : Int) : WfT (dropT x k) := fun t ht => h t (mem_dropT.1 ht).1
/-- What the search has found so far. -/
def FndRel (x : List Tm) (key : Int) (j : Nat) (was : Int) (fd : Bool) : Prop :=
  (fd = false ∧ was = 0 ∧ ∀ t ∈ x.take j, t.1 ≠ key) ∨ (fd = true ∧ was = atT x key ∧ key ∈ x.map (·.1))
theorem FndRel.start (x : List Tm) (key : Int) : FndRel x key 0 0 false := .inl ⟨rfl, rfl, fun t h => by simp at h⟩
theorem FndRel.hit {x : List Tm} {key : Int} {j : Nat} {was : Int} {fd : Bool} (hx : OrdT x) {t : Tm} (ht : x[j]? = some t) (hk : t.1 = key) : FndRel x key (j + 1) t.2 true := by
  have hm := List.mem_of_getElem? ht
  subst hk
  exact .inr ⟨rfl, (atT_mem hx hm).symm, List.mem_map_of_mem (f := (·.1)) hm⟩
theorem FndRel.miss {x : List Tm} {key : Int} {j : Nat} {was : Int} {fd : Bool} (h : FndRel x key j was fd) {t : Tm} (ht : x[j]? = some t) (hk : ¬ t.1 = key) : FndRel x key (j + 1) was fd := by
  rcases h with ⟨h1, h2, h3⟩ | h
  · refine .inl ⟨h1, h2, fun u hu => ?_⟩
    rw [List.take_add_one, ht] at hu
    rcases List.mem_append.1 hu with hu | hu
    · exact h3 u hu
    · simp at hu
      subst hu
      exact hk
  · exact .inr h
theorem FndRel.done {x : List Tm} {key : Int} {j : Nat} {was : Int} {fd : Bool} (h : FndRel x key j was fd) (hj : x.length ≤ j) : was = atT x key ∧ fd = decide (key ∈ x.map (·.1)) := by
  rcases h with ⟨h1, h2, h3⟩ | ⟨h1, h2, h3⟩
  · rw [List.take_of_length_le hj] at h3
    have hn : key ∉ x.map (·.1) := fun hm => by
      obtain ⟨t, ht, e⟩ := List.mem_map.1 hm
      exact h3 t ht e
    exact ⟨by rw [h2, atT_none hn], by rw [h1, decide_eq_false hn]⟩
  · exact ⟨h2, by rw [h1, decide_eq_true h3]⟩
theorem due_at {now : Int} {u : Tm} : ∀ {x : List Tm} {j : Nat}, AllDue now (x.take j) → x[j]? = some u → u.2 ≤ now → (dueP now x)[j]? = some u.1
  | [], _, _, h, _ => by simp at h
  | t :: l, 0, _, h, hu => by
    simp at h
    subst h
    rw [dueP, if_pos hu]
    rfl
  | t :: l, j + 1, ha, h, hu => by
    simp at h
    rw [dueP, if_pos (ha t (by simp))]
    simp
    exact due_at (fun v hv => ha v (by simp [hv])) h hu
theorem due_end {now : Int} {x : List Tm} {j : Nat} (ha : AllDue now (x.take j)) (hj : x.length ≤ j ∨ ∃ u, x[j]? = some u ∧ now < u.2) : (dueP now x).length = (x.take j).length := by
  rcases hj with hj | ⟨u, hu, hn⟩
  · rw [List.take_of_length_le hj] at ha ⊢
    rw [due_all ha, ksT_len]
  · rw [due_stop (pre := x.take j) (u := u) ⟨x.drop (j + 1), by
      have h1 : x.take j ++ [u] = x.take (j + 1) := by rw [List.take_add_one, hu]; rfl
      rw [h1, List.take_append_drop]⟩ ha hn, ksT_len]
theorem ref_under : Try.prog.underlying 30 = some (.slice 34) := Try.underlying30
theorem runT_tail (w : World) (b off n c : Nat) (hc : n + 1 ≤ c) :
    (Instr.slice 30 (.slice (some ⟨b, off, none⟩) (n + 1) c) (some (.int .i64 1)) none none).run Try.prog w = .ok (.slice (some ⟨b, if c = 1 then off else off + 2, none⟩) n (c - 1)) w := by
  have he : Try.prog.elem 30 = 34 := by kernel_rfl
  rw [run_slice_l w 30 _ (n + 1) c (by rw [he]; exact ref_under) .i64 1 (by omega) (by omega), he, Try.sizeOf34]
  simp [Result.andThen, sliced]
  split <;> rfl
theorem RR.tail' {w : World} {b off n c : Nat} {t : Tm} {l : List Tm} (h : RR w (some ⟨b, off, none⟩) (n + 1) (t :: l)) (hc : n + 1 ≤ c) : RR w (some ⟨b, if c = 1 then off else off + 2, none⟩) n l := by
  by_cases e : c = 1
  · have hn : n = 0 := by omega
    subst hn
    have hl := h.tail.len
    have : l = [] := List.length_eq_zero_iff.1 hl
    subst this
    exact RR.nil _ _
  · rw [if_neg e]
    exact h.tail
/-- The document's row beside the timers. -/
structure RW (w : World) (bm : Nat) (s6 : Value) (n : Nat) (x : List Tm) : Prop where
  ex : ∃ A c, s6 = .slice A n c ∧ RR w A n x ∧ (∀ ad, A = some ad → ad.block ≠ bm ∧ ad.block < w.heap.size) ∧ n ≤ c ∧ c ≤ 9223372036854775807
theorem RW.start (w : World) (bm : Nat) : RW w bm (.slice none 0 0) 0 [] := ⟨⟨none, 0, rfl, RR.nil _ _, fun ad h => (by cases h), Nat.le_refl _, by omega⟩⟩
theorem RW.kept {w w' : World} {bm n : Nat} {s6 : Value} {x : List Tm} (h : RW w bm s6 n x) (k : Keep (fun i => i = bm) w w') : RW w' bm s6 n x := by
  obtain ⟨A, c, e, h1, h2, h3, h4⟩ := h.ex
  exact ⟨⟨A, c, e, h1.kept k (fun ad e => (h2 ad e).1), fun ad e => ⟨(h2 ad e).1, Nat.lt_of_lt_of_le (h2 ad e).2 k.size⟩, h3, h4⟩⟩
theorem RW.below {w w' : World} {bm n : Nat} {s6 : Value} {x : List Tm} (h : RW w bm s6 n x) (k : RowKit.Below w.heap.size w w') : RW w' bm s6 n x := by
  obtain ⟨A, c, e, h1, h2, h3, h4⟩ := h.ex
  exact ⟨⟨A, c, e, h1.below k, fun ad e => ⟨(h2 ad e).1, Nat.lt_of_lt_of_le (h2 ad e).2 k.size⟩, h3, h4⟩⟩
theorem RW.of {w : World} {base bm : Nat} {v : Value} {l : List Tm} (h : TF base w v l) (hb : bm < base) : RW w bm v l.length l := by
  obtain ⟨A, c, rfl, h1, h2, h3, h4⟩ := h.rr
  exact ⟨⟨A, c, rfl, h3, fun ad e => ⟨by have := (h4 ad e).1; omega, (h4 ad e).2⟩, h1, h2⟩⟩
theorem drewN_below (w : World) (q : Nat) : RowKit.Below w.heap.size w (w.drewN q) := by
  have h := RowKit.Below.refl w.heap.size w
  exact ⟨h.os, h.tape, h.output, h.size, h.block⟩
set_option maxRecDepth 100000 in
set_option maxHeartbeats 6400000 in
theorem backoffDoes_walk {w : World} (A : Option Addr) (n c : Nat) (f : Nat → OpV) (ho : OPS w A n f) (hc : n ≤ c) (hm : c ≤ 9223372036854775807) (now : Int) (hnow : (Lit.int .i64 now).wf = true) :
    Calls Try.prog 5 #[.slice A n c, .int .i64 now] w fun e w' => e = .returned (.bool true) ∧ RowKit.Below w.heap.size w w' := by
  by_cases hbig : 200 < n
  · have hbz : ¬ (n : Int) ≤ 200 := by omega
    have hbz2 : (200 : Int) < (n : Int) := by omega
    go_enter Try.func5, Try.ntmps5
    go_wp2_with fail
    refine (tnew_any _).mono ?_
    rintro e w1 ⟨p, bm, rfl, hT1, hp, hbm, hb1⟩
    go_wp2_with fail
    refine (lives_any _).mono ?_
    rintro e w2 ⟨rfl, hx⟩
    have hb2 := hb1.trans (hx.mono hb1.size)
    go_wp2_with fail
    refine (lives_any _).mono ?_
    rintro e w3 ⟨rfl, hx3⟩
    have hb3 := hb2.trans (hx3.mono hb2.size)
    go_wp2_with fail
    go_ret
    exact ⟨rfl, hb3⟩
  have hbz : (n : Int) ≤ 200 := by omega
  have hbz2 : ¬ (200 : Int) < (n : Int) := by omega
  go_enter Try.func5, Try.ntmps5
  go_wp2_with fail
  refine (tnew_any _).mono ?_
  rintro e w1 ⟨p, bm, rfl, hT1, hp, hbm, hb1⟩
  go_wp2_with fail
  refine (lives_any _).mono ?_
  rintro e w2 ⟨rfl, hx⟩
  have hb2 := hb1.trans (hx.mono hb1.size)
  have hT2 := hT1.below hx
  have hw2 : WfT [] := fun t h => by cases h
  clear hb1 hx hT1
  go_wp2_with fail
  go_loopg [6, 7] n (fun g s6 s7 wr => ∃ (k N m : Nat) (x : List Tm), s7 = .int .i64 (k : Int) ∧ k ≤ n ∧ g = n - k ∧ N ≤ k ∧ TM wr p bm N x ∧ WfT x ∧ RW wr bm s6 m x ∧ RowKit.Below w.heap.size w wr)
  case atStart => exact ⟨0, 0, 0, [], by go_num, by omega, rfl, by omega, hT2, hw2, RW.start _ _, hb2⟩
  case round =>
    obtain ⟨k, N, m, x, rfl, hk, hg, hNk, hT, hwx, hRW, hb⟩ := hrel
    clear hT2 hw2 hb2
    obtain ⟨A6, c6, rfl, hR, hA6, hc6, hm6⟩ := hRW.ex
    have hxl := hR.len
    have hxk := hT.size
    by_cases hlt : k < n
    · have hlz : (k : Int) < (n : Int) := by omega
      obtain ⟨b, off, rfl, hbl, hat⟩ := ho (by omega)
      obtain ⟨c0, c1, c2, hwi, hwn⟩ := (hat k hlt).below hb hbl
      generalize f k = o at c0 c1 c2 hwi hwn
      obtain ⟨ok, oi, on⟩ := o
      simp only at c0 c1 c2 hwi hwn
      have hblr : b < wr.heap.size := Nat.lt_of_lt_of_le hbl hb.size
      have hop0 := Blk.new wr 32 #[.int .i64 ok, .int .i64 oi, .int .i64 on]
      have hb0 := hb.alloc hb.size (.cells #[.int .i64 ok, .int .i64 oi, .int .i64 on] 32)
      have hT0 := hT.alloc (.cells #[.int .i64 ok, .int .i64 oi, .int .i64 on] 32)
      have hR0 := hRW.below ((RowKit.Below.refl wr.heap.size wr).alloc (Nat.le_refl _) (.cells #[.int .i64 ok, .int .i64 oi, .int .i64 on] 32))
      have hbmr := hT.lt.2
      --ATK
      go_wp2_with fail
      generalize hbo : wr.heap.size = bo at *
      generalize wr.alloc (.cells #[.int .i64 ok, .int .i64 oi, .int .i64 on] 32) = w0 at *
      clear hT hb hRW hR hA6 hbl hat ho c0 c1 c2 hblr
      obtain ⟨A6', c6', he6, hR, hA6, hc6', hm6'⟩ := hR0.ex
      injection he6 with he6a he6b he6c
      subst he6a he6c
      clear he6b hc6' hm6'
      have hbm0 := hT0.lt.2
      go_loopw [9, 10, 11] (fun s9 s10 s11 wr => ∃ (j : Nat) (was : Int) (fd : Bool) (q : Nat), s9 = .int .i64 was ∧ s10 = .bool fd ∧ s11 = .int .i64 (j : Int) ∧ j ≤ m ∧ FndRel x oi j was fd ∧ wr = w0.drewN q) (fun _ _ s11 _ => m - (intOf s11).toNat)
      case atStart => exact ⟨0, 0, false, 0, rfl, rfl, by go_num, by omega, FndRel.start _ _, rfl⟩
      case round =>
        obtain ⟨j, was, fd, q, rfl, rfl, rfl, hj, hF, rfl⟩ := hrel
        have o1 := hop0.cell 1
        simp at o1
        by_cases hjm : j < m
        · have hjz : (j : Int) < (m : Int) := by omega
          obtain ⟨b6, off6, ⟨tk, ta⟩, rfl, hu, d0, d1⟩ := hR.place hjm
          dsimp only at d0 d1
          by_cases he : tk = oi
          · have hF2 := FndRel.hit (was := was) (fd := fd) hT0.ord hu he
            dsimp only at hF2
            subst he
            go_wp2_with fail
            go_quiet (fail)
            go_wp2_with fail
            go_roundw
            case rel => exact ⟨j + 1, _, _, _, rfl, rfl, by go_num, by omega, hF2, rfl⟩
            case measure => simp [intOf]; omega
          · have hF2 := hF.miss hu he
            have hez : (tk == oi) = false := beq_eq_false_iff_ne.2 he
            go_wp2_with fail
            go_quiet (fail)
            go_wp2_with fail
            go_roundw
            case rel => exact ⟨j + 1, _, _, _, rfl, rfl, by go_num, by omega, hF2, rfl⟩
            case measure => simp [intOf]; omega
        · have hjz : ¬ (j : Int) < (m : Int) := by omega
          obtain ⟨hwas, hfd⟩ := hF.done (by omega)
          have hqb := drewN_below w0 q
          have hzq := hqb.size
          have hT2 := hT0.below hqb
          have hR2 := hR0.below hqb
          have hop2 := hop0.kept (Keep.of_below hqb) (Nat.not_le.2 hop0.lt)
          have hb2 := hb0.trans (hqb.mono hb0.size)
          have hRq : RR (w0.drewN q) A6 m x := ⟨hR.len, hR.at_⟩
          have hat := tat_any oi hT2 hwi
          unfold AtPost at hat
          rw [← hwas, ← hfd] at hat
          have hHF := Lib.hid hfd
          clear hF hT0 hR0 hop0 hb0 hR hfd hwas
          go_wp2_with fail
          refine hat.mono ?_
          rintro e w' ⟨rfl, hww⟩
          subst w'
          clear hat
          generalize w0.drewN q = w2 at *
          have o0 := hop2.cell 0
          have o1 := hop2.cell 1
          have o2 := hop2.cell 2
          simp at o0 o1 o2
          go_upto_block 4 with fail
          go_cut [6, 14, 15, 16, 17] from 35 to 224 (fun s6 s14 s15 s16 s17 wc => ∃ (N' m' : Nat) (x' : List Tm), N' ≤ k + 1 ∧ TM wc p bm N' x' ∧ WfT x' ∧ RW wc bm s6 m' x' ∧ RowKit.Below w.heap.size w wc)
          case first =>
            by_cases h1 : ok = 1
            · as_aux_lemma =>
                subst h1
                go_wp2_with fail
                refine (tset_any oi on hT2 hwi hwn (by omega)).mono ?_
                rintro e w3 ⟨rfl, hT3, hk3⟩
                have hb3 := hb2.trans (hk3.bel hb2.size hbm)
                have hR3 := hRq.kept hk3 (fun ad e => (hA6 ad e).1)
                have hop3 := hop2.kept hk3 (by omega)
                have o1 := hop3.cell 1
                have o2 := hop3.cell 2
                simp at o1 o2
                have hw3 := hwx.set oi on hwi
                have hbm3 := hT3.lt.2
                clear hT2 hk3 hb2 hRq hop2 hR2
                go_wp2_with fail
                refine (rset_any A6 m c6 x oi on hR3 (by omega) hc6 hm6).mono ?_
                rintro e w4 ⟨v4, rfl, hO4, hx4⟩
                have hb4 := hb3.trans (hx4.mono hb3.size)
                go_wp2_with fail
                go_meet
                exact ⟨_, _, _, by omega, hT3.below hx4, hw3, RW.of hO4 hbm3, hb4⟩
            · by_cases h2 : ok = 2
              · as_aux_lemma =>
                  subst h2
                  have hdr := tdrop_any oi hT2 hwi
                  unfold DropPost at hdr
                  rw [← hHF.out] at hdr
                  go_wp2_with fail
                  refine hdr.mono ?_
                  rintro e w3 ⟨rfl, hT3, hk3⟩
                  have hb3 := hb2.trans (hk3.bel hb2.size hbm)
                  have hR3 := hRq.kept hk3 (fun ad e => (hA6 ad e).1)
                  have hop3 := hop2.kept hk3 (by omega)
                  have o1 := hop3.cell 1
                  have o2 := hop3.cell 2
                  simp at o1 o2
                  have hw3 := hwx.drop oi
                  have hbm3 := hT3.lt.2
                  clear hT2 hk3 hb2 hRq hop2 hR2 hdr hHF
                  go_wp2_with fail
                  refine (rdrop_any A6 m c6 x oi hR3 (by omega) hc6 hm6).mono ?_
                  rintro e w4 ⟨v4, rfl, hO4, hx4⟩
                  have hb4 := hb3.trans (hx4.mono hb3.size)
                  go_wp2_with fail
                  go_meet
                  exact ⟨_, _, _, by omega, hT3.below hx4, hw3, RW.of hO4 hbm3, hb4⟩
              · by_cases h3 : ok = 3
                · as_aux_lemma =>
                    subst h3
                    have hpop := tpop_any on hT2 hwx
                    unfold PopPost at hpop
                    cases x with
                    | nil =>
                      have hm0 : m = 0 := by have := hRq.len; simpa using this.symm
                      subst hm0
                      rw [popP_nil] at hpop
                      dsimp only at hpop
                      go_wp2_with fail
                      refine hpop.mono ?_
                      rintro e w3 ⟨rfl, hT3, hk3⟩
                      have hb3 := hb2.trans (hk3.bel hb2.size hbm)
                      have hR3 := hR2.kept hk3
                      have hop3 := hop2.kept hk3 (by omega)
                      have o2 := hop3.cell 2
                      simp at o2
                      go_wp2_with fail
                      go_quiet (fail)
                      have hqb3 := drewN_below w3 nq
                      go_wp2_with fail
                      go_meet
                      exact ⟨_, _, _, by omega, hT3.below hqb3, hwx, hR3.below hqb3, hb3.trans (hqb3.mono hb3.size)⟩
                    | cons t l =>
                      obtain ⟨tk, ta⟩ := t
                      obtain ⟨m1, rfl⟩ : ∃ m1, m = m1 + 1 := ⟨m - 1, by have := hRq.len; simp at this; omega⟩
                      have hm1z : (0 : Int) < ((m1 + 1 : Nat) : Int) := by omega
                      obtain ⟨b6, off6, u, rfl, hu, d0, d1⟩ := hRq.place (k := 0) (by omega)
                      simp at hu
                      subst hu
                      simp at d0 d1
                      have hb6 := hA6 _ rfl
                      dsimp only at hb6
                      by_cases hdue : on < ta
                      · rw [popP_late (t := (tk, ta)) hdue] at hpop
                        dsimp only at hpop
                        have hdz : ¬ ta ≤ on := by omega
                        go_wp2_with fail
                        refine hpop.mono ?_
                        rintro e w3 ⟨rfl, hT3, hk3⟩
                        have hb3 := hb2.trans (hk3.bel hb2.size hbm)
                        have hR3 := hR2.kept hk3
                        have hop3 := hop2.kept hk3 (by omega)
                        have o2 := hop3.cell 2
                        simp at o2
                        have d1' := hk3.cell d1 (by dsimp only; omega)
                        clear hpop hT2 hk3 hop2 hR2 hRq d0 d1
                        go_wp2_with fail
                        go_quiet (fail)
                        have hqb3 := drewN_below w3 nq
                        go_wp2_with fail
                        go_meet
                        exact ⟨_, _, _, by omega, hT3.below hqb3, hwx, hR3.below hqb3, hb3.trans (hqb3.mono hb3.size)⟩
                      · rw [popP_due (t := (tk, ta)) hdue] at hpop
                        dsimp only at hpop
                        have hdz : ta ≤ on := by omega
                        have hsl := fun W => runT_tail W b6 off6 m1 c6 (by omega)
                        go_wp2_with fail
                        refine hpop.mono ?_
                        rintro e w3 ⟨rfl, hT3, hk3⟩
                        have hb3 := hb2.trans (hk3.bel hb2.size hbm)
                        have hR3 := (hRq.kept hk3 (fun ad e => (hA6 ad e).1)).tail' (c := c6) (by omega)
                        have hop3 := hop2.kept hk3 (by omega)
                        have o2 := hop3.cell 2
                        simp at o2
                        have d0' := hk3.cell d0 (by dsimp only; omega)
                        have d1' := hk3.cell d1 (by dsimp only; omega)
                        have hz3 := hk3.size
                        have hw3 : WfT l := fun u hu => hwx u (List.mem_cons_of_mem _ hu)
                        obtain ⟨off7, hoff7⟩ : ∃ off7, (if c6 = 1 then off6 else off6 + 2) = off7 := ⟨_, rfl⟩
                        rw [hoff7] at hR3
                        rw [hoff7] at hsl
                        clear hpop hT2 hk3 hop2 hR2 hRq d0 d1 hoff7
                        go_wp2_with fail
                        go_quiet (fail)
                        have hqb3 := drewN_below w3 nq
                        go_wp2_with fail
                        go_meet
                        exact ⟨_, _, l, by omega, hT3.below hqb3, hw3, ⟨⟨_, _, rfl, hR3.below hqb3, fun ad e => by cases e; exact ⟨hb6.1, by show b6 < w3.heap.size; omega⟩, by omega, by omega⟩⟩, hb3.trans (hqb3.mono hb3.size)⟩
                · as_aux_lemma =>
                    go_wp2_with fail
                    go_meet
                    exact ⟨_, _, _, by omega, hT2, hwx, hR2, hb2⟩
          case rest =>
            obtain ⟨N', m', x', hN', hT3, hwx', hRW3, hb3⟩ := hcut
            clear hT2 hR2 hop2 hb2 hRq hHF hA6 hxl hxk hc6 hm6 hwx o0 o1 o2
            obtain ⟨A6', c6', rfl, hR, hA6, hc6, hm6⟩ := hRW3.ex
            have hxl := hR.len
            have hxk := hT3.size
            go_wp2_with fail
            refine (due_any now hT3 (by omega)).mono ?_
            rintro e w4 ⟨vd, rfl, hO4, hx4⟩
            have hb4 := hb3.trans (hx4.mono hb3.size)
            have hT4 := hT3.below hx4
            have hR4 := hR.below hx4
            have hRW4 := hRW3.below hx4
            have hA4 : ∀ ad, A6' = some ad → ad.block < w4.heap.size := fun ad e => Nat.lt_of_lt_of_le (hA6 ad e).2 hx4.size
            obtain ⟨Ad, cd, rfl, _, _, hir, _⟩ := hO4.form
            obtain ⟨D, hD⟩ : ∃ D, (dueP now x').length = D := ⟨_, rfl⟩
            rw [hD] at hir ⊢
            clear hO4 hT3 hRW3 hb3 hx4 hR hA6
            go_wp2_with fail
            go_loopw [19] (fun s19 wr => ∃ (j q : Nat), s19 = .int .i64 (j : Int) ∧ j ≤ m' ∧ AllDue now (x'.take j) ∧ wr = w4.drewN q) (fun s19 _ => m' - (intOf s19).toNat)
            case atStart => exact ⟨0, 0, by go_num, by omega, fun t h => by simp at h, rfl⟩
            case round =>
              obtain ⟨j, q, rfl, hj, hall, rfl⟩ := hrel
              have hcase : (∃ u, x'[j]? = some u ∧ j < m' ∧ u.2 ≤ now) ∨ (∃ u, x'[j]? = some u ∧ j < m' ∧ now < u.2) ∨ j = m' := by
                by_cases hjm : j < m'
                · have hu := List.getElem?_eq_getElem (l := x') (i := j) (by omega)
                  by_cases h : (x'[j]'(by omega)).2 ≤ now
                  · exact .inl ⟨_, hu, hjm, h⟩
                  · exact .inr (.inl ⟨_, hu, hjm, by omega⟩)
                · exact .inr (.inr (by omega))
              rcases hcase with ⟨⟨tk, ta⟩, hu, hjm, hdue⟩ | hcase
              · have hjz : (j : Int) < (m' : Int) := by omega
                have hda := due_at hall hu hdue
                have hall2 : AllDue now (x'.take (j + 1)) := fun t ht => by
                  rw [List.take_add_one, hu] at ht
                  rcases List.mem_append.1 ht with h | h
                  · exact hall t h
                  · simp at h
                    subst h
                    exact hdue
                have hjD : j < D := by rw [← hD]; exact (List.getElem?_eq_some_iff.1 hda).1
                have hjDz : ¬ (D : Int) ≤ (j : Int) := by omega
                obtain ⟨b6, off6, u6, rfl, hu6, d0, d1⟩ := hR4.place hjm
                rw [hu] at hu6
                injection hu6 with hu6
                subst hu6
                dsimp only at d0 d1 hda hdue
                obtain ⟨b7, off7, dd, rfl, hdd, e0⟩ := hir.place hjD
                rw [hda] at hdd
                injection hdd with hdd
                subst hdd
                go_wp2_with fail
                go_quiet (fail)
                go_wp2_with fail
                go_roundw
                case rel => exact ⟨j + 1, _, by go_num, by omega, hall2, rfl⟩
                case measure => simp [intOf]; omega
              · have hDj : D = j := by
                  rw [← hD, due_end hall (hcase.elim (fun ⟨u, h1, _, h2⟩ => .inr ⟨u, h1, h2⟩) (fun h => .inl (by omega))), List.length_take]
                  rcases hcase with ⟨u, h1, h2, _⟩ | h <;> omega
                subst hDj
                have hqb := drewN_below w4 q
                have hT5 := hT4.below hqb
                have hRW5 := hRW4.below hqb
                have hb5 := hb4.trans (hqb.mono hb4.size)
                have hR5 : RR (w4.drewN q) A6' m' x' := ⟨hR4.len, hR4.at_⟩
                have hA5 : ∀ ad, A6' = some ad → ad.block < (w4.drewN q).heap.size := hA4
                have hfst := tfirst_any hT5
                obtain ⟨f0, f1, hf⟩ : ∃ f0 f1, earlyP x' = (f0, f1) := ⟨_, _, rfl⟩
                rw [hf] at hfst
                dsimp only at hfst
                clear hir hD hall
                rcases hcase with ⟨⟨tk, ta⟩, hu, hjm, hdue⟩ | hjm
                · obtain ⟨b6, off6, u6, rfl, hu6, d0, d1⟩ := hR4.place hjm
                  rw [hu] at hu6
                  injection hu6 with hu6
                  subst hu6
                  dsimp only at d0 d1 hdue
                  have hjz : (D : Int) < (m' : Int) := by omega
                  have hdz : ¬ ta ≤ now := by omega
                  go_wp2_with fail
                  refine hfst.mono ?_
                  rintro e w6 ⟨rfl, hx6⟩
                  have hT6 := hT5.below hx6
                  have hRW6 := hRW5.below hx6
                  have hb6 := hb5.trans (hx6.mono hb5.size)
                  have hR6 := hR5.below hx6
                  have hA6 : ∀ ad, (some (⟨b6, off6, none⟩ : Addr)) = some ad → ad.block < w6.heap.size := fun ad e => Nat.lt_of_lt_of_le (hA5 ad e) hx6.size
                  have hlen := tlen_any hT6
                  rw [hxl] at hlen
                  have hwk := walks_any _ m' c6' hT6 hR6 (by omega) hc6 hm6 hA6
                  clear hT5 hRW5 hR5 hfst hT4 hRW4 hR4 hx6 hqb hA5 hA4 d0 d1
                  cases x' with
                  | nil =>
                    have hm0 : m' = 0 := by simpa using hxl.symm
                    subst hm0
                    cases hf
                    go_wp2_with fail
                    refine hlen.mono ?_
                    rintro e w' ⟨rfl, hww⟩
                    subst w'
                    go_wp2_with fail
                    refine hwk.mono ?_
                    rintro e w7 ⟨rfl, hx7⟩
                    have hb7 := hb6.trans (hx7.mono hb6.size)
                    go_wp2_with fail
                    go_roundg (n - (k + 1))
                    case measure => omega
                    case rel => exact ⟨k + 1, _, _, _, by go_num, by omega, rfl, hN', hT6.below hx7, hwx', hRW6.below hx7, hb7⟩
                  | cons t l =>
                    obtain ⟨m1, rfl⟩ : ∃ m1, m' = m1 + 1 := ⟨m' - 1, by simp at hxl; omega⟩
                    have hm1z : (0 : Int) < ((m1 + 1 : Nat) : Int) := by omega
                    cases hf
                    obtain ⟨b8, off8, u8, hb8, hu8, g0, g1⟩ := hR6.place (k := 0) (by omega)
                    cases hb8
                    simp at hu8
                    subst hu8
                    simp at g0 g1
                    go_wp2_with fail
                    refine hlen.mono ?_
                    rintro e w' ⟨rfl, hww⟩
                    subst w'
                    go_wp2_with fail
                    refine hwk.mono ?_
                    rintro e w7 ⟨rfl, hx7⟩
                    have hb7 := hb6.trans (hx7.mono hb6.size)
                    go_wp2_with fail
                    go_roundg (n - (k + 1))
                    case measure => omega
                    case rel => exact ⟨k + 1, _, _, _, by go_num, by omega, rfl, hN', hT6.below hx7, hwx', hRW6.below hx7, hb7⟩
                · have hjz : ¬ (D : Int) < (m' : Int) := by omega
                  go_wp2_with fail
                  refine hfst.mono ?_
                  rintro e w6 ⟨rfl, hx6⟩
                  have hT6 := hT5.below hx6
                  have hRW6 := hRW5.below hx6
                  have hb6 := hb5.trans (hx6.mono hb5.size)
                  have hR6 := hR5.below hx6
                  have hA6 : ∀ ad, A6' = some ad → ad.block < w6.heap.size := fun ad e => Nat.lt_of_lt_of_le (hA5 ad e) hx6.size
                  have hlen := tlen_any hT6
                  rw [hxl] at hlen
                  have hwk := walks_any A6' m' c6' hT6 hR6 (by omega) hc6 hm6 hA6
                  clear hT5 hRW5 hR5 hfst hT4 hRW4 hR4 hx6 hqb hA5 hA4
                  cases x' with
                  | nil =>
                    have hm0 : m' = 0 := by simpa using hxl.symm
                    subst hm0
                    cases hf
                    go_wp2_with fail
                    refine hlen.mono ?_
                    rintro e w' ⟨rfl, hww⟩
                    subst w'
                    go_wp2_with fail
                    refine hwk.mono ?_
                    rintro e w7 ⟨rfl, hx7⟩
                    have hb7 := hb6.trans (hx7.mono hb6.size)
                    go_wp2_with fail
                    go_roundg (n - (k + 1))
                    case measure => omega
                    case rel => exact ⟨k + 1, _, _, _, by go_num, by omega, rfl, hN', hT6.below hx7, hwx', hRW6.below hx7, hb7⟩
                  | cons t l =>
                    obtain ⟨m1, rfl⟩ : ∃ m1, m' = m1 + 1 := ⟨m' - 1, by simp at hxl; omega⟩
                    have hm1z : (0 : Int) < ((m1 + 1 : Nat) : Int) := by omega
                    cases hf
                    obtain ⟨b8, off8, u8, rfl, hu8, g0, g1⟩ := hR6.place (k := 0) (by omega)
                    skip
                    simp at hu8
                    subst hu8
                    simp at g0 g1
                    go_wp2_with fail
                    refine hlen.mono ?_
                    rintro e w' ⟨rfl, hww⟩
                    subst w'
                    go_wp2_with fail
                    refine hwk.mono ?_
                    rintro e w7 ⟨rfl, hx7⟩
                    have hb7 := hb6.trans (hx7.mono hb6.size)
                    go_wp2_with fail
                    go_roundg (n - (k + 1))
                    case measure => omega
                    case rel => exact ⟨k + 1, _, _, _, by go_num, by omega, rfl, hN', hT6.below hx7, hwx', hRW6.below hx7, hb7⟩
    · have hlz : ¬ (k : Int) < (n : Int) := by omega
      go_wp2_with fail
      go_ret
      exact ⟨rfl, hb⟩

namespace backoffDoesDone
open Go.ChangeShapes Go.WideShapes Go.ChangeAt
set_option maxRecDepth 100000 in
theorem lifted (os : Os) (started : os.Started) (H : Type) (enc : TypeId × Value → H) :
    ReturnsInHanded {} Try.checked os 5 .any (Rows.backoffDoesSpec.pre6 enc Try.prog Try.f5 Rows.backoffDoesRow.domain false) (Rows.backoffDoesSpec.post enc Try.prog Try.f5 false true false false) := by
  refine returnsInHanded_of_change_sized (C := Try.checked) own started (by kernel_rfl) Try.func5
    (ChangeSpec.witness6 (enc := enc) (C := Try.checked) false ⟨#[], #[Value.slice none 0 0, Value.int .i64 0], []⟩ 8 (by kernel_rfl) (by kernel_rfl) (by kernel_rfl) (by kernel_rfl)) ?_
  intro W base args ds gs before hval0 hW hcnd hsz0 _
  have hsz : (DataW.weightsEach Try.prog (Try.f5.params.toList ++ Rows.backoffDoesSpec.plain.varTypes Try.prog) (ds ++ gs)).all (· ≤ reachBytes) = true := hsz0
  clear hsz0
  have hval : ∀ (j : Nat) t v, Try.f5.params[j]? = some t → args[j]? = some v → Value.okWide Try.prog W .any base t v := hval0
  have hW' := hW
  obtain ⟨p, q, hA0, hV, rfl, hfz, hnd⟩ := hW
  have hA : DataW.TrodAll enc Try.prog W 0 (fun _ => true) true Try.f5.params.toList args.toList ds p := hA0
  rw [Try.params5] at hA hval hsz
  obtain ⟨v0, vs0, d0, ds0, p0, q0, hargs, rfl, rfl, h0, r0⟩ := trodAll_cons hA
  obtain ⟨v1, vs1, d1, ds1, p1, q1, rfl, rfl, rfl, h1, r1⟩ := trodAll_cons r0
  obtain ⟨rfl, rfl, rfl⟩ := trodAll_nil r1
  obtain rfl : args = #[v0, v1] := by cases args; simp_all
  obtain ⟨rfl, rfl⟩ := trodVars_none hV
  obtain ⟨a0, len0, cap0, rfl⟩ := okWide_slice Try.underlying27 (hval 0 27 v0 rfl rfl)
  have k0 := h0
  have lt0 : ∀ x ∈ p0, x.block < W.heap.size := by obtain ⟨m, hm⟩ := k0; exact DataW.trod_lt m _ _ _ hm
  obtain ⟨f0, ho0, hc0, hm0⟩ := ops_open h0
  obtain ⟨a1, rfl, rfl, rfl, w1⟩ := open_int Try.underlying3 (hval 1 3 v1 rfl rfl) h1
  clear hA0 hval0
  refine (backoffDoes_walk (w := W) a0 len0 cap0 f0 ho0 hc0 hm0 a1 w1).mono fun e W' ⟨he, bel⟩ => ?_
  subst he
  exact ⟨_, rfl, _, _, _, [], _, [], hW', trodAll_mk1 (shut_bool Try.underlying4 _), (trodAll_cons_mk (Below.trod laidOut (by kernel_rfl) (of_decide_eq_true (by kernel_rfl)) k0 bel lt0) (trodAll_cons_mk (shut_int Try.underlying3 w1) trodAll_mk0)), rfl, bel.frame _, fun h => by cases h⟩

theorem over : Rows.backoffDoesRow.holds Try.pinned (OpenSpec.ofChange Rows.backoffDoesSpec) :=
  OpenClaim.holds_of_wide 5 Try.f5 rfl rfl rfl rfl rfl rfl rfl ⟨rfl, rfl, rfl, rfl, rfl⟩ rfl rfl rfl rfl rfl (by kernel_rfl) Try.func5 (by kernel_rfl)
    (of_decide_eq_true (by kernel_rfl)) (by unfold Func.isWrapper; first | (rw [if_pos (by decide +kernel)]; kernel_rfl) | (rw [if_neg (by decide +kernel)]; exact ⟨rfl, rfl⟩))
    (fun os started H enc _ => lifted os started H enc)

/-- The statement. -/
theorem proved : Rows.BackoffDoesSaid := over
end backoffDoesDone
end Go.Proofs.Ytiinlcfggjcmoaa
