/- May, over a list of items. No condition but that the list is one of memory. -/
import Derived.Test.YtfpcnenohidfpaaGreatGood
namespace Go.Proofs.YtfpcnenohidfpaaGreat
open Go.RowKit Go.Maps Go.Shelf
set_option linter.unusedVariables false
set_option linter.unusedSimpArgs false
attribute [local go_sem] Oper.semAt_some

theorem mayFrom_not {l pre : List It} (hp : pre <+: l) (h : mayFrom [] pre = false) : mayFrom [] l = false := by
  obtain ⟨t, rfl⟩ := hp
  have : ∀ (a : List It) (last : List UInt8), mayFrom last a = false → mayFrom last (a ++ t) = false := by
    intro a
    induction a with
    | nil => intro last h; simp [mayFrom] at h
    | cons x a ih =>
      intro last h
      rw [List.cons_append, mayFrom]
      rw [mayFrom] at h
      cases ho : okAt last x with
      | false => rfl
      | true =>
        rw [ho, Bool.true_and] at h
        rw [Bool.true_and]
        exact ih _ h
  exact this _ _ h

set_option maxRecDepth 100000 in
set_option maxHeartbeats 1600000 in
theorem mayI_any (A : Option Addr) (n c : Nat) (l : List It) (w : World) (hl : IL w A n l) (hn : n ≤ 9223372036854775807) :
    Calls Tryz.prog 50 #[.slice A n c] w fun e w' => e = .returned (.bool (mayL l)) ∧ Below w.heap.size w w' := by
  refine (callsIn_wide (n := 9)).1 ?_
  by_cases h16 : n ≤ 16
  case neg =>
    have hz : (16 : Int) < (n : Int) := by omega
    have hm : mayL l = false := by simp [mayL, hl.len, h16]
    refine callsIn_of_wp_marks Tryz.func50 rfl trivial ?_ rfl
    simp only [Tryz.ntmps50, List.size_toArray, List.length_cons, List.length_nil, Nat.reduceAdd, Nat.reduceSub, Array.replicate_succ, Array.replicate_zero, List.push_toArray, List.append_toArray, List.nil_append, List.cons_append]
    gi_wp2
    have hR := CL.new w (.bool false) 4
    refine ⟨.bool false, by simp [results, Tryz.f50, go_sem, hR.at_], by rw [hm], (Below.refl w.heap.size w).alloc (Nat.le_refl _) _⟩
  have hz : ¬ (16 : Int) < (n : Int) := by omega
  have hm : mayL l = mayFrom [] l := by simp [mayL, hl.len, h16]
  rw [hm]
  refine callsIn_of_wp_marks Tryz.func50 rfl trivial ?_ rfl
  simp only [Tryz.ntmps50, List.size_toArray, List.length_cons, List.length_nil, Nat.reduceAdd, Nat.reduceSub, Array.replicate_succ, Array.replicate_zero, List.push_toArray, List.append_toArray, List.nil_append, List.cons_append]
  gi_wp2_with (refine ⟨trivial, ?_⟩; gi_at_call 66; refine (callsIn_wide.2 (over_make A n c _)).mono ?_; rintro e w' ⟨rfl, rfl⟩)
  have hR := ((CL.new w (.bool false) 4).alloc (.cells #[.string ⟨#[]⟩] 9)).alloc (.cells #[.slice A n c] 67)
  have hL := (CL.new (w.alloc (.cells #[.bool false] 4)) (.string ⟨#[]⟩) 9).alloc (.cells #[.slice A n c] 67)
  have hC := CL.new ((w.alloc (.cells #[.bool false] 4)).alloc (.cells #[.string ⟨#[]⟩] 9)) (.slice A n c) 67
  have hl3 := ((hl.alloc (.cells #[.bool false] 4)).alloc (.cells #[.string ⟨#[]⟩] 9)).alloc (.cells #[.slice A n c] 67)
  have hb3 := (((Below.refl w.heap.size w).alloc (Nat.le_refl _) (.cells #[.bool false] 4)).alloc (by simp) (.cells #[.string ⟨#[]⟩] 9)).alloc (by simp; omega) (.cells #[.slice A n c] 67)
  rw [World.size_alloc] at hL
  rw [World.size_alloc, World.size_alloc] at hC
  generalize hW : ((w.alloc (.cells #[.bool false] 4)).alloc (.cells #[.string ⟨#[]⟩] 9)).alloc (.cells #[.slice A n c] 67) = W0 at *
  have hz0 : W0.heap.size = w.heap.size + 1 + 1 + 1 := by rw [← hW]; simp
  clear hW
  refine range_over' A n c l (w.heap.size + 1 + 1) (fun k => k = w.heap.size ∨ k = w.heap.size + 1) rfl rfl hC.at_ hl3 (fun ad h h' => by have := hl.lt ad h h'; omega) hn
    (fun pre W => mayFrom [] pre = true ∧ CL W w.heap.size (.bool false) ∧ CL W (w.heap.size + 1) (.string ⟨(lastOf pre).toArray⟩) ∧ Below w.heap.size w W)
    (fun c pre W => c = .ret ∧ mayFrom [] pre = false ∧ CL W w.heap.size (.bool false) ∧ Below w.heap.size w W)
    (fun s X Y row h hg hr => ⟨h.1, h.2.1.row hg hr, h.2.2.1.row hg hr, below_row h.2.2.2 hg (by have := h.2.1.lt; omega) (by omega) hr⟩)
    (fun c s X Y row h hg hr => ⟨h.1, h.2.1, h.2.2.1.row hg hr, below_row h.2.2.2 hg (by have := h.2.2.1.lt; omega) (by omega) hr⟩)
    ⟨rfl, hR, hL, hb3⟩ ?round ?done ?stop
  case round =>
    apply Exists.intro
    constructor
    · intro l' x W K hx hK
      gi_wp2
      exact hK
    · rintro l' pre ⟨s, q⟩ W hx hzW ⟨hp, hr, hla, hb⟩ hlen
      dsimp only at hx ⊢
      obtain ⟨la, hlae⟩ : ∃ la, lastOf pre = la := ⟨_, rfl⟩
      rw [hlae] at hla
      have r0 := hr.at_
      have f0 := hr.fz
      have c0 := hla.at_
      have g0 := hla.fz
      by_cases hg : gOK s = true
      case neg =>
        have hg : gOK s = false := by simpa using hg
        have hmf : mayFrom [] (pre ++ [(s, q)]) = false := by
          rw [mayFrom_snoc, hp, Bool.true_and]
          show okAt (lastOf pre) (s, q) = false
          rw [hlae]
          simp [okAt, hg]
        gi_wp2_with (first | (refine ⟨trivial, ?_⟩; gi_at_call 14; refine (CallsIn.inRound l' (callsIn_wide.2 (good_any s _))).mono ?_; rintro e W2 ⟨rfl, hb2⟩; rw [hg]; have hr2 := hr.below hb2; have hla2 := hla.below hb2; have hbw2 := hb.trans (hb2.mono hb.size); have r2 := hr2.at_; have f2 := hr2.fz; have c2 := hla2.at_; have g2 := hla2.fz) | (refine ⟨trivial, ?_⟩; gi_at_call 43; refine (CallsIn.inRound l' (callsIn_wide.2 (may_any q _))).mono ?_; rintro e W3 ⟨rfl, h3⟩; have h3 := h3.symm; subst h3; rw [hq]) | refine ⟨trivial, ?_⟩)
        exact ⟨(Keep.from_below hb2).trans ((KeepsOthers.setCell W2 _ _).from _), rfl, hmf, hr2.set_ _, hbw2.setCell (p := ⟨w.heap.size, 0, none⟩) (Nat.le_refl _) _⟩
      by_cases hs : s ≤ la
      case pos =>
        have hsd := run_str_leq 9 s la true (by simp [hs])
        have hmf : mayFrom [] (pre ++ [(s, q)]) = false := by
          rw [mayFrom_snoc, hp, Bool.true_and]
          show okAt (lastOf pre) (s, q) = false
          rw [hlae]
          simp [okAt, hs]
        gi_wp2_with (first | (refine ⟨trivial, ?_⟩; gi_at_call 14; refine (CallsIn.inRound l' (callsIn_wide.2 (good_any s _))).mono ?_; rintro e W2 ⟨rfl, hb2⟩; rw [hg]; have hr2 := hr.below hb2; have hla2 := hla.below hb2; have hbw2 := hb.trans (hb2.mono hb.size); have r2 := hr2.at_; have f2 := hr2.fz; have c2 := hla2.at_; have g2 := hla2.fz) | (refine ⟨trivial, ?_⟩; gi_at_call 43; refine (CallsIn.inRound l' (callsIn_wide.2 (may_any q _))).mono ?_; rintro e W3 ⟨rfl, h3⟩; have h3 := h3.symm; subst h3; rw [hq]) | refine ⟨trivial, ?_⟩)
        exact ⟨(Keep.from_below hb2).trans ((KeepsOthers.setCell W2 _ _).from _), rfl, hmf, hr2.set_ _, hbw2.setCell (p := ⟨w.heap.size, 0, none⟩) (Nat.le_refl _) _⟩
      have hsd := run_str_leq 9 s la false (by simp [hs])
      by_cases hq0 : q = 0
      case pos =>
        subst hq0
        have hmf : mayFrom [] (pre ++ [(s, 0)]) = false := by
          rw [mayFrom_snoc, hp, Bool.true_and]
          simp [okAt]
        gi_wp2_with (first | (refine ⟨trivial, ?_⟩; gi_at_call 14; refine (CallsIn.inRound l' (callsIn_wide.2 (good_any s _))).mono ?_; rintro e W2 ⟨rfl, hb2⟩; rw [hg]; have hr2 := hr.below hb2; have hla2 := hla.below hb2; have hbw2 := hb.trans (hb2.mono hb.size); have r2 := hr2.at_; have f2 := hr2.fz; have c2 := hla2.at_; have g2 := hla2.fz) | (refine ⟨trivial, ?_⟩; gi_at_call 43; refine (CallsIn.inRound l' (callsIn_wide.2 (may_any 0 _))).mono ?_; rintro e W3 ⟨rfl, h3⟩; have h3 := h3.symm; subst h3; rw [hq]) | refine ⟨trivial, ?_⟩)
        exact ⟨(Keep.from_below hb2).trans ((KeepsOthers.setCell W2 _ _).from _), rfl, hmf, hr2.set_ _, hbw2.setCell (p := ⟨w.heap.size, 0, none⟩) (Nat.le_refl _) _⟩
      have hqb : (q == 0) = false := beq_eq_false_iff_ne.2 hq0
      by_cases hq : cMay q = true
      case neg =>
        have hq : cMay q = false := by simpa using hq
        have hmf : mayFrom [] (pre ++ [(s, q)]) = false := by
          rw [mayFrom_snoc, hp, Bool.true_and]
          show okAt (lastOf pre) (s, q) = false
          rw [hlae]
          simp [okAt, hq]
        gi_wp2_with (first | (refine ⟨trivial, ?_⟩; gi_at_call 14; refine (CallsIn.inRound l' (callsIn_wide.2 (good_any s _))).mono ?_; rintro e W2 ⟨rfl, hb2⟩; rw [hg]; have hr2 := hr.below hb2; have hla2 := hla.below hb2; have hbw2 := hb.trans (hb2.mono hb.size); have r2 := hr2.at_; have f2 := hr2.fz; have c2 := hla2.at_; have g2 := hla2.fz) | (refine ⟨trivial, ?_⟩; gi_at_call 43; refine (CallsIn.inRound l' (callsIn_wide.2 (may_any q _))).mono ?_; rintro e W3 ⟨rfl, h3⟩; have h3 := h3.symm; subst h3; rw [hq]) | refine ⟨trivial, ?_⟩)
        exact ⟨(Keep.from_below hb2).trans ((KeepsOthers.setCell W2 _ _).from _), rfl, hmf, hr2.set_ _, hbw2.setCell (p := ⟨w.heap.size, 0, none⟩) (Nat.le_refl _) _⟩
      have hmf : mayFrom [] (pre ++ [(s, q)]) = true := by
        rw [mayFrom_snoc, hp, Bool.true_and]
        show okAt (lastOf pre) (s, q) = true
        rw [hlae]
        simp [okAt, hg, hs, hq0, hq]
      gi_wp2_with (first | (refine ⟨trivial, ?_⟩; gi_at_call 14; refine (CallsIn.inRound l' (callsIn_wide.2 (good_any s _))).mono ?_; rintro e W2 ⟨rfl, hb2⟩; rw [hg]; have hr2 := hr.below hb2; have hla2 := hla.below hb2; have hbw2 := hb.trans (hb2.mono hb.size); have r2 := hr2.at_; have f2 := hr2.fz; have c2 := hla2.at_; have g2 := hla2.fz) | (refine ⟨trivial, ?_⟩; gi_at_call 43; refine (CallsIn.inRound l' (callsIn_wide.2 (may_any q _))).mono ?_; rintro e W3 ⟨rfl, h3⟩; have h3 := h3.symm; subst h3; rw [hq]) | refine ⟨trivial, ?_⟩)
      refine ⟨(Keep.from_below hb2).trans ((KeepsOthers.setCell W2 _ _).from _), ⟨?_, ?_⟩, hmf, hr2.other (by omega) _ _, ?_, hbw2.setCell (p := ⟨w.heap.size + 1, 0, none⟩) (by dsimp only; omega) _⟩
      · exact Nat.le_trans hb2.size (by simp [World.setCell])
      · intro k hk hS
        rw [Below.heap_setCell _ _ _ _ (by dsimp only; omega)]
        exact hb2.block k (by omega)
      · rw [lastOf_snoc]
        exact hla2.set_ _
  case done =>
    rintro D W hD ⟨hp, hr, hla, hb⟩ hDf
    have r0 := hr.at_
    have f0 := hr.fz
    dsimp only
    gi_wp2
    have hD4 := (Below.heap_setCell W ⟨w.heap.size, 0, none⟩ (.bool true) D (by dsimp only; omega)).trans hDf
    refine ⟨by simp, .inl ⟨_, _, rfl, run_takeDeferred hD4, ?_⟩⟩
    have hc5 := ((hr.set_ (.bool true)).iter D _ (.deferred none) hD4 rfl).at_
    exact ⟨.bool true, by simp [results, Tryz.f50, go_sem, hc5], by rw [hp], below_putD (hb.setCell (p := ⟨w.heap.size, 0, none⟩) (Nat.le_refl _) _) (by omega) hD4⟩
  case stop =>
    rintro D c pre W hD hpre ⟨rfl, hp, hr, hb⟩ hDf
    have hnot := mayFrom_not hpre hp
    dsimp only
    gi_wp2
    refine ⟨by simp, .inl ⟨_, _, rfl, run_takeDeferred hDf, ?_⟩⟩
    have hc5 := (hr.iter D _ (.deferred none) hDf rfl).at_
    exact ⟨.bool false, by simp [results, Tryz.f50, go_sem, hc5], by rw [hnot], below_putD hb (by omega) hDf⟩
end Go.Proofs.YtfpcnenohidfpaaGreat
