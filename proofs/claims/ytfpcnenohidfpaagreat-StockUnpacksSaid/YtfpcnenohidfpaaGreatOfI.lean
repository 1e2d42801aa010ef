/- Of, Total; the smaller, the greater; both lists may be. No condition but that the lists are ones of memory. -/
import Derived.Test.YtfpcnenohidfpaaGreatMayI
namespace Go.Proofs.YtfpcnenohidfpaaGreat
open Go.RowKit Go.Maps Go.Shelf
set_option linter.unusedVariables false
set_option linter.unusedSimpArgs false
attribute [local go_sem] Oper.semAt_some

set_option maxRecDepth 100000 in
set_option maxHeartbeats 1600000 in
theorem of_any (A : Option Addr) (n c : Nat) (l : List It) (g : List UInt8) (w : World) (hl : IL w A n l) (hn : n ≤ 9223372036854775807) :
    Calls Tryz.prog 80 #[.slice A n c, .string ⟨g.toArray⟩] w fun e w' => e = .returned (.int .i64 (ofL l g)) ∧ Below w.heap.size w w' := by
  refine (callsIn_wide (n := 9)).1 ?_
  refine callsIn_of_wp_marks Tryz.func80 rfl trivial ?_ rfl
  simp only [Tryz.ntmps80, List.size_toArray, List.length_cons, List.length_nil, Nat.reduceAdd, Nat.reduceSub, Array.replicate_succ, Array.replicate_zero, List.push_toArray, List.append_toArray, List.nil_append, List.cons_append]
  gi_wp2_with (refine ⟨trivial, ?_⟩; gi_at_call 66; refine (callsIn_wide.2 (over_make A n c _)).mono ?_; rintro e w' ⟨rfl, rfl⟩)
  have hG := ((CL.new w (.string ⟨g.toArray⟩) 9).alloc (.cells #[.int .i64 0] 3)).alloc (.cells #[.slice A n c] 67)
  have hS := (CL.new (w.alloc (.cells #[.string ⟨g.toArray⟩] 9)) (.int .i64 0) 3).alloc (.cells #[.slice A n c] 67)
  have hC := CL.new ((w.alloc (.cells #[.string ⟨g.toArray⟩] 9)).alloc (.cells #[.int .i64 0] 3)) (.slice A n c) 67
  have hl3 := ((hl.alloc (.cells #[.string ⟨g.toArray⟩] 9)).alloc (.cells #[.int .i64 0] 3)).alloc (.cells #[.slice A n c] 67)
  have hb3 := (((Below.refl w.heap.size w).alloc (Nat.le_refl _) (.cells #[.string ⟨g.toArray⟩] 9)).alloc (by simp) (.cells #[.int .i64 0] 3)).alloc (by simp; omega) (.cells #[.slice A n c] 67)
  rw [World.size_alloc] at hS
  rw [World.size_alloc, World.size_alloc] at hC
  generalize hW : ((w.alloc (.cells #[.string ⟨g.toArray⟩] 9)).alloc (.cells #[.int .i64 0] 3)).alloc (.cells #[.slice A n c] 67) = W0 at *
  have hz0 : W0.heap.size = w.heap.size + 1 + 1 + 1 := by rw [← hW]; simp
  clear hW
  refine range_over' A n c l (w.heap.size + 1 + 1) (fun k => k = w.heap.size + 1) rfl rfl hC.at_ hl3 (fun ad h h' => by have := hl.lt ad h h'; omega) hn
    (fun pre W => CL W w.heap.size (.string ⟨g.toArray⟩) ∧ CL W (w.heap.size + 1) (.int .i64 (ofL pre g)) ∧ Below w.heap.size w W)
    (fun c pre W => False)
    (fun s X Y row h hg hr => ⟨h.1.row hg hr, h.2.1.row hg hr, below_row h.2.2 hg (by have := h.1.lt; omega) (by omega) hr⟩)
    (fun c s X Y row h hg hr => h)
    ⟨hG, hS, hb3⟩ ?round ?done ?stop
  case round =>
    apply Exists.intro
    constructor
    · intro l' x W K hx hK
      gi_wp2
      exact hK
    · rintro l' pre ⟨s, q⟩ W hx hzW ⟨hg, hs, hb⟩ hlen
      dsimp only at hx ⊢
      have hsn := ofL_snoc pre (s, q) g
      have r0 := hg.at_
      have c0 := hs.at_
      have g0 := hs.fz
      by_cases he : s = g
      · have he' := he.symm
        subst he'
        rw [if_pos rfl] at hsn
        gi_wp2
        refine ⟨(KeepsOthers.setCell W _ _).from _, ⟨by simp [World.setCell], fun k hk hS => Below.heap_setCell _ _ _ _ (by dsimp only; omega)⟩, hg.other (by omega) _ _, ?_, hb.setCell (p := ⟨w.heap.size + 1, 0, none⟩) (by dsimp only; omega) _⟩
        rw [hsn]
        exact hs.set_ _
      · have hee : (s == g) = false := by simp [he]
        rw [if_neg (by exact he)] at hsn
        gi_wp2
        refine ⟨KeepsFrom.refl _ _, KX.refl _ _ _, hg, ?_, hb⟩
        rw [hsn]
        exact hs
  case done =>
    rintro D W hD ⟨hg, hs, hb⟩ hDf
    have c0 := hs.at_
    dsimp only
    gi_wp2
    refine ⟨by simp, .inl ⟨_, _, rfl, run_takeDeferred hDf, ?_⟩⟩
    exact ⟨_, results_tmp rfl _ _ _, rfl, below_putD hb (by omega) hDf⟩
  case stop => exact fun D c pre W hD hpre h hDf => h.elim

theorem mayBoth_any (A A' : Option Addr) (n c n' c' : Nat) (l l' : List It) (w : World) (hl : IL w A n l) (hl' : IL w A' n' l') (hn : n ≤ 9223372036854775807) (hn' : n' ≤ 9223372036854775807) :
    Calls Tryz.prog 79 #[.slice A n c, .slice A' n' c'] w fun e w' => e = .returned (.bool (mayL l && mayL l')) ∧ Below w.heap.size w w' := by
  cases h1 : mayL l with
  | false =>
    go_enter Tryz.func79, Tryz.ntmps79
    go_wp2_with (go_at_call 50; refine (mayI_any A n c l _ hl hn).mono ?_; rintro e w1 ⟨rfl, hb1⟩; rw [h1])
    go_ret
    exact ⟨rfl, hb1⟩
  | true =>
    go_enter Tryz.func79, Tryz.ntmps79
    go_wp2_with fail
    refine (mayI_any A n c l _ hl hn).mono ?_
    rintro e w1 ⟨rfl, hb1⟩
    have hl1 := hl'.below hb1
    rw [h1]
    go_wp2_with fail
    refine (mayI_any A' n' c' l' _ hl1 hn').mono ?_
    rintro e w2 ⟨rfl, hb2⟩
    go_wp2_with fail
    go_ret
    exact ⟨by simp, hb1.trans (hb2.mono hb1.size)⟩

theorem meet1_any (n m : Int) (w : World) : Calls Tryz.prog 72 #[.int .i64 n, .int .i64 m] w fun e w' => e = .returned (.int .i64 (min n m)) ∧ w' = w := by
  go_enter Tryz.func72, Tryz.ntmps72
  go_wp2
  all_goals (go_ret; exact ⟨by simp, rfl⟩)
end Go.Proofs.YtfpcnenohidfpaaGreat
