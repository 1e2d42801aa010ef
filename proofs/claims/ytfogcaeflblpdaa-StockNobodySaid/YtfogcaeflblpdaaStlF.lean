/- Offer of a nil stock. No condition but the list's size. -/
import Derived.Test.YtfogcaeflblpdaaStlE
namespace Go.Proofs.Ytfogcaeflblpdaa
open Go.RowKit Go.Maps Go.Shelf Go.Sort
set_option linter.unusedVariables false
set_option linter.unusedSimpArgs false
attribute [local go_sem] Oper.semAt_some

theorem meet_none (l : List It) : meetL l [] = [] := by
  unfold meetL
  cases hm : mayL l && mayL [] with
  | false => rfl
  | true =>
    rw [Bool.and_eq_true] at hm
    have hmy := MY.of_ hm.1
    show leftL _ l = []
    unfold leftL
    rw [List.filterMap_eq_nil_iff]
    intro x hx
    have h1 := (hmy.num x hx).1
    have h2 : ofL [] x.1 = 0 := rfl
    exact if_pos (show min x.2 (ofL [] x.1) = 0 by rw [h2]; omega)
set_option maxRecDepth 100000 in
set_option maxHeartbeats 3200000 in
theorem offer_nil (A : Option Addr) (n c : Nat) (l : List It) (w : World) (hl : IL w A n l) (hn : n * 24 ≤ 140737488355328) (hwl : WL l) (hw : ∀ x ∈ l, x.1.length ≤ maxLen) :
    Calls Try.prog 18 #[.pointer none, .slice A n c] w fun e w' => ∃ av ac, e = .returned (.slice av 0 ac) ∧ Below w.heap.size w w' := by
  have hlen := hl.len
  refine (callsIn_wide (n := 9)).1 ?_
  refine callsIn_of_wp_marks Try.func18 rfl trivial ?_ rfl
  simp only [Try.ntmps18, List.size_toArray, List.length_cons, List.length_nil, Nat.reduceAdd, Nat.reduceSub, Array.replicate_succ, Array.replicate_zero, List.push_toArray, List.append_toArray, List.nil_append, List.cons_append]
  have hP0 := CL.new w (.pointer none) 24
  have hl0 := hl.alloc (.cells #[.pointer none] 24)
  have hl2 := hl0.alloc (.cells #[.slice none 0 0] 23)
  have hb0 := (Below.refl w.heap.size w).alloc (Nat.le_refl _) (.cells #[.pointer none] 24)
  have hb2' := hb0.alloc hb0.size (.cells #[.slice none 0 0] 23)
  have hT1 := CL.new (w.alloc (.cells #[.pointer none] 24)) (.slice none 0 0) 23
  rw [World.size_alloc] at hT1
  have hP1 := hP0.alloc (.cells #[.slice none 0 0] 23)
  gi_wp2_with (refine ⟨trivial, ?_⟩; gi_at_call 41; refine (callsIn_wide.2 (all_new A n c l _ (by assumption) (by omega))).mono ?_; rintro e w2 ⟨B, CA, cc, rfl, hBl, hC, hil, hCN, hb2⟩)
  generalize hW1 : (w.alloc (.cells #[.pointer none] 24)).alloc (.cells #[.slice none 0 0] 23) = W1 at *
  have hz1 : W1.heap.size = w.heap.size + 2 := by rw [← hW1]; simp
  have hbw2 := hb2'.trans (hb2.mono hb2'.size)
  have hP2 := hP1.below hb2
  have hT2 := hT1.below hb2
  have hz2 := hb2.size
  have hCA := hil.lt
  clear hW1 hP0 hl0 hl2 hb0 hP1 hT1
  refine range_over' CA l.length cc l B (fun k => k = w.heap.size + 1) rfl rfl hC.at_ hil (fun ad h h' => ?ca) (by omega)
    (fun pre W => CL W w.heap.size (.pointer none) ∧ CL W (w.heap.size + 1) (.slice none 0 0) ∧ Below w.heap.size w W)
    (fun c pre W => False)
    (fun s X Y row h hg hr => ⟨h.1.row hg hr, h.2.1.row hg hr, below_row h.2.2 hg (by have := h.2.1.lt; omega) (by omega) hr⟩)
    (fun c s X Y row h hg hr => h)
    ⟨hP2, hT2, hbw2⟩ ?round ?done ?stop
  case ca =>
    have h1 := hCN ad h h'
    show ad.block ≠ w.heap.size + 1
    omega
  case round =>
    apply Exists.intro
    constructor
    · intro l' x W K hx hK
      gi_wp2
      exact hK
    · rintro l' pre ⟨s, q⟩ W hx hzW ⟨hP, hT, hb⟩ hlen
      dsimp only at hx ⊢
      have hsl := hw _ hx
      have hlv := level_nil W s
      have c0 := hP.at_
      have hxd : decide ((0 : Int) < 0) = false := rfl
      gi_wp2_with (refine ⟨trivial, ?_⟩; gi_at_call 16; refine (CallsIn.inRound l' (callsIn_wide.2 hlv)).mono ?_; rintro e W2 ⟨rfl, hb2⟩; have hfd := lev_free (.int .i64 0) (.int .i64 0) (.int .i64 0) (.int .i64 0) W2)
      exact ⟨Keep.from_below hb2, (Keep.ofB hb2).kx hzW (fun i hi e => e), hP.below hb2, hT.below hb2, hb.trans (hb2.mono hb.size)⟩
  case done =>
    rintro D W hD ⟨hP, hT, hb⟩ hDf
    have hl7 := hl.below hb
    have c1 := hT.at_
    have hl1 := hT.lt
    gi_wp2_with fail
    refine ⟨trivial, ?_⟩
    refine (callsIn_wide.2 (meet_any A none n c 0 0 l [] W hl7 (IL.nil _ _) (by omega) (by omega) hwl)).mono ?_
    rintro e W3 ⟨v3, rfl, ho3, hb3⟩
    rw [meet_none] at ho3
    obtain ⟨A7, cap7, rfl, _⟩ := ho3.form
    gi_wp2
    have hDf3 : W3.heap[D]? = some (.deferred (some [])) := (hb3.block D (Array.getElem?_eq_some_iff.1 hDf).1).trans hDf
    have hb4 := hb.trans (hb3.mono hb.size)
    refine ⟨by simp, .inl ⟨_, _, rfl, run_takeDeferred hDf3, ?_⟩⟩
    exact ⟨.slice A7 0 cap7, by simp [results, Try.results18, go_sem], A7, cap7, rfl, below_putD hb4 (by omega) hDf3⟩
  case stop =>
    rintro D c pre W hD hpre hF hDf
    exact hF.elim
end Go.Proofs.Ytfogcaeflblpdaa
