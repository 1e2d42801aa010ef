/- What holds of a stock besides; what is offered can be held, and what can be held is offered. No condition. -/
import Derived.Test.YtfpcnenohidfpaaGreatStlE
import Derived.Test.YtfpcnenohidfpaaGreatKept6
namespace Go.Proofs.YtfpcnenohidfpaaGreat
open Go.RowKit Go.Shelf
set_option linter.unusedVariables false
set_option linter.unusedSimpArgs false

/-- What holds of a stock; besides, goods that are not known have nothing. -/
structure SKO (f : List UInt8 → Row) (ks : List (List UInt8)) : Prop where
  sk : SK f ks
  out : ∀ g, g ∉ ks → f g = row0
  len64 : ks.length ≤ 64
theorem SKO.start : SKO (fun _ => row0) [] := ⟨SK.start, fun _ _ => rfl, by simp⟩
theorem putsK_size (ks : List (List UInt8)) (k : Int) (f : List UInt8 → Row) (l : List It) (hn : (l.map (·.1)).Nodup) : (putsK ks (pairsR k f l)).length = ks.length + freshN ks l := by
  induction l using snoc_ind with
  | h0 => rfl
  | h1 l x ih =>
    obtain ⟨s, q⟩ := x
    rw [List.map_append, List.nodup_append] at hn
    have hs : s ∉ l.map (·.1) := fun h => hn.2.2 s h s (by simp) rfl
    have hp : pairsR k f (l ++ [(s, q)]) = pairsR k f l ++ [(s, doneR k q (f s))] := by simp [pairsR]
    rw [hp, putsK_snoc, freshN_snoc]
    have hi := ih hn.1
    unfold addS
    by_cases hk : s ∈ ks
    · rw [if_pos hk, if_pos ((putsK_mem _ _ _).2 (.inl hk)), hi]
      omega
    · rw [if_neg hk, if_neg (fun e => ((putsK_mem _ _ _).1 e).elim hk (fun e => hs (by rw [pairs_map] at e; exact e))), List.length_append, hi]
      simp
      omega
theorem SKO.do_ {f : List UInt8 → Row} {ks : List (List UInt8)} (h : SKO f ks) (k : Int) (l : List It) : SKO (doF f ks k l) (doK f ks k l) := by
  refine ⟨h.sk.do_ k l, fun g hg => ?_, ?_⟩
  · by_cases h0 : doE f ks k l = 0
    · unfold doK at hg
      rw [if_pos h0, putsK_mem, pairs_map] at hg
      rw [doF_no (fun e => hg (.inr e))]
      exact h.out g (fun e => hg (.inl e))
    · unfold doK at hg
      rw [if_neg h0] at hg
      unfold doF
      rw [if_neg h0]
      exact h.out g hg
  · by_cases h0 : doE f ks k l = 0
    · obtain ⟨_, hm, _, _, _, hk⟩ := doE_zero h0
      unfold doK
      rw [if_pos h0, putsK_size _ _ _ _ (MY.of_ hm).nodup]
      exact hk
    · unfold doK
      rw [if_neg h0]
      exact h.len64
theorem SKO.cnt {f : List UInt8 → Row} {ks : List (List UInt8)} (h : SKO f ks) (s : List UInt8) (n : Int) : SKO (cntF f ks s n) ks := by
  refine ⟨h.sk.cnt s n, fun g hg => ?_, h.len64⟩
  by_cases h0 : cntE f ks s n = 0
  · have hs := cntE_in h0
    unfold cntF
    rw [if_pos h0]
    show (if g = s then _ else f g) = row0
    rw [if_neg (fun e => hg (by rw [e]; exact hs))]
    exact h.out g hg
  · unfold cntF
    rw [if_neg h0]
    exact h.out g hg
theorem hold_over {r : Row} {q : Int} (h : overR r = false) (h1 : 1 ≤ q) (h2 : q ≤ r.fr) : overR (doneR 2 q r) = false := by
  obtain ⟨⟨a, b, c, d⟩, s, fl⟩ := over_no h
  rw [done2, w64 (by omega), w64 (by omega)]
  exact over_mk (by dsimp only; omega) (by dsimp only; omega) (by dsimp only; omega) (by dsimp only; omega) (by dsimp only; omega) fl
section
variable {f : List UInt8 → Row} {ks : List (List UInt8)} (h : SKO f ks)
include h
theorem SKO.fr (g : List UInt8) : 0 ≤ (f g).fr ∧ (f g).fr ≤ 1099511627776 := (over_no (h.sk.over g)).1.1
theorem SKO.knows {g : List UInt8} (hg : 1 ≤ (f g).fr) : g ∈ ks := Classical.byContradiction fun hn => by
  rw [h.out g hn] at hg
  exact absurd hg (by decide)
theorem SKO.hold {l : List It} (hm : mayL l = true) (hq : ∀ (g : List UInt8) (q : Int), (g, q) ∈ l → q ≤ (f g).fr) : doE f ks 2 l = 0 := by
  have hmy := MY.of_ hm
  refine doE_mk rfl hm (fun x hx => h.knows ?_) (fun g q hx => hold_over (h.sk.over g) (hmy.num _ hx).1 (hq g q hx)) h.len64
  have h1 := (hmy.num _ hx).1
  have h2 := hq x.1 x.2 hx
  omega
theorem SKO.held {l : List It} (h0 : doE f ks 2 l = 0) : ∀ (g : List UInt8) (q : Int), (g, q) ∈ l → q ≤ (f g).fr := fun g q hx => by
  obtain ⟨_, hm, _, hl, _, _⟩ := doE_zero h0
  have hq := (MY.of_ hm).num _ hx
  dsimp only at hq
  have hf := h.fr g
  have hl2 := any_no hl hx
  obtain ⟨⟨a, b, c, d⟩, _, _⟩ := over_no (h.sk.over g)
  rw [done2, w64 (by omega), w64 (by omega)] at hl2
  unfold lackR lackB at hl2
  have := of_decide_eq_false hl2
  dsimp only at this
  omega
theorem free_my {l : List It} (hm : MY l) : MY (freeL f l) := by
  refine ⟨?_, fun x hx => ?_, fun x hx => ?_, ?_⟩
  · have : ((freeL f l).map (·.1)).Sublist (l.map (·.1)) := by
      unfold freeL
      rw [List.map_map]
      exact (List.filter_sublist).map _
    exact hm.rise.sublist this
  · unfold freeL at hx
    obtain ⟨y, hy, rfl⟩ := List.mem_map.1 hx
    have h1 := of_decide_eq_true (List.mem_filter.1 hy).2
    have h2 := h.fr y.1
    exact ⟨by dsimp only; omega, h2.2⟩
  · unfold freeL at hx
    obtain ⟨y, hy, rfl⟩ := List.mem_map.1 hx
    exact hm.good y (List.mem_filter.1 hy).1
  · exact Nat.le_trans (freeL_len f l) hm.len
theorem free_of {l : List It} (hm : MY l) {x : It} (hx : x ∈ l) : ofL (freeL f l) x.1 = (f x.1).fr := by
  by_cases h0 : 0 < (f x.1).fr
  · have hy : (x.1, (f x.1).fr) ∈ freeL f l := by
      unfold freeL
      exact List.mem_map.2 ⟨x, List.mem_filter.2 ⟨hx, decide_eq_true h0⟩, rfl⟩
    exact (free_my h hm).of_mem hy
  · have h1 := h.fr x.1
    rw [of_none (fun y hy e => ?_)]
    · omega
    · unfold freeL at hy
      obtain ⟨z, hz, rfl⟩ := List.mem_map.1 hy
      have := of_decide_eq_true (List.mem_filter.1 hz).2
      dsimp only at e
      rw [e] at this
      omega
/-- What is offered. -/
theorem offer_ok {l : List It} (hm : mayL l = true) : doE f ks 2 (meetL l (freeL f l)) = 0 ∧ decide (meetL l (freeL f l) = l) = decide (doE f ks 2 l = 0) := by
  have hmy := MY.of_ hm
  have hfm := free_my h hmy
  have hO := MY.meet hmy hfm
  have hmem := fun (y : It) => mem_meet (y := y) hmy hfm
  have hle : ∀ (g : List UInt8) (q : Int), (g, q) ∈ meetL l (freeL f l) → q ≤ (f g).fr := fun g q hx => by
    obtain ⟨x, hx1, hx2, hx3⟩ := (hmem _).1 hx
    rw [free_of h hmy hx1] at hx3
    injection hx3 with h3 h4
    subst h3
    omega
  refine ⟨h.hold hO.may hle, decide_eq_decide.2 ⟨fun e => ?_, fun e => ?_⟩⟩
  · rw [e] at hle
    exact h.hold hm hle
  · have hh := h.held e
    refine MY.ext hO hmy fun x => ⟨fun hx => ?_, fun hx => ?_⟩
    · obtain ⟨y, hy1, hy2, rfl⟩ := (hmem _).1 hx
      rw [free_of h hmy hy1]
      have := hh y.1 y.2 hy1
      rw [show min y.2 (f y.1).fr = y.2 by omega]
      exact hy1
    · refine (hmem _).2 ⟨x, hx, ?_⟩
      rw [free_of h hmy hx]
      have h1 := hh x.1 x.2 hx
      have h2 := (hmy.num x hx).1
      rw [show min x.2 (f x.1).fr = x.2 by omega]
      exact ⟨by omega, rfl⟩
end
theorem offer_no {f : List UInt8 → Row} {ks : List (List UInt8)} {l : List It} (hm : mayL l = false) : meetL l (freeL f l) = [] ∧ doE f ks 2 l ≠ 0 := by
  refine ⟨?_, ?_⟩
  · unfold meetL
    rw [hm]
    rfl
  · unfold doE
    rw [if_neg (by decide), if_pos hm]
    decide
end Go.Proofs.YtfpcnenohidfpaaGreat
