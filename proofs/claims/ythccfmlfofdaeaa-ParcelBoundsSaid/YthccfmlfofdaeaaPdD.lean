/- What holds of parcels and two counts of a good behind any calls. No condition. -/
import Derived.Test.YthccfmlfofdaeaaPdB
import Derived.Test.YthccfmlfofdaeaaROf
namespace Go.Proofs.Ythccfmlfofdaeaa
open Go.RowKit Go.Maps Go.Shelf Go.Sort
set_option linter.unusedVariables false
set_option linter.unusedSimpArgs false

structure BI (f : Int → Rec) (gw gs : Int → Int) : Prop where
  ew : ∀ x, (Lit.int .i64 x).wf = true → gw x = ofL (f x).w.l [97]
  es : ∀ x, (Lit.int .i64 x).wf = true → gs x = ofL (f x).s.l [97]
  le1 : ∀ x g, ofL (f x).s.l g ≤ ofL (f x).w.l g
  le2 : ∀ x g, ofL (f x).b.l g ≤ ofL (f x).s.l g
theorem ofL_nil (g : List UInt8) : ofL [] g = 0 := rfl
theorem BI.start : BI (fun _ => rec0) (fun _ => 0) (fun _ => 0) :=
  ⟨fun _ _ => rfl, fun _ _ => rfl, fun _ _ => Int.le_refl _, fun _ _ => Int.le_refl _⟩
theorem BI.opened {f : Int → Rec} {gw gs : Int → Int} (h : BI f gw gs) {k : Int} {l : List It} (hno : f k = rec0) (hl : MY l) (xs : Ls) (hx : xs.l = l) {nn : Int} (hn : ofL l [97] = nn) :
    BI (fun i => if i = k then ⟨k, xs, ls0, ls0, fr0⟩ else f i) (fun x => if x = k then nn else gw x) gs := by
  refine ⟨fun x wx => ?_, fun x wx => ?_, fun x g => ?_, fun x g => ?_⟩
  · by_cases e : x = k
    · rw [if_pos e, if_pos e, ← hn, ← hx]
    · rw [if_neg e, if_neg e]
      exact h.ew x wx
  · by_cases e : x = k
    · subst e
      rw [if_pos rfl, h.es x wx, hno]
      rfl
    · rw [if_neg e]
      exact h.es x wx
  · by_cases e : x = k
    · rw [if_pos e]
      show ofL [] g ≤ ofL xs.l g
      rw [ofL_nil, hx]
      exact (hl.nonneg g).1
    · rw [if_neg e]
      exact h.le1 x g
  · by_cases e : x = k
    · rw [if_pos e]
      exact Int.le_refl _
    · rw [if_neg e]
      exact h.le2 x g
theorem BI.shipped {f : Int → Rec} {gw gs : Int → Int} (h : BI f gw gs) {k rg : Int} {l : List It} (hkw : (Lit.int .i64 k).wf = true) (hw : MY (f k).w.l) (hs : MY (f k).s.l) (hl : MY l) (hE : plusE (f k).s.l l = 0) (hC : coversL (f k).w.l (plusR (f k).s.l l) = true) (s : Ls) (hx : s.l = plusR (f k).s.l l) {nn : Int} (hn : ofL l [97] = nn) :
    BI (fun i => if i = k then shipRec (f k) rg s else f i) gw (fun x => if x = k then gs k + nn else gs x) := by
  obtain ⟨hp, hof, _⟩ := plus_ok hs hl hE
  have hle := (covers_le hw hp).1 hC
  refine ⟨fun x wx => ?_, fun x wx => ?_, fun x g => ?_, fun x g => ?_⟩
  · by_cases e : x = k
    · subst e
      rw [if_pos rfl]
      exact h.ew x wx
    · rw [if_neg e]
      exact h.ew x wx
  · by_cases e : x = k
    · subst e
      rw [if_pos rfl, if_pos rfl, h.es x wx, ← hn]
      show _ = ofL s.l [97]
      rw [hx, hof]
    · rw [if_neg e, if_neg e]
      exact h.es x wx
  · by_cases e : x = k
    · subst e
      rw [if_pos rfl]
      show ofL s.l g ≤ ofL (f x).w.l g
      rw [hx]
      exact hle g
    · rw [if_neg e]
      exact h.le1 x g
  · by_cases e : x = k
    · subst e
      rw [if_pos rfl]
      show ofL (f x).b.l g ≤ ofL s.l g
      rw [hx, hof]
      have h1 := h.le2 x g
      have h2 := (hl.nonneg g).1
      omega
    · rw [if_neg e]
      exact h.le2 x g
theorem BI.backed {f : Int → Rec} {gw gs : Int → Int} (h : BI f gw gs) {k : Int} (bl : Ls) (hle : ∀ g, ofL bl.l g ≤ ofL (f k).s.l g) :
    BI (fun i => if i = k then ⟨(f k).o, (f k).w, (f k).s, bl, (f k).f⟩ else f i) gw gs := by
  refine ⟨fun x wx => ?_, fun x wx => ?_, fun x g => ?_, fun x g => ?_⟩
  · by_cases e : x = k
    · subst e
      rw [if_pos rfl]
      exact h.ew x wx
    · rw [if_neg e]
      exact h.ew x wx
  · by_cases e : x = k
    · subst e
      rw [if_pos rfl]
      exact h.es x wx
    · rw [if_neg e]
      exact h.es x wx
  · by_cases e : x = k
    · subst e
      rw [if_pos rfl]
      exact h.le1 x g
    · rw [if_neg e]
      exact h.le1 x g
  · by_cases e : x = k
    · subst e
      rw [if_pos rfl]
      exact hle g
    · rw [if_neg e]
      exact h.le2 x g
theorem hil_of_form {base : Nat} {w : World} {A : Option Addr} {c : Nat} {l : List It} (h : OI base w (.slice A l.length c) l) : IL w A l.length l := by
  obtain ⟨A', c', e, _, _, hr, _⟩ := h.form
  simp only [Value.slice.injEq] at e
  obtain ⟨rfl, _, _⟩ := e
  exact hr
theorem openE_zero {ks : List Int} {k : Int} {l : List It} (h : openE ks k l = 0) : 1 ≤ k ∧ k ≤ 1099511627776 ∧ mayL l = true ∧ l ≠ [] ∧ k ∉ ks := by
  unfold openE at h
  by_cases a1 : k < 1 ∨ 1099511627776 < k
  · rw [if_pos a1] at h; omega
  · rw [if_neg a1] at h
    by_cases a2 : mayL l = false ∨ l = []
    · rw [if_pos a2] at h; omega
    · rw [if_neg a2] at h
      by_cases a3 : k ∈ ks
      · rw [if_pos a3] at h; omega
      · exact ⟨by omega, by omega, by simpa using fun e => a2 (.inl e), fun e => a2 (.inr e), a3⟩
end Go.Proofs.Ythccfmlfofdaeaa
