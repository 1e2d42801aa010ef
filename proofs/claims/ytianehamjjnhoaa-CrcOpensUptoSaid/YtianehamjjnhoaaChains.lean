/- Frames one behind the other; lists of byte slices that came in. No condition. -/
import Derived.Test.YtianehamjjnhoaaRefFrame
import Derived.Test.YtianehamjjnhoaaAll
import Derived.Deep.Matrix
namespace Go.Proofs.Ytianehamjjnhoaa
open Go.RowKit
set_option linter.unusedVariables false
set_option linter.unusedSimpArgs false

def chF : Nat → List (List UInt8) → List UInt8
  | _, [] => []
  | s, b :: r => frameOf s b ++ chF (mixOf s b) r
def chS : Nat → List (List UInt8) → Nat
  | s, [] => s
  | s, b :: r => chS (mixOf s b) r
theorem chF_snoc (ls : List (List UInt8)) (b : List UInt8) : ∀ s, chF s (ls ++ [b]) = chF s ls ++ frameOf (chS s ls) b := by
  induction ls with
  | nil => intro s; simp [chF, chS]
  | cons x r ih => intro s; simp only [List.cons_append, chF, chS, ih, List.append_assoc]
theorem chS_snoc (ls : List (List UInt8)) (b : List UInt8) : ∀ s, chS s (ls ++ [b]) = mixOf (chS s ls) b := by
  induction ls with
  | nil => intro s; rfl
  | cons x r ih => intro s; exact ih _
theorem chS_ok (ls : List (List UInt8)) : ∀ s, W64 s → W64 (chS s ls) := by
  induction ls with
  | nil => intro s h; exact h
  | cons x r ih => intro s h; exact ih _ (mixOf_ok _ _ h)
theorem chF_ge (ls : List (List UInt8)) : ∀ s, 16 * ls.length ≤ (chF s ls).length := by
  induction ls with
  | nil => intro s; simp
  | cons x r ih =>
    intro s
    have := ih (mixOf s x)
    simp only [chF, List.length_append, List.length_cons, frameOf_len]
    omega
theorem opn_nil (s : Nat) : opn s [] = none := by unfold opn; rw [if_pos (by decide)]
theorem allF_chain (ls : List (List UInt8)) : ∀ s f, W64 s → ls.length ≤ f → (∀ b ∈ ls, b.length ≤ 65536) → allF f s (chF s ls) = (ls, chS s ls, (chF s ls).length) := by
  induction ls with
  | nil => intro s f _ _ _; exact allF_none (opn_nil s)
  | cons x r ih =>
    intro s f hs hf hb
    obtain ⟨f, rfl⟩ : ∃ k, f = k + 1 := ⟨f - 1, by simp at hf; omega⟩
    have hx := hb x (by simp)
    have hd : (chF s (x :: r)).drop (16 + x.length) = chF (mixOf s x) r := by
      rw [chF, show 16 + x.length = (frameOf s x).length by rw [frameOf_len], List.drop_left]
    rw [allF_some (b := x) (by rw [chF]; exact opn_frame s x _ hs hx), hd, ih _ f (mixOf_ok _ _ hs) (by simpa using hf) (fun b hb' => hb b (by simp [hb']))]
    simp only [chF, chS, List.length_append, frameOf_len]
theorem allOf_chain (s : Nat) (ls : List (List UInt8)) (hs : W64 s) (hb : ∀ b ∈ ls, b.length ≤ 65536) : allOf s (chF s ls) = (ls, chS s ls, (chF s ls).length) :=
  allF_chain ls s _ hs (by have := chF_ge ls s; omega) hb

/-- The slice value with address A reads as the lists ls. -/
def RR (w : World) (A : Option Addr) (n : Nat) (ls : List (List UInt8)) : Prop :=
  ls.length = n ∧ ∀ (i : Nat) (l : List UInt8), ls[i]? = some l → ∃ b off Ai ni ci, A = some ⟨b, off, none⟩ ∧ w.cell? ⟨b, off + i, none⟩ = some (.slice Ai ni ci) ∧ RB w Ai ni l ∧ ni ≤ ci ∧ ci ≤ 9223372036854775807
theorem RR.below {w w' : World} {A : Option Addr} {n : Nat} {ls : List (List UInt8)} (h : RR w A n ls) (hb : Below w.heap.size w w') : RR w' A n ls := by
  refine ⟨h.1, fun i l hi => ?_⟩
  obtain ⟨b, off, Ai, ni, ci, h1, h2, h3, h4, h5⟩ := h.2 i l hi
  exact ⟨b, off, Ai, ni, ci, h1, (hb.cell (World.block_lt_of_cell? _ _ h2)).trans h2, h3.below hb, h4, h5⟩

theorem cells_bb : Try.prog.cellsOf 23 = 1 := by kernel_rfl
theorem cells_u8 : Try.prog.cellsOf 5 = 1 := by kernel_rfl
open Go.ChangeShapes Go.WideShapes in
theorem rows_open {H : Type} {enc : TypeId × Value → H} {W : World} {a : Option Addr} {len cap : Nat} {d : DataW H} {p : List MemPlace}
    (h : DataW.Trod enc Try.prog W 0 (fun _ => true) true 42 (.slice a len cap) d p) :
    ∃ ls, RR W a len ls ∧ len ≤ cap ∧ cap ≤ 9223372036854775807 := by
  obtain ⟨fuel, hf⟩ := h
  rcases Go.Deep.open_int_rows Try.underlying42 Try.underlying23 Try.underlying5 cells_bb cells_u8 hf with ⟨hcs, hx⟩ | ⟨x, l, c, A, L, C, Z, hcs, _, hl, hm, hx, hr⟩
  · simp [Value.cells] at hcs
    obtain ⟨rfl, rfl, rfl⟩ := hcs
    exact ⟨[], ⟨rfl, fun i l h => by simp at h⟩, Nat.le_refl _, by omega⟩
  · simp [Value.cells] at hcs
    obtain ⟨rfl, rfl, rfl⟩ := hcs
    refine ⟨(List.range len).map fun i => toBytes ((Z i).take (L i)), ⟨by simp, fun i l hi => ?_⟩, hl, by unfold maxLen at hm; omega⟩
    have hil : i < len := by
      have := (List.getElem?_eq_some_iff.1 hi).1
      simpa using this
    rw [List.getElem?_map, List.getElem?_range hil] at hi
    simp at hi
    subst hi
    obtain ⟨hc, hlc, hcm, hzl, hwz, hnone, hat⟩ := hr i (by omega)
    obtain ⟨b, off, spot⟩ := x
    have hspot : spot = none := by
      have := World.cell?_spot (hr 0 (by omega)).1
      simpa [Addr.add] using this
    subst hspot
    rw [Addr.add_lit] at hc
    refine ⟨b, off, A i, L i, C i, rfl, hc, ⟨by simp [toBytes, hzl]; omega, fun hn => ?_⟩, hlc, by unfold maxLen at hcm; omega⟩
    cases hA : A i with
    | none => have := hnone hA; omega
    | some a' =>
      obtain ⟨hb0, hcells⟩ := hat a' hA
      obtain ⟨b', off', spot'⟩ := a'
      have hspot' : spot' = none := by
        have := World.cell?_spot (hcells 0 (by omega))
        simpa [Addr.add] using this
      subst hspot'
      refine ⟨b', off', rfl, fun j y hy => ?_⟩
      have hj : j < L i := by
        have := (List.getElem?_eq_some_iff.1 hy).1
        simp [toBytes] at this
        omega
      have hcj := hcells j (by omega)
      rw [Addr.add_lit] at hcj
      rw [hcj]
      have hw := wf_u8 (hwz ((Z i).getD j 0) (by simp [List.getD, List.getElem?_eq_getElem (show j < (Z i).length by omega)]))
      rw [toBytes, List.getElem?_map, List.getElem?_take_of_lt hj, List.getElem?_eq_getElem (by omega)] at hy
      simp only [List.getD, List.getElem?_eq_getElem (show j < (Z i).length by omega), Option.getD_some] at hw ⊢
      simp at hy
      subst hy
      unfold bv
      congr 2
      simp
      omega
end Go.Proofs.Ytianehamjjnhoaa
