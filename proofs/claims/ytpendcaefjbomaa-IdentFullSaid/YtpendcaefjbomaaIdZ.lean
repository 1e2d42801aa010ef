/- Identities: many numbers of one client. No condition. -/
import Derived.Test.YtpendcaefjbomaaIdY
namespace Go.Proofs.Ytpendcaefjbomaa
open Go.RowKit Go.Maps Go.Shelf Go.Sort
set_option linter.unusedVariables false
set_option linter.unusedSimpArgs false

/-- So many numbers from a are open. -/
def FullI (c : Cl) (a : Int) (n : Nat) (M : Int) : Prop := c.k = 1 ∧ c.ns.length = n ∧ c.ns.Nodup ∧ (∀ y, y ∈ c.ns ↔ a ≤ y ∧ y < a + (n : Int)) ∧ ∀ y, y ∈ c.ns → (c.g y).m = M ∧ (c.g y).d = false
theorem FullI.start (a M : Int) : FullI cl0 a 0 M := ⟨rfl, rfl, by simp [cl0], fun y => by simp [cl0], fun y hy => by simp [cl0] at hy⟩
theorem FullI.new {cl : Int → Cl} {c a M : Int} {n : Nat} (h : FullI (cl c) a n M) (hc : mayC c) (ha : 1 ≤ a ∧ a ≤ 1073741824) (hn : n < 128) : vd cl c (a + (n : Int)) M = 1 := by
  have h1 : mayN (a + (n : Int)) := ⟨by omega, by omega⟩
  have h2 : ¬ a + (n : Int) < (cl c).k := by rw [h.1]; omega
  have h3 : a + (n : Int) ∉ (cl c).ns := fun e => by have := (h.2.2.2.1 _).1 e; omega
  unfold vd askV
  rw [if_pos ⟨hc, h1⟩, if_neg h2, if_neg h3, if_neg (by rw [h.2.1]; omega)]
theorem FullI.ask {cl cl' : Int → Cl} {c a M : Int} {n : Nat} (h : FullI (cl c) a n M) (hv : vd cl c (a + (n : Int)) M = 1) (ht : AskTo cl cl' c (a + (n : Int)) M) : FullI (cl' c) a (n + 1) M := by
  obtain ⟨_, h2, h3, h4⟩ := ht.2 hv
  obtain ⟨a1, a2, a3, a4, a5⟩ := h
  have hni : a + (n : Int) ∉ (cl c).ns := fun e => by have := (a4 _).1 e; omega
  refine ⟨by rw [h2, a1], by rw [h3]; simp [a2], ?_, fun y => ?_, fun y hy => ?_⟩
  · rw [h3, List.nodup_append]
    exact ⟨a3, by simp, fun x hx y hy e => by simp at hy; subst hy; subst e; exact hni hx⟩
  · rw [h3, List.mem_append, List.mem_singleton, a4 y]
    omega
  · rw [h3, List.mem_append, List.mem_singleton] at hy
    rw [h4]
    by_cases e : y = a + (n : Int)
    · simp [e]
    · simp only [e, if_false]
      exact a5 y (hy.resolve_right e)
theorem FullI.full {cl : Int → Cl} {c a M : Int} (h : FullI (cl c) a 128 M) (hc : mayC c) (ha : 1 ≤ a ∧ a ≤ 1073741824) : vd cl c (a + 128) M = 6 := by
  have h1 : mayN (a + 128) := ⟨by omega, by omega⟩
  have h2 : ¬ a + 128 < (cl c).k := by rw [h.1]; omega
  have h3 : a + 128 ∉ (cl c).ns := fun e => by have := (h.2.2.2.1 _).1 e; omega
  unfold vd askV
  rw [if_pos ⟨hc, h1⟩, if_neg h2, if_neg h3, if_pos (by rw [h.2.1]; omega)]
theorem FullI.open_ {cl : Int → Cl} {c a M : Int} (h : FullI (cl c) a 128 M) (hc : mayC c) (ha : 1 ≤ a ∧ a ≤ 1073741824) : vd cl c (a + 5) M = 2 := by
  have h1 : mayN (a + 5) := ⟨by omega, by omega⟩
  have h2 : ¬ a + 5 < (cl c).k := by rw [h.1]; omega
  have h3 : a + 5 ∈ (cl c).ns := (h.2.2.2.1 _).2 (by omega)
  obtain ⟨h4, h5⟩ := h.2.2.2.2 _ h3
  unfold vd askV
  rw [if_pos ⟨hc, h1⟩, if_neg h2, if_pos h3, if_neg (by rw [h4]; simp), h5]
  rfl
theorem FullI.low {cl cl' : Int → Cl} {c a M E : Int} (h : FullI (cl c) a 128 M) (hc : mayC c) (ha : 1 ≤ a ∧ a ≤ 1073741824) (ht : LowTo cl cl' c (a + 1) E) : E = 80 ∧ cl' = cl := by
  have h3 : a ∈ (cl c).ns := (h.2.2.2.1 _).2 (by omega)
  have hb : badL (cl c) (a + 1) := ⟨a, h3, (h.2.2.2.2 _ h3).2, by omega⟩
  rcases ht with ⟨h1, h2, rfl⟩ | ⟨h1, h2, h3, rfl⟩ | ⟨h1, h2, h3, h4, rfl⟩ | ⟨h1, h2, h3, h4⟩
  · exact absurd ⟨hc, by omega, by omega⟩ h2
  · exact ⟨h1, rfl⟩
  · exact absurd hb h3
  · exact absurd hb h3
theorem FullI.tell {cl : Int → Cl} {c a M : Int} (h : FullI (cl c) a 128 M) (hc : mayC c) (ha : 1 ≤ a ∧ a ≤ 1073741824) : tE cl c a 0 = 0 := by
  have h3 : a ∈ (cl c).ns := (h.2.2.2.1 _).2 (by omega)
  have h4 := (h.2.2.2.2 _ h3).2
  unfold tE
  rw [if_pos ⟨hc, ⟨by omega, by omega⟩, by omega, by omega⟩, if_pos h3, h4]
  rfl
theorem FullI.low2 {cl cl2 cl' : Int → Cl} {c a M E : Int} (h : FullI (cl c) a 128 M) (hc : mayC c) (ha : 1 ≤ a ∧ a ≤ 1073741824) (h0 : tE cl c a 0 = 0) (htl : TellTo cl cl2 c a 0 0) (ht : LowTo cl2 cl' c (a + 1) E) :
    E = 0 ∧ vd cl' c (a + 128) M = 1 ∧ (cl' c).ns.length = 127 := by
  obtain ⟨_, k1, n1, g1⟩ := htl.2 h0
  obtain ⟨a1, a2, a3, a4, a5⟩ := h
  have hb : ¬ badL (cl2 c) (a + 1) := by
    rintro ⟨x, h1, h2, h3⟩
    rw [n1] at h1
    have h4 := (a4 x).1 h1
    have hx : x = a := by omega
    rw [g1, hx] at h2
    simp at h2
  rcases ht with ⟨h1, h2, rfl⟩ | ⟨h1, h2, h3, rfl⟩ | ⟨h1, h2, h3, h4, rfl⟩ | ⟨h1, h2, h3, h4, h5, h6, h7, h8, h9⟩
  · exact absurd ⟨hc, by omega, by omega⟩ h2
  · exact absurd h3 hb
  · rw [k1, a1] at h4; omega
  · have hm : ∀ y, y ∈ (cl' c).ns ↔ a + 1 ≤ y ∧ y < a + 128 := fun y => by
      rw [h8 y, n1, a4 y]
      omega
    have hl : (cl' c).ns.length = 127 := by
      have hp : (cl c).ns.Perm (a :: (cl' c).ns) := (List.perm_ext_iff_of_nodup a3 (List.nodup_cons.2 ⟨fun e => by have := (hm a).1 e; omega, h7⟩)).2 fun y => by
        rw [List.mem_cons, hm y, a4 y]
        omega
      have := hp.length_eq
      rw [a2, List.length_cons] at this
      omega
    refine ⟨h1, ?_, hl⟩
    have h10 : mayN (a + 128) := ⟨by omega, by omega⟩
    unfold vd askV
    rw [if_pos ⟨hc, h10⟩, if_neg (by rw [h6]; omega), if_neg (fun e => by have := (hm _).1 e; omega), if_neg (by rw [hl]; omega)]
end Go.Proofs.Ytpendcaefjbomaa
