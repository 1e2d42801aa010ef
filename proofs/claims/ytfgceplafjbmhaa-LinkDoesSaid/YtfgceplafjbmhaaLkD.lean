/- Bodies are forgotten: slices.IndexFunc, slices.DeleteFunc with On's closure; May. No condition but that the bodies lie in memory. -/
import Derived.Test.YtfgceplafjbmhaaLkS
import Derived.Laws.CopyRow
namespace Go.Proofs.Ytfgceplafjbmhaa
open Go.RowKit
set_option linter.unusedVariables false
set_option linter.unusedSimpArgs false

theorem BO.place {base : Nat} {w : World} {A : Option Addr} {n c : Nat} {l : List Bd} (h : BO base w (.slice A n c) l) {k : Nat} (hk : k < n) : ∃ g b, A = some ⟨g, 0, none⟩ ∧ l[k]? = some b ∧ w.cell? ⟨g, k * 4, none⟩ = some (.int .i64 b.seq) ∧ w.cell? ⟨g, k * 4 + 1, none⟩ = some (.string ⟨b.text.toArray⟩) ∧ w.cell? ⟨g, k * 4 + 2, none⟩ = some (.int .i64 b.tries) ∧ w.cell? ⟨g, k * 4 + 3, none⟩ = some (.int .i64 b.due) := by
  obtain ⟨B, cap, e, _, _, _, _, h3⟩ := h.form
  injection e with e1 e2 e3
  have hl : k < l.length := by omega
  obtain ⟨g, rfl, hc⟩ := h3 k _ (List.getElem?_eq_getElem hl)
  exact ⟨g, l[k], e1, List.getElem?_eq_getElem hl, hc 0 _ rfl, hc 1 _ rfl, hc 2 _ rfl, hc 3 _ rfl⟩
theorem BO.len {base : Nat} {w : World} {A : Option Addr} {n c : Nat} {l : List Bd} (h : BO base w (.slice A n c) l) : l.length = n ∧ n ≤ c := by
  obtain ⟨B, cap, e, h1, _⟩ := h.form
  injection e with e1 e2 e3
  omega
theorem put4 {base : Nat} {w : World} {g n c : Nat} {l : List Bd} (h : BO base w (.slice (some ⟨g, 0, none⟩) n c) l) (i : Nat) (hi : i < n) (b : Bd) :
    BO base ((((w.setCell ⟨g, i * 4, none⟩ (.int .i64 b.seq)).setCell ⟨g, i * 4 + 1, none⟩ (.string ⟨b.text.toArray⟩)).setCell ⟨g, i * 4 + 2, none⟩ (.int .i64 b.tries)).setCell ⟨g, i * 4 + 3, none⟩ (.int .i64 b.due)) (.slice (some ⟨g, 0, none⟩) n c) (l.set i b) ∧
    Keep (fun k => k = g) w ((((w.setCell ⟨g, i * 4, none⟩ (.int .i64 b.seq)).setCell ⟨g, i * 4 + 1, none⟩ (.string ⟨b.text.toArray⟩)).setCell ⟨g, i * 4 + 2, none⟩ (.int .i64 b.tries)).setCell ⟨g, i * 4 + 3, none⟩ (.int .i64 b.due)) := by
  have hn := h.len.1
  have hx : l[i]? = some (l[i]'(by omega)) := List.getElem?_eq_getElem (by omega)
  obtain ⟨x, hx⟩ : ∃ x, l[i]? = some x := ⟨_, hx⟩
  have s (l' : List Bd) (y : Bd) (hl : i < l'.length) : (l'.set i y)[i]? = some y := by rw [List.getElem?_set_self hl]
  have h0 := h.put hn i 0 x ⟨b.seq, x.text, x.tries, x.due⟩ (.int .i64 b.seq) hx rfl (by omega)
  have h1 := h0.put (by simpa using hn) i 1 ⟨b.seq, x.text, x.tries, x.due⟩ ⟨b.seq, b.text, x.tries, x.due⟩ (.string ⟨b.text.toArray⟩) (s _ _ (by omega)) rfl (by omega)
  have h2 := h1.put (by simpa using hn) i 2 ⟨b.seq, b.text, x.tries, x.due⟩ ⟨b.seq, b.text, b.tries, x.due⟩ (.int .i64 b.tries) (s _ _ (by simp; omega)) rfl (by omega)
  have h3 := h2.put (by simpa using hn) i 3 ⟨b.seq, b.text, b.tries, x.due⟩ b (.int .i64 b.due) (s _ _ (by simp; omega)) rfl (by omega)
  simp only [List.set_set, Nat.add_zero] at h3
  exact ⟨h3, ((((Keep.refl (fun k => k = g) w).setCell (p := ⟨g, i * 4, none⟩) (fun _ => rfl) _).setCell (p := ⟨g, i * 4 + 1, none⟩) (fun _ => rfl) _).setCell (p := ⟨g, i * 4 + 2, none⟩) (fun _ => rfl) _).setCell (p := ⟨g, i * 4 + 3, none⟩) (fun _ => rfl) _⟩
/-- The first ones of a row. -/
theorem BO.first {base : Nat} {w : World} {g n c : Nat} {l : List Bd} (h : BO base w (.slice (some ⟨g, 0, none⟩) n c) l) (i : Nat) (hi : i ≤ n) : BO base w (.slice (some ⟨g, 0, none⟩) i c) (l.take i) := by
  have hn := h.len.1
  rcases h.2 with ⟨h0, _⟩ | ⟨g', cap, cur, e, hb, hg, hl, hm, hs, ht⟩
  · cases h0
  · injection e with e1 e2 e3
    cases e1
    subst e3
    have hlen : (l.take i).length = i := by rw [List.length_take]; omega
    refine ⟨by rw [BO_len, hlen], .inr ⟨g, c, cur, by rw [hlen], hb, hg, by omega, hm, hs, ?_⟩⟩
    rw [hlen]
    have h1 : (cur.toList.take (l.length * 4)).take (i * 4) = (l.flatMap Bd.cs).take (i * 4) := by rw [ht]
    rw [List.take_take, show min (i * 4) (l.length * 4) = i * 4 by omega] at h1
    rw [h1]
    have h2 : l.flatMap Bd.cs = (l.take i).flatMap Bd.cs ++ (l.drop i).flatMap Bd.cs := by rw [← List.flatMap_append, List.take_append_drop]
    rw [h2, List.take_append_of_le_length (by rw [BO_len, hlen]; omega), List.take_of_length_le (by rw [BO_len, hlen]; omega)]
theorem body_under : Try.prog.underlying 77 = some (.slice 81) := Try.underlying77
theorem body_zero : ∀ w, (zeroValue 81).run Try.prog w = .ok (.agg #[.int .i64 0, .string ⟨#[]⟩, .int .i64 0, .int .i64 0]) w := fun w => by kernel_rfl
theorem run_clearBO (w : World) {base g n c : Nat} {l : List Bd} (h : BO base w (.slice (some ⟨g, 0, none⟩) n c) l) (i m cc : Nat) (hi : i < n) (hm : m = n - i) (ty : TypeId) :
    ∃ w', (Builtin.clear_ #[77] ty #[.slice (some ⟨g, i * 4, none⟩) m cc]).run Try.prog w = .ok (.tuple #[]) w' ∧ BO base w' (.slice (some ⟨g, 0, none⟩) i c) (l.take i) ∧ Keep (fun k => k = g) w w' := by
  have hn := h.len
  obtain ⟨q, rfl⟩ : ∃ q, m = q + 1 := ⟨m - 1, by omega⟩
  have hf := h.first i (by omega)
  rcases h.2 with ⟨h0, _⟩ | ⟨g', cap, cur, e, hb, hg, hl, hmx, hs, ht⟩
  · cases h0
  · injection e with e1 e2 e3
    cases e1
    subst e3
    have hone : ∀ v ∈ (Builtin.zeroCells #[Value.int .i64 0, .string ⟨#[]⟩, .int .i64 0, .int .i64 0] (q + 1)).toList, v.oneCell' = true := by
      intro v hv
      simp [Builtin.zeroCells] at hv
      obtain ⟨a, _, rfl⟩ := hv
      have : a % 4 = 0 ∨ a % 4 = 1 ∨ a % 4 = 2 ∨ a % 4 = 3 := by omega
      rcases this with e | e | e | e <;> rw [e] <;> rfl
    have hlen : (Builtin.zeroCells #[Value.int .i64 0, .string ⟨#[]⟩, .int .i64 0, .int .i64 0] (q + 1)).toList.length = (q + 1) * 4 := by simp [Builtin.zeroCells]
    have hst := run_storeCells_at Try.prog g (i * 4) 81 _ 0 cur w hg (by rw [hlen, hs]; omega) hone
    rw [hlen] at hst
    obtain ⟨Z, hZ⟩ : ∃ Z, (Builtin.zeroCells #[Value.int .i64 0, .string ⟨#[]⟩, .int .i64 0, .int .i64 0] (q + 1)).toList = Z := ⟨_, rfl⟩
    rw [hZ] at hlen hst
    refine ⟨w.setRow g (cur.toList.take (i * 4 + 0) ++ Z ++ cur.toList.drop (i * 4 + 0 + (q + 1) * 4)).toArray, ?_, ?_, ?_⟩
    · simp only [Builtin.clear_, Sem.run_bind, run_underlying body_under, Result.andThen_ok, body_zero, Value.cells, hZ, hst]
      simp [hst, hZ]
    · refine ⟨hf.1, ?_⟩
      rcases hf.2 with ⟨h0, _⟩ | ⟨g', cap, cur', e, hb', hg', hl', hm', hs', ht'⟩
      · cases h0
      · injection e with e1 e2 e3
        cases e1
        subst e3
        rw [hg] at hg'
        injection hg' with hg'
        injection hg' with hg' _ _
        subst hg'
        refine .inr ⟨g, c, _, by rw [← e2], hb', setRow_heap w g cur _ 81 _ hg, hl', hm', ?_, ?_⟩
        · simp [hlen]
          omega
        · have : (l.take i).length = i := by rw [List.length_take]; omega
          rw [this] at ht' ⊢
          rw [← ht']
          simp only [Nat.add_zero]
          rw [List.append_assoc, List.take_append_of_le_length (by simp; omega), List.take_take, Nat.min_self]
    · have hgr : w.grownBy (w.setRow g (cur.toList.take (i * 4 + 0) ++ Z ++ cur.toList.drop (i * 4 + 0 + (q + 1) * 4)).toArray) (some g) := by
        refine ⟨rfl, rfl, rfl, by simp [World.setRow], fun k hk hne => ?_⟩
        have hne' : ¬ g = k := fun e => hne (by rw [e])
        simp only [World.setRow, Array.getElem?_modify, if_neg hne']
      exact (Keep.of_grown hgr).mono fun k _ e => (Option.some.inj e).symm
end Go.Proofs.Ytfgceplafjbmhaa
