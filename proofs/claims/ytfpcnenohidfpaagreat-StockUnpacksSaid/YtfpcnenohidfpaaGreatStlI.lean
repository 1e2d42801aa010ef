/- A stock that was taken out of bytes is put to the same bytes. No condition. -/
import Derived.Test.YtfpcnenohidfpaaGreatStlH
namespace Go.Proofs.YtfpcnenohidfpaaGreat
open Go.RowKit Go.Shelf
set_option linter.unusedVariables false
set_option linter.unusedSimpArgs false

theorem tnum_some {s s' : List UInt8} {a b n : Int} (h : tnum (some s) a b = (n, some s')) : a ≤ n ∧ n ≤ b ∧ numCell n ++ s' = s := by
  unfold tnum at h
  try dsimp only at h
  cases hf : first s with
  | none => rw [hf] at h; cases h
  | some p =>
    obtain ⟨m, k⟩ := p
    rw [hf] at h
    try dsimp only at h
    split at h
    · cases h
    · rename_i hn
      injection h with h1 h2
      injection h2 with h2
      subst h1
      obtain ⟨_, _, h5, _, _⟩ := first_some hf
      exact ⟨by omega, by omega, by rw [h5, ← h2, List.take_append_drop]⟩
theorem tnum_of {st : Option (List UInt8)} {a b n : Int} {s' : List UInt8} (h : tnum st a b = (n, some s')) : ∃ s, st = some s := by
  cases st with
  | none => cases h
  | some s => exact ⟨s, rfl⟩
theorem ttext_some {s s' t : List UInt8} {m : Int} (h : ttext (some s) m = (t, some s')) : (t.length : Int) ≤ m ∧ numCell (t.length : Int) ++ t ++ s' = s := by
  unfold ttext at h
  try dsimp only at h
  cases hf : ft s with
  | none => rw [hf] at h; cases h
  | some p =>
    obtain ⟨k, n⟩ := p
    rw [hf] at h
    try dsimp only at h
    have hle := ft_le hf
    split at h
    · cases h
    · rename_i hn
      injection h with h1 h2
      injection h2 with h2
      have hl : t.length = n := by rw [← h1, List.length_take, List.length_drop]; omega
      cases hg : first s with
      | none => rw [ft_none hg] at hf; cases hf
      | some p =>
        obtain ⟨i, j⟩ := p
        rw [ft_some hg] at hf
        split at hf
        · cases hf
        · rename_i hni
          injection hf with hf
          injection hf with e1 e2
          subst e1
          obtain ⟨_, _, h5, _, _⟩ := first_some hg
          refine ⟨by omega, ?_⟩
          have hi : (t.length : Int) = i := by rw [hl]; omega
          rw [hi, h5, ← h1, ← h2, List.append_assoc, ← List.drop_drop, List.take_append_drop, List.take_append_drop]

/-- Cells of numbers, one behind the other. -/
def cellsN (l : List Int) : List UInt8 := l.flatMap numCell
theorem cellsN_len (l : List Int) : (cellsN l).length ≤ 9 * l.length := by
  unfold cellsN
  induction l with
  | nil => simp
  | cons n l ih =>
    rw [List.flatMap_cons, List.length_append, List.length_cons]
    have := numCell_len n
    omega
theorem takeL_cells (bs : List (Int × Int)) (s s' : List UInt8) (h : (takeL bs (some s)).2 = some s') : cellsN (takeL bs (some s)).1 ++ s' = s := by
  induction bs generalizing s with
  | nil => cases h; rfl
  | cons b bs ih =>
    unfold takeL at h ⊢
    dsimp only at h ⊢
    cases ht : tnum (some s) b.1 b.2 with
    | mk n st =>
      rw [ht] at h
      dsimp only at h
      cases st with
      | none => rw [takeL_none] at h; cases h
      | some s1 =>
        obtain ⟨_, _, e⟩ := tnum_some ht
        show numCell n ++ cellsN _ ++ s' = s
        rw [List.append_assoc, ih s1 h, e]
/-- The bytes of some rows. -/
def rowsB (l : List (List UInt8 × Row)) : List UInt8 := l.flatMap fun x => textCell x.1 ++ cellsN x.2.ints
/-- What was taken. -/
structure Took (n : Nat) (last : List UInt8) (f : List UInt8 → Row) (ks : List (List UInt8)) (rest : List UInt8) (f' : List UInt8 → Row) (ks' : List (List UInt8)) (ps : List (List UInt8 × Row)) : Prop where
  bytes : rest = rowsB ps
  num : ps.length = n
  fs : f' = putsF f ps
  kss : ks' = ks ++ ps.map (·.1)
  rise : (last :: ps.map (·.1)).Pairwise (fun a b => a < b)
  ok : ∀ x ∈ ps, gOK x.1 = true ∧ overR x.2 = false ∧ x.2.bal = true
theorem putsF_cons (f : List UInt8 → Row) (s : List UInt8) (r : Row) (ps : List (List UInt8 × Row)) : putsF f ((s, r) :: ps) = putsF (fun k => if k = s then r else f k) ps := rfl
theorem rowOK_yes {s last : List UInt8} {r : Row} (h : rowOK s last r = true) : gOK s = true ∧ last < s ∧ overR r = false ∧ r.bal = true := by
  unfold rowOK at h
  simp only [Bool.and_eq_true, Bool.not_eq_true', decide_eq_false_iff_not] at h
  obtain ⟨h1, h2, h3, h4⟩ := h
  exact ⟨h1, List.not_le.1 h2, h3, h4⟩
theorem unpT_took (n : Nat) (last : List UInt8) (f : List UInt8 → Row) (ks : List (List UInt8)) (rest : List UInt8) (hks : ∀ k ∈ ks, k ≤ last) {f' : List UInt8 → Row} {ks' : List (List UInt8)} (h : unpT n last f ks (some rest) = some (f', ks')) :
    ∃ ps, Took n last f ks rest f' ks' ps := by
  induction n generalizing last f ks rest with
  | zero =>
    unfold unpT at h
    split at h
    · rename_i h1
      injection h with h
      injection h with h2 h3
      injection h1 with h1
      exact ⟨[], by rw [h1]; rfl, rfl, h2.symm, by simp [h3], by simp, by simp⟩
    · cases h
  | succ n ih =>
    unfold unpT at h
    cases ht : ttext (some rest) 16 with
    | mk s st7 =>
      rw [ht] at h
      dsimp only at h
      cases hr : takeR st7 with
      | mk r st8 =>
        rw [hr] at h
        dsimp only at h
        cases hk : rowOK s last r with
        | false => rw [hk] at h; cases h
        | true =>
          rw [hk] at h
          dsimp only at h
          obtain ⟨h1, h2, h3, h4⟩ := rowOK_yes hk
          cases st8 with
          | none => rw [unpT_none] at h; cases h
          | some rest8 =>
            cases st7 with
            | none =>
              have := (takeR_ints none).2
              rw [takeL_none, hr] at this
              cases this
            | some rest7 =>
              have hs : s ∉ ks := fun e => absurd h2 (List.not_lt.2 (hks s e))
              have ha : addS ks s = ks ++ [s] := by unfold addS; rw [if_neg hs]
              rw [ha] at h
              obtain ⟨ps, hp⟩ := ih s _ _ rest8 (fun k hk => by
                rcases List.mem_append.1 hk with hk | hk
                · exact List.le_trans (hks k hk) (List.le_of_lt h2)
                · simp at hk; subst hk; exact List.le_refl _) h
              have e7 := (ttext_some ht).2
              have hi := takeR_ints (some rest7)
              rw [hr] at hi
              have e8 := takeL_cells rowB rest7 rest8 (by rw [← hi.2])
              rw [← hi.1] at e8
              refine ⟨(s, r) :: ps, ?_, by rw [List.length_cons, hp.num], ?_, ?_, ?_, ?_⟩
              · unfold rowsB
                rw [List.flatMap_cons, ← e7, ← e8, hp.bytes]
                unfold rowsB textCell
                simp
              · rw [putsF_cons]
                exact hp.fs
              · rw [hp.kss]
                simp
              · have hr2 := hp.rise
                rw [List.map_cons, List.pairwise_cons]
                refine ⟨fun a ha => ?_, hr2⟩
                rcases List.mem_cons.1 ha with rfl | ha
                · exact h2
                · exact List.lt_trans h2 ((List.pairwise_cons.1 hr2).1 a ha)
              · intro x hx
                rcases List.mem_cons.1 hx with rfl | hx
                · exact ⟨h1, h3, h4⟩
                · exact hp.ok x hx
theorem rowsB_len (ps : List (List UInt8 × Row)) (h : ∀ x ∈ ps, gOK x.1 = true) : (rowsB ps).length ≤ 124 * ps.length := by
  unfold rowsB
  induction ps with
  | nil => simp
  | cons x ps ih =>
    rw [List.flatMap_cons, List.length_append, List.length_cons]
    have h1 := ih (fun y hy => h y (by simp [hy]))
    have h2 := gOK_len (h x (by simp))
    have h3 := numCell_len (x.1.length : Int)
    have h4 := cellsN_len x.2.ints
    rw [show x.2.ints.length = 11 from rfl] at h4
    have h5 : (textCell x.1).length = (numCell (x.1.length : Int)).length + x.1.length := by unfold textCell; rw [List.length_append]
    rw [List.length_append, h5]
    omega
theorem puts_some (l : List Int) (s : List UInt8) (h : s.length + (cellsN l).length ≤ 262144) : putsN (some s) l = some (s ++ cellsN l) := by
  induction l generalizing s with
  | nil => simp [putsN, cellsN]
  | cons n l ih =>
    have hc : cellsN (n :: l) = numCell n ++ cellsN l := rfl
    rw [hc, List.length_append] at h
    show putsN (put (some s) (numCell n)) l = _
    unfold put
    dsimp only
    rw [if_neg (by omega), ih _ (by rw [List.length_append]; omega), hc, List.append_assoc]
theorem packS_cons (f : List UInt8 → Row) (st : Option (List UInt8)) (g : List UInt8) (l : List (List UInt8)) : packS f st (g :: l) = packS f (putsN (put st (textCell g)) (f g).ints) l := by
  unfold packS
  rw [List.foldl_cons]
theorem packS_some (f : List UInt8 → Row) (ps : List (List UInt8 × Row)) (s : List UInt8) (hf : ∀ x ∈ ps, f x.1 = x.2) (h : s.length + (rowsB ps).length ≤ 262144) : packS f (some s) (ps.map (·.1)) = some (s ++ rowsB ps) := by
  induction ps generalizing s with
  | nil => simp [packS, rowsB]
  | cons x ps ih =>
    have hc : rowsB (x :: ps) = textCell x.1 ++ cellsN x.2.ints ++ rowsB ps := rfl
    rw [hc, List.length_append, List.length_append] at h
    rw [List.map_cons, packS_cons, hf x (by simp)]
    have hp : put (some s) (textCell x.1) = some (s ++ textCell x.1) := by
      unfold put
      dsimp only
      rw [if_neg (by omega)]
    rw [hp, puts_some _ _ (by rw [List.length_append]; omega), ih _ (fun y hy => hf y (by simp [hy])) (by rw [List.length_append, List.length_append]; omega), hc]
    simp
/-- A stock that was taken: its goods rise, its rows are balanced, and it is put to the same bytes. -/
theorem unpS_pack {l : List UInt8} {f : List UInt8 → Row} {ks : List (List UInt8)} (h : unpS l = some (f, ks)) :
    packC f ks = l ∧ sortU ks = ks ∧ ks.length ≤ 64 ∧ (∀ g ∈ ks, gOK g = true ∧ (f g).bal = true) ∧ (∀ g, overR (f g) = false) ∧ (∀ g, isInt (f g).cn) := by
  unfold unpS at h
  cases ht : tnum (some l) 0 64 with
  | mk nI st =>
    rw [ht] at h
    dsimp only at h
    cases st with
    | none => rw [unpT_none] at h; cases h
    | some rest =>
      obtain ⟨n0, n64, e0⟩ := tnum_some ht
      obtain ⟨ps, hp⟩ := unpT_took _ _ _ _ _ (fun k hk => by cases hk) h
      have hks : ks = ps.map (·.1) := by rw [hp.kss]; rfl
      have hrise : (ps.map (·.1)).Pairwise (fun a b => a < b) := (List.pairwise_cons.1 hp.rise).2
      have hnd : (ps.map (·.1)).Nodup := hrise.imp fun hab e => by subst e; exact absurd hab (List.lt_irrefl _)
      have hfi : ∀ x ∈ ps, f x.1 = x.2 := fun x hx => by rw [hp.fs]; exact putsF_in _ _ _ _ hnd hx
      have hfn : ∀ g, g ∉ ps.map (·.1) → f g = row0 := fun g hg => by rw [hp.fs]; exact putsF_no _ _ _ hg
      have hlen : ks.length = nI.toNat := by rw [hks, List.length_map, hp.num]
      have hsort : sortU ks = ks := by
        unfold sortU
        refine List.mergeSort_of_pairwise ?_
        rw [hks]
        exact hrise.imp fun hab => decide_eq_true (List.le_of_lt hab)
      have hbl := rowsB_len ps (fun x hx => (hp.ok x hx).1)
      have hnl := numCell_len nI
      refine ⟨?_, hsort, by omega, fun g hg => ?_, fun g => ?_, fun g => ?_⟩
      · unfold packC packO
        rw [hsort, hlen, show ((nI.toNat : Nat) : Int) = nI by omega]
        have hpn : put (some []) (numCell nI) = some (numCell nI) := by
          unfold put
          dsimp only
          rw [if_neg (by simp; omega)]
          rfl
        rw [hpn, hks, packS_some f ps _ hfi (by have := hp.num; omega), Option.getD_some, ← hp.bytes]
        exact e0
      · rw [hks] at hg
        obtain ⟨x, hx, rfl⟩ := List.mem_map.1 hg
        rw [hfi x hx]
        exact ⟨(hp.ok x hx).1, (hp.ok x hx).2.2⟩
      · by_cases hg : g ∈ ps.map (·.1)
        · obtain ⟨x, hx, rfl⟩ := List.mem_map.1 hg
          rw [hfi x hx]
          exact (hp.ok x hx).2.1
        · rw [hfn g hg]
          decide
      · by_cases hg : g ∈ ps.map (·.1)
        · obtain ⟨x, hx, rfl⟩ := List.mem_map.1 hg
          rw [hfi x hx]
          have h1 := bal_in (hp.ok x hx).2.2 6 _ _ rfl rfl
          unfold inB at h1
          unfold isInt
          dsimp only at h1
          omega
        · rw [hfn g hg]
          unfold isInt
          simp [row0]
end Go.Proofs.YtfpcnenohidfpaaGreat
