/- A backlog's code: pure. No condition. -/
import Derived.Test.YtnkekjaljhpmjaaBkX
import Derived.Test.YtnkekjaljhpmjaaRefT
namespace Go.Proofs.Ytnkekjaljhpmjaa
open Go.RowKit
set_option linter.unusedVariables false
set_option linter.unusedSimpArgs false

abbrev topM : Int := 9223372036854775807
def rowC (x : Wt) : List UInt8 := numCell x.k ++ numCell (flagN x.r)
def rowsC (l : List Wt) : List UInt8 := l.flatMap rowC
/-- Its code. -/
def encB (l : List Wt) (o : Int) : List UInt8 := numCell o ++ (numCell (l.length : Int) ++ rowsC l)
theorem rowsC_snoc (l : List Wt) (x : Wt) : rowsC (l ++ [x]) = rowsC l ++ rowC x := by simp [rowsC]
theorem rowC_len (x : Wt) : (rowC x).length ≤ 18 := by
  have := numCell_len x.k
  have := numCell_len (flagN x.r)
  unfold rowC
  rw [List.length_append]
  omega
theorem rowsC_len (l : List Wt) : (rowsC l).length ≤ l.length * 18 := by
  induction l with
  | nil => simp [rowsC]
  | cons x l ih =>
    have := rowC_len x
    have he : rowsC (x :: l) = rowC x ++ rowsC l := by simp [rowsC]
    rw [he, List.length_append, List.length_cons]
    omega
theorem encB_len (l : List Wt) (o : Int) : (encB l o).length ≤ 18 + l.length * 18 := by
  have := numCell_len o
  have := numCell_len (l.length : Int)
  have := rowsC_len l
  unfold encB
  rw [List.length_append, List.length_append]
  omega
/-- What a number taken comes to. -/
theorem tnum_some {s s' : List UInt8} {a b n : Int} (h : tnum (some s) a b = (n, some s')) : a ≤ n ∧ n ≤ b ∧ numCell n ++ s' = s := by
  unfold tnum at h
  try dsimp only at h
  cases hf : first s with
  | none => rw [hf] at h; cases h
  | some p =>
    obtain ⟨m, k⟩ := p
    rw [hf] at h
    try dsimp only at h
    split at h
    · cases h
    · rename_i hn
      injection h with h1 h2
      injection h2 with h2
      subst h1
      obtain ⟨_, _, h5, _, _⟩ := first_some hf
      exact ⟨by omega, by omega, by rw [h5, ← h2, List.take_append_drop]⟩
theorem tnum_none {st : Option (List UInt8)} {a b n : Int} (h : tnum st a b = (n, none)) : n = 0 := by
  unfold tnum at h
  split at h
  · cases h; rfl
  · split at h
    · split at h
      · cases h; rfl
      · cases h
    · cases h; rfl
theorem tnum_num {a b n : Int} (r : List UInt8) (h1 : a ≤ n) (h2 : n ≤ b) (h3 : -9223372036854775808 ≤ n) (h4 : n ≤ 9223372036854775807) : tnum (some (numCell n ++ r)) a b = (n, some r) := by
  unfold tnum
  try dsimp only
  rw [first_num n r h3 h4]
  try dsimp only
  rw [if_neg (by omega), List.drop_left]
theorem tnum_of_none (a b : Int) : tnum none a b = (0, none) := rfl
/-- The rows. -/
def decR : Nat → List Wt → List UInt8 → Option (List Wt × List UInt8)
  | 0, l, s => some (l, s)
  | n + 1, l, s => match tnum (some s) 1 topM with
    | (k, some s1) => if 0 ≤ placeW l k then none else match tnum (some s1) 0 1 with
      | (f, some s2) => decR n (l ++ [⟨k, f == 1⟩]) s2
      | (_, none) => none
    | (_, none) => none
/-- One that is out is there, and not ready. -/
def outOK (l : List Wt) (o : Int) : Bool := if o = 0 then true else match l[l.findIdx fun x => decide (x.k = o)]? with
  | some x => !x.r
  | none => false
def decT (o : Int) (n : Nat) (l : List Wt) : Option (List UInt8) → Option (List Wt × Int)
  | none => none
  | some s => match decR n l s with
    | some (l', []) => if outOK l' o then some (l', o) else none
    | _ => none
/-- What any bytes are as a backlog. -/
def decB (c : List UInt8) : Option (List Wt × Int) := decT (tnum (some c) 0 topM).1 (tnum (tnum (some c) 0 topM).2 0 256).1.toNat [] (tnum (tnum (some c) 0 topM).2 0 256).2
theorem decT_bad {o : Int} {n : Nat} {l : List Wt} {st : Option (List UInt8)} (hl : l.length < 256) (h : pushE l (tnum st 1 topM).1 ≠ 0) : decT o (n + 1) l st = none := by
  cases st with
  | none => rfl
  | some s =>
    unfold decT
    try dsimp only
    have : decR (n + 1) l s = none := by
      unfold decR
      cases ht : tnum (some s) 1 topM with
      | mk k st1 =>
        rw [ht] at h
        try dsimp only at h ⊢
        cases st1 with
        | none => rfl
        | some s1 =>
          have hk := (tnum_some ht).1
          try dsimp only
          by_cases hp : 0 ≤ placeW l k
          · rw [if_pos hp]
          · exfalso
            apply h
            unfold pushE
            rw [if_neg (by omega), if_neg hp, if_neg (by omega)]
    rw [this]
theorem pushE_zero {l : List Wt} {k : Int} (h : pushE l k = 0) : 1 ≤ k ∧ ¬ 0 ≤ placeW l k ∧ l.length < 256 := by
  unfold pushE at h
  by_cases h1 : k < 1
  · rw [if_pos h1] at h; omega
  rw [if_neg h1] at h
  by_cases h2 : 0 ≤ placeW l k
  · rw [if_pos h2] at h; omega
  rw [if_neg h2] at h
  by_cases h3 : 256 ≤ l.length
  · rw [if_pos h3] at h; omega
  exact ⟨by omega, h2, by omega⟩
theorem decT_good {o : Int} {n : Nat} {l : List Wt} {st : Option (List UInt8)} (h : pushE l (tnum st 1 topM).1 = 0) :
    decT o (n + 1) l st = decT o n (l ++ [⟨(tnum st 1 topM).1, (tnum (tnum st 1 topM).2 0 1).1 == 1⟩]) (tnum (tnum st 1 topM).2 0 1).2 := by
  obtain ⟨h1, h2, _⟩ := pushE_zero h
  cases st with
  | none => exact absurd h1 (by rw [tnum_of_none]; decide)
  | some s =>
    cases ht : tnum (some s) 1 topM with
    | mk k st1 =>
      rw [ht] at h1 h2
      try dsimp only at h1 h2 ⊢
      cases st1 with
      | none => have := tnum_none ht; omega
      | some s1 =>
        cases hf : tnum (some s1) 0 1 with
        | mk f st2 =>
          try dsimp only
          unfold decT
          try dsimp only
          rw [decR, ht]
          try dsimp only
          rw [if_neg h2, hf]
          try dsimp only
          cases st2 with
          | none => rfl
          | some s2 => rfl
theorem decT_end (o : Int) (l : List Wt) (st : Option (List UInt8)) : decT o 0 l st = if st = some [] ∧ outOK l o = true then some (l, o) else none := by
  cases st with
  | none => simp [decT]
  | some s =>
    cases s with
    | nil => simp [decT, decR]
    | cons x s => simp [decT, decR]
/-- What holds of one that was decoded, or may be encoded. -/
structure InvC (l : List Wt) (o : Int) : Prop where
  one : ∀ x ∈ l, 1 ≤ x.k ∧ x.k ≤ topM
  nd : (l.map Wt.k).Nodup
  len : l.length ≤ 256
  out : ∀ x ∈ l, x.k = o → x.r = false
  o0 : 0 ≤ o ∧ o ≤ topM
  mem : o = 0 ∨ ∃ x ∈ l, x.k = o
theorem outOK_iff {l : List Wt} {o : Int} (hn : (l.map Wt.k).Nodup) (h1 : ∀ x ∈ l, 1 ≤ x.k) : outOK l o = true ↔ (∀ x ∈ l, x.k = o → x.r = false) ∧ (o = 0 ∨ ∃ x ∈ l, x.k = o) := by
  unfold outOK
  by_cases ho : o = 0
  · rw [if_pos ho]
    refine ⟨fun _ => ⟨fun x hx e => ?_, .inl ho⟩, fun _ => rfl⟩
    have := h1 x hx
    omega
  · rw [if_neg ho]
    rcases idx_cases (fun x => decide (x.k = o)) l with ⟨_, h2⟩ | ⟨i, x, h2, hx, hr, hi, hfi⟩
    · have h3 : (l.findIdx fun x => decide (x.k = o)) = l.length := List.findIdx_eq_length.2 fun x hx => by rw [h2 x hx]
      rw [h3, List.getElem?_eq_none (Nat.le_refl _)]
      constructor
      · intro h; cases h
      · rintro ⟨_, h4⟩
        rcases h4 with h4 | ⟨x, hx, he⟩
        · exact absurd h4 ho
        · have := h2 x hx
          rw [decide_eq_true he] at this
          cases this
    · rw [hfi, hx]
      have hxo : x.k = o := by simpa using hr
      constructor
      · intro h
        refine ⟨fun y hy e => ?_, .inr ⟨x, List.mem_of_getElem? hx, hxo⟩⟩
        obtain ⟨j, hj⟩ := List.getElem?_of_mem hy
        have e1 := place_at hx hn
        have e2 := place_at hj hn
        rw [hxo] at e1
        rw [e, e1] at e2
        have : i = j := by omega
        subst this
        rw [hx] at hj
        cases hj
        simpa using h
      · rintro ⟨h3, _⟩
        have := h3 x (List.mem_of_getElem? hx) hxo
        simp [this]
theorem decR_facts : ∀ (n : Nat) (l l' : List Wt) (s s' : List UInt8), decR n l s = some (l', s') → (∀ x ∈ l, 1 ≤ x.k ∧ x.k ≤ topM) → (l.map Wt.k).Nodup →
    (∀ x ∈ l', 1 ≤ x.k ∧ x.k ≤ topM) ∧ (l'.map Wt.k).Nodup ∧ l'.length = l.length + n ∧ ∃ r, l' = l ++ r ∧ s = rowsC r ++ s'
  | 0, l, l', s, s', h, h1, h2 => by
    unfold decR at h
    cases h
    exact ⟨h1, h2, rfl, [], by simp, by simp [rowsC]⟩
  | n + 1, l, l', s, s', h, h1, h2 => by
    rw [decR] at h
    cases ht : tnum (some s) 1 topM with
    | mk k st1 =>
      rw [ht] at h
      try dsimp only at h
      cases st1 with
      | none => cases h
      | some s1 =>
        try dsimp only at h
        by_cases hp : 0 ≤ placeW l k
        · rw [if_pos hp] at h; cases h
        · rw [if_neg hp] at h
          cases hf : tnum (some s1) 0 1 with
          | mk f st2 =>
            rw [hf] at h
            try dsimp only at h
            cases st2 with
            | none => cases h
            | some s2 =>
              try dsimp only at h
              obtain ⟨hk1, hk2, hk3⟩ := tnum_some ht
              obtain ⟨hf1, hf2, hf3⟩ := tnum_some hf
              have hne : ∀ x ∈ l, x.k ≠ k := by
                rcases place_cases l k with ⟨_, h3⟩ | ⟨i, x, h3, _⟩
                · exact h3
                · omega
              obtain ⟨r1, r2, r3, r, r4, r5⟩ := decR_facts n _ l' s2 s' h (fun x hx => by
                rcases List.mem_append.1 hx with hx | hx
                · exact h1 x hx
                · rw [List.mem_singleton.1 hx]; exact ⟨hk1, hk2⟩) (by
                rw [List.map_append, List.nodup_append]
                refine ⟨h2, by simp, fun a ha b hb e => ?_⟩
                obtain ⟨x, hx, rfl⟩ := List.mem_map.1 ha
                simp at hb
                subst hb
                exact hne x hx e)
              refine ⟨r1, r2, by rw [r3, List.length_append]; simp; omega, ⟨k, f == 1⟩ :: r, by rw [r4]; simp, ?_⟩
              have hfl : numCell (flagN (f == 1)) = numCell f := by
                have : f = 0 ∨ f = 1 := by omega
                rcases this with rfl | rfl <;> rfl
              rw [← hk3, ← hf3, r5]
              simp [rowsC, rowC, hfl]
theorem decB_facts {c : List UInt8} {l : List Wt} {o : Int} (h : decB c = some (l, o)) : InvC l o ∧ encB l o = c := by
  unfold decB at h
  cases h0 : tnum (some c) 0 topM with
  | mk o' st =>
    rw [h0] at h
    try dsimp only at h
    cases h2 : tnum st 0 256 with
    | mk n st2 =>
      rw [h2] at h
      try dsimp only at h
      cases st2 with
      | none => cases h
      | some s2 =>
        cases st with
        | none => rw [tnum_of_none] at h2; cases h2
        | some s1 =>
          obtain ⟨a1, a2, a3⟩ := tnum_some h0
          obtain ⟨b1, b2, b3⟩ := tnum_some h2
          unfold decT at h
          try dsimp only at h
          split at h
          · rename_i l' hd
            split at h
            · rename_i hout
              cases h
              obtain ⟨r1, r2, r3, r, r4, r5⟩ := decR_facts _ _ _ _ _ hd (fun x h => by cases h) List.nodup_nil
              rw [List.nil_append] at r4
              subst r4
              have hiff := (outOK_iff r2 (fun x hx => (r1 x hx).1)).1 hout
              have hlen : (l.length : Int) = n := by
                have h9 : l.length = n.toNat := by simpa using r3
                rw [h9]
                exact Int.toNat_of_nonneg b1
              have h10 : l.length ≤ 256 := by omega
              refine ⟨⟨r1, r2, h10, hiff.1, ⟨a1, a2⟩, hiff.2⟩, ?_⟩
              unfold encB
              rw [hlen, ← a3, ← b3, r5, List.append_nil]
            · cases h
          · cases h
theorem decR_rows : ∀ (r l : List Wt) (s : List UInt8), (∀ x ∈ r, 1 ≤ x.k ∧ x.k ≤ topM) → ((l ++ r).map Wt.k).Nodup → decR r.length l (rowsC r ++ s) = some (l ++ r, s)
  | [], l, s, _, _ => by simp [decR, rowsC]
  | x :: r, l, s, h1, h2 => by
    have hx := h1 x (by simp)
    have he : rowsC (x :: r) ++ s = numCell x.k ++ (numCell (flagN x.r) ++ (rowsC r ++ s)) := by simp [rowsC, rowC]
    have hfl : 0 ≤ flagN x.r ∧ flagN x.r ≤ 1 ∧ (flagN x.r == 1) = x.r := by cases x.r <;> decide
    have hpl : placeW l x.k = -1 := place_none.2 fun y hy e => by
      rw [List.map_append, List.nodup_append] at h2
      exact h2.2.2 y.k (List.mem_map_of_mem hy) x.k (by simp) e
    rw [he, List.length_cons, decR, tnum_num _ hx.1 hx.2 (by omega) hx.2]
    try dsimp only
    rw [hpl, if_neg (by omega), tnum_num _ hfl.1 hfl.2.1 (by omega) (by omega)]
    try dsimp only
    rw [hfl.2.2, decR_rows r (l ++ [(⟨x.k, x.r⟩ : Wt)]) s (fun y hy => h1 y (by simp [hy])) (by simpa using h2)]
    simp
theorem decB_enc {l : List Wt} {o : Int} (h : InvC l o) : decB (encB l o) = some (l, o) := by
  have hl := h.len
  unfold decB encB
  rw [tnum_num _ h.o0.1 h.o0.2 (by have := h.o0.1; omega) h.o0.2]
  try dsimp only
  rw [tnum_num _ (by omega) (by omega) (by omega) (by omega)]
  try dsimp only
  unfold decT
  try dsimp only
  have := decR_rows l [] [] h.one (by simpa using h.nd)
  rw [List.append_nil, List.nil_append] at this
  rw [Int.toNat_natCast, this]
  try dsimp only
  rw [if_pos ((outOK_iff h.nd (fun x hx => (h.one x hx).1)).2 ⟨h.out, h.mem⟩)]
end Go.Proofs.Ytnkekjaljhpmjaa
