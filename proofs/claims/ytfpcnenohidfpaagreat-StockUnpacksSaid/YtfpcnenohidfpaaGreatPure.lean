/- Plain facts on numbers' cells: digits to base 256, the cell of a number, with which number bytes begin. No Go, no condition. -/
import Derived.Lib.BitFns
import Derived.Test.YtfpcnenohidfpaaGreatSeq
namespace Go.Proofs.YtfpcnenohidfpaaGreat
set_option linter.unusedVariables false

theorem head_app {l : List UInt8} (r : List UInt8) (h : l ≠ []) : (l ++ r).head? = l.head? := by
  cases l with
  | nil => exact absurd rfl h
  | cons a l => rfl

def digsF : Nat → Nat → List UInt8
  | 0, _ => []
  | f + 1, u => if u = 0 then [] else digsF f (u / 256) ++ [UInt8.ofNat (u % 256)]

/-- A number's bytes, the highest first, none 0 ahead (for numbers below 2^64). -/
def digs (u : Nat) : List UInt8 := digsF 8 u

theorem digsF_zero : ∀ f, digsF f 0 = []
  | 0 => rfl
  | f + 1 => by rw [digsF, if_pos rfl]

theorem digsF_more : ∀ (f u : Nat), u < 256 ^ f → digsF (f + 1) u = digsF f u
  | 0, u, h => by
    have : u = 0 := by simpa using h
    subst this
    rfl
  | f + 1, u, h => by
    rw [digsF]
    conv => rhs; rw [digsF]
    by_cases h0 : u = 0
    · rw [if_pos h0, if_pos h0]
    · rw [if_neg h0, if_neg h0, digsF_more f (u / 256) (by rw [Nat.pow_succ] at h; omega)]

theorem digs_zero : digs 0 = [] := rfl
theorem digs_step (u : Nat) (h0 : 0 < u) (h : u < 18446744073709551616) : digs u = digs (u / 256) ++ [UInt8.ofNat (u % 256)] := by
  unfold digs
  rw [digsF_more 7 (u / 256) (by omega)]
  conv => lhs; rw [digsF]
  rw [if_neg (by omega)]

theorem ofNat_mod (n : Nat) : UInt8.ofNat (n % 256) = UInt8.ofNat n := by
  apply UInt8.toNat_inj.1
  simp

/-- The number that bytes say. -/
def val (l : List UInt8) : Nat := l.foldl (fun n x => n * 256 + x.toNat) 0

theorem val_nil : val [] = 0 := rfl
theorem val_snoc (l : List UInt8) (x : UInt8) : val (l ++ [x]) = val l * 256 + x.toNat := by simp [val]
theorem val_lt (l : List UInt8) : val l < 256 ^ l.length := by
  induction l using snoc_ind with
  | h0 => simp [val]
  | h1 l x ih =>
    rw [val_snoc, List.length_append, List.length_singleton, Nat.pow_succ]
    have := x.toNat_lt
    omega
theorem val_take_succ (l : List UInt8) (k : Nat) (h : k < l.length) : val (l.take (k + 1)) = val (l.take k) * 256 + (l.getD k 0).toNat := by
  rw [List.take_succ_eq_append_getElem h, val_snoc]
  simp [List.getD, h]
theorem val_take_lt (l : List UInt8) (k : Nat) : val (l.take k) < 256 ^ k :=
  Nat.lt_of_lt_of_le (val_lt _) (Nat.pow_le_pow_right (by decide) (List.length_take_le _ _))

theorem val_digsF : ∀ (f u : Nat), u < 256 ^ f → val (digsF f u) = u
  | 0, u, h => by
    have : u = 0 := by simpa using h
    subst this
    rfl
  | f + 1, u, h => by
    rw [digsF]
    by_cases h0 : u = 0
    · subst h0
      rfl
    · rw [if_neg h0, val_snoc, val_digsF f (u / 256) (by rw [Nat.pow_succ] at h; omega)]
      simp
      omega
theorem val_digs (u : Nat) (h : u < 18446744073709551616) : val (digs u) = u := val_digsF 8 u (by omega)

theorem head_digsF : ∀ (f u : Nat), u < 256 ^ f → (digsF f u).head? ≠ some 0
  | 0, u, h => by simp [digsF]
  | f + 1, u, h => by
    rw [digsF]
    by_cases h0 : u = 0
    · simp [h0]
    · rw [if_neg h0]
      by_cases h1 : u / 256 = 0
      · rw [h1, digsF_zero]
        have hu : u % 256 = u := by omega
        rw [hu]
        simp
        intro e
        have := congrArg UInt8.toNat e
        simp at this
        omega
      · have hne : digsF f (u / 256) ≠ [] := by
          intro e
          have := val_digsF f (u / 256) (by rw [Nat.pow_succ] at h; omega)
          rw [e] at this
          simp [val] at this
          omega
        rw [head_app _ hne]
        exact head_digsF f (u / 256) (by rw [Nat.pow_succ] at h; omega)
theorem head_digs (u : Nat) (h : u < 18446744073709551616) : (digs u).head? ≠ some 0 := head_digsF 8 u (by omega)

theorem digsF_val (r : List UInt8) : ∀ f, r.length ≤ f → r.head? ≠ some 0 → digsF f (val r) = r := by
  induction r using snoc_ind with
  | h0 =>
    intro f _ _
    rw [val_nil, digsF_zero]
  | h1 r x ih =>
    intro f hf hh
    match f, hf with
    | 0, hf => simp at hf
    | f + 1, hf =>
      have hx := x.toNat_lt
      rw [List.length_append, List.length_singleton] at hf
      have hr : digsF f (val r) = r := ih f (by omega) (by
        intro e
        apply hh
        rw [List.head?_append, e]
        rfl)
      have hne : ¬ val r * 256 + x.toNat = 0 := by
        intro e
        have h1 : val r = 0 := by omega
        have h2 : x.toNat = 0 := by omega
        rw [h1, digsF_zero] at hr
        subst hr
        apply hh
        simp
        exact UInt8.toNat_inj.1 (by simpa using h2)
      rw [val_snoc, digsF, if_neg hne, show (val r * 256 + x.toNat) / 256 = val r from by omega, hr, show (val r * 256 + x.toNat) % 256 = x.toNat from by omega]
      simp
theorem digs_val (r : List UInt8) (hl : r.length ≤ 8) (hh : r.head? ≠ some 0) : digs (val r) = r := digsF_val r 8 hl hh

theorem digsF_len_le : ∀ f u, (digsF f u).length ≤ f
  | 0, u => by simp [digsF]
  | f + 1, u => by
    rw [digsF]
    split
    · simp
    · rw [List.length_append, List.length_singleton]
      have := digsF_len_le f (u / 256)
      omega
theorem digs_len_le (u : Nat) : (digs u).length ≤ 8 := digsF_len_le 8 u

theorem digsF_len_mono : ∀ f u v, u ≤ v → (digsF f u).length ≤ (digsF f v).length
  | 0, u, v, h => by simp [digsF]
  | f + 1, u, v, h => by
    rw [digsF, digsF]
    by_cases h0 : u = 0
    · rw [if_pos h0]
      simp
    · rw [if_neg h0, if_neg (by omega), List.length_append, List.length_append]
      have := digsF_len_mono f (u / 256) (v / 256) (by omega)
      simpa using this
theorem digs_len_mono (u v : Nat) (h : u ≤ v) : (digs u).length ≤ (digs v).length := digsF_len_mono 8 u v h

theorem bitLen_small (u : Nat) (h0 : 0 < u) (h : u < 256) : 1 ≤ Lib.bitLen u ∧ Lib.bitLen u ≤ 8 := by
  have h1 : ∀ n : Fin 256, 0 < n.val → 1 ≤ Lib.bitLen n.val := by decide +kernel
  exact ⟨h1 ⟨u, h⟩ h0, Lib.bitLen_le8 ⟨u, h⟩⟩

theorem digsF_len : ∀ f u, u < 256 ^ f → u < 18446744073709551616 → (digsF f u).length = (Lib.bitLen u + 7) / 8
  | 0, u, h, _ => by
    have : u = 0 := by simpa using h
    subst this
    rfl
  | f + 1, u, h, h' => by
    rw [digsF]
    by_cases h0 : u = 0
    · subst h0
      rfl
    · rw [if_neg h0, List.length_append, List.length_singleton, digsF_len f (u / 256) (by rw [Nat.pow_succ] at h; omega) (by omega)]
      by_cases h1 : u < 256
      · have := bitLen_small u (by omega) h1
        rw [show u / 256 = 0 from by omega, show Lib.bitLen 0 = 0 from rfl]
        omega
      · rw [Lib.bitLen_shift8 u (by omega) h']
        omega
theorem digs_len (u : Nat) (h : u < 18446744073709551616) : (digs u).length = (Lib.bitLen u + 7) / 8 := digsF_len 8 u (by omega) h

theorem digsF_get : ∀ f u k, u < 256 ^ f → k < (digsF f u).length → (digsF f u)[k]? = some (UInt8.ofNat (u / 256 ^ ((digsF f u).length - 1 - k)))
  | 0, u, k, h, hk => by simp [digsF] at hk
  | f + 1, u, k, h, hk => by
    rw [digsF] at hk ⊢
    by_cases h0 : u = 0
    · rw [if_pos h0] at hk
      simp at hk
    · rw [if_neg h0] at hk ⊢
      rw [List.length_append, List.length_singleton] at hk ⊢
      by_cases h1 : k < (digsF f (u / 256)).length
      · rw [List.getElem?_append_left h1, digsF_get f (u / 256) k (by rw [Nat.pow_succ] at h; omega) h1, Nat.div_div_eq_div_mul]
        congr 3
        rw [Nat.mul_comm, ← Nat.pow_succ]
        congr 1
        omega
      · have hk' : k = (digsF f (u / 256)).length := by omega
        subst hk'
        rw [List.getElem?_append_right (Nat.le_refl _)]
        simp [ofNat_mod]
theorem digs_get (u k : Nat) (h : u < 18446744073709551616) (hk : k < (digs u).length) : (digs u)[k]? = some (UInt8.ofNat (u / 256 ^ ((digs u).length - 1 - k))) := digsF_get 8 u k (by omega) hk

theorem digs_take (u k : Nat) (h : u < 18446744073709551616) (hk : k < (digs u).length) : (digs u).take (k + 1) = (digs u).take k ++ [UInt8.ofNat (u / 256 ^ ((digs u).length - 1 - k))] := by
  rw [List.take_add_one, digs_get u k h hk]
  rfl

/-- The cell of a number. -/
def numCell (n : Int) : List UInt8 :=
  if 0 ≤ n ∧ n < 128 then [UInt8.ofNat n.toNat]
  else if n < 0 then UInt8.ofNat (144 + (digs (-1 - n).toNat).length) :: digs (-1 - n).toNat
  else UInt8.ofNat (128 + (digs n.toNat).length) :: digs n.toNat

theorem numCell_len (n : Int) : 1 ≤ (numCell n).length ∧ (numCell n).length ≤ 9 := by
  unfold numCell
  have h1 := digs_len_le n.toNat
  have h2 := digs_len_le (-1 - n).toNat
  split
  · simp
  · split
    · rw [List.length_cons]; omega
    · rw [List.length_cons]; omega

def mag (r : List UInt8) (size : Nat) : Option Nat :=
  if 8 < size ∨ r.length < size ∨ (0 < size ∧ r.head? = some 0) then none
  else if 9223372036854775807 < val (r.take size) then none else some (val (r.take size))

/-- With which number bytes begin, and how many bytes its cell has. -/
def first : List UInt8 → Option (Int × Nat)
  | [] => none
  | b :: r =>
    if b.toNat < 128 then some (b.toNat, 1)
    else if b.toNat < 144 then
      match mag r (b.toNat - 128) with
      | some n => if 128 ≤ n then some (n, 1 + (b.toNat - 128)) else none
      | none => none
    else
      match mag r (b.toNat - 144) with
      | some n => some (-1 - n, 1 + (b.toNat - 144))
      | none => none

theorem first_cons (b : UInt8) (r : List UInt8) : first (b :: r) = if b.toNat < 128 then some ((b.toNat : Int), 1)
    else if b.toNat < 144 then
      match mag r (b.toNat - 128) with
      | some n => if 128 ≤ n then some ((n : Int), 1 + (b.toNat - 128)) else none
      | none => none
    else
      match mag r (b.toNat - 144) with
      | some n => some (-1 - (n : Int), 1 + (b.toNat - 144))
      | none => none := rfl

theorem mag_some {r : List UInt8} {size n : Nat} (h : mag r size = some n) : size ≤ 8 ∧ size ≤ r.length ∧ n = val (r.take size) ∧ n ≤ 9223372036854775807 ∧ digs n = r.take size := by
  unfold mag at h
  split at h
  · cases h
  · rename_i h1
    split at h
    · cases h
    · injection h with h
      subst h
      refine ⟨by omega, by omega, rfl, by omega, digs_val _ ?_ ?_⟩
      · rw [List.length_take]; omega
      · intro e
        rcases Nat.eq_zero_or_pos size with h0 | h0
        · subst h0
          simp at e
        · rw [List.head?_take, if_neg (by omega)] at e
          exact h1 (.inr (.inr ⟨h0, e⟩))

theorem ofNat_add_len (a : Nat) (t : List UInt8) (b : UInt8) (h : a + t.length = b.toNat) : UInt8.ofNat (a + t.length) = b := by
  rw [h]
  simp

theorem first_some {l : List UInt8} {n : Int} {k : Nat} (h : first l = some (n, k)) : 1 ≤ k ∧ k ≤ l.length ∧ numCell n = l.take k ∧ -9223372036854775808 ≤ n ∧ n ≤ 9223372036854775807 := by
  match l, h with
  | b :: r, h =>
    have hb := b.toNat_lt
    rw [first_cons] at h
    split at h
    · rename_i h1
      simp only [Option.some.injEq, Prod.mk.injEq] at h
      obtain ⟨hn, hk⟩ := h
      subst hn hk
      refine ⟨by omega, by simp, ?_, by omega, by omega⟩
      unfold numCell
      rw [if_pos (by omega)]
      simp
    · split at h
      · split at h
        · rename_i n' hm
          obtain ⟨hs, hl, hv, hmx, hd⟩ := mag_some hm
          split at h
          · simp only [Option.some.injEq, Prod.mk.injEq] at h
            obtain ⟨hn, hk⟩ := h
            subst hn hk
            refine ⟨by omega, by rw [List.length_cons]; omega, ?_, by omega, by omega⟩
            unfold numCell
            rw [if_neg (by omega), if_neg (by omega), Int.toNat_natCast, hd, Nat.add_comm 1, List.take_succ_cons]
            rw [ofNat_add_len _ _ b (by rw [List.length_take]; omega)]
          · cases h
        · cases h
      · split at h
        · rename_i n' hm
          obtain ⟨hs, hl, hv, hmx, hd⟩ := mag_some hm
          simp only [Option.some.injEq, Prod.mk.injEq] at h
          obtain ⟨hn, hk⟩ := h
          subst hn hk
          refine ⟨by omega, by rw [List.length_cons]; omega, ?_, by omega, by omega⟩
          unfold numCell
          rw [if_neg (by omega), if_pos (by omega), show (-1 - (-1 - (n' : Int))).toNat = n' from by omega, hd, Nat.add_comm 1, List.take_succ_cons]
          rw [ofNat_add_len _ _ b (by rw [List.length_take]; omega)]
        · cases h

theorem mag_digs (n : Nat) (r : List UInt8) (h : n ≤ 9223372036854775807) : mag (digs n ++ r) (digs n).length = some n := by
  have h8 := digs_len_le n
  have hh := head_digs n (by omega)
  have hv := val_digs n (by omega)
  have ht : (digs n ++ r).take (digs n).length = digs n := by simp
  unfold mag
  rw [ht, hv, if_neg, if_neg (by omega)]
  rintro (h1 | h1 | ⟨h1, h2⟩)
  · omega
  · rw [List.length_append] at h1
    omega
  · rw [head_app _ (by intro e; rw [e] at h1; simp at h1)] at h2
    exact hh h2

theorem first_num (n : Int) (r : List UInt8) (h1 : -9223372036854775808 ≤ n) (h2 : n ≤ 9223372036854775807) : first (numCell n ++ r) = some (n, (numCell n).length) := by
  unfold numCell
  by_cases ha : 0 ≤ n ∧ n < 128
  · rw [if_pos ha]
    have hb : (UInt8.ofNat n.toNat).toNat = n.toNat := by simp; omega
    simp only [List.cons_append, List.nil_append, first]
    rw [hb, if_pos (by omega)]
    simp
    omega
  · rw [if_neg ha]
    by_cases hneg : n < 0
    · rw [if_pos hneg]
      have h8 := digs_len_le (-1 - n).toNat
      have hb : (UInt8.ofNat (144 + (digs (-1 - n).toNat).length)).toNat = 144 + (digs (-1 - n).toNat).length := by simp; omega
      simp only [List.cons_append, first]
      rw [hb, if_neg (by omega), if_neg (by omega), show 144 + (digs (-1 - n).toNat).length - 144 = (digs (-1 - n).toNat).length from by omega, mag_digs _ _ (by omega)]
      simp
      omega
    · rw [if_neg hneg]
      have h8 := digs_len_le n.toNat
      have hb : (UInt8.ofNat (128 + (digs n.toNat).length)).toNat = 128 + (digs n.toNat).length := by simp; omega
      simp only [List.cons_append, first]
      rw [hb, if_neg (by omega), if_pos (by omega), show 128 + (digs n.toNat).length - 128 = (digs n.toNat).length from by omega, mag_digs _ _ (by omega)]
      simp
      omega

theorem numCell_apart {a b : Int} (ha : -9223372036854775808 ≤ a ∧ a ≤ 9223372036854775807) (hb : -9223372036854775808 ≤ b ∧ b ≤ 9223372036854775807) (hl : (numCell a).length ≤ (numCell b).length)
    (h : (numCell b).take (numCell a).length = numCell a) : a = b := by
  have h1 := first_num a ((numCell b).drop (numCell a).length) ha.1 ha.2
  have h2 := first_num b [] hb.1 hb.2
  have e : numCell a ++ (numCell b).drop (numCell a).length = numCell b := by
    conv => lhs; lhs; rw [← h]
    exact List.take_append_drop _ _
  rw [e] at h1
  rw [List.append_nil, h1] at h2
  injection h2 with h2
  injection h2

theorem numCell_mono {a b : Int} (ha : 0 ≤ a) (hab : a ≤ b) : (numCell a).length ≤ (numCell b).length := by
  unfold numCell
  by_cases h1 : a < 128
  · rw [if_pos ⟨ha, h1⟩]
    by_cases h2 : b < 128
    · rw [if_pos (by omega)]
      simp
    · rw [if_neg (by omega), if_neg (by omega)]
      simp
  · rw [if_neg (by omega), if_neg (by omega), if_neg (by omega), if_neg (by omega), List.length_cons, List.length_cons]
    have := digs_len_mono a.toNat b.toNat (by omega)
    omega

/-! ### The document's answer, as it is reckoned there -/
def refTail (l r : List UInt8) (size : Nat) (n : Int) : Option (Int × Nat) :=
  if r.length < size then none else if 9223372036854775808 ≤ val (r.take size) then none
  else if numCell n = l.take (1 + size) then some (n, 1 + size) else none
def refFirst : List UInt8 → Option (Int × Nat)
  | [] => none
  | b :: r =>
    if b.toNat < 128 then some (b.toNat, 1)
    else if 129 ≤ b.toNat ∧ b.toNat ≤ 136 then refTail (b :: r) r (b.toNat - 128) (val (r.take (b.toNat - 128)))
    else if 144 ≤ b.toNat ∧ b.toNat ≤ 152 then refTail (b :: r) r (b.toNat - 144) (-1 - val (r.take (b.toNat - 144)))
    else none

theorem refFirst_cons (b : UInt8) (r : List UInt8) : refFirst (b :: r) = if b.toNat < 128 then some ((b.toNat : Int), 1)
    else if 129 ≤ b.toNat ∧ b.toNat ≤ 136 then refTail (b :: r) r (b.toNat - 128) (val (r.take (b.toNat - 128)))
    else if 144 ≤ b.toNat ∧ b.toNat ≤ 152 then refTail (b :: r) r (b.toNat - 144) (-1 - val (r.take (b.toNat - 144)))
    else none := rfl

theorem refTail_first {l r : List UInt8} {b : UInt8} {size : Nat} {n : Int} {p : Int × Nat} (hl : l = b :: r) (hn : 0 ≤ n → n = val (r.take size)) (hn' : n < 0 → n = -1 - val (r.take size)) (h : refTail l r size n = some p) : first l = some p := by
  subst hl
  unfold refTail at h
  split at h
  · cases h
  · split at h
    · cases h
    · split at h
      · rename_i h1 h2 h3
        injection h with h
        subst h
        have h4 := first_num n ((b :: r).drop (1 + size)) (by omega) (by omega)
        have h5 : (numCell n).length = 1 + size := by rw [h3, List.length_take, List.length_cons]; omega
        rw [h5] at h4
        rw [h3, List.take_append_drop] at h4
        exact h4
      · cases h

theorem ref_first (l : List UInt8) : refFirst l = first l := by
  match l with
  | [] => rfl
  | b :: r =>
    have hb := b.toNat_lt
    have key : ∀ p, refFirst (b :: r) = some p → first (b :: r) = some p := by
      intro p h
      rw [refFirst_cons] at h
      split at h
      · rename_i h1
        rw [first_cons]
        rw [if_pos h1]
        exact h
      · split at h
        · exact refTail_first rfl (fun _ => rfl) (fun h => by omega) h
        · split at h
          · exact refTail_first rfl (fun h => by omega) (fun _ => rfl) h
          · cases h
    have key2 : ∀ p, first (b :: r) = some p → refFirst (b :: r) = some p := by
      rintro ⟨n, k⟩ h
      have hs := first_some h
      rw [first_cons] at h
      rw [refFirst_cons]
      split at h
      · rename_i h1
        rw [if_pos h1]
        exact h
      · rename_i h1
        rw [if_neg h1]
        split at h
        · split at h
          · rename_i n' hm
            obtain ⟨hs8, hl, hv, hmx, hd⟩ := mag_some hm
            split at h
            · rename_i h3
              simp only [Option.some.injEq, Prod.mk.injEq] at h
              obtain ⟨hn, hk⟩ := h
              have hpos : 0 < b.toNat - 128 := by
                rcases Nat.eq_zero_or_pos (b.toNat - 128) with h0 | h0
                · rw [h0] at hv
                  simp [val] at hv
                  omega
                · exact h0
              rw [if_pos (by omega)]
              unfold refTail
              rw [if_neg (by omega), ← hv, if_neg (by omega), hn, hk, if_pos hs.2.2.1]
            · cases h
          · cases h
        · split at h
          · rename_i n' hm
            obtain ⟨hs8, hl, hv, hmx, hd⟩ := mag_some hm
            simp only [Option.some.injEq, Prod.mk.injEq] at h
            obtain ⟨hn, hk⟩ := h
            rw [if_neg (by omega), if_pos (by omega)]
            unfold refTail
            rw [if_neg (by omega), ← hv, if_neg (by omega), hn, hk, if_pos hs.2.2.1]
          · cases h
    cases h1 : refFirst (b :: r) with
    | some p => exact (key p h1).symm
    | none =>
      cases h2 : first (b :: r) with
      | none => rfl
      | some p => rw [key2 p h2] at h1; cases h1
end Go.Proofs.YtfpcnenohidfpaaGreat
