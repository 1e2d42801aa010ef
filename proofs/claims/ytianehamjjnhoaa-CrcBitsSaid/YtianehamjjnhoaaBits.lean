/- Other bytes make another sum: the plain part. No condition. -/
import Derived.Test.YtianehamjjnhoaaCLaw
import Derived.Laws.OwnMore
namespace Go.Proofs.Ytianehamjjnhoaa
open Go.RowKit
set_option linter.unusedVariables false

theorem xor_swap (a b c : Nat) : (a ^^^ b) ^^^ c = (a ^^^ c) ^^^ b := by rw [Nat.xor_assoc, Nat.xor_comm b c, ← Nat.xor_assoc]
theorem step_xor (q d x : Nat) : step (q ^^^ d) x = step q x ^^^ bitN 8 d := by
  unfold step
  rw [xor_swap, bitN_xor]
theorem step_in (q x o : Nat) : step q (x ^^^ o) = step q x ^^^ bitN 8 o := by
  unfold step
  rw [← Nat.xor_assoc, bitN_xor]
theorem bitN_add (a b s : Nat) : bitN (a + b) s = bitN a (bitN b s) := by
  induction a with
  | zero => rw [Nat.zero_add]; rfl
  | succ a ih => rw [Nat.succ_add, bitN, ih]; rfl
theorem steps_xor (d : Nat) (l : List UInt8) : ∀ q, steps (q ^^^ d) l = steps q l ^^^ bitN (8 * l.length) d := by
  induction l generalizing d with
  | nil => intro q; rfl
  | cons x l ih =>
    intro q
    show steps (step (q ^^^ d) x.toNat) l = steps (step q x.toNat) l ^^^ _
    rw [step_xor, ih, List.length_cons, show 8 * (l.length + 1) = 8 * l.length + 8 by omega, bitN_add]
theorem bit1_zero {s : Nat} (h : s < 4294967296) (h0 : bit1 s = 0) : s = 0 := by
  unfold bit1 at h0
  by_cases ho : s % 2 = 1
  · rw [if_pos ho] at h0
    have : s / 2 = 2197175160 := by
      have e := turned_back 2197175160 (s / 2)
      rw [Nat.xor_comm 2197175160 (s / 2), h0, Nat.xor_zero] at e
      exact e.symm
    omega
  · rw [if_neg ho] at h0
    omega
theorem bitN_zero {s : Nat} (h : s < 4294967296) : ∀ k, bitN k s = 0 → s = 0
  | 0, h0 => h0
  | k + 1, h0 => bitN_zero h k (bit1_zero (bitN_lt h k) h0)
theorem bitN8_split (a r : Nat) : bitN 8 (a ^^^ r) = bitN 8 (a ^^^ r % 256) ^^^ r / 256 := by
  conv => lhs; rw [split8 r]
  rw [← Nat.xor_assoc, bitN_xor 8 (a ^^^ r % 256), bitN_shift]
theorem four (o : Nat) (ho : o < 4294967296) :
    bitN 8 (bitN 8 (bitN 8 (bitN 8 (o % 256) ^^^ o / 256 % 256) ^^^ o / 65536 % 256) ^^^ o / 16777216 % 256) = bitN 32 o := by
  rw [show (32 : Nat) = 8 + (8 + (8 + 8)) from rfl, bitN_add, bitN_add, bitN_add]
  have h0 : bitN 8 o = bitN 8 (o % 256) ^^^ o / 256 := by
    have := bitN8_split 0 o
    rwa [Nat.zero_xor, Nat.zero_xor] at this
  rw [h0, bitN8_split (bitN 8 (o % 256)) (o / 256), bitN8_split _ (o / 256 / 256), bitN8_split _ (o / 256 / 256 / 256)]
  have e1 : o / 256 / 256 = o / 65536 := by omega
  have e2 : o / 256 / 256 / 256 = o / 16777216 := by omega
  have e3 : o / 16777216 / 256 = 0 := by omega
  rw [e2, e3, e1, Nat.xor_zero]

/-- The bytes, of which from 'at' on k are others. -/
def modL (b : List UInt8) (p o : Nat) : Nat → List UInt8
  | 0 => b
  | k + 1 => (modL b p o k).set (p + k) ((modL b p o k).getD (p + k) 0 ^^^ UInt8.ofNat (o / 256 ^ k))
theorem modL_len (b : List UInt8) (p o : Nat) : ∀ k, (modL b p o k).length = b.length
  | 0 => rfl
  | k + 1 => by rw [modL, List.length_set, modL_len b p o k]
theorem set_at (l r : List UInt8) (x y : UInt8) : (l ++ x :: r).set l.length y = l ++ y :: r := by simp
theorem get_at (l r : List UInt8) (x : UInt8) : (l ++ x :: r).getD l.length 0 = x := by simp [List.getD]
theorem modL_four (l r : List UInt8) (x0 x1 x2 x3 : UInt8) (o : Nat) :
    modL (l ++ [x0, x1, x2, x3] ++ r) l.length o 4 = l ++ [x0 ^^^ UInt8.ofNat (o / 256 ^ 0), x1 ^^^ UInt8.ofNat (o / 256 ^ 1), x2 ^^^ UInt8.ofNat (o / 256 ^ 2), x3 ^^^ UInt8.ofNat (o / 256 ^ 3)] ++ r := by
  have s1 : modL (l ++ [x0, x1, x2, x3] ++ r) l.length o 1 = (l ++ [x0 ^^^ UInt8.ofNat (o / 256 ^ 0)]) ++ x1 :: ([x2, x3] ++ r) := by
    simp only [modL, Nat.add_zero, List.append_assoc, List.cons_append]
    rw [get_at, set_at]
    simp
  have s2 : modL (l ++ [x0, x1, x2, x3] ++ r) l.length o 2 = (l ++ [x0 ^^^ UInt8.ofNat (o / 256 ^ 0), x1 ^^^ UInt8.ofNat (o / 256 ^ 1)]) ++ x2 :: ([x3] ++ r) := by
    have e := get_at (l ++ [x0 ^^^ UInt8.ofNat (o / 256 ^ 0)]) ([x2, x3] ++ r) x1
    have f := fun y => set_at (l ++ [x0 ^^^ UInt8.ofNat (o / 256 ^ 0)]) ([x2, x3] ++ r) x1 y
    rw [List.length_append, List.length_singleton] at e f
    rw [modL, s1, e, f]
    simp
  have s3 : modL (l ++ [x0, x1, x2, x3] ++ r) l.length o 3 = (l ++ [x0 ^^^ UInt8.ofNat (o / 256 ^ 0), x1 ^^^ UInt8.ofNat (o / 256 ^ 1), x2 ^^^ UInt8.ofNat (o / 256 ^ 2)]) ++ x3 :: r := by
    have e := get_at (l ++ [x0 ^^^ UInt8.ofNat (o / 256 ^ 0), x1 ^^^ UInt8.ofNat (o / 256 ^ 1)]) ([x3] ++ r) x2
    have f := fun y => set_at (l ++ [x0 ^^^ UInt8.ofNat (o / 256 ^ 0), x1 ^^^ UInt8.ofNat (o / 256 ^ 1)]) ([x3] ++ r) x2 y
    rw [List.length_append, show ([x0 ^^^ UInt8.ofNat (o / 256 ^ 0), x1 ^^^ UInt8.ofNat (o / 256 ^ 1)] : List UInt8).length = 2 from rfl] at e f
    rw [modL, s2, e, f]
    simp
  have e := get_at (l ++ [x0 ^^^ UInt8.ofNat (o / 256 ^ 0), x1 ^^^ UInt8.ofNat (o / 256 ^ 1), x2 ^^^ UInt8.ofNat (o / 256 ^ 2)]) r x3
  have f := fun y => set_at (l ++ [x0 ^^^ UInt8.ofNat (o / 256 ^ 0), x1 ^^^ UInt8.ofNat (o / 256 ^ 1), x2 ^^^ UInt8.ofNat (o / 256 ^ 2)]) r x3 y
  rw [List.length_append, show ([x0 ^^^ UInt8.ofNat (o / 256 ^ 0), x1 ^^^ UInt8.ofNat (o / 256 ^ 1), x2 ^^^ UInt8.ofNat (o / 256 ^ 2)] : List UInt8).length = 3 from rfl] at e f
  rw [modL, s3, e, f]
  simp
theorem steps_append (q : Nat) (l r : List UInt8) : steps q (l ++ r) = steps (steps q l) r := by unfold steps; rw [List.foldl_append]
theorem steps_four (q o : Nat) (ho : o < 4294967296) (x0 x1 x2 x3 : UInt8) :
    steps q [x0 ^^^ UInt8.ofNat (o / 256 ^ 0), x1 ^^^ UInt8.ofNat (o / 256 ^ 1), x2 ^^^ UInt8.ofNat (o / 256 ^ 2), x3 ^^^ UInt8.ofNat (o / 256 ^ 3)] = steps q [x0, x1, x2, x3] ^^^ bitN 32 o := by
  have b0 : (UInt8.ofNat (o / 256 ^ 0)).toNat = o % 256 := by simp
  have b1 : (UInt8.ofNat (o / 256 ^ 1)).toNat = o / 256 % 256 := by simp
  have b2 : (UInt8.ofNat (o / 256 ^ 2)).toNat = o / 65536 % 256 := by simp
  have b3 : (UInt8.ofNat (o / 256 ^ 3)).toNat = o / 16777216 % 256 := by simp
  rw [← four o ho]
  simp only [steps, List.foldl_cons, List.foldl_nil, UInt8.toNat_xor, b0, b1, b2, b3]
  rw [step_in q, step_xor, step_in _ x1.toNat, Nat.xor_assoc, ← bitN_xor, Nat.xor_comm (o / 256 % 256), step_xor, step_in _ x2.toNat, Nat.xor_assoc, ← bitN_xor, Nat.xor_comm (o / 65536 % 256), step_xor, step_in _ x3.toNat, Nat.xor_assoc, ← bitN_xor, Nat.xor_comm (o / 16777216 % 256)]
theorem flip_inj {a b : Nat} (h : flip a = flip b) : a = b := by rw [← flip_flip a, h, flip_flip]
theorem xor_same {a d : Nat} (h : a ^^^ d = a) : d = 0 := by
  have := turned_back a d
  rw [h, Nat.xor_self] at this
  exact this.symm
theorem bits_differ (s p o : Nat) (b : List UInt8) (ho : o < 4294967296) (h0 : o ≠ 0) (hp : p + 4 ≤ b.length) : sumOn s (modL b p o 4) ≠ sumOn s b := by
  have hlen : ((b.drop p).take 4).length = 4 := by rw [List.length_take, List.length_drop]; omega
  obtain ⟨x0, x1, x2, x3, hx⟩ : ∃ x0 x1 x2 x3, (b.drop p).take 4 = [x0, x1, x2, x3] := by
    match hq : (b.drop p).take 4, hlen with
    | [x0, x1, x2, x3], _ => exact ⟨x0, x1, x2, x3, rfl⟩
  have hb : b = b.take p ++ [x0, x1, x2, x3] ++ b.drop (p + 4) := by
    rw [← hx, List.append_assoc, ← List.drop_drop, List.take_append_drop, List.take_append_drop]
  have hpl : (b.take p).length = p := by rw [List.length_take]; omega
  generalize b.take p = l at hb hpl
  generalize b.drop (p + 4) = r at hb
  subst hb
  subst hpl
  rw [modL_four]
  unfold sumOn
  intro h
  have h := flip_inj h
  rw [steps_append, steps_append, steps_append, steps_append, steps_four _ _ ho, steps_xor] at h
  have h := xor_same h
  have h := bitN_zero (bitN_lt ho 32) _ h
  exact h0 (bitN_zero ho _ h)
theorem OB.place0 {base : Nat} {w : World} {v : Value} {l : List UInt8} (h : OB base w v l) (hl : 0 < l.length) : ∃ g cap, v = .slice (some ⟨g, 0, none⟩) l.length cap ∧ l.length ≤ cap ∧ cap ≤ maxLen ∧ base ≤ g ∧ g < w.heap.size ∧
    (∀ j, j < l.length → w.cell? ⟨g, j, none⟩ = some (.int .u8 ((l.getD j 0).toNat : Int))) ∧ ∀ j, w.frozen? ⟨g, j, none⟩ = false := by
  rcases h.2 with ⟨rfl, h0⟩ | ⟨g, cap, cur, rfl, hb, hh, hlc, hm, hs, ht⟩
  · omega
  · refine ⟨g, cap, rfl, hlc, hm, hb, (Array.getElem?_eq_some_iff.1 hh).1, fun j hj => ?_, fun j => ?_⟩
    · have hc := World.ownsRow.cells h (g := g) rfl j (bv (l.getD j 0)) (by rw [List.getElem?_map]; simp [List.getD, List.getElem?_eq_getElem hj])
      rw [Addr.add_lit, Nat.zero_add] at hc
      exact hc
    · simp [World.frozen?, hh]
theorem OB.put {base : Nat} {w : World} {g n cap : Nat} {l : List UInt8} (h : OB base w (.slice (some ⟨g, 0, none⟩) n cap) l) (hn : l.length = n) (j : Nat) (y : UInt8) :
    OB base (w.setCell ⟨g, j, none⟩ (.int .u8 (y.toNat : Int))) (.slice (some ⟨g, 0, none⟩) n cap) (l.set j y) := by
  subst hn
  have := (World.ownsRow.stored h j (bv y)).1
  show (w.setCell ⟨g, j, none⟩ (bv y)).ownsRow base 5 1 _ (l.set j y).length ((l.set j y).map bv)
  rw [List.map_set, List.length_set]
  exact this
end Go.Proofs.Ytianehamjjnhoaa
