/- What bytes are as mail: pure; a text as bytes. No condition. -/
import Derived.Test.YtefgcknnnglkpaaMaF
import Derived.Test.YtefgcknnnglkpaaAskL
namespace Go.Proofs.Ytefgcknnnglkpaa
open Go.RowKit Go.Maps Go.Shelf
set_option linter.unusedVariables false
set_option linter.unusedSimpArgs false

theorem decA_ok {b : List UInt8} {x : AV} (h : decA b = some x) : mayA x = true ∧ b = encA x := by
  obtain ⟨y, s, s1, s2, s3, s4, s5, s6, s7, s8, T⟩ := Taken.ex b
  rw [T.dec] at h
  split at h
  case isFalse => cases h
  case isTrue hs =>
    split at h
    case isFalse => cases h
    case isTrue hm =>
      cases h
      refine ⟨hm, ?_⟩
      subst hs
      obtain ⟨_, h9⟩ := takeL_some T.e9
      rw [List.append_nil] at h9
      have e8 := T.e8
      rw [h9] at e8
      obtain ⟨h8, _⟩ := text_taken e8
      have e7 := T.e7
      rw [h8] at e7
      obtain ⟨h7, _⟩ := num_taken e7
      have e6 := T.e6
      rw [h7] at e6
      obtain ⟨h6, _⟩ := num_taken e6
      have e5 := T.e5
      rw [h6] at e5
      obtain ⟨h5, _⟩ := num_taken e5
      have e4 := T.e4
      rw [h5] at e4
      obtain ⟨h4, _⟩ := num_taken e4
      have e3 := T.e3
      rw [h4] at e3
      obtain ⟨h3, _⟩ := num_taken e3
      have e2 := T.e2
      rw [h3] at e2
      obtain ⟨h2, _⟩ := num_taken e2
      have e1 := T.e1
      rw [h2] at e1
      obtain ⟨h1, _⟩ := num_taken e1
      injection h1 with h1
      rw [h1, encA_flat]
theorem run_bts (w : World) (l : List UInt8) (hl : l.length ≤ maxLen) : ∃ cap w', (convert 9 31 (.string ⟨l.toArray⟩)).run Try.prog w = .ok (.slice (some ⟨w.heap.size, 0, none⟩) l.length cap) w' ∧ RB w' (some ⟨w.heap.size, 0, none⟩) l.length l ∧ Below w.heap.size w w' ∧ w.heap.size < w'.heap.size ∧ l.length ≤ cap ∧ cap ≤ 9223372036854775807 := by
  refine ⟨_, _, run_bytes_of_string w _ _ _ _ Try.underlying9 Try.underlying31 Try.underlying5, ⟨rfl, fun _ => ⟨_, _, rfl, fun j y hy => ?_⟩⟩, (Below.drew (Below.refl _ w)).alloc (Nat.le_refl _) _, by simp, ?_, ?_⟩
  · have hj : j < l.length := (List.getElem?_eq_some_iff.1 hy).1
    rw [show w.heap.size = w.drew.heap.size from rfl, cell_of_row _ _ _ _ _ _ (heap_alloc_new w.drew _)]
    have hyy : l[j] = y := (List.getElem?_eq_some_iff.1 hy).2
    simp [bytesRow, Array.getElem?_append, hj, hy, bv, hyy]
  · have := grownCap_ge w (⟨l.toArray⟩ : ByteArray).size 0 5
    exact this
  · have := grownCap_le_maxLen w (⟨l.toArray⟩ : ByteArray).size 0 5 hl
    unfold maxLen at this
    omega

theorem num_of {n : Int} {r : List UInt8} {st : Option (List UInt8)} (h : nextN st = (n, some r)) : st = some (numCell n ++ r) := (num_taken (a := -9223372036854775808) (b := 9223372036854775807) h).1
theorem nextN_of (n : Int) (r : List UInt8) (h0 : -9223372036854775808 ≤ n) (h1 : n ≤ 9223372036854775807) : nextN (some (numCell n ++ r)) = (n, some r) := take_num n r h0 h1 _ _ h0 h1
theorem nextN_none : (nextN none).2 = none := rfl
theorem encA_ne (a : AV) : encA a ≠ [] := fun h => by
  unfold encA at h
  have h1 : numCell a.c = [] := by
    have := List.append_eq_nil_iff.1 h
    exact (List.append_eq_nil_iff.1 this.1).1
  have h2 := (numCell_len a.c).1
  rw [h1] at h2
  simp at h2
/-- What is taken ahead of the answer. -/
structure TakenM (b : List UInt8) (k o : Int) (l : List It) (S : List UInt8) (s1 s2 s3 s4 : Option (List UInt8)) : Prop where
  e1 : nextN (some b) = (k, s1)
  e2 : nextN s1 = (o, s2)
  e3 : takeL s2 = (l, s3)
  e4 : ttext s3 2048 = (S, s4)
theorem TakenM.ex (b : List UInt8) : ∃ k o l S s1 s2 s3 s4, TakenM b k o l S s1 s2 s3 s4 :=
  ⟨_, _, _, _, _, _, _, _, rfl, rfl, rfl, rfl⟩
/-- The wire of mail, cell by cell. -/
theorem encM_flat (x : MV) : encM x = numCell x.k ++ (numCell x.o ++ (encL x.l ++ ((numCell (askB (hasM x.k) x.a).length ++ askB (hasM x.k) x.a) ++ ansB (hasM x.k) x.y))) := rfl
/-- Mail's code is taken as that mail. -/
theorem TakenM.fwd {b : List UInt8} {k o : Int} {l : List It} {S : List UInt8} {s1 s2 s3 s4 : Option (List UInt8)} (T : TakenM b k o l S s1 s2 s3 s4) {x : MV} (hx : mayM x = true) (hb : b = encM x) :
    k = x.k ∧ o = x.o ∧ l = x.l ∧ S = askB (hasM x.k) x.a ∧ s4 = some (ansB (hasM x.k) x.y) := by
  have hok : OKM (hasM x.k) x := OKM.of hx
  have hk := hok.k
  have ho := hok.order
  have hS := askB_len hok
  obtain ⟨e1, e2, e3, e4⟩ := T
  rw [hb, encM_flat, nextN_of x.k _ (by omega) (by omega)] at e1
  cases e1
  rw [nextN_of x.o _ (by omega) (by omega)] at e2
  cases e2
  rw [takeL_enc x.l hok.list] at e3
  cases e3
  rw [take_text (askB (hasM x.k) x.a) _ 2048 (by omega) (by omega)] at e4
  cases e4
  exact ⟨rfl, rfl, rfl, rfl, rfl⟩
theorem TakenY.fwd {s : Option (List UInt8)} {y : AN} {s1 s2 s3 s4 : Option (List UInt8)} (T : TakenY s y s1 s2 s3 s4) {z : AN} (hz : mayY z = true) (hn : -9223372036854775808 ≤ z.n ∧ z.n ≤ 9223372036854775807) (hs : s = some (numCell z.c ++ (numCell z.m ++ (numCell z.e ++ numCell z.n)))) : y = z ∧ s4 = some [] := by
  obtain ⟨h1, h2, h3⟩ := mayY_facts hz
  obtain ⟨e1, e2, e3, e4⟩ := T
  obtain ⟨yc, ym, ye, yn⟩ := y
  obtain ⟨zc, zm, ze, zn⟩ := z
  dsimp only at h1 h2 h3 hn hs e1 e2 e3 e4
  rw [hs, nextN_of zc _ (by omega) (by omega)] at e1
  cases e1
  rw [nextN_of zm _ (by omega) (by omega)] at e2
  cases e2
  rw [nextN_of ze _ (by omega) (by omega)] at e3
  cases e3
  have h4 := nextN_of zn [] hn.1 hn.2
  rw [List.append_nil] at h4
  rw [h4] at e4
  cases e4
  exact ⟨rfl, rfl⟩
theorem TakenY.back {s : Option (List UInt8)} {y : AN} {s1 s2 s3 s4 : Option (List UInt8)} (T : TakenY s y s1 s2 s3 s4) (h : s4 = some []) : s = some (numCell y.c ++ (numCell y.m ++ (numCell y.e ++ numCell y.n))) := by
  obtain ⟨e1, e2, e3, e4⟩ := T
  rw [h] at e4
  have h3 := num_of e4
  rw [h3] at e3
  have h2 := num_of e3
  rw [h2] at e2
  have h1 := num_of e2
  rw [h1] at e1
  rw [num_of e1, List.append_nil]
/-- What is taken is mail's code, if nothing is left. -/
theorem TakenM.back {b : List UInt8} {k o : Int} {l : List It} {S : List UInt8} {s1 s2 s3 s4 : Option (List UInt8)} (T : TakenM b k o l S s1 s2 s3 s4) {r : List UInt8} (h : s4 = some r) : b = numCell k ++ (numCell o ++ (encL l ++ ((numCell S.length ++ S) ++ r))) := by
  obtain ⟨e1, e2, e3, e4⟩ := T
  rw [h] at e4
  have h3 := (text_taken e4).1
  rw [h3] at e3
  have h2 := (takeL_some e3).2
  rw [h2] at e2
  have h1 := num_of e2
  rw [h1] at e1
  have h0 := num_of e1
  injection h0
/-- What an answer's numbers are. -/
def YN (x : MV) : Prop := -9223372036854775808 ≤ x.y.n ∧ x.y.n ≤ 9223372036854775807
/-- What is asked of what was taken: the request's text is one (or none is there), and which. -/
def askOf (S : List UInt8) : Option AV := match S with
  | [] => some x0
  | c :: r => decA (c :: r)
theorem askOf_fwd {x : MV} (hx : mayM x = true) : askOf (askB (hasM x.k) x.a) = some x.a := by
  have hok : OKM (hasM x.k) x := OKM.of hx
  have ha := hok.a
  unfold askB
  cases h : hasB (hasM x.k) 97 with
  | true =>
    rw [h] at ha
    have he := decA_enc ha
    have hn := encA_ne x.a
    show askOf (encA x.a) = some x.a
    cases hq : encA x.a with
    | nil => exact absurd hq hn
    | cons c r => rw [← hq]; unfold askOf; rw [hq]; simp only; rw [← hq]; exact he
  | false =>
    rw [h] at ha
    show some x0 = some x.a
    rw [(sameA_iff _ _).1 ha]
theorem askOf_back {x : MV} (hx : mayM x = true) {S : List UInt8} (h : askOf S = some x.a) : S = askB (hasM x.k) x.a := by
  have hok : OKM (hasM x.k) x := OKM.of hx
  have ha := hok.a
  unfold askB
  cases hh : hasB (hasM x.k) 97 with
  | true =>
    rw [hh] at ha
    cases S with
    | nil =>
      injection h with h
      rw [← h, show fld true (mayA x0) (sameA x0 x0) = mayA x0 from rfl, x0_no] at ha
      cases ha
    | cons c r => exact (decA_ok h).2
  | false =>
    rw [hh] at ha
    have he := (sameA_iff _ _).1 ha
    cases S with
    | nil => rfl
    | cons c r =>
      have h2 := (decA_ok h).1
      rw [he, x0_no] at h2
      cases h2
/-- The end: what was taken whole is the code of mail that may be; and no other. -/
theorem dec_iff {b : List UInt8} {k o : Int} {l : List It} {S : List UInt8} {s1 s2 s3 s4 : Option (List UInt8)} (T : TakenM b k o l S s1 s2 s3 s4) {y : AN} {t1 t2 t3 sE : Option (List UInt8)}
    (hy : match hasB (hasM k) 121 with | true => TakenY s4 y t1 t2 t3 sE | false => y = y0 ∧ sE = s4) :
    (∀ a, askOf S = some a → sE = some [] → mayM ⟨k, o, l, a, y⟩ = true → b = encM ⟨k, o, l, a, y⟩) ∧
    (∀ x, mayM x = true → YN x → b = encM x → askOf S = some x.a ∧ sE = some [] ∧ x = ⟨k, o, l, x.a, y⟩) := by
  constructor
  · intro a ha hE hm
    have hS := askOf_back (x := ⟨k, o, l, a, y⟩) hm ha
    rw [encM_flat]
    dsimp only at hS ⊢
    rw [← hS]
    cases h : hasB (hasM k) 121 with
    | true =>
      rw [h] at hy
      have h4 := hy.back hE
      rw [T.back h4]
      unfold ansB
      rw [h]
    | false =>
      rw [h] at hy
      rw [hy.2] at hE
      rw [T.back hE]
      unfold ansB
      rw [h]
  · intro x hx hyn hb
    obtain ⟨rfl, rfl, rfl, hS, h4⟩ := T.fwd hx hb
    have ha := askOf_fwd hx
    have hok : OKM (hasM x.k) x := OKM.of hx
    rw [← hS] at ha
    have hyy := hok.y
    cases h : hasB (hasM x.k) 121 with
    | true =>
      rw [h] at hy hyy
      unfold ansB at h4
      rw [h] at h4
      obtain ⟨rfl, hE⟩ := hy.fwd hyy hyn h4
      exact ⟨ha, hE, rfl⟩
    | false =>
      rw [h] at hy hyy
      unfold ansB at h4
      rw [h] at h4
      have he := (sameY_iff _ _).1 hyy
      refine ⟨ha, by rw [hy.2, h4], ?_⟩
      rw [hy.1, ← he]
/-- What Decode answers of bytes. -/
def DecM (b : List UInt8) (w : World) (v0 : Value → Value → Prop) (e : Ending) (w' : World) : Prop :=
  Below w.heap.size w w' ∧ ((∃ x A cap B capb, mayM x = true ∧ YN x ∧ b = encM x ∧ IL w' A x.l.length x.l ∧ IL w' B x.a.l.length x.a.l ∧ ∃ ok, e = .returned (.tuple #[x.v A cap B capb, ok]) ∧ v0 (.bool true) ok) ∨
    ((∀ x, mayM x = true → YN x → b ≠ encM x) ∧ ∃ ok, e = .returned (.tuple #[mv0.v none 0 none 0, ok]) ∧ v0 (.bool false) ok))
theorem encM_inj {x z : MV} (hx : mayM x = true) (hz : mayM z = true) (hxn : YN x) (hzn : YN z) (h : encM x = encM z) : x = z := by
  obtain ⟨k, o, l, S, s1, s2, s3, s4, T⟩ := TakenM.ex (encM x)
  obtain ⟨y, t1, t2, t3, t4, TY⟩ := TakenY.ex s4
  cases hq : hasB (hasM k) 121 with
  | true =>
    have D := dec_iff T (y := y) (t1 := t1) (t2 := t2) (t3 := t3) (sE := t4) (by rw [hq]; exact TY)
    obtain ⟨h1, _, h2⟩ := D.2 x hx hxn rfl
    obtain ⟨k1, _, k2⟩ := D.2 z hz hzn h
    rw [h1] at k1
    injection k1 with k1
    rw [h2, k2, k1]
  | false =>
    have D := dec_iff T (y := y0) (t1 := none) (t2 := none) (t3 := none) (sE := s4) (by rw [hq]; exact ⟨rfl, rfl⟩)
    obtain ⟨h1, _, h2⟩ := D.2 x hx hxn rfl
    obtain ⟨k1, _, k2⟩ := D.2 z hz hzn h
    rw [h1] at k1
    injection k1 with k1
    rw [h2, k2, k1]
end Go.Proofs.Ytefgcknnnglkpaa
