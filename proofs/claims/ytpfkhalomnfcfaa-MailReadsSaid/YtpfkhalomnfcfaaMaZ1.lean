/- Bytes as mail, the program's Decode, lives: five texts in one. No condition. -/
import Derived.Test.YtpfkhalomnfcfaaMaF
import Derived.Test.YtpfkhalomnfcfaaAskL
import Derived.Deep.MidRow
import Derived.Test.YtpfkhalomnfcfaaAskD
import Derived.Test.YtpfkhalomnfcfaaMaS
namespace Go.Proofs.Ytpfkhalomnfcfaa
section
open Go.RowKit Go.Maps Go.Shelf
set_option linter.unusedVariables false
set_option linter.unusedSimpArgs false

theorem decA_ok {b : List UInt8} {x : AV} (h : decA b = some x) : mayA x = true ∧ b = encA x := by
  obtain ⟨y, s, s1, s2, s3, s4, s5, s6, s7, s8, T⟩ := Taken.ex b
  rw [T.dec] at h
  split at h
  case isFalse => cases h
  case isTrue hs =>
    split at h
    case isFalse => cases h
    case isTrue hm =>
      cases h
      refine ⟨hm, ?_⟩
      subst hs
      obtain ⟨_, h9⟩ := takeL_some T.e9
      rw [List.append_nil] at h9
      have e8 := T.e8
      rw [h9] at e8
      obtain ⟨h8, _⟩ := text_taken e8
      have e7 := T.e7
      rw [h8] at e7
      obtain ⟨h7, _⟩ := num_taken e7
      have e6 := T.e6
      rw [h7] at e6
      obtain ⟨h6, _⟩ := num_taken e6
      have e5 := T.e5
      rw [h6] at e5
      obtain ⟨h5, _⟩ := num_taken e5
      have e4 := T.e4
      rw [h5] at e4
      obtain ⟨h4, _⟩ := num_taken e4
      have e3 := T.e3
      rw [h4] at e3
      obtain ⟨h3, _⟩ := num_taken e3
      have e2 := T.e2
      rw [h3] at e2
      obtain ⟨h2, _⟩ := num_taken e2
      have e1 := T.e1
      rw [h2] at e1
      obtain ⟨h1, _⟩ := num_taken e1
      injection h1 with h1
      rw [h1, encA_flat]
theorem run_bts (w : World) (l : List UInt8) (hl : l.length ≤ maxLen) : ∃ cap w', (convert 9 31 (.string ⟨l.toArray⟩)).run Try.prog w = .ok (.slice (some ⟨w.heap.size, 0, none⟩) l.length cap) w' ∧ RB w' (some ⟨w.heap.size, 0, none⟩) l.length l ∧ Below w.heap.size w w' ∧ w.heap.size < w'.heap.size ∧ l.length ≤ cap ∧ cap ≤ 9223372036854775807 := by
  refine ⟨_, _, run_bytes_of_string w _ _ _ _ Try.underlying9 Try.underlying31 Try.underlying5, ⟨rfl, fun _ => ⟨_, _, rfl, fun j y hy => ?_⟩⟩, (Below.drew (Below.refl _ w)).alloc (Nat.le_refl _) _, by simp, ?_, ?_⟩
  · have hj : j < l.length := (List.getElem?_eq_some_iff.1 hy).1
    rw [show w.heap.size = w.drew.heap.size from rfl, cell_of_row _ _ _ _ _ _ (heap_alloc_new w.drew _)]
    have hyy : l[j] = y := (List.getElem?_eq_some_iff.1 hy).2
    simp [bytesRow, Array.getElem?_append, hj, hy, bv, hyy]
  · have := grownCap_ge w (⟨l.toArray⟩ : ByteArray).size 0 5
    exact this
  · have := grownCap_le_maxLen w (⟨l.toArray⟩ : ByteArray).size 0 5 hl
    unfold maxLen at this
    omega

theorem num_of {n : Int} {r : List UInt8} {st : Option (List UInt8)} (h : nextN st = (n, some r)) : st = some (numCell n ++ r) := (num_taken (a := -9223372036854775808) (b := 9223372036854775807) h).1
theorem nextN_of (n : Int) (r : List UInt8) (h0 : -9223372036854775808 ≤ n) (h1 : n ≤ 9223372036854775807) : nextN (some (numCell n ++ r)) = (n, some r) := take_num n r h0 h1 _ _ h0 h1
theorem nextN_none : (nextN none).2 = none := rfl
theorem encA_ne (a : AV) : encA a ≠ [] := fun h => by
  unfold encA at h
  have h1 : numCell a.c = [] := by
    have := List.append_eq_nil_iff.1 h
    exact (List.append_eq_nil_iff.1 this.1).1
  have h2 := (numCell_len a.c).1
  rw [h1] at h2
  simp at h2
/-- What is taken ahead of the answer. -/
structure TakenM (b : List UInt8) (k o : Int) (l : List It) (S : List UInt8) (s1 s2 s3 s4 : Option (List UInt8)) : Prop where
  e1 : nextN (some b) = (k, s1)
  e2 : nextN s1 = (o, s2)
  e3 : takeL s2 = (l, s3)
  e4 : ttext s3 2048 = (S, s4)
theorem TakenM.ex (b : List UInt8) : ∃ k o l S s1 s2 s3 s4, TakenM b k o l S s1 s2 s3 s4 :=
  ⟨_, _, _, _, _, _, _, _, rfl, rfl, rfl, rfl⟩
/-- The wire of mail, cell by cell. -/
theorem encM_flat (x : MV) : encM x = numCell x.k ++ (numCell x.o ++ (encL x.l ++ ((numCell (askB (hasM x.k) x.a).length ++ askB (hasM x.k) x.a) ++ ansB (hasM x.k) x.y))) := rfl
/-- Mail's code is taken as that mail. -/
theorem TakenM.fwd {b : List UInt8} {k o : Int} {l : List It} {S : List UInt8} {s1 s2 s3 s4 : Option (List UInt8)} (T : TakenM b k o l S s1 s2 s3 s4) {x : MV} (hx : mayM x = true) (hb : b = encM x) :
    k = x.k ∧ o = x.o ∧ l = x.l ∧ S = askB (hasM x.k) x.a ∧ s4 = some (ansB (hasM x.k) x.y) := by
  have hok : OKM (hasM x.k) x := OKM.of hx
  have hk := hok.k
  have ho := hok.order
  have hS := askB_len hok
  obtain ⟨e1, e2, e3, e4⟩ := T
  rw [hb, encM_flat, nextN_of x.k _ (by omega) (by omega)] at e1
  cases e1
  rw [nextN_of x.o _ (by omega) (by omega)] at e2
  cases e2
  rw [takeL_enc x.l hok.list] at e3
  cases e3
  rw [take_text (askB (hasM x.k) x.a) _ 2048 (by omega) (by omega)] at e4
  cases e4
  exact ⟨rfl, rfl, rfl, rfl, rfl⟩
theorem TakenY.fwd {s : Option (List UInt8)} {y : AN} {s1 s2 s3 s4 : Option (List UInt8)} (T : TakenY s y s1 s2 s3 s4) {z : AN} (hz : mayY z = true) (hn : -9223372036854775808 ≤ z.n ∧ z.n ≤ 9223372036854775807) (hs : s = some (numCell z.c ++ (numCell z.m ++ (numCell z.e ++ numCell z.n)))) : y = z ∧ s4 = some [] := by
  obtain ⟨h1, h2, h3⟩ := mayY_facts hz
  obtain ⟨e1, e2, e3, e4⟩ := T
  obtain ⟨yc, ym, ye, yn⟩ := y
  obtain ⟨zc, zm, ze, zn⟩ := z
  dsimp only at h1 h2 h3 hn hs e1 e2 e3 e4
  rw [hs, nextN_of zc _ (by omega) (by omega)] at e1
  cases e1
  rw [nextN_of zm _ (by omega) (by omega)] at e2
  cases e2
  rw [nextN_of ze _ (by omega) (by omega)] at e3
  cases e3
  have h4 := nextN_of zn [] hn.1 hn.2
  rw [List.append_nil] at h4
  rw [h4] at e4
  cases e4
  exact ⟨rfl, rfl⟩
theorem TakenY.back {s : Option (List UInt8)} {y : AN} {s1 s2 s3 s4 : Option (List UInt8)} (T : TakenY s y s1 s2 s3 s4) (h : s4 = some []) : s = some (numCell y.c ++ (numCell y.m ++ (numCell y.e ++ numCell y.n))) := by
  obtain ⟨e1, e2, e3, e4⟩ := T
  rw [h] at e4
  have h3 := num_of e4
  rw [h3] at e3
  have h2 := num_of e3
  rw [h2] at e2
  have h1 := num_of e2
  rw [h1] at e1
  rw [num_of e1, List.append_nil]
/-- What is taken is mail's code, if nothing is left. -/
theorem TakenM.back {b : List UInt8} {k o : Int} {l : List It} {S : List UInt8} {s1 s2 s3 s4 : Option (List UInt8)} (T : TakenM b k o l S s1 s2 s3 s4) {r : List UInt8} (h : s4 = some r) : b = numCell k ++ (numCell o ++ (encL l ++ ((numCell S.length ++ S) ++ r))) := by
  obtain ⟨e1, e2, e3, e4⟩ := T
  rw [h] at e4
  have h3 := (text_taken e4).1
  rw [h3] at e3
  have h2 := (takeL_some e3).2
  rw [h2] at e2
  have h1 := num_of e2
  rw [h1] at e1
  have h0 := num_of e1
  injection h0
/-- What an answer's numbers are. -/
def YN (x : MV) : Prop := -9223372036854775808 ≤ x.y.n ∧ x.y.n ≤ 9223372036854775807
/-- What is asked of what was taken: the request's text is one (or none is there), and which. -/
def askOf (S : List UInt8) : Option AV := match S with
  | [] => some x0
  | c :: r => decA (c :: r)
theorem askOf_fwd {x : MV} (hx : mayM x = true) : askOf (askB (hasM x.k) x.a) = some x.a := by
  have hok : OKM (hasM x.k) x := OKM.of hx
  have ha := hok.a
  unfold askB
  cases h : hasB (hasM x.k) 97 with
  | true =>
    rw [h] at ha
    have he := decA_enc ha
    have hn := encA_ne x.a
    show askOf (encA x.a) = some x.a
    cases hq : encA x.a with
    | nil => exact absurd hq hn
    | cons c r => rw [← hq]; unfold askOf; rw [hq]; simp only; rw [← hq]; exact he
  | false =>
    rw [h] at ha
    show some x0 = some x.a
    rw [(sameA_iff _ _).1 ha]
theorem askOf_back {x : MV} (hx : mayM x = true) {S : List UInt8} (h : askOf S = some x.a) : S = askB (hasM x.k) x.a := by
  have hok : OKM (hasM x.k) x := OKM.of hx
  have ha := hok.a
  unfold askB
  cases hh : hasB (hasM x.k) 97 with
  | true =>
    rw [hh] at ha
    cases S with
    | nil =>
      injection h with h
      rw [← h, show fld true (mayA x0) (sameA x0 x0) = mayA x0 from rfl, x0_no] at ha
      cases ha
    | cons c r => exact (decA_ok h).2
  | false =>
    rw [hh] at ha
    have he := (sameA_iff _ _).1 ha
    cases S with
    | nil => rfl
    | cons c r =>
      have h2 := (decA_ok h).1
      rw [he, x0_no] at h2
      cases h2
/-- The end: what was taken whole is the code of mail that may be; and no other. -/
theorem dec_iff {b : List UInt8} {k o : Int} {l : List It} {S : List UInt8} {s1 s2 s3 s4 : Option (List UInt8)} (T : TakenM b k o l S s1 s2 s3 s4) {y : AN} {t1 t2 t3 sE : Option (List UInt8)}
    (hy : match hasB (hasM k) 121 with | true => TakenY s4 y t1 t2 t3 sE | false => y = y0 ∧ sE = s4) :
    (∀ a, askOf S = some a → sE = some [] → mayM ⟨k, o, l, a, y⟩ = true → b = encM ⟨k, o, l, a, y⟩) ∧
    (∀ x, mayM x = true → YN x → b = encM x → askOf S = some x.a ∧ sE = some [] ∧ x = ⟨k, o, l, x.a, y⟩) := by
  constructor
  · intro a ha hE hm
    have hS := askOf_back (x := ⟨k, o, l, a, y⟩) hm ha
    rw [encM_flat]
    dsimp only at hS ⊢
    rw [← hS]
    cases h : hasB (hasM k) 121 with
    | true =>
      rw [h] at hy
      have h4 := hy.back hE
      rw [T.back h4]
      unfold ansB
      rw [h]
    | false =>
      rw [h] at hy
      rw [hy.2] at hE
      rw [T.back hE]
      unfold ansB
      rw [h]
  · intro x hx hyn hb
    obtain ⟨rfl, rfl, rfl, hS, h4⟩ := T.fwd hx hb
    have ha := askOf_fwd hx
    have hok : OKM (hasM x.k) x := OKM.of hx
    rw [← hS] at ha
    have hyy := hok.y
    cases h : hasB (hasM x.k) 121 with
    | true =>
      rw [h] at hy hyy
      unfold ansB at h4
      rw [h] at h4
      obtain ⟨rfl, hE⟩ := hy.fwd hyy hyn h4
      exact ⟨ha, hE, rfl⟩
    | false =>
      rw [h] at hy hyy
      unfold ansB at h4
      rw [h] at h4
      have he := (sameY_iff _ _).1 hyy
      refine ⟨ha, by rw [hy.2, h4], ?_⟩
      rw [hy.1, ← he]
/-- What Decode answers of bytes. -/
def DecM (b : List UInt8) (w : World) (v0 : Value → Value → Prop) (e : Ending) (w' : World) : Prop :=
  Below w.heap.size w w' ∧ ((∃ x A cap B capb, mayM x = true ∧ YN x ∧ b = encM x ∧ IL w' A x.l.length x.l ∧ IL w' B x.a.l.length x.a.l ∧ ∃ ok, e = .returned (.tuple #[x.v A cap B capb, ok]) ∧ v0 (.bool true) ok) ∨
    ((∀ x, mayM x = true → YN x → b ≠ encM x) ∧ ∃ ok, e = .returned (.tuple #[mv0.v none 0 none 0, ok]) ∧ v0 (.bool false) ok))
theorem encM_inj {x z : MV} (hx : mayM x = true) (hz : mayM z = true) (hxn : YN x) (hzn : YN z) (h : encM x = encM z) : x = z := by
  obtain ⟨k, o, l, S, s1, s2, s3, s4, T⟩ := TakenM.ex (encM x)
  obtain ⟨y, t1, t2, t3, t4, TY⟩ := TakenY.ex s4
  cases hq : hasB (hasM k) 121 with
  | true =>
    have D := dec_iff T (y := y) (t1 := t1) (t2 := t2) (t3 := t3) (sE := t4) (by rw [hq]; exact TY)
    obtain ⟨h1, _, h2⟩ := D.2 x hx hxn rfl
    obtain ⟨k1, _, k2⟩ := D.2 z hz hzn h
    rw [h1] at k1
    injection k1 with k1
    rw [h2, k2, k1]
  | false =>
    have D := dec_iff T (y := y0) (t1 := none) (t2 := none) (t3 := none) (sE := s4) (by rw [hq]; exact ⟨rfl, rfl⟩)
    obtain ⟨h1, _, h2⟩ := D.2 x hx hxn rfl
    obtain ⟨k1, _, k2⟩ := D.2 z hz hzn h
    rw [h1] at k1
    injection k1 with k1
    rw [h2, k2, k1]
end
section
open Go.RowKit Go.Maps Go.Shelf
set_option linter.unusedVariables false
set_option linter.unusedSimpArgs false

theorem blk_setCells {B : Nat} {t : TypeId} (vs : List Value) : ∀ (i : Nat) (W : World) (cs : Array Value), Blk W B t cs → i + vs.length ≤ cs.size →
    Blk (W.setCells B i vs) B t (cs.toList.take i ++ vs ++ cs.toList.drop (i + vs.length)).toArray ∧ Keep (fun k => k = B) W (W.setCells B i vs) := by
  induction vs with
  | nil =>
    intro i W cs h hs
    refine ⟨?_, Keep.refl _ _⟩
    have e : (cs.toList.take i ++ [] ++ cs.toList.drop (i + 0)).toArray = cs := by simp
    rw [List.length_nil, e]
    exact h
  | cons v r ih =>
    intro i W cs h hs
    rw [List.length_cons] at hs
    obtain ⟨hb, hk⟩ := ih (i + 1) _ _ (h.set_ i v) (by rw [Array.size_setIfInBounds]; omega)
    refine ⟨?_, (((Keep.refl (fun k => k = B) W).setCell (p := ⟨B, i, none⟩) (fun _ => rfl) v)).trans hk (fun _ _ e => e)⟩
    have e : (cs.setIfInBounds i v).toList.take (i + 1) ++ r ++ (cs.setIfInBounds i v).toList.drop (i + 1 + r.length) = cs.toList.take i ++ v :: r ++ cs.toList.drop (i + (v :: r).length) := by
      have hl : i < cs.toList.length := by simp; omega
      rw [Array.toList_setIfInBounds, List.take_add_one, List.getElem?_set_self hl, List.take_set_of_le (Nat.le_refl _), List.drop_set_of_lt (by omega), List.length_cons, show i + (r.length + 1) = i + 1 + r.length by omega]
      simp
    rw [← e]
    exact hb
theorem Blk.there {W : World} {B : Nat} {t : TypeId} {cs : Array Value} (h : Blk W B t cs) (i n : Nat) (hn : i + n ≤ cs.size) : W.there B i n := fun j hj => by
  rw [h.cell, h.frozen, Array.getElem?_eq_getElem (show i + j < cs.size by omega)]
  exact ⟨rfl, rfl⟩
theorem Blk.range {W : World} {B : Nat} {t : TypeId} {cs : Array Value} (h : Blk W B t cs) : W.rangeAt B 0 cs.toList := fun j v hv => by
  rw [h.cell, ← hv]
  simp
/-- A store of a whole value to the cells from i on. -/
theorem wpStoreM {W : World} {ops : Array Oper} {rest : List Oper} {o : Oper} {a : Act} {Q : Exit → Act → World → Prop} {B : Nat} {t : TypeId} {cs : Array Value} (ty : TypeId) (i : Nat) (cells : Array Value) (hgd : o.guard = none) (x y : Operand) (ho : o.op = .store ty x y)
    (hx : a.eval x = .pointer (some ⟨B, i, none⟩)) (hy : a.eval y = .agg cells) (hb : Blk W B t cs) (hn : i + cells.size ≤ cs.size) (hi : (Try.prog.info? ty).map (·.size) = some cells.size) (h1 : cells.toList.all (·.oneCell') = true)
    (h : ∀ W', Blk W' B t (cs.toList.take i ++ cells.toList ++ cs.toList.drop (i + cells.toList.length)).toArray → Keep (fun k => k = B) W W' → wpList Try.prog ops Q rest (a.put o.dst undef) W') : wpList Try.prog ops Q (o :: rest) a W := by
  obtain ⟨h2, h3⟩ := blk_setCells cells.toList i W cs hb (by simpa using hn)
  exact wpList_store_mid hgd ty x y ho B i cells hx hy (hb.there i _ hn) hi (by rw [← Array.all_toList]; exact h1) (h _ h2 h3)
/-- A load of a whole block. -/
theorem wpLoadM {W : World} {ops : Array Oper} {rest : List Oper} {o : Oper} {a : Act} {Q : Exit → Act → World → Prop} {B : Nat} {t : TypeId} {cs : Array Value} (ty : TypeId) (hgd : Region.wanted o (yielded ops a.tmps) = true) (x : Operand) (ho : o.op = .load ty x)
    (hx : a.eval x = .pointer (some ⟨B, 0, none⟩)) (hb : Blk W B t cs) (d : TypeDesc) (hu : Try.prog.underlying ty = some d) (hd : d.isRow = true) (hi : (Try.prog.info? ty).map (·.size) = some cs.size)
    (h : wpList Try.prog ops Q rest (a.put o.dst (.agg cs)) W) : wpList Try.prog ops Q (o :: rest) a W := by
  have h2 := wp_load_mid (P := Try.prog) (op := o) (a := a) (w := W) (K := fun a' w' => wpList Try.prog ops Q rest a' w') (Q := Q) ty x ho B 0 hx cs.toList d hb.range hu hd (by rw [hi]; simp) (by simpa using h)
  unfold wpList
  rw [if_pos hgd]
  exact .inl h2
theorem mail_info : (Try.prog.info? 29).map (·.size) = some 16 := by kernel_rfl
theorem ask_info9 : (Try.prog.info? 24).map (·.size) = some 9 := by kernel_rfl
end
section
open Go.RowKit Go.Maps Go.Shelf
set_option linter.unusedVariables false
set_option linter.unusedSimpArgs false

def DecBPost (r : Option AV) (w : World) (e : Ending) (w' : World) : Prop :=
  Below w.heap.size w w' ∧ match r with
    | none => e = .returned (.tuple #[x0.v none 0, .int .i64 10])
    | some x => ∃ A cap, e = .returned (.tuple #[x.v A cap, .int .i64 0]) ∧ IL w' A x.l.length x.l ∧ ∀ ad, A = some ad → w.heap.size < ad.block

set_option maxRecDepth 100000 in
set_option maxHeartbeats 6400000 in
theorem askdecode2_any (A : Option Addr) (n c : Nat) (b : List UInt8) (w : World) (hr : RB w A n b) (hn : n ≤ 140737488355328) :
    Calls Try.prog 40 #[.slice A n c] w (DecBPost (decA b) w) := by
  obtain ⟨x, s9, s1, s2, s3, s4, s5, s6, s7, s8, HT⟩ := Taken.ex b
  have HD := Lib.hid HT.dec
  have hlen1 : (s1.getD []).length ≤ b.length := by have := tnum_len (some b) (-9223372036854775808) 9223372036854775807; rw [HT.e1] at this; exact this
  have hlen2 : (s2.getD []).length ≤ (s1.getD []).length := by have := tnum_len s1 (-9223372036854775808) 9223372036854775807; rw [HT.e2] at this; exact this
  have hlen3 : (s3.getD []).length ≤ (s2.getD []).length := by have := tnum_len s2 (-9223372036854775808) 9223372036854775807; rw [HT.e3] at this; exact this
  have hlen4 : (s4.getD []).length ≤ (s3.getD []).length := by have := tnum_len s3 (-9223372036854775808) 9223372036854775807; rw [HT.e4] at this; exact this
  have hlen5 : (s5.getD []).length ≤ (s4.getD []).length := by have := tnum_len s4 (-9223372036854775808) 9223372036854775807; rw [HT.e5] at this; exact this
  have hlen6 : (s6.getD []).length ≤ (s5.getD []).length := by have := tnum_len s5 (-9223372036854775808) 9223372036854775807; rw [HT.e6] at this; exact this
  have hlen7 : (s7.getD []).length ≤ (s6.getD []).length := by have := tnum_len s6 (-9223372036854775808) 9223372036854775807; rw [HT.e7] at this; exact this
  have hlen8 : (s8.getD []).length ≤ (s7.getD []).length := by have := ttext_len s7 16; rw [HT.e8] at this; exact this
  have K1 := fun W g A' c' h => tnum_any W g A' c' (some b) (-9223372036854775808) 9223372036854775807 h
  rw [HT.e1] at K1
  replace K1 := Lib.hid K1
  have K2 := fun W g A' c' h => tnum_any W g A' c' s1 (-9223372036854775808) 9223372036854775807 h
  rw [HT.e2] at K2
  replace K2 := Lib.hid K2
  have K3 := fun W g A' c' h => tnum_any W g A' c' s2 (-9223372036854775808) 9223372036854775807 h
  rw [HT.e3] at K3
  replace K3 := Lib.hid K3
  have K4 := fun W g A' c' h => tnum_any W g A' c' s3 (-9223372036854775808) 9223372036854775807 h
  rw [HT.e4] at K4
  replace K4 := Lib.hid K4
  have K5 := fun W g A' c' h => tnum_any W g A' c' s4 (-9223372036854775808) 9223372036854775807 h
  rw [HT.e5] at K5
  replace K5 := Lib.hid K5
  have K6 := fun W g A' c' h => tnum_any W g A' c' s5 (-9223372036854775808) 9223372036854775807 h
  rw [HT.e6] at K6
  replace K6 := Lib.hid K6
  have K7 := fun W g A' c' h => tnum_any W g A' c' s6 (-9223372036854775808) 9223372036854775807 h
  rw [HT.e7] at K7
  replace K7 := Lib.hid K7
  have K8 := fun W g A' c' h => ttext_any W g A' c' s7 16 h
  rw [HT.e8] at K8
  replace K8 := Lib.hid K8
  have K9 := fun W g A' c' h => itake_any W g A' c' s8 h
  rw [HT.e9] at K9
  replace K9 := Lib.hid K9
  have hlen9 : (s9.getD []).length ≤ (s8.getD []).length := by
    cases hs9 : s9 with
    | none => simp
    | some r9 =>
      have h9 := HT.e9
      rw [hs9] at h9
      rw [(takeL_some h9).2]
      simp
  replace HT := Lib.hid HT
  clear HT
  obtain ⟨xc, xm, xk, xo, xr, xt, xn, xg, xl⟩ := x
  dsimp only at K1 K2 K3 K4 K5 K6 K7 K8 K9 HD
  go_enter Try.func40, Try.ntmps40
  go_wp2_with fail
  refine (take_any A n c b _ (hr.alloc _) hn).mono ?_
  rintro e w1 ⟨g, A1, c1, rfl, hg1, ht1, hb1, hA1⟩
  have hg0 : w.heap.size < g := by have := hg1; simp at this; omega
  have h00 : DS w w1 g zeroA ((w1.alloc (.cells zeroA 24)).alloc (.cells (ptrs w1.heap.size) 106)) A1 c1 (some b) := by
    have hz : w.heap.size + 1 ≤ w1.heap.size := by have := hb1.size; simpa using this
    have k : Keep (fun _ => False) w1 ((w1.alloc (.cells zeroA 24)).alloc (.cells (ptrs w1.heap.size) 106)) := ((Keep.refl _ w1).alloc _).alloc _
    have hbw : Below w.heap.size w w1 := ((Below.refl w.heap.size w).alloc (Nat.le_refl _) (.cells zeroA 24)).trans (hb1.mono (by simp))
    refine ⟨ht1.keep ht1.lt k id (fun _ _ => id), ht1.lt, hbw.trans (k.below (by omega) (fun _ _ => id)), (Blk.new _ _ _).alloc _, ?_, ((Blk.new w 24 zeroA).kept (Keep.of_below hb1) (by simp)).kept k id, hg0, ht1.blk.lt⟩
    have := Blk.new (w1.alloc (.cells zeroA 24)) 106 (ptrs w1.heap.size)
    simpa using this
  go_wp2_with fail
  refine wp_loop_rounds 9 ?_
  rw [rounds_succ]
  have hp1 := h00.bp.cell 0
  simp [ptrs] at hp1
  go_wp2_with fail
  refine (K1.out _ g _ _ h00.pt).mono ?_
  rintro e W1 ⟨A2, c2, rfl, ht, hk, hs⟩
  have hd := h00.step ht hk hs hlen1
  have hf1 := hd.ba.frozen 0
  have hc1 := hd.ba.cell 0
  simp [zeroA] at hc1
  have h1 : DS w w1 g #[.int .i64 xc, .int .i64 0, .int .i64 0, .int .i64 0, .int .i64 0, .int .i64 0, .int .i64 0, .string ⟨#[]⟩, .slice none 0 0] (W1.setCell ⟨w1.heap.size, 0, none⟩ (.int .i64 xc)) A2 c2 s1 := by simpa [zeroA] using hd.put 0 (.int .i64 xc)
  clear ht hk hs hd K1 hlen1 h00
  go_wp2_with fail
  clear hp1 hf1 hc1
  rw [rounds_succ]
  have hp2 := h1.bp.cell 1
  simp [ptrs] at hp2
  go_wp2_with fail
  refine (K2.out _ g _ _ h1.pt).mono ?_
  rintro e W2 ⟨A3, c3, rfl, ht, hk, hs⟩
  have hd := h1.step ht hk hs hlen2
  have hf2 := hd.ba.frozen 1
  have hc2 := hd.ba.cell 1
  simp [zeroA] at hc2
  have h2 : DS w w1 g #[.int .i64 xc, .int .i64 xm, .int .i64 0, .int .i64 0, .int .i64 0, .int .i64 0, .int .i64 0, .string ⟨#[]⟩, .slice none 0 0] (W2.setCell ⟨w1.heap.size, 1, none⟩ (.int .i64 xm)) A3 c3 s2 := by simpa [zeroA] using hd.put 1 (.int .i64 xm)
  clear ht hk hs hd K2 hlen2 h1
  go_wp2_with fail
  clear hp2 hf2 hc2
  rw [rounds_succ]
  have hp3 := h2.bp.cell 2
  simp [ptrs] at hp3
  go_wp2_with fail
  refine (K3.out _ g _ _ h2.pt).mono ?_
  rintro e W3 ⟨A4, c4, rfl, ht, hk, hs⟩
  have hd := h2.step ht hk hs hlen3
  have hf3 := hd.ba.frozen 2
  have hc3 := hd.ba.cell 2
  simp [zeroA] at hc3
  have h3 : DS w w1 g #[.int .i64 xc, .int .i64 xm, .int .i64 xk, .int .i64 0, .int .i64 0, .int .i64 0, .int .i64 0, .string ⟨#[]⟩, .slice none 0 0] (W3.setCell ⟨w1.heap.size, 2, none⟩ (.int .i64 xk)) A4 c4 s3 := by simpa [zeroA] using hd.put 2 (.int .i64 xk)
  clear ht hk hs hd K3 hlen3 h2
  go_wp2_with fail
  clear hp3 hf3 hc3
  rw [rounds_succ]
  have hp4 := h3.bp.cell 3
  simp [ptrs] at hp4
  go_wp2_with fail
  refine (K4.out _ g _ _ h3.pt).mono ?_
  rintro e W4 ⟨A5, c5, rfl, ht, hk, hs⟩
  have hd := h3.step ht hk hs hlen4
  have hf4 := hd.ba.frozen 3
  have hc4 := hd.ba.cell 3
  simp [zeroA] at hc4
  have h4 : DS w w1 g #[.int .i64 xc, .int .i64 xm, .int .i64 xk, .int .i64 xo, .int .i64 0, .int .i64 0, .int .i64 0, .string ⟨#[]⟩, .slice none 0 0] (W4.setCell ⟨w1.heap.size, 3, none⟩ (.int .i64 xo)) A5 c5 s4 := by simpa [zeroA] using hd.put 3 (.int .i64 xo)
  clear ht hk hs hd K4 hlen4 h3
  go_wp2_with fail
  clear hp4 hf4 hc4
  rw [rounds_succ]
  have hp5 := h4.bp.cell 4
  simp [ptrs] at hp5
  go_wp2_with fail
  refine (K5.out _ g _ _ h4.pt).mono ?_
  rintro e W5 ⟨A6, c6, rfl, ht, hk, hs⟩
  have hd := h4.step ht hk hs hlen5
  have hf5 := hd.ba.frozen 4
  have hc5 := hd.ba.cell 4
  simp [zeroA] at hc5
  have h5 : DS w w1 g #[.int .i64 xc, .int .i64 xm, .int .i64 xk, .int .i64 xo, .int .i64 xr, .int .i64 0, .int .i64 0, .string ⟨#[]⟩, .slice none 0 0] (W5.setCell ⟨w1.heap.size, 4, none⟩ (.int .i64 xr)) A6 c6 s5 := by simpa [zeroA] using hd.put 4 (.int .i64 xr)
  clear ht hk hs hd K5 hlen5 h4
  go_wp2_with fail
  clear hp5 hf5 hc5
  rw [rounds_succ]
  have hp6 := h5.bp.cell 5
  simp [ptrs] at hp6
  go_wp2_with fail
  refine (K6.out _ g _ _ h5.pt).mono ?_
  rintro e W6 ⟨A7, c7, rfl, ht, hk, hs⟩
  have hd := h5.step ht hk hs hlen6
  have hf6 := hd.ba.frozen 5
  have hc6 := hd.ba.cell 5
  simp [zeroA] at hc6
  have h6 : DS w w1 g #[.int .i64 xc, .int .i64 xm, .int .i64 xk, .int .i64 xo, .int .i64 xr, .int .i64 xt, .int .i64 0, .string ⟨#[]⟩, .slice none 0 0] (W6.setCell ⟨w1.heap.size, 5, none⟩ (.int .i64 xt)) A7 c7 s6 := by simpa [zeroA] using hd.put 5 (.int .i64 xt)
  clear ht hk hs hd K6 hlen6 h5
  go_wp2_with fail
  clear hp6 hf6 hc6
  rw [rounds_succ]
  have hp7 := h6.bp.cell 6
  simp [ptrs] at hp7
  go_wp2_with fail
  refine (K7.out _ g _ _ h6.pt).mono ?_
  rintro e W7 ⟨A8, c8, rfl, ht, hk, hs⟩
  have hd := h6.step ht hk hs hlen7
  have hf7 := hd.ba.frozen 6
  have hc7 := hd.ba.cell 6
  simp [zeroA] at hc7
  have h7 : DS w w1 g #[.int .i64 xc, .int .i64 xm, .int .i64 xk, .int .i64 xo, .int .i64 xr, .int .i64 xt, .int .i64 xn, .string ⟨#[]⟩, .slice none 0 0] (W7.setCell ⟨w1.heap.size, 6, none⟩ (.int .i64 xn)) A8 c8 s7 := by simpa [zeroA] using hd.put 6 (.int .i64 xn)
  clear ht hk hs hd K7 hlen7 h6
  go_wp2_with fail
  clear hp7 hf7 hc7
  rw [rounds_succ]
  go_wp2_with fail
  refine (K8.out _ g _ _ h7.pt).mono ?_
  rintro e W8 ⟨A9, c9, rfl, ht, hk, hs⟩
  have hd := h7.step ht hk hs hlen8
  have hf7 := hd.ba.frozen 7
  have hc7 := hd.ba.cell 7
  simp [zeroA] at hc7
  have h8 : DS w w1 g #[.int .i64 xc, .int .i64 xm, .int .i64 xk, .int .i64 xo, .int .i64 xr, .int .i64 xt, .int .i64 xn, .string ⟨xg.toArray⟩, .slice none 0 0] (W8.setCell ⟨w1.heap.size, 7, none⟩ (.string ⟨xg.toArray⟩)) A9 c9 s8 := by simpa [zeroA] using hd.put 7 (.string ⟨xg.toArray⟩)
  clear ht hk hs hd K8 hlen8 h7
  rw [strV_eq]
  go_wp2_with fail
  clear hf7 hc7
  refine (K9.out _ g _ _ h8.pt).mono ?_
  rintro e W9 ⟨v9, A10, c10, rfl, hO, ht, hk, hs⟩
  obtain ⟨AL, cL, rfl, hl1, hl2, hil, hal⟩ := hO.form
  have hba8 := h8.ba.lt
  have hd := h8.step ht hk hs hlen9
  have hf8 := hd.ba.frozen 8
  have hc8 := hd.ba.cell 8
  simp [zeroA] at hc8
  have h9 : DS w w1 g #[.int .i64 xc, .int .i64 xm, .int .i64 xk, .int .i64 xo, .int .i64 xr, .int .i64 xt, .int .i64 xn, .string ⟨xg.toArray⟩, .slice AL xl.length cL] (W9.setCell ⟨w1.heap.size, 8, none⟩ (.slice AL xl.length cL)) A10 c10 s9 := by simpa [zeroA] using hd.put 8 (.slice AL xl.length cL)
  have hil9 : IL (W9.setCell ⟨w1.heap.size, 8, none⟩ (.slice AL xl.length cL)) AL xl.length xl := hil.kept ((Keep.refl (fun k => k = w1.heap.size) W9).setCell (p := ⟨w1.heap.size, 8, none⟩) (fun _ => rfl) _) (fun ad h1 h2 e => by have := (hal ad h1).1; omega)
  clear ht hk hs hd K9 hlen9 h8 hO hil
  go_wp2_with fail
  clear hf8 hc8
  generalize W9.setCell ⟨w1.heap.size, 8, none⟩ (.slice AL xl.length cL) = WF at h9 hil9 ⊢
  refine (tdone_any WF g A10 c10 s9 h9.pt).mono ?_
  rintro e w' ⟨rfl, rfl⟩
  have hS9 := boxS (c := xc) (m := xm) (k := xk) (o := xo) (r := xr) (t := xt) (n := xn) (g := xg) (l := xl) (A := AL) (cap := cL) h9.ba
  have hS0 := boxS (c := 0) (m := 0) (k := 0) (o := 0) (r := 0) (t := 0) (n := 0) (g := []) (l := []) (A := none) (cap := 0) h9.b0
  have hF0 := fun i => h9.b0.frozen i
  have hLEN : xl.length ≤ 9223372036854775807 := by unfold maxLen at hl2; omega
  have hbel := h9.bel
  by_cases hst : s9 = some []
  case neg =>
    have hd : tdoneN s9 = 10 := by unfold tdoneN; rw [if_neg hst]
    rw [hd]
    go_wp2
    have hbE := fill9 (h9.b0) (.int .i64 0) (.int .i64 0) (.int .i64 0) (.int .i64 0) (.int .i64 0) (.int .i64 0) (.int .i64 0) (.string ⟨#[]⟩) (.slice none 0 0)
    have hkE := keep9 WF w.heap.size (.int .i64 0) (.int .i64 0) (.int .i64 0) (.int .i64 0) (.int .i64 0) (.int .i64 0) (.int .i64 0) (.string ⟨#[]⟩) (.slice none 0 0)
    generalize (((((((((WF.setCell ⟨w.heap.size, 0, none⟩ (.int .i64 0)).setCell ⟨w.heap.size, 1, none⟩ (.int .i64 0)).setCell ⟨w.heap.size, 2, none⟩ (.int .i64 0)).setCell ⟨w.heap.size, 3, none⟩ (.int .i64 0)).setCell ⟨w.heap.size, 4, none⟩ (.int .i64 0)).setCell ⟨w.heap.size, 5, none⟩ (.int .i64 0)).setCell ⟨w.heap.size, 6, none⟩ (.int .i64 0)).setCell ⟨w.heap.size, 7, none⟩ (.string ⟨#[]⟩)).setCell ⟨w.heap.size, 8, none⟩ (.slice none 0 0)) = WE at hbE hkE ⊢
    have hE := boxS (c := 0) (m := 0) (k := 0) (o := 0) (r := 0) (t := 0) (n := 0) (g := []) (l := []) (A := none) (cap := 0) hbE
    clear hS0 hF0 hS9
    obtain ⟨j0, j1, j2, j3, j4, j5, j6, j7, j8⟩ := hE
    refine bodyPost_ret (v := .tuple #[.agg #[.int .i64 0, .int .i64 0, .int .i64 0, .int .i64 0, .int .i64 0, .int .i64 0, .int .i64 0, .string ⟨#[]⟩, .slice none 0 0], .int .i64 10]) (by simp [results, Try.results40, go_sem, j0, j1, j2, j3, j4, j5, j6, j7, j8]) rfl ?_
    refine ⟨hbel.trans (hkE.below (B := w.heap.size) hbel.size (fun k hk e => by omega)), ?_⟩
    rw [HD.out, if_neg hst]
    rfl
  have hd : tdoneN s9 = 0 := by unfold tdoneN; rw [if_pos hst]
  rw [hd]
  have hkey := askmay_any ⟨xc, xm, xk, xo, xr, xt, xn, xg, xl⟩ AL cL WF hil9 hLEN
  unfold AV.v at hkey
  dsimp only at hkey
  go_wp2_with fail
  refine hkey.mono ?_
  rintro e WG ⟨rfl, hxG⟩
  have hbG := h9.b0.kept (Keep.of_below hxG) (by have := h9.b0.lt; omega)
  have haG := h9.ba.kept (Keep.of_below hxG) (by have := h9.ba.lt; omega)
  have hilG := hil9.below hxG
  have hbelG := hbel.trans (hxG.mono hbel.size)
  have hS9 := boxS (c := xc) (m := xm) (k := xk) (o := xo) (r := xr) (t := xt) (n := xn) (g := xg) (l := xl) (A := AL) (cap := cL) haG
  have hS0 := boxS (c := 0) (m := 0) (k := 0) (o := 0) (r := 0) (t := 0) (n := 0) (g := []) (l := []) (A := none) (cap := 0) hbG
  have hF0 := fun i => hbG.frozen i
  clear hkey
  cases hm : mayA ⟨xc, xm, xk, xo, xr, xt, xn, xg, xl⟩ with
  | false =>
    go_wp2
    have hbE := fill9 (hbG) (.int .i64 0) (.int .i64 0) (.int .i64 0) (.int .i64 0) (.int .i64 0) (.int .i64 0) (.int .i64 0) (.string ⟨#[]⟩) (.slice none 0 0)
    have hkE := keep9 WG w.heap.size (.int .i64 0) (.int .i64 0) (.int .i64 0) (.int .i64 0) (.int .i64 0) (.int .i64 0) (.int .i64 0) (.string ⟨#[]⟩) (.slice none 0 0)
    generalize (((((((((WG.setCell ⟨w.heap.size, 0, none⟩ (.int .i64 0)).setCell ⟨w.heap.size, 1, none⟩ (.int .i64 0)).setCell ⟨w.heap.size, 2, none⟩ (.int .i64 0)).setCell ⟨w.heap.size, 3, none⟩ (.int .i64 0)).setCell ⟨w.heap.size, 4, none⟩ (.int .i64 0)).setCell ⟨w.heap.size, 5, none⟩ (.int .i64 0)).setCell ⟨w.heap.size, 6, none⟩ (.int .i64 0)).setCell ⟨w.heap.size, 7, none⟩ (.string ⟨#[]⟩)).setCell ⟨w.heap.size, 8, none⟩ (.slice none 0 0)) = WE at hbE hkE ⊢
    have hE := boxS (c := 0) (m := 0) (k := 0) (o := 0) (r := 0) (t := 0) (n := 0) (g := []) (l := []) (A := none) (cap := 0) hbE
    clear hS0 hF0 hS9
    obtain ⟨j0, j1, j2, j3, j4, j5, j6, j7, j8⟩ := hE
    refine bodyPost_ret (v := .tuple #[.agg #[.int .i64 0, .int .i64 0, .int .i64 0, .int .i64 0, .int .i64 0, .int .i64 0, .int .i64 0, .string ⟨#[]⟩, .slice none 0 0], .int .i64 10]) (by simp [results, Try.results40, go_sem, j0, j1, j2, j3, j4, j5, j6, j7, j8]) rfl ?_
    refine ⟨hbelG.trans (hkE.below (B := w.heap.size) hbelG.size (fun k hk e => by omega)), ?_⟩
    rw [HD.out, if_pos hst, if_neg (by rw [hm]; simp)]
    rfl
  | true =>
    go_wp2
    have hbE := fill9 (hbG) (.int .i64 xc) (.int .i64 xm) (.int .i64 xk) (.int .i64 xo) (.int .i64 xr) (.int .i64 xt) (.int .i64 xn) (.string ⟨xg.toArray⟩) (.slice AL xl.length cL)
    have hkE := keep9 WG w.heap.size (.int .i64 xc) (.int .i64 xm) (.int .i64 xk) (.int .i64 xo) (.int .i64 xr) (.int .i64 xt) (.int .i64 xn) (.string ⟨xg.toArray⟩) (.slice AL xl.length cL)
    generalize (((((((((WG.setCell ⟨w.heap.size, 0, none⟩ (.int .i64 xc)).setCell ⟨w.heap.size, 1, none⟩ (.int .i64 xm)).setCell ⟨w.heap.size, 2, none⟩ (.int .i64 xk)).setCell ⟨w.heap.size, 3, none⟩ (.int .i64 xo)).setCell ⟨w.heap.size, 4, none⟩ (.int .i64 xr)).setCell ⟨w.heap.size, 5, none⟩ (.int .i64 xt)).setCell ⟨w.heap.size, 6, none⟩ (.int .i64 xn)).setCell ⟨w.heap.size, 7, none⟩ (.string ⟨xg.toArray⟩)).setCell ⟨w.heap.size, 8, none⟩ (.slice AL xl.length cL)) = WE at hbE hkE ⊢
    have hE := boxS (c := xc) (m := xm) (k := xk) (o := xo) (r := xr) (t := xt) (n := xn) (g := xg) (l := xl) (A := AL) (cap := cL) hbE
    clear hS0 hF0 hS9
    obtain ⟨j0, j1, j2, j3, j4, j5, j6, j7, j8⟩ := hE
    refine bodyPost_ret (v := .tuple #[.agg #[.int .i64 xc, .int .i64 xm, .int .i64 xk, .int .i64 xo, .int .i64 xr, .int .i64 xt, .int .i64 xn, .string ⟨xg.toArray⟩, .slice AL xl.length cL], .int .i64 0]) (by simp [results, Try.results40, go_sem, j0, j1, j2, j3, j4, j5, j6, j7, j8]) rfl ?_
    refine ⟨hbelG.trans (hkE.below (B := w.heap.size) hbelG.size (fun k hk e => by omega)), ?_⟩
    rw [HD.out, if_pos hst, if_pos hm]
    exact ⟨AL, cL, rfl, hilG.kept hkE (fun ad h1 h2 e => by have := (hal ad h1).1; have := h9.g0; have := h9.g1; omega), fun ad h1 => by have := (hal ad h1).1; have := h9.g0; have := h9.g1; omega⟩
end
section
open Go.RowKit Go.Maps Go.Shelf
set_option linter.unusedVariables false
set_option linter.unusedSimpArgs false

def zeroM : Array Value := #[.int .i64 0, .int .i64 0, .slice none 0 0, .int .i64 0, .int .i64 0, .int .i64 0, .int .i64 0, .int .i64 0, .int .i64 0, .int .i64 0, .string ⟨#[]⟩, .slice none 0 0, .int .i64 0, .int .i64 0, .int .i64 0, .int .i64 0]
/-- A taker, mail that is being filled, its result. -/
structure DM (w w1 : World) (g : Nat) (cs : Array Value) (W : World) (A : Option Addr) (c : Nat) (st : Option (List UInt8)) : Prop where
  pt : PT W g A c st
  old : OldA w1.heap.size A st
  bel : Below w.heap.size w W
  ba : Blk W w1.heap.size 29 cs
  b0 : Blk W w.heap.size 29 zeroM
  g0 : w.heap.size < g
  g1 : g < w1.heap.size
section
variable {w w1 : World} {g : Nat} {cs : Array Value} {W W' : World} {A A' : Option Addr} {c c' : Nat} {st st' : Option (List UInt8)}
theorem DM.step (h : DM w w1 g cs W A c st) (ht : PT W' g A' c' st') (hk : Keep (fun k => k = g) W W') (hs : SameBlock A A') (hl : (st'.getD []).length ≤ (st.getD []).length) : DM w w1 g cs W' A' c' st' := by
  have h0 := h.g0
  have h1 := h.g1
  exact ⟨ht, h.old.next hs hl, h.bel.trans (hk.below (B := w.heap.size) h.bel.size (fun k hk e => by omega)), h.ba.kept hk (by omega), h.b0.kept hk (by omega), h0, h1⟩
theorem DM.put (h : DM w w1 g cs W A c st) (i : Nat) (u : Value) : DM w w1 g (cs.setIfInBounds i u) (W.setCell ⟨w1.heap.size, i, none⟩ u) A c st := by
  have h0 := h.g0
  have h1 := h.g1
  have hk : Keep (fun k => k = w1.heap.size) W (W.setCell ⟨w1.heap.size, i, none⟩ u) := (Keep.refl (fun k => k = w1.heap.size) W).setCell (p := ⟨w1.heap.size, i, none⟩) (fun _ => rfl) u
  exact ⟨h.pt.keep h.old hk (by omega) (fun j hj => by omega), h.old, h.bel.trans (hk.below (B := w.heap.size) h.bel.size (fun k hk e => by omega)), h.ba.set_ i u, h.b0.kept hk (by omega), h0, h1⟩
theorem DM.setM (h : DM w w1 g cs W A c st) {cs' : Array Value} (hb : Blk W' w1.heap.size 29 cs') (hk : Keep (fun k => k = w1.heap.size) W W') : DM w w1 g cs' W' A c st := by
  have h0 := h.g0
  have h1 := h.g1
  exact ⟨h.pt.keep h.old hk (by omega) (fun j hj => by omega), h.old, h.bel.trans (hk.below (B := w.heap.size) h.bel.size (fun k hk e => by omega)), hb, h.b0.kept hk (by omega), h0, h1⟩
theorem DM.below (h : DM w w1 g cs W A c st) (k : Below W.heap.size W W') : DM w w1 g cs W' A c st := by
  have h0 := h.g0
  have h1 := h.g1
  have h2 := h.ba.lt
  have kk := Keep.of_below k
  exact ⟨h.pt.keep h.old kk (by omega) (fun j hj => by omega), h.old, h.bel.trans (k.mono h.bel.size), h.ba.kept kk (by omega), h.b0.kept kk (by omega), h0, h1⟩
end
theorem IL.put {W : World} {A : Option Addr} {n : Nat} {l : List It} (h : IL W A n l) {B : Nat} (hA : ∀ ad, A = some ad → B < ad.block) (i : Nat) (u : Value) : IL (W.setCell ⟨B, i, none⟩ u) A n l :=
  h.kept ((Keep.refl (fun k => k = B) W).setCell (p := ⟨B, i, none⟩) (fun _ => rfl) u) (fun ad h1 _ e => by have := hA ad h1; omega)
theorem IL.setM {W W' : World} {A : Option Addr} {n : Nat} {l : List It} (h : IL W A n l) {B : Nat} (hA : ∀ ad, A = some ad → B < ad.block) (k : Keep (fun k => k = B) W W') : IL W' A n l :=
  h.kept k (fun ad h1 _ e => by have := hA ad h1; omega)
theorem IL.keepG {W W' : World} {A : Option Addr} {n : Nat} {l : List It} (h : IL W A n l) {B g : Nat} (hA : ∀ ad, A = some ad → B < ad.block) (hg : g < B) (k : Keep (fun k => k = g) W W') : IL W' A n l :=
  h.kept k (fun ad h1 _ e => by have := hA ad h1; omega)
theorem Keep.at16 {w0 W : World} {B : Nat} (h : Keep (fun k => k = B) w0 W) (i : Nat) (u : Value) : Keep (fun k => k = B) w0 (W.setCell ⟨B, i, none⟩ u) := h.setCell (p := ⟨B, i, none⟩) (fun _ => rfl) u
theorem fill16 {W : World} {B : Nat} {t : TypeId} {a0 a1 a2 a3 a4 a5 a6 a7 a8 a9 a10 a11 a12 a13 a14 a15 : Value} (h : Blk W B t #[a0, a1, a2, a3, a4, a5, a6, a7, a8, a9, a10, a11, a12, a13, a14, a15]) (b0 b1 b2 b3 b4 b5 b6 b7 b8 b9 b10 b11 b12 b13 b14 b15 : Value) : Blk ((((((((((((((((W.setCell ⟨B, 0, none⟩ (b0)).setCell ⟨B, 1, none⟩ (b1)).setCell ⟨B, 2, none⟩ (b2)).setCell ⟨B, 3, none⟩ (b3)).setCell ⟨B, 4, none⟩ (b4)).setCell ⟨B, 5, none⟩ (b5)).setCell ⟨B, 6, none⟩ (b6)).setCell ⟨B, 7, none⟩ (b7)).setCell ⟨B, 8, none⟩ (b8)).setCell ⟨B, 9, none⟩ (b9)).setCell ⟨B, 10, none⟩ (b10)).setCell ⟨B, 11, none⟩ (b11)).setCell ⟨B, 12, none⟩ (b12)).setCell ⟨B, 13, none⟩ (b13)).setCell ⟨B, 14, none⟩ (b14)).setCell ⟨B, 15, none⟩ (b15)) B t #[b0, b1, b2, b3, b4, b5, b6, b7, b8, b9, b10, b11, b12, b13, b14, b15] := by
  simpa using ((((((((((((((((h.set_ 0 b0).set_ 1 b1).set_ 2 b2).set_ 3 b3).set_ 4 b4).set_ 5 b5).set_ 6 b6).set_ 7 b7).set_ 8 b8).set_ 9 b9).set_ 10 b10).set_ 11 b11).set_ 12 b12).set_ 13 b13).set_ 14 b14).set_ 15 b15)
theorem keep16 (W : World) (B : Nat) (b0 b1 b2 b3 b4 b5 b6 b7 b8 b9 b10 b11 b12 b13 b14 b15 : Value) : Keep (fun k => k = B) W ((((((((((((((((W.setCell ⟨B, 0, none⟩ (b0)).setCell ⟨B, 1, none⟩ (b1)).setCell ⟨B, 2, none⟩ (b2)).setCell ⟨B, 3, none⟩ (b3)).setCell ⟨B, 4, none⟩ (b4)).setCell ⟨B, 5, none⟩ (b5)).setCell ⟨B, 6, none⟩ (b6)).setCell ⟨B, 7, none⟩ (b7)).setCell ⟨B, 8, none⟩ (b8)).setCell ⟨B, 9, none⟩ (b9)).setCell ⟨B, 10, none⟩ (b10)).setCell ⟨B, 11, none⟩ (b11)).setCell ⟨B, 12, none⟩ (b12)).setCell ⟨B, 13, none⟩ (b13)).setCell ⟨B, 14, none⟩ (b14)).setCell ⟨B, 15, none⟩ (b15)) := ((((((((((((((((Keep.refl _ W).at16 0 b0).at16 1 b1).at16 2 b2).at16 3 b3).at16 4 b4).at16 5 b5).at16 6 b6).at16 7 b7).at16 8 b8).at16 9 b9).at16 10 b10).at16 11 b11).at16 12 b12).at16 13 b13).at16 14 b14).at16 15 b15
theorem text_le {st : Option (List UInt8)} {b : Int} {g : List UInt8} {s : Option (List UInt8)} (hb : 0 ≤ b) (h : ttext st b = (g, s)) : (g.length : Int) ≤ b := by
  cases s with
  | some r => exact (text_taken h).2
  | none =>
    cases hf : ft (st.getD []) with
    | none =>
      rw [pt_none_ft st b hf] at h
      cases h
      simpa using hb
    | some p =>
      obtain ⟨k, m⟩ := p
      rw [pt_some_ft b hf] at h
      split at h
      · cases h
        simpa using hb
      · cases h
theorem nextN_in {st : Option (List UInt8)} {n : Int} {r : Option (List UInt8)} (h : nextN st = (n, r)) : -9223372036854775808 ≤ n ∧ n ≤ 9223372036854775807 := by
  unfold nextN at h
  cases hf : first (st.getD []) with
  | none =>
    rw [pt_none_first st _ _ hf] at h
    cases h
    omega
  | some p =>
    obtain ⟨m, k⟩ := p
    rw [pt_some_first _ _ hf] at h
    split at h
    · cases h
      omega
    · cases h
      omega
theorem OldA.mono {B B' : Nat} {A : Option Addr} {st : Option (List UInt8)} (h : OldA B A st) (hb : B ≤ B') : OldA B' A st := fun hp ad ha => Nat.lt_of_lt_of_le (h hp ad ha) hb
theorem box16 {W : World} {B : Nat} {t : TypeId} {b0 b1 b2 b3 b4 b5 b6 b7 b8 b9 b10 b11 b12 b13 b14 b15 : Value} (h : Blk W B t #[b0, b1, b2, b3, b4, b5, b6, b7, b8, b9, b10, b11, b12, b13, b14, b15]) : W.cell? ⟨B, 0, none⟩ = some b0 ∧ W.cell? ⟨B, 1, none⟩ = some b1 ∧ W.cell? ⟨B, 2, none⟩ = some b2 ∧ W.cell? ⟨B, 3, none⟩ = some b3 ∧ W.cell? ⟨B, 4, none⟩ = some b4 ∧ W.cell? ⟨B, 5, none⟩ = some b5 ∧ W.cell? ⟨B, 6, none⟩ = some b6 ∧ W.cell? ⟨B, 7, none⟩ = some b7 ∧ W.cell? ⟨B, 8, none⟩ = some b8 ∧ W.cell? ⟨B, 9, none⟩ = some b9 ∧ W.cell? ⟨B, 10, none⟩ = some b10 ∧ W.cell? ⟨B, 11, none⟩ = some b11 ∧ W.cell? ⟨B, 12, none⟩ = some b12 ∧ W.cell? ⟨B, 13, none⟩ = some b13 ∧ W.cell? ⟨B, 14, none⟩ = some b14 ∧ W.cell? ⟨B, 15, none⟩ = some b15 :=
  ⟨h.cell 0, h.cell 1, h.cell 2, h.cell 3, h.cell 4, h.cell 5, h.cell 6, h.cell 7, h.cell 8, h.cell 9, h.cell 10, h.cell 11, h.cell 12, h.cell 13, h.cell 14, h.cell 15⟩
theorem mres {W : World} {B : Nat} {b0 b1 b2 b3 b4 b5 b6 b7 b8 b9 b10 b11 b12 b13 b14 b15 : Value} (hb : Blk W B 29 #[b0, b1, b2, b3, b4, b5, b6, b7, b8, b9, b10, b11, b12, b13, b14, b15]) (tmps : Array Value) (e : Value) (h0 : tmps.getD 2 undef = .pointer (some ⟨B, 0, none⟩)) (h1 : tmps.getD 3 undef = e) :
    (results Try.f11 tmps).run Try.prog W = .ok (.tuple #[.agg #[b0, b1, b2, b3, b4, b5, b6, b7, b8, b9, b10, b11, b12, b13, b14, b15], e]) W := by
  obtain ⟨j0, j1, j2, j3, j4, j5, j6, j7, j8, j9, j10, j11, j12, j13, j14, j15⟩ := box16 hb
  have g0 := h0
  have g1 := h1
  simp at g0 g1
  simp [results, Try.results11, go_sem, h0, h1, g0, g1, j0, j1, j2, j3, j4, j5, j6, j7, j8, j9, j10, j11, j12, j13, j14, j15]
theorem ans_info : (Try.prog.info? 27).map (·.size) = some 4 := by kernel_rfl
def errV (b v : Value) : Prop := v = .int .i64 (match b with | .bool true => 0 | _ => 10)
set_option maxRecDepth 100000 in
set_option maxHeartbeats 25600000 in
theorem mdec_any (A : Option Addr) (n c : Nat) (b : List UInt8) (w : World) (hr : RB w A n b) (hn : n ≤ 140737488355328) :
    Calls Try.prog 11 #[.slice A n c] w (DecM b w errV) := by
  obtain ⟨k, o, l, S, s1, s2, s3, s4, T⟩ := TakenM.ex b
  obtain ⟨y, t1, t2, t3, t4, TY⟩ := TakenY.ex s4
  have hlen1 : (s1.getD []).length ≤ b.length := by have := nextN_len (some b); rw [T.e1] at this; exact this
  have hlen2 : (s2.getD []).length ≤ (s1.getD []).length := by have := nextN_len s1; rw [T.e2] at this; exact this
  have hlen3 : (s3.getD []).length ≤ (s2.getD []).length := by
    have h3 := T.e3
    cases hs3 : s3 with
    | none => simp
    | some r3 =>
      rw [hs3] at h3
      rw [(takeL_some h3).2]
      simp
  have hlen4 : (s4.getD []).length ≤ (s3.getD []).length := by have := ttext_len s3 2048; rw [T.e4] at this; exact this
  have hlent : (t4.getD []).length ≤ (s4.getD []).length := by
    have l1 := nextN_len s4
    rw [TY.e1] at l1
    have l2 := nextN_len t1
    rw [TY.e2] at l2
    have l3 := nextN_len t2
    rw [TY.e3] at l3
    have l4 := nextN_len t3
    rw [TY.e4] at l4
    dsimp only at l1 l2 l3 l4
    omega
  have hS2k : S.length ≤ 2048 := by
    have h5 := text_le (by omega) T.e4
    omega
  have hSl : S.length ≤ maxLen := by
    have h5 := text_le (by omega) T.e4
    unfold maxLen
    omega
  
  have hD := fun sE y' (hy : match hasB (hasM k) 121 with | true => TakenY s4 y' t1 t2 t3 sE | false => y' = y0 ∧ sE = s4) => dec_iff T (y := y') (t1 := t1) (t2 := t2) (t3 := t3) (sE := sE) hy
  replace hD := Lib.hid hD
  have KY := Lib.hid TY
  have e1 := T.e1
  have e2 := T.e2
  have e3 := T.e3
  have e4 := T.e4
  have K1 := fun g W A c h => takeNum_any W g A c (some b) h
  rw [e1] at K1
  replace K1 := Lib.hid K1
  have K2 := fun g W A c h => takeNum_any W g A c s1 h
  rw [e2] at K2
  replace K2 := Lib.hid K2
  have K3 := fun g W A c h => itake_any W g A c s2 h
  rw [e3] at K3
  replace K3 := Lib.hid K3
  have K4 := fun g W A c h => ttext_any W g A c s3 2048 h
  rw [e4] at K4
  replace K4 := Lib.hid K4
  have hyn : -9223372036854775808 ≤ y.n ∧ y.n ≤ 9223372036854775807 := nextN_in TY.e4
  clear T TY e1 e2 e3 e4
  obtain ⟨yc, ym, ye, yn⟩ := y
  dsimp only at hyn K1 K2 K3 K4
  go_enter Try.func11, Try.ntmps11
  go_wp2_with fail
  refine (take_any A n c b _ (hr.alloc _) hn).mono ?_
  rintro e w1 ⟨g, A1, c1, rfl, hg1, ht1, hb1, hA1⟩
  have hg0 : w.heap.size < g := by have := hg1; simp at this; omega
  have h00 : DM w w1 g zeroM (w1.alloc (.cells zeroM 29)) A1 c1 (some b) := by
    have hz : w.heap.size + 1 ≤ w1.heap.size := by have := hb1.size; simpa using this
    have k : Keep (fun _ => False) w1 (w1.alloc (.cells zeroM 29)) := (Keep.refl _ w1).alloc _
    have hbw : Below w.heap.size w w1 := ((Below.refl w.heap.size w).alloc (Nat.le_refl _) (.cells zeroM 29)).trans (hb1.mono (by simp))
    exact ⟨ht1.keep ht1.lt k id (fun _ _ => id), ht1.lt, hbw.trans (k.below (by omega) (fun _ _ => id)), Blk.new _ _ _, ((Blk.new w 29 zeroM).kept (Keep.of_below hb1) (by simp)).kept k id, hg0, ht1.blk.lt⟩
  have hgB := h00.g1
  unfold zeroM at h00
  clear ht1 hb1 hA1 hg1
  go_wp2_with fail
  refine (K1.out _ _ _ _ h00.pt).mono ?_
  rintro e W1 ⟨A2, c2, rfl, ht, hk, hs⟩
  have h1 := h00.step ht hk hs hlen1
  clear ht hk hs h00 K1
  go_wp2_with fail
  refine (K2.out _ _ _ _ h1.pt).mono ?_
  rintro e W2 ⟨A3, c3, rfl, ht, hk, hs⟩
  have h2 := h1.step ht hk hs hlen2
  clear ht hk hs h1 K2
  have f0 := h2.ba.frozen 0
  have f1 := h2.ba.frozen 1
  have q0 := h2.ba.cell 0
  have q1 := h2.ba.cell 1
  simp at q0 q1
  have h2b : DM w w1 g #[.int .i64 k, .int .i64 o, .slice none 0 0, .int .i64 0, .int .i64 0, .int .i64 0, .int .i64 0, .int .i64 0, .int .i64 0, .int .i64 0, .string ⟨#[]⟩, .slice none 0 0, .int .i64 0, .int .i64 0, .int .i64 0, .int .i64 0] ((W2.setCell ⟨w1.heap.size, 0, none⟩ (.int .i64 k)).setCell ⟨w1.heap.size, 1, none⟩ (.int .i64 o)) A3 c3 s2 := by simpa using (h2.put 0 (.int .i64 k)).put 1 (.int .i64 o)
  clear h2
  go_wp2_with fail
  refine (K3.out _ _ _ _ h2b.pt).mono ?_
  rintro e W3 ⟨v3, A4, c4, rfl, hO, ht, hk, hs⟩
  obtain ⟨AL, cL, rfl, hl1, hl2, hil, hal⟩ := hO.form
  have hB1 := h2b.ba.lt
  have halB : ∀ ad, AL = some ad → w1.heap.size < ad.block := fun ad ha => by have := (hal ad ha).1; omega
  have h3 := h2b.step ht hk hs hlen3
  have hcL : cL ≤ 9223372036854775807 := by unfold maxLen at hl2; omega
  clear ht hk hs h2b K3 hO hal f0 f1 q0 q1 hB1
  have f2 := h3.ba.frozen 2
  have q2 := h3.ba.cell 2
  simp at q2
  have h3b : DM w w1 g #[.int .i64 k, .int .i64 o, .slice AL l.length cL, .int .i64 0, .int .i64 0, .int .i64 0, .int .i64 0, .int .i64 0, .int .i64 0, .int .i64 0, .string ⟨#[]⟩, .slice none 0 0, .int .i64 0, .int .i64 0, .int .i64 0, .int .i64 0] (W3.setCell ⟨w1.heap.size, 2, none⟩ (.slice AL l.length cL)) A4 c4 s3 := by simpa using h3.put 2 (.slice AL l.length cL)
  have hil3 := hil.put halB 2 (.slice AL l.length cL)
  clear h3 hil
  go_wp2_with fail
  refine (K4.out _ _ _ _ h3b.pt).mono ?_
  rintro e W4 ⟨A5, c5, rfl, ht, hk, hs⟩
  have h4 := h3b.step ht hk hs hlen4
  have hil4 := hil3.keepG halB hgB hk
  clear ht hk hs h3b hil3 K4 f2 q2
  rw [strV_eq]
  have hLEN : l.length ≤ 9223372036854775807 := by omega
  cases hS : S with
  | nil =>
    subst hS
    have hask : askOf [] = some x0 := rfl
    have q9 := h4.ba.cell 0
    simp at q9
    go_wp2_with fail
    have hk9 := mhas1_any k 121 W4
    have q9 := h4.ba.cell 0
    simp at q9
    cases hY : hasB (hasM k) 121 with
    | true =>
      rw [hY] at hk9 hD
      go_wp2_with fail
      refine hk9.mono ?_
      rintro e w' ⟨rfl, hww⟩
      subst w'
      go_wp2_with fail
      refine (takeAns_any W4 g A5 c5 s4 ⟨yc, ym, ye, yn⟩ t1 t2 t3 t4 KY.out h4.pt (h4.old.mono (Nat.le_of_lt h4.ba.lt))).mono ?_
      rintro e WY ⟨AY, cY, rfl, ht, hk, hs⟩
      unfold AN.cs
      dsimp only
      have hy1 := h4.step ht hk hs hlent
      have ily1 := hil4.keepG halB hgB hk
      clear ht hk hs
      have hD2 := hD.out t4 ⟨yc, ym, ye, yn⟩ KY.out
      replace hD2 := Lib.hid hD2
      go_wp2_with (refine wpStoreM 27 12 #[.int .i64 yc, .int .i64 ym, .int .i64 ye, .int .i64 yn] rfl (.tmp 35) (.tmp 34) rfl rfl rfl hy1.ba (by simp) ans_info rfl (fun WX hbX hkX => ?_); have hy : DM w w1 g #[.int .i64 k, .int .i64 o, .slice AL l.length cL, .int .i64 0, .int .i64 0, .int .i64 0, .int .i64 0, .int .i64 0, .int .i64 0, .int .i64 0, .string ⟨#[]⟩, .slice none 0 0, .int .i64 yc, .int .i64 ym, .int .i64 ye, .int .i64 yn] WX AY cY t4 := hy1.setM hbX hkX; have ily := ily1.setM halB hkX; clear hbX hkX)
      refine (tdone_any WX g AY cY t4 hy.pt).mono ?_
      rintro e w' ⟨rfl, hww⟩
      subst w'
      by_cases hE : t4 = some []
      case neg =>
        have hd : tdoneN t4 = 10 := by unfold tdoneN; rw [if_neg hE]
        rw [hd]
        go_wp2_with (refine wpStoreM 29 0 #[.int .i64 0, .int .i64 0, .slice none 0 0, .int .i64 0, .int .i64 0, .int .i64 0, .int .i64 0, .int .i64 0, .int .i64 0, .int .i64 0, .string ⟨#[]⟩, .slice none 0 0, .int .i64 0, .int .i64 0, .int .i64 0, .int .i64 0] rfl (.tmp 2) (.tmp 48) rfl rfl rfl hy.b0 (by simp [zeroM]) mail_info rfl (fun WE hbE hkE => ?_))
        have hbE2 : Blk WE w.heap.size 29 #[.int .i64 0, .int .i64 0, .slice none 0 0, .int .i64 0, .int .i64 0, .int .i64 0, .int .i64 0, .int .i64 0, .int .i64 0, .int .i64 0, .string ⟨#[]⟩, .slice none 0 0, .int .i64 0, .int .i64 0, .int .i64 0, .int .i64 0] := hbE
        clear hbE
        refine bodyPost_ret (mres hbE2 _ _ rfl rfl) rfl ?_
        have hbl := hy.bel
        refine ⟨hbl.trans (hkE.below (B := w.heap.size) hbl.size (fun k hk e => by omega)), ?_⟩
        refine .inr ⟨fun x hx hxn hb => ?_, _, rfl, rfl⟩
        exact hE (hD2.out.2 x hx hxn hb).2.1
      have hd : tdoneN t4 = 0 := by unfold tdoneN; rw [if_pos hE]
      rw [hd]
      have key := mmay_any ⟨k, o, l, x0, ⟨yc, ym, ye, yn⟩⟩ AL cL none 0 WX ily (IL.nil _ _) hLEN (Nat.zero_le _)
      unfold MV.v MV.cs x0 at key
      dsimp only at key
      obtain ⟨mm, hmm⟩ : ∃ m, mayM ⟨k, o, l, x0, ⟨yc, ym, ye, yn⟩⟩ = m := ⟨_, rfl⟩
      rw [show mayM ⟨k, o, l, ⟨0, 0, 0, 0, 0, 0, 0, [], []⟩, ⟨yc, ym, ye, yn⟩⟩ = mm from hmm] at key
      go_wp2_with (refine wpLoadM 29 (by rfl) (.tmp 5) rfl rfl hy.ba _ Try.underlying29 rfl mail_info ?_)
      refine key.mono ?_
      rintro e WG ⟨rfl, hxG⟩
      clear key
      have hyG := hy.below hxG
      have ilG := ily.below hxG
      cases mm with
      | false =>
        have hy := hyG
        go_wp2_with (refine wpStoreM 29 0 #[.int .i64 0, .int .i64 0, .slice none 0 0, .int .i64 0, .int .i64 0, .int .i64 0, .int .i64 0, .int .i64 0, .int .i64 0, .int .i64 0, .string ⟨#[]⟩, .slice none 0 0, .int .i64 0, .int .i64 0, .int .i64 0, .int .i64 0] rfl (.tmp 2) (.tmp 48) rfl rfl rfl hy.b0 (by simp [zeroM]) mail_info rfl (fun WE hbE hkE => ?_))
        have hbE2 : Blk WE w.heap.size 29 #[.int .i64 0, .int .i64 0, .slice none 0 0, .int .i64 0, .int .i64 0, .int .i64 0, .int .i64 0, .int .i64 0, .int .i64 0, .int .i64 0, .string ⟨#[]⟩, .slice none 0 0, .int .i64 0, .int .i64 0, .int .i64 0, .int .i64 0] := hbE
        clear hbE
        refine bodyPost_ret (mres hbE2 _ _ rfl rfl) rfl ?_
        have hbl := hy.bel
        refine ⟨hbl.trans (hkE.below (B := w.heap.size) hbl.size (fun k hk e => by omega)), ?_⟩
        refine .inr ⟨fun x hx hxn hb => ?_, _, rfl, rfl⟩
        have hq := hD2.out.2 x hx hxn hb
        have h1 := hq.1
        rw [hask] at h1
        injection h1 with h1
        have h2 := hq.2.2
        rw [← h1] at h2
        rw [h2, hmm] at hx
        cases hx
      | true =>
        go_wp2_with (first | (refine wpLoadM 29 (by rfl) (.tmp 5) rfl rfl hyG.ba _ Try.underlying29 rfl mail_info ?_) | (refine wpStoreM 29 0 #[.int .i64 k, .int .i64 o, .slice AL l.length cL, .int .i64 0, .int .i64 0, .int .i64 0, .int .i64 0, .int .i64 0, .int .i64 0, .int .i64 0, .string ⟨#[]⟩, .slice none 0 0, .int .i64 yc, .int .i64 ym, .int .i64 ye, .int .i64 yn] rfl (.tmp 2) (.tmp 49) rfl rfl rfl hyG.b0 (by simp [zeroM]) mail_info rfl (fun WE hbE hkE => ?_)))
        have hbE2 : Blk WE w.heap.size 29 #[.int .i64 k, .int .i64 o, .slice AL l.length cL, .int .i64 0, .int .i64 0, .int .i64 0, .int .i64 0, .int .i64 0, .int .i64 0, .int .i64 0, .string ⟨#[]⟩, .slice none 0 0, .int .i64 yc, .int .i64 ym, .int .i64 ye, .int .i64 yn] := hbE
        clear hbE
        refine bodyPost_ret (mres hbE2 _ _ rfl rfl) rfl ?_
        have hbl := hyG.bel
        refine ⟨hbl.trans (hkE.below (B := w.heap.size) hbl.size (fun k hk e => by omega)), ?_⟩
        have hltG := hyG.ba.lt
        have hwG := hyG.g0
        have hwG1 := hyG.g1
        refine .inl ⟨⟨k, o, l, x0, ⟨yc, ym, ye, yn⟩⟩, AL, cL, none, 0, hmm, hyn, hD2.out.1 _ hask hE hmm, ilG.kept hkE (fun ad h1 _ e => by have := halB ad h1; omega), IL.nil _ _, _, rfl, rfl⟩
    | false =>
      rw [hY] at hk9 hD
      go_wp2_with fail
      refine hk9.mono ?_
      rintro e w' ⟨rfl, hww⟩
      subst w'
      have hy := h4
      have ily := hil4
      have hD2 := hD.out s4 y0 ⟨rfl, rfl⟩
      replace hD2 := Lib.hid hD2
      go_wp2_with fail
      refine (tdone_any W4 g A5 c5 s4 hy.pt).mono ?_
      rintro e w' ⟨rfl, hww⟩
      subst w'
      by_cases hE : s4 = some []
      case neg =>
        have hd : tdoneN s4 = 10 := by unfold tdoneN; rw [if_neg hE]
        rw [hd]
        go_wp2_with (refine wpStoreM 29 0 #[.int .i64 0, .int .i64 0, .slice none 0 0, .int .i64 0, .int .i64 0, .int .i64 0, .int .i64 0, .int .i64 0, .int .i64 0, .int .i64 0, .string ⟨#[]⟩, .slice none 0 0, .int .i64 0, .int .i64 0, .int .i64 0, .int .i64 0] rfl (.tmp 2) (.tmp 48) rfl rfl rfl hy.b0 (by simp [zeroM]) mail_info rfl (fun WE hbE hkE => ?_))
        have hbE2 : Blk WE w.heap.size 29 #[.int .i64 0, .int .i64 0, .slice none 0 0, .int .i64 0, .int .i64 0, .int .i64 0, .int .i64 0, .int .i64 0, .int .i64 0, .int .i64 0, .string ⟨#[]⟩, .slice none 0 0, .int .i64 0, .int .i64 0, .int .i64 0, .int .i64 0] := hbE
        clear hbE
        refine bodyPost_ret (mres hbE2 _ _ rfl rfl) rfl ?_
        have hbl := hy.bel
        refine ⟨hbl.trans (hkE.below (B := w.heap.size) hbl.size (fun k hk e => by omega)), ?_⟩
        refine .inr ⟨fun x hx hxn hb => ?_, _, rfl, rfl⟩
        exact hE (hD2.out.2 x hx hxn hb).2.1
      have hd : tdoneN s4 = 0 := by unfold tdoneN; rw [if_pos hE]
      rw [hd]
      have key := mmay_any ⟨k, o, l, x0, y0⟩ AL cL none 0 W4 ily (IL.nil _ _) hLEN (Nat.zero_le _)
      unfold MV.v MV.cs y0 x0 at key
      dsimp only at key
      obtain ⟨mm, hmm⟩ : ∃ m, mayM ⟨k, o, l, x0, y0⟩ = m := ⟨_, rfl⟩
      rw [show mayM ⟨k, o, l, ⟨0, 0, 0, 0, 0, 0, 0, [], []⟩, ⟨0, 0, 0, 0⟩⟩ = mm from hmm] at key
      go_wp2_with (refine wpLoadM 29 (by rfl) (.tmp 5) rfl rfl hy.ba _ Try.underlying29 rfl mail_info ?_)
      refine key.mono ?_
      rintro e WG ⟨rfl, hxG⟩
      clear key
      have hyG := hy.below hxG
      have ilG := ily.below hxG
      cases mm with
      | false =>
        have hy := hyG
        go_wp2_with (refine wpStoreM 29 0 #[.int .i64 0, .int .i64 0, .slice none 0 0, .int .i64 0, .int .i64 0, .int .i64 0, .int .i64 0, .int .i64 0, .int .i64 0, .int .i64 0, .string ⟨#[]⟩, .slice none 0 0, .int .i64 0, .int .i64 0, .int .i64 0, .int .i64 0] rfl (.tmp 2) (.tmp 48) rfl rfl rfl hy.b0 (by simp [zeroM]) mail_info rfl (fun WE hbE hkE => ?_))
        have hbE2 : Blk WE w.heap.size 29 #[.int .i64 0, .int .i64 0, .slice none 0 0, .int .i64 0, .int .i64 0, .int .i64 0, .int .i64 0, .int .i64 0, .int .i64 0, .int .i64 0, .string ⟨#[]⟩, .slice none 0 0, .int .i64 0, .int .i64 0, .int .i64 0, .int .i64 0] := hbE
        clear hbE
        refine bodyPost_ret (mres hbE2 _ _ rfl rfl) rfl ?_
        have hbl := hy.bel
        refine ⟨hbl.trans (hkE.below (B := w.heap.size) hbl.size (fun k hk e => by omega)), ?_⟩
        refine .inr ⟨fun x hx hxn hb => ?_, _, rfl, rfl⟩
        have hq := hD2.out.2 x hx hxn hb
        have h1 := hq.1
        rw [hask] at h1
        injection h1 with h1
        have h2 := hq.2.2
        rw [← h1] at h2
        rw [h2, hmm] at hx
        cases hx
      | true =>
        go_wp2_with (first | (refine wpLoadM 29 (by rfl) (.tmp 5) rfl rfl hyG.ba _ Try.underlying29 rfl mail_info ?_) | (refine wpStoreM 29 0 #[.int .i64 k, .int .i64 o, .slice AL l.length cL, .int .i64 0, .int .i64 0, .int .i64 0, .int .i64 0, .int .i64 0, .int .i64 0, .int .i64 0, .string ⟨#[]⟩, .slice none 0 0, .int .i64 0, .int .i64 0, .int .i64 0, .int .i64 0] rfl (.tmp 2) (.tmp 49) rfl rfl rfl hyG.b0 (by simp [zeroM]) mail_info rfl (fun WE hbE hkE => ?_)))
        have hbE2 : Blk WE w.heap.size 29 #[.int .i64 k, .int .i64 o, .slice AL l.length cL, .int .i64 0, .int .i64 0, .int .i64 0, .int .i64 0, .int .i64 0, .int .i64 0, .int .i64 0, .string ⟨#[]⟩, .slice none 0 0, .int .i64 0, .int .i64 0, .int .i64 0, .int .i64 0] := hbE
        clear hbE
        refine bodyPost_ret (mres hbE2 _ _ rfl rfl) rfl ?_
        have hbl := hyG.bel
        refine ⟨hbl.trans (hkE.below (B := w.heap.size) hbl.size (fun k hk e => by omega)), ?_⟩
        have hltG := hyG.ba.lt
        have hwG := hyG.g0
        have hwG1 := hyG.g1
        refine .inl ⟨⟨k, o, l, x0, y0⟩, AL, cL, none, 0, hmm, ⟨by show (-9223372036854775808 : Int) ≤ 0; omega, by show (0 : Int) ≤ 9223372036854775807; omega⟩, hD2.out.1 _ hask hE hmm, ilG.kept hkE (fun ad h1 _ e => by have := halB ad h1; omega), IL.nil _ _, _, rfl, rfl⟩
  | cons c0 r0 =>
    have hne : S ≠ [] := by rw [hS]; simp
    have hSd : askOf S = decA S := by rw [hS]; rfl
    rw [← hS]
    clear hS
    have hS1 : (S == []) = false := beq_eq_false_iff_ne.2 hne
    have hS2 : (S != []) = true := bne_iff_ne.2 hne
    have hS3 : decide (¬ S = []) = true := decide_eq_true hne
    obtain ⟨cB, W5, hcv, hrB, hx5, hlt5, hcB1, hcB2⟩ := run_bts W4 S hSl
    have h5 := h4.below hx5
    have hil5 := hil4.below hx5
    have hB5 := h5.ba.lt
    have key5 := askdecode2_any (some ⟨W4.heap.size, 0, none⟩) S.length cB S W5 hrB (by omega)
    go_wp2_with fail
    refine key5.mono ?_
    rintro e W6 ⟨hx6, hd6⟩
    clear key5
    have h6 := h5.below hx6
    have hil6 := hil5.below hx6
    cases hdec : decA S with
    | none =>
      rw [hdec] at hd6 hSd
      dsimp only at hd6
      subst hd6
      unfold x0
      unfold AV.v
      dsimp only
      go_wp2_with (refine wpStoreM 24 3 #[.int .i64 0, .int .i64 0, .int .i64 0, .int .i64 0, .int .i64 0, .int .i64 0, .int .i64 0, .string ⟨#[]⟩, .slice none 0 0] rfl (.tmp 29) (.tmp 27) rfl rfl rfl h6.ba (by simp) ask_info9 rfl (fun W7 hb7 hk7 => ?_); have h7 : DM w w1 g #[.int .i64 k, .int .i64 o, .slice AL l.length cL, .int .i64 0, .int .i64 0, .int .i64 0, .int .i64 0, .int .i64 0, .int .i64 0, .int .i64 0, .string ⟨#[]⟩, .slice none 0 0, .int .i64 0, .int .i64 0, .int .i64 0, .int .i64 0] W7 A5 c5 s4 := h6.setM hb7 hk7; have hil7 := hil6.setM halB hk7; have q9 := h7.ba.cell 0; simp at q9)
      clear h4 hil4 h5 hil5 h6 hil6 hb7 hk7
      have hk9 := mhas1_any k 121 W7
      have q9 := h7.ba.cell 0
      simp at q9
      cases hY : hasB (hasM k) 121 with
      | true =>
        rw [hY] at hk9 hD
        go_wp2_with fail
        refine hk9.mono ?_
        rintro e w' ⟨rfl, hww⟩
        subst w'
        go_wp2_with fail
        refine (takeAns_any W7 g A5 c5 s4 ⟨yc, ym, ye, yn⟩ t1 t2 t3 t4 KY.out h7.pt (h7.old.mono (Nat.le_of_lt h7.ba.lt))).mono ?_
        rintro e WY ⟨AY, cY, rfl, ht, hk, hs⟩
        unfold AN.cs
        dsimp only
        have hy1 := h7.step ht hk hs hlent
        have ily1 := hil7.keepG halB hgB hk
        clear ht hk hs
        have hD2 := hD.out t4 ⟨yc, ym, ye, yn⟩ KY.out
        replace hD2 := Lib.hid hD2
        go_wp2_with (first | (refine wpStoreM 27 12 #[.int .i64 yc, .int .i64 ym, .int .i64 ye, .int .i64 yn] rfl (.tmp 35) (.tmp 34) rfl rfl rfl hy1.ba (by simp) ans_info rfl (fun WX hbX hkX => ?_); have hy : DM w w1 g #[.int .i64 k, .int .i64 o, .slice AL l.length cL, .int .i64 0, .int .i64 0, .int .i64 0, .int .i64 0, .int .i64 0, .int .i64 0, .int .i64 0, .string ⟨#[]⟩, .slice none 0 0, .int .i64 yc, .int .i64 ym, .int .i64 ye, .int .i64 yn] WX AY cY t4 := hy1.setM hbX hkX; have ily := ily1.setM halB hkX; clear hbX hkX) | (refine wpStoreM 29 0 #[.int .i64 0, .int .i64 0, .slice none 0 0, .int .i64 0, .int .i64 0, .int .i64 0, .int .i64 0, .int .i64 0, .int .i64 0, .int .i64 0, .string ⟨#[]⟩, .slice none 0 0, .int .i64 0, .int .i64 0, .int .i64 0, .int .i64 0] rfl (.tmp 2) (.tmp 48) rfl rfl rfl hy.b0 (by simp [zeroM]) mail_info rfl (fun WE hbE hkE => ?_)))
        have hbE2 : Blk WE w.heap.size 29 #[.int .i64 0, .int .i64 0, .slice none 0 0, .int .i64 0, .int .i64 0, .int .i64 0, .int .i64 0, .int .i64 0, .int .i64 0, .int .i64 0, .string ⟨#[]⟩, .slice none 0 0, .int .i64 0, .int .i64 0, .int .i64 0, .int .i64 0] := hbE
        clear hbE
        refine bodyPost_ret (mres hbE2 _ _ rfl rfl) rfl ?_
        have hbl := hy.bel
        refine ⟨hbl.trans (hkE.below (B := w.heap.size) hbl.size (fun k hk e => by omega)), ?_⟩
        refine .inr ⟨fun x hx hxn hb => ?_, _, rfl, rfl⟩
        have hq := (hD2.out.2 x hx hxn hb).1
        rw [hSd] at hq
        cases hq
      | false =>
        rw [hY] at hk9 hD
        go_wp2_with fail
        refine hk9.mono ?_
        rintro e w' ⟨rfl, hww⟩
        subst w'
        have hy := h7
        have ily := hil7
        have hD2 := hD.out s4 y0 ⟨rfl, rfl⟩
        replace hD2 := Lib.hid hD2
        go_wp2_with (refine wpStoreM 29 0 #[.int .i64 0, .int .i64 0, .slice none 0 0, .int .i64 0, .int .i64 0, .int .i64 0, .int .i64 0, .int .i64 0, .int .i64 0, .int .i64 0, .string ⟨#[]⟩, .slice none 0 0, .int .i64 0, .int .i64 0, .int .i64 0, .int .i64 0] rfl (.tmp 2) (.tmp 48) rfl rfl rfl hy.b0 (by simp [zeroM]) mail_info rfl (fun WE hbE hkE => ?_))
        have hbE2 : Blk WE w.heap.size 29 #[.int .i64 0, .int .i64 0, .slice none 0 0, .int .i64 0, .int .i64 0, .int .i64 0, .int .i64 0, .int .i64 0, .int .i64 0, .int .i64 0, .string ⟨#[]⟩, .slice none 0 0, .int .i64 0, .int .i64 0, .int .i64 0, .int .i64 0] := hbE
        clear hbE
        refine bodyPost_ret (mres hbE2 _ _ rfl rfl) rfl ?_
        have hbl := hy.bel
        refine ⟨hbl.trans (hkE.below (B := w.heap.size) hbl.size (fun k hk e => by omega)), ?_⟩
        refine .inr ⟨fun x hx hxn hb => ?_, _, rfl, rfl⟩
        have hq := (hD2.out.2 x hx hxn hb).1
        rw [hSd] at hq
        cases hq
    | some a =>
      rw [hdec] at hd6 hSd
      obtain ⟨a1, a2, a3, a4, a5, a6, a7, ag, al⟩ := a
      obtain ⟨AA, cA, rfl, hia, hA6⟩ := hd6
      have hALN : al.length ≤ 9223372036854775807 := by have := (mayL_okI (mayA_facts (decA_ok hdec).1).2.2.2.2.2.2.2.2).1; dsimp only at this; omega
      unfold AV.v
      dsimp only
      have haaB : ∀ ad, AA = some ad → w1.heap.size < ad.block := fun ad h => by have := hA6 ad h; omega
      go_wp2_with (refine wpStoreM 24 3 #[.int .i64 a1, .int .i64 a2, .int .i64 a3, .int .i64 a4, .int .i64 a5, .int .i64 a6, .int .i64 a7, .string ⟨ag.toArray⟩, .slice AA al.length cA] rfl (.tmp 29) (.tmp 27) rfl rfl rfl h6.ba (by simp) ask_info9 rfl (fun W7 hb7 hk7 => ?_); have h7 : DM w w1 g #[.int .i64 k, .int .i64 o, .slice AL l.length cL, .int .i64 a1, .int .i64 a2, .int .i64 a3, .int .i64 a4, .int .i64 a5, .int .i64 a6, .int .i64 a7, .string ⟨ag.toArray⟩, .slice AA al.length cA, .int .i64 0, .int .i64 0, .int .i64 0, .int .i64 0] W7 A5 c5 s4 := h6.setM hb7 hk7; have hil7 := hil6.setM halB hk7; have hia7 := hia.setM haaB hk7; have q9 := h7.ba.cell 0; simp at q9)
      clear h4 hil4 h5 hil5 h6 hil6 hb7 hk7
      have hk9 := mhas1_any k 121 W7
      have q9 := h7.ba.cell 0
      simp at q9
      cases hY : hasB (hasM k) 121 with
      | true =>
        rw [hY] at hk9 hD
        go_wp2_with fail
        refine hk9.mono ?_
        rintro e w' ⟨rfl, hww⟩
        subst w'
        go_wp2_with fail
        refine (takeAns_any W7 g A5 c5 s4 ⟨yc, ym, ye, yn⟩ t1 t2 t3 t4 KY.out h7.pt (h7.old.mono (Nat.le_of_lt h7.ba.lt))).mono ?_
        rintro e WY ⟨AY, cY, rfl, ht, hk, hs⟩
        unfold AN.cs
        dsimp only
        have hy1 := h7.step ht hk hs hlent
        have ily1 := hil7.keepG halB hgB hk
        have ial1 := hia7.keepG haaB hgB hk
        clear ht hk hs
        have hD2 := hD.out t4 ⟨yc, ym, ye, yn⟩ KY.out
        replace hD2 := Lib.hid hD2
        go_wp2_with (refine wpStoreM 27 12 #[.int .i64 yc, .int .i64 ym, .int .i64 ye, .int .i64 yn] rfl (.tmp 35) (.tmp 34) rfl rfl rfl hy1.ba (by simp) ans_info rfl (fun WX hbX hkX => ?_); have hy : DM w w1 g #[.int .i64 k, .int .i64 o, .slice AL l.length cL, .int .i64 a1, .int .i64 a2, .int .i64 a3, .int .i64 a4, .int .i64 a5, .int .i64 a6, .int .i64 a7, .string ⟨ag.toArray⟩, .slice AA al.length cA, .int .i64 yc, .int .i64 ym, .int .i64 ye, .int .i64 yn] WX AY cY t4 := hy1.setM hbX hkX; have ily := ily1.setM halB hkX; have ial := ial1.setM haaB hkX; clear hbX hkX)
        refine (tdone_any WX g AY cY t4 hy.pt).mono ?_
        rintro e w' ⟨rfl, hww⟩
        subst w'
        by_cases hE : t4 = some []
        case neg =>
          have hd : tdoneN t4 = 10 := by unfold tdoneN; rw [if_neg hE]
          rw [hd]
          go_wp2_with (refine wpStoreM 29 0 #[.int .i64 0, .int .i64 0, .slice none 0 0, .int .i64 0, .int .i64 0, .int .i64 0, .int .i64 0, .int .i64 0, .int .i64 0, .int .i64 0, .string ⟨#[]⟩, .slice none 0 0, .int .i64 0, .int .i64 0, .int .i64 0, .int .i64 0] rfl (.tmp 2) (.tmp 48) rfl rfl rfl hy.b0 (by simp [zeroM]) mail_info rfl (fun WE hbE hkE => ?_))
          have hbE2 : Blk WE w.heap.size 29 #[.int .i64 0, .int .i64 0, .slice none 0 0, .int .i64 0, .int .i64 0, .int .i64 0, .int .i64 0, .int .i64 0, .int .i64 0, .int .i64 0, .string ⟨#[]⟩, .slice none 0 0, .int .i64 0, .int .i64 0, .int .i64 0, .int .i64 0] := hbE
          clear hbE
          refine bodyPost_ret (mres hbE2 _ _ rfl rfl) rfl ?_
          have hbl := hy.bel
          refine ⟨hbl.trans (hkE.below (B := w.heap.size) hbl.size (fun k hk e => by omega)), ?_⟩
          refine .inr ⟨fun x hx hxn hb => ?_, _, rfl, rfl⟩
          exact hE (hD2.out.2 x hx hxn hb).2.1
        have hd : tdoneN t4 = 0 := by unfold tdoneN; rw [if_pos hE]
        rw [hd]
        have key := mmay_any ⟨k, o, l, ⟨a1, a2, a3, a4, a5, a6, a7, ag, al⟩, ⟨yc, ym, ye, yn⟩⟩ AL cL AA cA WX ily ial hLEN hALN
        unfold MV.v MV.cs at key
        dsimp only at key
        obtain ⟨mm, hmm⟩ : ∃ m, mayM ⟨k, o, l, ⟨a1, a2, a3, a4, a5, a6, a7, ag, al⟩, ⟨yc, ym, ye, yn⟩⟩ = m := ⟨_, rfl⟩
        rw [show mayM ⟨k, o, l, ⟨a1, a2, a3, a4, a5, a6, a7, ag, al⟩, ⟨yc, ym, ye, yn⟩⟩ = mm from hmm] at key
        go_wp2_with (refine wpLoadM 29 (by rfl) (.tmp 5) rfl rfl hy.ba _ Try.underlying29 rfl mail_info ?_)
        refine key.mono ?_
        rintro e WG ⟨rfl, hxG⟩
        clear key
        have hyG := hy.below hxG
        have ilG := ily.below hxG
        have iaG := ial.below hxG
        cases mm with
        | false =>
          have hy := hyG
          go_wp2_with (refine wpStoreM 29 0 #[.int .i64 0, .int .i64 0, .slice none 0 0, .int .i64 0, .int .i64 0, .int .i64 0, .int .i64 0, .int .i64 0, .int .i64 0, .int .i64 0, .string ⟨#[]⟩, .slice none 0 0, .int .i64 0, .int .i64 0, .int .i64 0, .int .i64 0] rfl (.tmp 2) (.tmp 48) rfl rfl rfl hy.b0 (by simp [zeroM]) mail_info rfl (fun WE hbE hkE => ?_))
          have hbE2 : Blk WE w.heap.size 29 #[.int .i64 0, .int .i64 0, .slice none 0 0, .int .i64 0, .int .i64 0, .int .i64 0, .int .i64 0, .int .i64 0, .int .i64 0, .int .i64 0, .string ⟨#[]⟩, .slice none 0 0, .int .i64 0, .int .i64 0, .int .i64 0, .int .i64 0] := hbE
          clear hbE
          refine bodyPost_ret (mres hbE2 _ _ rfl rfl) rfl ?_
          have hbl := hy.bel
          refine ⟨hbl.trans (hkE.below (B := w.heap.size) hbl.size (fun k hk e => by omega)), ?_⟩
          refine .inr ⟨fun x hx hxn hb => ?_, _, rfl, rfl⟩
          have hq := hD2.out.2 x hx hxn hb
          have h1 := hq.1
          rw [hSd] at h1
          injection h1 with h1
          have h2 := hq.2.2
          rw [← h1] at h2
          rw [h2, hmm] at hx
          cases hx
        | true =>
          go_wp2_with (first | (refine wpLoadM 29 (by rfl) (.tmp 5) rfl rfl hyG.ba _ Try.underlying29 rfl mail_info ?_) | (refine wpStoreM 29 0 #[.int .i64 k, .int .i64 o, .slice AL l.length cL, .int .i64 a1, .int .i64 a2, .int .i64 a3, .int .i64 a4, .int .i64 a5, .int .i64 a6, .int .i64 a7, .string ⟨ag.toArray⟩, .slice AA al.length cA, .int .i64 yc, .int .i64 ym, .int .i64 ye, .int .i64 yn] rfl (.tmp 2) (.tmp 49) rfl rfl rfl hyG.b0 (by simp [zeroM]) mail_info rfl (fun WE hbE hkE => ?_)))
          have hbE2 : Blk WE w.heap.size 29 #[.int .i64 k, .int .i64 o, .slice AL l.length cL, .int .i64 a1, .int .i64 a2, .int .i64 a3, .int .i64 a4, .int .i64 a5, .int .i64 a6, .int .i64 a7, .string ⟨ag.toArray⟩, .slice AA al.length cA, .int .i64 yc, .int .i64 ym, .int .i64 ye, .int .i64 yn] := hbE
          clear hbE
          refine bodyPost_ret (mres hbE2 _ _ rfl rfl) rfl ?_
          have hbl := hyG.bel
          refine ⟨hbl.trans (hkE.below (B := w.heap.size) hbl.size (fun k hk e => by omega)), ?_⟩
          have hltG := hyG.ba.lt
          have hwG := hyG.g0
          have hwG1 := hyG.g1
          refine .inl ⟨⟨k, o, l, ⟨a1, a2, a3, a4, a5, a6, a7, ag, al⟩, ⟨yc, ym, ye, yn⟩⟩, AL, cL, AA, cA, hmm, hyn, hD2.out.1 _ hSd hE hmm, ilG.kept hkE (fun ad h1 _ e => by have := halB ad h1; omega), iaG.kept hkE (fun ad h1 _ e => by have := haaB ad h1; omega), _, rfl, rfl⟩
      | false =>
        rw [hY] at hk9 hD
        go_wp2_with fail
        refine hk9.mono ?_
        rintro e w' ⟨rfl, hww⟩
        subst w'
        have hy := h7
        have ily := hil7
        have ial := hia7
        have hD2 := hD.out s4 y0 ⟨rfl, rfl⟩
        replace hD2 := Lib.hid hD2
        go_wp2_with fail
        refine (tdone_any W7 g A5 c5 s4 hy.pt).mono ?_
        rintro e w' ⟨rfl, hww⟩
        subst w'
        by_cases hE : s4 = some []
        case neg =>
          have hd : tdoneN s4 = 10 := by unfold tdoneN; rw [if_neg hE]
          rw [hd]
          go_wp2_with (refine wpStoreM 29 0 #[.int .i64 0, .int .i64 0, .slice none 0 0, .int .i64 0, .int .i64 0, .int .i64 0, .int .i64 0, .int .i64 0, .int .i64 0, .int .i64 0, .string ⟨#[]⟩, .slice none 0 0, .int .i64 0, .int .i64 0, .int .i64 0, .int .i64 0] rfl (.tmp 2) (.tmp 48) rfl rfl rfl hy.b0 (by simp [zeroM]) mail_info rfl (fun WE hbE hkE => ?_))
          have hbE2 : Blk WE w.heap.size 29 #[.int .i64 0, .int .i64 0, .slice none 0 0, .int .i64 0, .int .i64 0, .int .i64 0, .int .i64 0, .int .i64 0, .int .i64 0, .int .i64 0, .string ⟨#[]⟩, .slice none 0 0, .int .i64 0, .int .i64 0, .int .i64 0, .int .i64 0] := hbE
          clear hbE
          refine bodyPost_ret (mres hbE2 _ _ rfl rfl) rfl ?_
          have hbl := hy.bel
          refine ⟨hbl.trans (hkE.below (B := w.heap.size) hbl.size (fun k hk e => by omega)), ?_⟩
          refine .inr ⟨fun x hx hxn hb => ?_, _, rfl, rfl⟩
          exact hE (hD2.out.2 x hx hxn hb).2.1
        have hd : tdoneN s4 = 0 := by unfold tdoneN; rw [if_pos hE]
        rw [hd]
        have key := mmay_any ⟨k, o, l, ⟨a1, a2, a3, a4, a5, a6, a7, ag, al⟩, y0⟩ AL cL AA cA W7 ily ial hLEN hALN
        unfold MV.v MV.cs y0 at key
        dsimp only at key
        obtain ⟨mm, hmm⟩ : ∃ m, mayM ⟨k, o, l, ⟨a1, a2, a3, a4, a5, a6, a7, ag, al⟩, y0⟩ = m := ⟨_, rfl⟩
        rw [show mayM ⟨k, o, l, ⟨a1, a2, a3, a4, a5, a6, a7, ag, al⟩, ⟨0, 0, 0, 0⟩⟩ = mm from hmm] at key
        go_wp2_with (refine wpLoadM 29 (by rfl) (.tmp 5) rfl rfl hy.ba _ Try.underlying29 rfl mail_info ?_)
        refine key.mono ?_
        rintro e WG ⟨rfl, hxG⟩
        clear key
        have hyG := hy.below hxG
        have ilG := ily.below hxG
        have iaG := ial.below hxG
        cases mm with
        | false =>
          have hy := hyG
          go_wp2_with (refine wpStoreM 29 0 #[.int .i64 0, .int .i64 0, .slice none 0 0, .int .i64 0, .int .i64 0, .int .i64 0, .int .i64 0, .int .i64 0, .int .i64 0, .int .i64 0, .string ⟨#[]⟩, .slice none 0 0, .int .i64 0, .int .i64 0, .int .i64 0, .int .i64 0] rfl (.tmp 2) (.tmp 48) rfl rfl rfl hy.b0 (by simp [zeroM]) mail_info rfl (fun WE hbE hkE => ?_))
          have hbE2 : Blk WE w.heap.size 29 #[.int .i64 0, .int .i64 0, .slice none 0 0, .int .i64 0, .int .i64 0, .int .i64 0, .int .i64 0, .int .i64 0, .int .i64 0, .int .i64 0, .string ⟨#[]⟩, .slice none 0 0, .int .i64 0, .int .i64 0, .int .i64 0, .int .i64 0] := hbE
          clear hbE
          refine bodyPost_ret (mres hbE2 _ _ rfl rfl) rfl ?_
          have hbl := hy.bel
          refine ⟨hbl.trans (hkE.below (B := w.heap.size) hbl.size (fun k hk e => by omega)), ?_⟩
          refine .inr ⟨fun x hx hxn hb => ?_, _, rfl, rfl⟩
          have hq := hD2.out.2 x hx hxn hb
          have h1 := hq.1
          rw [hSd] at h1
          injection h1 with h1
          have h2 := hq.2.2
          rw [← h1] at h2
          rw [h2, hmm] at hx
          cases hx
        | true =>
          go_wp2_with (first | (refine wpLoadM 29 (by rfl) (.tmp 5) rfl rfl hyG.ba _ Try.underlying29 rfl mail_info ?_) | (refine wpStoreM 29 0 #[.int .i64 k, .int .i64 o, .slice AL l.length cL, .int .i64 a1, .int .i64 a2, .int .i64 a3, .int .i64 a4, .int .i64 a5, .int .i64 a6, .int .i64 a7, .string ⟨ag.toArray⟩, .slice AA al.length cA, .int .i64 0, .int .i64 0, .int .i64 0, .int .i64 0] rfl (.tmp 2) (.tmp 49) rfl rfl rfl hyG.b0 (by simp [zeroM]) mail_info rfl (fun WE hbE hkE => ?_)))
          have hbE2 : Blk WE w.heap.size 29 #[.int .i64 k, .int .i64 o, .slice AL l.length cL, .int .i64 a1, .int .i64 a2, .int .i64 a3, .int .i64 a4, .int .i64 a5, .int .i64 a6, .int .i64 a7, .string ⟨ag.toArray⟩, .slice AA al.length cA, .int .i64 0, .int .i64 0, .int .i64 0, .int .i64 0] := hbE
          clear hbE
          refine bodyPost_ret (mres hbE2 _ _ rfl rfl) rfl ?_
          have hbl := hyG.bel
          refine ⟨hbl.trans (hkE.below (B := w.heap.size) hbl.size (fun k hk e => by omega)), ?_⟩
          have hltG := hyG.ba.lt
          have hwG := hyG.g0
          have hwG1 := hyG.g1
          refine .inl ⟨⟨k, o, l, ⟨a1, a2, a3, a4, a5, a6, a7, ag, al⟩, y0⟩, AL, cL, AA, cA, hmm, ⟨by show (-9223372036854775808 : Int) ≤ 0; omega, by show (0 : Int) ≤ 9223372036854775807; omega⟩, hD2.out.1 _ hSd hE hmm, ilG.kept hkE (fun ad h1 _ e => by have := halB ad h1; omega), iaG.kept hkE (fun ad h1 _ e => by have := haaB ad h1; omega), _, rfl, rfl⟩
end
section
open Go.RowKit Go.Maps Go.Shelf
set_option linter.unusedVariables false
set_option linter.unusedSimpArgs false

def lM : MV := ⟨4, 65, [([97], 5)], x0, y0⟩
theorem lm_may : mayM lM = true := by decide +kernel
theorem lm_no : mayM mv0 = false := by decide +kernel
theorem lm_has : hasM 4 = [111, 105] := by decide +kernel
theorem lm_ans : ansK 3 = 4 := by decide +kernel
theorem lm_len : (encM lM).length ≤ 2048 := encKM_len (OKM.of lm_may)
theorem lm_yn : YN lM := ⟨by show (-9223372036854775808 : Int) ≤ 0; omega, by show (0 : Int) ≤ 9223372036854775807; omega⟩
theorem lm_same : sameM lM lM = true := (sameM_iff _ _).2 rfl
theorem Blk.below_ {W W' : World} {g : Nat} {t : TypeId} {cs : Array Value} (h : Blk W g t cs) (k : Below W.heap.size W W') : Blk W' g t cs := h.kept (Keep.of_below k) (by have := h.lt; omega)
theorem IL.one1 (w : World) (s : List UInt8) (q : Int) (t : TypeId) : IL (w.alloc (.cells #[.string ⟨s.toArray⟩, .int .i64 q] t)) (some ⟨w.heap.size, 0, none⟩) 1 [(s, q)] := by
  have hB := Blk.new w t #[.string ⟨s.toArray⟩, .int .i64 q]
  refine ⟨rfl, fun j x hx => ?_⟩
  match j, hx with
  | 0, hx =>
    simp at hx
    subst hx
    exact ⟨_, 0, rfl, hB.cell 0, hB.cell 1⟩
def cM (A : Option Addr) (c : Nat) (B : Option Addr) (cb : Nat) : Array Value := #[.int .i64 4, .int .i64 65, .slice A 1 c, .int .i64 0, .int .i64 0, .int .i64 0, .int .i64 0, .int .i64 0, .int .i64 0, .int .i64 0, .string ⟨#[]⟩, .slice B 0 cb, .int .i64 0, .int .i64 0, .int .i64 0, .int .i64 0]
theorem lm_v (A : Option Addr) (c : Nat) (B : Option Addr) (cb : Nat) : lM.v A c B cb = .agg (cM A c B cb) := rfl
set_option maxRecDepth 100000 in
set_option maxHeartbeats 12800000 in
theorem mlives_any (w : World) : Calls Try.prog 7 #[] w fun e w' => e = .returned (.bool true) ∧ Below w.heap.size w w' := by
  obtain ⟨w0, hw0⟩ : ∃ w0, (w.alloc (.cells #[.string ⟨#[97]⟩, .int .i64 5] 46)) = w0 := ⟨_, rfl⟩
  have hs0 : w0.heap.size = w.heap.size + 1 := by rw [← hw0]; simp only [World.size_alloc]
  have hb0 : Below w.heap.size w w0 := by
    rw [← hw0]
    exact (Below.refl w.heap.size w).alloc (Nat.le_refl _) _
  have hil0 : IL w0 (some ⟨w.heap.size, 0, none⟩) 1 [([97], 5)] := by
    rw [← hw0]
    exact IL.one1 w [97] 5 _
  have hbM := Blk.new w0 29 (cM (some ⟨w.heap.size, 0, none⟩) 1 none 0)
  have hilN := hil0.alloc (.cells (cM (some ⟨w.heap.size, 0, none⟩) 1 none 0) 29)
  have hbelN := hb0.alloc hb0.size (.cells (cM (some ⟨w.heap.size, 0, none⟩) 1 none 0) 29)
  obtain ⟨wN, hwN⟩ : ∃ W, w0.alloc (.cells (cM (some ⟨w.heap.size, 0, none⟩) 1 none 0) 29) = W := ⟨_, rfl⟩
  rw [hwN] at hbM hilN hbelN
  have hM : ∀ A c B cb W, IL W A 1 [([97], 5)] → IL W B 0 [] → Calls Try.prog 9 #[.agg (cM A c B cb)] W fun e w' => e = .returned (.bool true) ∧ Below W.heap.size W w' := fun A c B cb W h1 h2 => by
    have := mmay_any lM A c B cb W h1 h2 (by show 1 ≤ 9223372036854775807; omega) (Nat.zero_le _)
    rw [lm_may] at this
    exact this
  have hM0 : ∀ W, Calls Try.prog 9 #[.agg zeroM] W fun e w' => e = .returned (.bool false) ∧ Below W.heap.size W w' := fun W => by
    have := mmay_any mv0 none 0 none 0 W (IL.nil _ _) (IL.nil _ _) (Nat.zero_le _) (Nat.zero_le _)
    rw [lm_no] at this
    exact this
  have hS : ∀ A c B cb A' c' B' cb' W, IL W A 1 [([97], 5)] → IL W B 0 [] → IL W A' 1 [([97], 5)] → IL W B' 0 [] → Calls Try.prog 15 #[.agg (cM A c B cb), .agg (cM A' c' B' cb')] W fun e w' => e = .returned (.bool true) ∧ Below W.heap.size W w' := fun A c B cb A' c' B' cb' W h1 h2 h3 h4 => by
    have := msame_any lM lM A c B cb A' c' B' cb' W h1 h2 h3 h4 (by show 1 ≤ 9223372036854775807; omega) (Nat.zero_le _)
    rw [lm_same] at this
    exact this
  have hR : ∀ A c B cb A' c' B' cb' W, IL W A 1 [([97], 5)] → IL W B 0 [] → IL W A' 1 [([97], 5)] → IL W B' 0 [] → Calls Try.prog 13 #[.agg (cM A c B cb), .agg (cM A' c' B' cb')] W fun e w' => e = .returned (.bool true) ∧ Below W.heap.size W w' := fun A c B cb A' c' B' cb' W h1 h2 h3 h4 => by
    have := rmsame_any lM lM A c B cb A' c' B' cb' W h1 h2 h3 h4 (by show 1 ≤ 9223372036854775807; omega) (Nat.zero_le _)
    rw [lm_same] at this
    exact this
  have hE : ∀ A c B cb W, IL W A 1 [([97], 5)] → IL W B 0 [] → Calls Try.prog 8 #[.agg (cM A c B cb)] W (EncPost true (encM lM) 1 W) := fun A c B cb W h1 h2 => by
    have := menc_any lM A c B cb W h1 h2 (by show 1 ≤ 9223372036854775807; omega) (Nat.zero_le _) lm_yn
    rw [lm_may] at this
    exact this
  have hLen := lm_len
  obtain ⟨E, hEe⟩ : ∃ E, encM lM = E := ⟨_, rfl⟩
  rw [hEe] at hE hLen
  replace hEe := Lib.hid hEe
  unfold cM at hM hS hR hE
  unfold zeroM at hM0
  go_enter Try.func7, Try.ntmps7
  unfold cM at hwN
  clear hs0
  replace hwN := Lib.hid hwN
  go_wp2_with fail
  rw [hwN.out]
  clear hwN hw0 hil0 hb0
  refine (hE _ _ _ _ wN hilN (IL.nil _ _)).mono ?_
  rintro e w2 ⟨hx2, AB, cB, rfl, hlc, hcm, hrB, _⟩
  have hb2 := hbelN.trans (hx2.mono hbelN.size)
  go_wp2_with fail
  refine (mdec_any AB E.length cB E w2 hrB (by omega)).mono ?_
  rintro e w3 ⟨hx3, h3⟩
  have hb3 := hb2.trans (hx3.mono hb2.size)
  rcases h3 with ⟨x, A3, c3, B3, d3, hxm, hyn, hbe, hil3, hia3, ok, rfl, hok⟩ | ⟨hno, _⟩
  case inr => exact absurd hEe.out.symm (hno lM lm_may lm_yn)
  have hxe : x = lM := encM_inj hxm lm_may hyn lm_yn (hbe.symm.trans hEe.out.symm)
  subst hxe
  unfold errV at hok
  dsimp only at hok
  subst hok
  rw [lm_v]
  have hil3 : IL w3 A3 1 [([97], 5)] := hil3
  have hia3 : IL w3 B3 0 [] := hia3
  have hbM3 := (hbM.below_ hx2).below_ hx3
  have hilN3 := (hilN.below hx2).below hx3
  clear hxm hyn hbe hbM hilN hrB
  have hb4 := hb3.alloc hb3.size (.cells (cM A3 c3 B3 d3) 29)
  have hv4 := Blk.new w3 29 (cM A3 c3 B3 d3)
  have hbM4 := hbM3.alloc (.cells (cM A3 c3 B3 d3) 29)
  have hil4 := hil3.alloc (.cells (cM A3 c3 B3 d3) 29)
  have hia4 := hia3.alloc (.cells (cM A3 c3 B3 d3) 29)
  have hilN4 := hilN3.alloc (.cells (cM A3 c3 B3 d3) 29)
  unfold cM
  go_wp2_with (first | (refine wpLoadM 29 (by rfl) (.tmp 4) rfl rfl hv4 _ Try.underlying29 rfl mail_info ?_) | (refine wpLoadM 29 (by rfl) (.tmp 1) rfl rfl hbM4 _ Try.underlying29 rfl mail_info ?_))
  refine (hR _ _ _ _ _ _ _ _ _ hil4 hia4 hilN4 (IL.nil _ _)).mono ?_
  rintro e w5 ⟨rfl, hx5⟩
  have hb5 := hb4.trans (hx5.mono hb4.size)
  have hv5 := hv4.below_ hx5
  have hbM5 := hbM4.below_ hx5
  have hil5 := hil4.below hx5
  have hia5 := hia4.below hx5
  have hilN5 := hilN4.below hx5
  clear hv4 hbM4 hil4 hia4 hilN4
  go_wp2_with (first | (refine wpLoadM 29 (by rfl) (.tmp 4) rfl rfl hv5 _ Try.underlying29 rfl mail_info ?_) | (refine wpLoadM 29 (by rfl) (.tmp 1) rfl rfl hbM5 _ Try.underlying29 rfl mail_info ?_))
  refine (hS _ _ _ _ _ _ _ _ w5 hil5 hia5 hilN5 (IL.nil _ _)).mono ?_
  rintro e w6 ⟨rfl, hx6⟩
  have hb6 := hb5.trans (hx6.mono hb5.size)
  have hbM6 := hbM5.below_ hx6
  have hilN6 := hilN5.below hx6
  go_wp2_with (refine wpLoadM 29 (by rfl) (.tmp 1) rfl rfl hbM6 _ Try.underlying29 rfl mail_info ?_)
  refine (hM _ _ _ _ w6 hilN6 (IL.nil _ _)).mono ?_
  rintro e w7 ⟨rfl, hx7⟩
  have hb7 := hb6.trans (hx7.mono hb6.size)
  have k7 := mhas_any 4 w7
  rw [lm_has] at k7
  go_wp2_with fail
  refine k7.mono ?_
  rintro e w' ⟨rfl, hww⟩
  subst w'
  have k8 := manswers_any 3 w7
  rw [lm_ans] at k8
  go_wp2_with fail
  refine k8.mono ?_
  rintro e w' ⟨rfl, hww⟩
  subst w'
  go_wp2_with fail
  refine (hM0 w7).mono ?_
  rintro e w8 ⟨rfl, hx8⟩
  go_wp2
  go_ret
  exact ⟨rfl, hb7.trans (hx8.mono hb7.size)⟩
end
end Go.Proofs.Ytpfkhalomnfcfaa
