/- Several stocks that live apart: Do and Count of one of them; one more. No condition but sizes. -/
import Derived.Test.YtipmamgmcipbfaaGdJ
namespace Go.Proofs.Ytipmamgmcipbfaa
open Go.RowKit Go.Maps Go.Shelf Go.Sort
set_option linter.unusedVariables false
set_option linter.unusedSimpArgs false

/-- Stocks by their blocks and their maps' blocks. -/
structure AS (w : World) (P : List (Nat × Nat)) (l : List Sk) (M : Nat) : Prop where
  len : l.length = P.length
  at_ : ∀ (i p b : Nat), P[i]? = some (p, b) → ∃ (x : Sk) (N : Nat), l[i]? = some x ∧ x.v = .pointer (some ⟨p, 0, none⟩) ∧ ST w p b N x.f x.ks ∧ N ≤ M ∧ SB x.f x.ks
  apart : ∀ (i j p b p' b' : Nat), P[i]? = some (p, b) → P[j]? = some (p', b') → b ≠ p' ∧ (b = b' → i = j)
section
variable {w w' : World} {P : List (Nat × Nat)} {l : List Sk} {M : Nat}
theorem AS.nil (w : World) : AS w [] [] 0 := ⟨rfl, fun i p b h => by simp at h, fun i j p b p' b' h => by simp at h⟩
theorem AS.below (h : AS w P l M) (k : Below w.heap.size w w') : AS w' P l M :=
  ⟨h.len, fun i p b hi => by
    obtain ⟨x, N, h1, h2, h3, h4⟩ := h.at_ i p b hi
    exact ⟨x, N, h1, h2, h3.below k, h4⟩, h.apart⟩
theorem AS.lt (h : AS w P l M) {i p b : Nat} (hi : P[i]? = some (p, b)) : p < w.heap.size ∧ b < w.heap.size := by
  obtain ⟨x, N, h1, h2, h3, h4⟩ := h.at_ i p b hi
  exact h3.lt
theorem AS.mono (h : AS w P l M) {M' : Nat} (hM : M ≤ M') : AS w P l M' :=
  ⟨h.len, fun i p b hi => by
    obtain ⟨x, N, h1, h2, h3, h4, h5⟩ := h.at_ i p b hi
    exact ⟨x, N, h1, h2, h3, by omega, h5⟩, h.apart⟩
theorem AS.place (h : AS w P l M) {i : Nat} (hi : i < P.length) : ∃ (p b : Nat) (x : Sk), P[i]? = some (p, b) ∧ l[i]? = some x ∧ x.v = .pointer (some ⟨p, 0, none⟩) ∧ SB x.f x.ks := by
  obtain ⟨⟨p, b⟩, hp⟩ : ∃ pb, P[i] = pb := ⟨_, rfl⟩
  have h0 : P[i]? = some (p, b) := by rw [List.getElem?_eq_getElem hi, hp]
  obtain ⟨x, N, h1, h2, h3, h4, h5⟩ := h.at_ i p b h0
  exact ⟨p, b, x, h0, h1, h2, h5⟩
theorem AS.mem (h : AS w P l M) {x : Sk} (hx : x ∈ l) : ∃ (i p b N : Nat), P[i]? = some (p, b) ∧ l[i]? = some x ∧ x.v = .pointer (some ⟨p, 0, none⟩) ∧ ST w p b N x.f x.ks ∧ SB x.f x.ks := by
  obtain ⟨i, hi⟩ := List.mem_iff_getElem?.1 hx
  have hlt : i < P.length := by rw [← h.len]; exact (List.getElem?_eq_some_iff.1 hi).1
  obtain ⟨p, b, x', h0, h1, h2, h3⟩ := h.place hlt
  obtain ⟨x2, N, h4, h5, h6, h7, h8⟩ := h.at_ i p b h0
  rw [hi] at h4
  cases h4
  exact ⟨i, p, b, N, h0, hi, h5, h6, h8⟩
theorem AS.sp (h : AS w P l M) : ∀ x ∈ l, SP w x := fun x hx => by
  obtain ⟨i, p, b, N, _, _, h2, h3, _⟩ := h.mem hx
  exact .inr ⟨p, b, N, h2, h3⟩
theorem AS.sb (h : AS w P l M) : ∀ x ∈ l, SB x.f x.ks := fun x hx => by
  obtain ⟨i, p, b, N, _, _, _, _, h4⟩ := h.mem hx
  exact h4
theorem ST.nodup {p b N : Nat} {f : List UInt8 → Row} {ks : List (List UInt8)} (h : ST w p b N f ks) : ks.Nodup := by
  obtain ⟨D, _, hs⟩ := h.mp
  exact hs.nd
theorem AS.ks (h : AS w P l M) : ∀ x ∈ l, x.ks.Nodup ∧ x.ks.length ≤ 64 ∧ ∀ g ∈ x.ks, g.length ≤ maxLen := fun x hx => by
  obtain ⟨i, p, b, N, _, _, _, h3, h4⟩ := h.mem hx
  exact ⟨h3.nodup, h4.sko.len64, fun g hg => by have := gOK_len (h4.sko.sk.good g hg); unfold maxLen; omega⟩
/-- One of them has become another. -/
theorem AS.set_ (h : AS w P l M) {i p b N : Nat} {x y : Sk} (hi : P[i]? = some (p, b)) (hx : l[i]? = some x) (hv : y.v = x.v) (hk : Keep (fun j => j = b) w w') (hst : ST w' p b N y.f y.ks) {M' : Nat} (hN : N ≤ M') (hM : M ≤ M') (hsb : SB y.f y.ks) : AS w' P (l.set i y) M' := by
  have hil : i < l.length := (List.getElem?_eq_some_iff.1 hx).1
  refine ⟨by rw [List.length_set]; exact h.len, fun j p' b' hj => ?_, h.apart⟩
  obtain ⟨x', N', h1, h2, h3, h4, h5⟩ := h.at_ j p' b' hj
  by_cases e : i = j
  · subst e
    rw [hi] at hj
    cases hj
    rw [hx] at h1
    cases h1
    exact ⟨y, N, by rw [List.getElem?_set_self hil], by rw [hv]; exact h2, hst, hN, hsb⟩
  · have ha := h.apart i j p b p' b' hi hj
    exact ⟨x', N', by rw [List.getElem?_set_ne e]; exact h1, h2, h3.kept hk (fun e' => ha.1 e'.symm) (fun e' => e (ha.2 e'.symm)), by omega, h5⟩
theorem AS.do_ (h : AS w P l M) {i p b : Nat} {x : Sk} (hi : P[i]? = some (p, b)) (hx : l[i]? = some x) (k : Int) (A : Option Addr) (n c : Nat) (L : List It) (hl : IL w A n L) (hn : n ≤ 1048576) (hw : ∀ x ∈ L, x.1.length ≤ maxLen) (hM : M ≤ 140737488355328) :
    Calls Try.prog 20 #[.pointer (some ⟨p, 0, none⟩), .int .i64 k, .slice A n c] w fun e w' => e = .returned (.int .i64 (doE x.f x.ks k L)) ∧ AS w' P (l.set i ⟨x.v, doF x.f x.ks k L, doK x.f x.ks k L⟩) (M + n) ∧ Keep (fun j => j = b) w w' := by
  obtain ⟨x', N, h1, h2, h3, h4, h5⟩ := h.at_ i p b hi
  rw [hx] at h1
  cases h1
  have h64 := h5.sko.len64
  refine (do_u k A n c L w h3 hl hn hw (by omega) (by omega)).mono ?_
  rintro e w' ⟨rfl, ⟨N', hN', hst⟩, hk⟩
  exact ⟨rfl, h.set_ (y := ⟨_, doF _ _ k L, doK _ _ k L⟩) hi hx rfl hk hst (by omega) (by omega) (h5.do_ k L), hk⟩
theorem AS.cnt (h : AS w P l M) {i p b : Nat} {x : Sk} (hi : P[i]? = some (p, b)) (hx : l[i]? = some x) (s : List UInt8) (n : Int) (hsl : s.length ≤ maxLen) (hM : M ≤ 140737488355328) :
    Calls Try.prog 19 #[.pointer (some ⟨p, 0, none⟩), .string ⟨s.toArray⟩, .int .i64 n] w fun e w' => e = .returned (.tuple #[.int .i64 (cntV x.f x.ks s n), .int .i64 (cntE x.f x.ks s n)]) ∧ AS w' P (l.set i ⟨x.v, cntF x.f x.ks s n, x.ks⟩) (M + 1) ∧ Keep (fun j => j = b) w w' := by
  obtain ⟨x', N, h1, h2, h3, h4, h5⟩ := h.at_ i p b hi
  rw [hx] at h1
  cases h1
  refine (count_u s n w h3 hsl (by omega)).mono ?_
  rintro e w' ⟨rfl, ⟨N', hN', hst⟩, hk⟩
  exact ⟨rfl, h.set_ (y := ⟨_, cntF _ _ s n, _⟩) hi hx rfl hk hst (by omega) (by omega) (h5.cnt s n), hk⟩
/-- One more. -/
theorem AS.snoc (h : AS w P l M) {p b : Nat} (hst : ST w' p b 0 (fun _ => row0) []) (hk : Below w.heap.size w w') (hp : w.heap.size ≤ p) (hb : w.heap.size ≤ b) : AS w' (P ++ [(p, b)]) (l ++ [⟨.pointer (some ⟨p, 0, none⟩), fun _ => row0, []⟩]) M := by
  have hlen := h.len
  have old := fun (i q d : Nat) (hi : P[i]? = some (q, d)) => h.lt hi
  refine ⟨by simp [hlen], fun i q d hi => ?_, fun i j q d q' d' hi hj => ?_⟩
  · rw [List.getElem?_append] at hi ⊢
    by_cases e : i < P.length
    · rw [if_pos e] at hi
      rw [if_pos (by omega)]
      obtain ⟨x, N, h1, h2, h3, h4⟩ := h.at_ i q d hi
      exact ⟨x, N, h1, h2, h3.below hk, h4⟩
    · rw [if_neg e] at hi
      rw [if_neg (by omega), hlen]
      have e0 : i - P.length = 0 := by
        rcases Nat.eq_zero_or_pos (i - P.length) with e0 | e0
        · exact e0
        · rw [List.getElem?_eq_none (by simp; omega)] at hi
          cases hi
      rw [e0] at hi ⊢
      simp at hi
      obtain ⟨rfl, rfl⟩ := hi
      exact ⟨_, 0, rfl, rfl, hst, by omega, SB.start⟩
  · rw [List.getElem?_append] at hi hj
    have last : ∀ (i q d : Nat), ¬ i < P.length → (if i < P.length then P[i]? else [(p, b)][i - P.length]?) = some (q, d) → i = P.length ∧ q = p ∧ d = b := fun i q d e hi => by
      rw [if_neg e] at hi
      rcases Nat.eq_zero_or_pos (i - P.length) with e0 | e0
      · rw [e0] at hi
        simp at hi
        exact ⟨by omega, hi.1.symm, hi.2.symm⟩
      · rw [List.getElem?_eq_none (by simp; omega)] at hi
        cases hi
    by_cases e : i < P.length
    · by_cases e' : j < P.length
      · rw [if_pos e] at hi
        rw [if_pos e'] at hj
        exact h.apart i j q d q' d' hi hj
      · obtain ⟨h1, rfl, rfl⟩ := last j q' d' e' hj
        rw [if_pos e] at hi
        have := old i q d hi
        exact ⟨by omega, fun e => by omega⟩
    · obtain ⟨h1, rfl, rfl⟩ := last i q d e hi
      by_cases e' : j < P.length
      · rw [if_pos e'] at hj
        have := old j q' d' hj
        exact ⟨by omega, fun e => by omega⟩
      · obtain ⟨h2, rfl, rfl⟩ := last j q' d' e' hj
        exact ⟨fun e => hst.ne e.symm, fun _ => by omega⟩
end
theorem PO.nb {base : Nat} {w : World} {v : Value} {l : List Value} {p b N : Nat} {f : List UInt8 → Row} {ks : List (List UInt8)} (h : PO base w v l) (hs : ST w p b N f ks) : ∀ g, v.ownBlock = some g → ¬ g = b := fun g hg e => by
  obtain ⟨cs, fr, h1⟩ := h.blk g hg
  obtain ⟨D, ⟨es, clock, hb, _⟩, _⟩ := hs.mp
  subst e
  rw [h1] at hb
  cases hb
end Go.Proofs.Ytipmamgmcipbfaa
