/- Bytes that are an end are its code: pure. No condition. -/
import Derived.Test.YtfgceplafjbmhaaLqV
namespace Go.Proofs.Ytfgceplafjbmhaa
open Go.RowKit
set_option linter.unusedVariables false
set_option linter.unusedSimpArgs false

theorem tnum_some {s s' : List UInt8} {a b n : Int} (h : tnum (some s) a b = (n, some s')) : a ≤ n ∧ n ≤ b ∧ numCell n ++ s' = s := by
  unfold tnum at h
  try dsimp only at h
  cases hf : first s with
  | none => rw [hf] at h; cases h
  | some p =>
    obtain ⟨m, k⟩ := p
    rw [hf] at h
    try dsimp only at h
    split at h
    · cases h
    · rename_i hn
      injection h with h1 h2
      injection h2 with h2
      subst h1
      obtain ⟨_, _, h5, _, _⟩ := first_some hf
      exact ⟨by omega, by omega, by rw [h5, ← h2, List.take_append_drop]⟩
theorem tnum_of {st : Option (List UInt8)} {a b n : Int} {s' : List UInt8} (h : tnum st a b = (n, some s')) : ∃ s, st = some s := by
  cases st with
  | none => cases h
  | some s => exact ⟨s, rfl⟩
theorem ttext_some {s s' t : List UInt8} {m : Int} (h : ttext (some s) m = (t, some s')) : (t.length : Int) ≤ m ∧ numCell (t.length : Int) ++ t ++ s' = s := by
  unfold ttext at h
  try dsimp only at h
  cases hf : ft s with
  | none => rw [hf] at h; cases h
  | some p =>
    obtain ⟨k, n⟩ := p
    rw [hf] at h
    try dsimp only at h
    have hle := ft_le hf
    split at h
    · cases h
    · rename_i hn
      injection h with h1 h2
      injection h2 with h2
      have hl : t.length = n := by rw [← h1, List.length_take, List.length_drop]; omega
      cases hg : first s with
      | none => rw [ft_none hg] at hf; cases hf
      | some p =>
        obtain ⟨i, j⟩ := p
        rw [ft_some hg] at hf
        split at hf
        · cases hf
        · rename_i hni
          injection hf with hf
          injection hf with e1 e2
          subst e1
          obtain ⟨_, _, h5, _, _⟩ := first_some hg
          refine ⟨by omega, ?_⟩
          have hi : (t.length : Int) = i := by rw [hl]; omega
          rw [hi, h5, ← h1, ← h2, List.append_assoc, ← List.drop_drop, List.take_append_drop, List.take_append_drop]
theorem ttext_of {st : Option (List UInt8)} {m : Int} {t s' : List UInt8} (h : ttext st m = (t, some s')) : ∃ s, st = some s := by
  cases st with
  | none => cases h
  | some s => exact ⟨s, rfl⟩
theorem takeE_some {seq : Int} {st : Option (List UInt8)} {b : Bd} {s' : List UInt8} (h : takeE seq st = (b, some s')) : ∃ s, st = some s ∧ okB b ∧ b.seq = seq ∧ rowE b ++ s' = s := by
  unfold takeE at h
  injection h with h1 h2
  cases ht : ttext st 2048 with
  | mk tx s1 =>
    rw [ht] at h1 h2
    dsimp only at h1 h2
    cases hn : tnum s1 1 topE with
    | mk tr s2 =>
      rw [hn] at h1 h2
      dsimp only at h1 h2
      cases hd : tnum s2 leastI topE with
      | mk du s3 =>
        rw [hd] at h1 h2
        dsimp only at h1 h2
        subst h2
        obtain ⟨r2, rfl⟩ := tnum_of hd
        obtain ⟨r1, rfl⟩ := tnum_of hn
        obtain ⟨r0, rfl⟩ := ttext_of ht
        have a := ttext_some ht
        have b' := tnum_some hn
        have c := tnum_some hd
        subst h1
        refine ⟨r0, rfl, ⟨by have := a.1; dsimp only; omega, b'.1, b'.2.1, c.1, c.2.1⟩, rfl, ?_⟩
        unfold rowE
        dsimp only
        rw [← a.2, ← b'.2.2, ← c.2.2]
        simp only [List.append_assoc]
theorem takesE_some : ∀ (n : Nat) (seq : Int) (st : Option (List UInt8)) (l : List Bd) (r : List UInt8), takesE n seq st = (l, some r) → ∃ s, st = some s ∧ rowsE l ++ r = s ∧ (∀ b ∈ l, okB b) ∧ ∀ (k : Nat) (b : Bd), l[k]? = some b → b.seq = seq + 1 + (k : Int)
  | 0, seq, st, l, r, h => by
    cases h
    exact ⟨r, rfl, rfl, fun b hb => by simp at hb, fun k b hk => by simp at hk⟩
  | n + 1, seq, st, l, r, h => by
    cases ht : takeE (seq + 1) st with
    | mk b s1 =>
      cases hr : takesE n (seq + 1) s1 with
      | mk l2 s2 =>
        have h' : (b :: l2, s2) = (l, some r) := by
          rw [← h]
          show _ = (_ :: _, _)
          rw [ht]
          dsimp only
          rw [hr]
        injection h' with e1 e2
        subst e1
        subst e2
        obtain ⟨r1, rfl, h3, h4, h5⟩ := takesE_some n (seq + 1) s1 l2 r hr
        obtain ⟨s, rfl, h6, h7, h8⟩ := takeE_some ht
        refine ⟨s, rfl, ?_, fun x hx => ?_, fun k x hk => ?_⟩
        · rw [← h8, ← h3]
          simp [rowsE]
        · rcases List.mem_cons.1 hx with rfl | hx
          · exact h6
          · exact h4 x hx
        · cases k with
          | zero =>
            cases hk
            rw [h7]
            simp
          | succ k =>
            have := h5 k x (by simpa using hk)
            omega
theorem decE_facts {c : List UInt8} {l : List Bd} {sent mark : Int} (h : decE c = some (l, sent, mark)) : InvE l sent mark ∧ SeqE l sent ∧ encE l sent mark = c := by
  unfold decE at h
  dsimp only at h
  cases ha : tnum (some c) 0 topE with
  | mk s s1 =>
    rw [ha] at h
    dsimp only at h
    cases hb : tnum s1 0 topE with
    | mk m s2 =>
      rw [hb] at h
      dsimp only at h
      cases hc : tnum s2 0 (if s < 64 then s else 64) with
      | mk n s3 =>
        rw [hc] at h
        dsimp only at h
        unfold restE at h
        cases ht : takesE n.toNat (s - n) s3 with
        | mk l2 s4 =>
          rw [ht] at h
          dsimp only at h
          split at h
          case isFalse => cases h
          case isTrue he =>
            injection h with h
            injection h with e1 e2
            injection e2 with e2 e3
            rw [List.nil_append] at e1
            subst e1
            subst e2
            subst e3
            rw [he] at ht
            obtain ⟨r3, rfl, h3, h4, h5⟩ := takesE_some _ _ _ _ _ ht
            obtain ⟨r2, rfl⟩ := tnum_of hc
            obtain ⟨r1, rfl⟩ := tnum_of hb
            have a := tnum_some ha
            have b := tnum_some hb
            have cc := tnum_some hc
            have hlen : l2.length = n.toNat := by have := takesE_len n.toNat (s - n) (some r3); rw [ht] at this; exact this
            have hn : (l2.length : Int) = n := by have := cc.1; omega
            have hn2 : n ≤ s ∧ n ≤ 64 := by have := cc.2.1; split at this <;> omega
            refine ⟨⟨h4, by omega, ⟨a.1, a.2.1⟩, ⟨b.1, b.2.1⟩⟩, ⟨by omega, fun k x hk => by have := h5 k x hk; omega⟩, ?_⟩
            unfold encE
            rw [List.append_nil] at h3
            rw [hn, h3, cc.2.2, b.2.2, a.2.2]
end Go.Proofs.Ytfgceplafjbmhaa
