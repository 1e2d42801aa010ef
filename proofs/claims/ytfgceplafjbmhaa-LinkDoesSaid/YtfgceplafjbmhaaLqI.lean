/- What holds of an end behind any calls; an end and the document's, in blocks of their own; their calls, each in one piece. No condition but that they lie in memory. -/
import Derived.Test.YtfgceplafjbmhaaLqT
import Derived.Test.YtfgceplafjbmhaaLkB
namespace Go.Proofs.Ytfgceplafjbmhaa
open Go.RowKit
set_option linter.unusedVariables false
set_option linter.unusedSimpArgs false

/-- What holds behind k calls. -/
structure InvT (k : Int) (l : List Bd) (s m : Int) : Prop where
  inv : InvE l s m
  seq : SeqE l s
  sk : s ≤ k
  mmk : m ≤ k
  tr : ∀ b ∈ l, b.tries ≤ k + 1
theorem InvT.start : InvT 0 [] 0 0 := ⟨⟨fun b h => (by cases h), by simp, by omega, by omega⟩, ⟨by simp, fun k b h => by simp at h⟩, by omega, by omega, fun b h => (by cases h)⟩
theorem InvT.up {k k' : Int} {l : List Bd} {s m : Int} (h : InvT k l s m) (hk : k ≤ k') : InvT k' l s m := ⟨h.inv, h.seq, by have := h.sk; omega, by have := h.mmk; omega, fun b hb => by have := h.tr b hb; omega⟩
theorem InvT.snoc {k : Int} {l : List Bd} {s m : Int} (h : InvT k l s m) (text : List UInt8) (now : Int) (ht : text.length ≤ 2048) (hl : l.length < 64) (hk : k < 4611686018427387904) (h0 : -9223372036854775808 ≤ now) : InvT (k + 1) (l ++ [newB (s + 1) text now]) (s + 1) m := by
  have hs := h.sk
  have h1 := h.inv.s0
  refine ⟨⟨fun b hb => ?_, by simp; omega, by omega, h.inv.m0⟩, ⟨by have := h.seq.1; simp; omega, fun j b hb => ?_⟩, by omega, by have := h.mmk; omega, fun b hb => ?_⟩
  · rcases List.mem_append.1 hb with hb | hb
    · exact h.inv.ok b hb
    · rw [List.mem_singleton.1 hb]
      exact okB.new _ _ _ ht h0
  · rw [List.length_append]
    show b.seq = s + 1 - (((l.length + 1 : Nat)) : Int) + 1 + (j : Int)
    by_cases hj : j < l.length
    · rw [List.getElem?_append_left hj] at hb
      have := h.seq.2 j b hb
      omega
    · rw [List.getElem?_append_right (by omega)] at hb
      have hj0 : j - l.length = 0 := by
        rcases Nat.eq_zero_or_pos (j - l.length) with e | e
        · exact e
        · rw [List.getElem?_eq_none (by simp; omega)] at hb
          cases hb
      rw [hj0] at hb
      cases hb
      show s + 1 = _
      omega
  · rcases List.mem_append.1 hb with hb | hb
    · have := h.tr b hb; omega
    · rw [List.mem_singleton.1 hb]
      show (1 : Int) ≤ k + 1 + 1
      omega
theorem InvT.ticked {k : Int} {l : List Bd} {s m : Int} (h : InvT k l s m) (now : Int) (hk : k < 4611686018427387904) (h0 : -9223372036854775808 ≤ now) : InvT (k + 1) (l.map (tickB now)) s m := by
  have hsq : ∀ b, (tickB now b).seq = b.seq := fun b => by unfold tickB; split <;> rfl
  refine ⟨⟨fun b hb => ?_, by rw [List.length_map]; exact h.inv.len, h.inv.s0, h.inv.m0⟩, ⟨by rw [List.length_map]; exact h.seq.1, fun j b hb => ?_⟩, by have := h.sk; omega, by have := h.mmk; omega, fun b hb => ?_⟩
  · obtain ⟨c, hc, rfl⟩ := List.mem_map.1 hb
    exact (h.inv.ok c hc).tick now h0
  · rw [List.getElem?_map] at hb
    cases hc : l[j]? with
    | none => rw [hc] at hb; cases hb
    | some c =>
      rw [hc] at hb
      cases hb
      rw [hsq, List.length_map]
      exact h.seq.2 j c hc
  · obtain ⟨c, hc, rfl⟩ := List.mem_map.1 hb
    have := h.tr c hc
    unfold tickB
    split
    · show upT c.tries ≤ _
      unfold upT
      split <;> omega
    · omega
theorem onL_drop (a : Int) : ∀ (l : List Bd) (c : Int), (∀ (j : Nat) (b : Bd), l[j]? = some b → b.seq = c + (j : Int)) → ∃ j, j ≤ l.length ∧ onL a l = l.drop j
  | [], _, _ => ⟨0, Nat.le_refl _, rfl⟩
  | x :: l, c, h => by
    by_cases hx : x.seq ≤ a
    · obtain ⟨j, hj, e⟩ := onL_drop a l (c + 1) (fun j b hb => by have := h (j + 1) b (by simpa using hb); omega)
      refine ⟨j + 1, by simp; omega, ?_⟩
      rw [List.drop_succ_cons, ← e]
      unfold onL
      rw [List.filter_cons_of_neg (by simp [hx])]
    · refine ⟨0, Nat.zero_le _, ?_⟩
      rw [List.drop_zero]
      apply onL_none
      intro b hb
      obtain ⟨j, hj⟩ := List.getElem?_of_mem hb
      have h1 := h j b hj
      have h2 := h 0 x rfl
      unfold goneB
      exact decide_eq_false (by omega)
theorem InvT.oned {k : Int} {l : List Bd} {s m : Int} (h : InvT k l s m) (a : Int) : InvT k (onL a l) s m := by
  obtain ⟨j, hj, e⟩ := onL_drop a l (s - (l.length : Int) + 1) (fun j b hb => h.seq.2 j b hb)
  have hm : ∀ b ∈ onL a l, b ∈ l := fun b hb => (List.mem_filter.1 hb).1
  have hle := onL_le a l
  refine ⟨⟨fun b hb => h.inv.ok b (hm b hb), by have := h.inv.len; omega, h.inv.s0, h.inv.m0⟩, ?_, h.sk, h.mmk, fun b hb => h.tr b (hm b hb)⟩
  rw [e]
  refine ⟨by have := h.seq.1; rw [List.length_drop]; omega, fun i b hb => ?_⟩
  rw [List.getElem?_drop] at hb
  have := h.seq.2 _ b hb
  rw [List.length_drop]
  omega
theorem InvT.marked {k : Int} {l : List Bd} {s m : Int} (h : InvT k l s m) (hk : k < 4611686018427387904) : InvT (k + 1) l s (m + 1) :=
  ⟨⟨h.inv.ok, h.inv.len, h.inv.s0, by have := h.inv.m0; have := h.mmk; omega⟩, h.seq, by have := h.sk; omega, by have := h.mmk; omega, fun b hb => by have := h.tr b hb; omega⟩

/-- An end whose blocks lie in F. -/
def EK (F : Nat → Prop) (w : World) (p : Nat) (l : List Bd) (s m : Int) : Prop := ∃ v, ES 0 w p s m v l ∧ F p ∧ ∀ g, v.ownBlock = some g → F g
section
variable {F G : Nat → Prop} {w w' : World} {p : Nat} {l : List Bd} {s m : Int}
theorem EK.kept {S : Nat → Prop} (h : EK F w p l s m) (k : Keep S w w') (hs : ∀ g, F g → ¬ S g) : EK F w' p l s m := by
  obtain ⟨v, hE, hp, hv⟩ := h
  exact ⟨v, hE.kept k (hs p hp) (fun g hg => hs g (hv g hg)), hp, hv⟩
theorem EK.below (h : EK F w p l s m) (k : Below w.heap.size w w') : EK F w' p l s m := by
  obtain ⟨v, hE, hp, hv⟩ := h
  exact ⟨v, hE.below k, hp, hv⟩
theorem EK.drew (h : EK F w p l s m) : EK F w.drew p l s m := h.below (Below.refl w.heap.size w).drew
theorem EK.mono (h : EK F w p l s m) (hF : ∀ k, k < w.heap.size → F k → G k) : EK G w p l s m := by
  obtain ⟨v, hE, hp, hv⟩ := h
  exact ⟨v, hE, hF p hE.pc.lt hp, fun g hg => hF g (hE.own.lt g hg).2 (hv g hg)⟩
theorem EK.lt (h : EK F w p l s m) : p < w.heap.size := by
  obtain ⟨v, hE, _⟩ := h
  exact hE.pc.lt
theorem EK.alloc (h : EK F w p l s m) (o : Obj) : EK F (w.alloc o) p l s m := h.below ((Below.refl _ w).alloc (Nat.le_refl _) o)
theorem QN.alloc {q : Nat} (h : QN F w q l s m) (o : Obj) : QN F (w.alloc o) q l s m := h.below ((Below.refl _ w).alloc (Nat.le_refl _) o)
theorem QN.fq {q : Nat} (h : QN F w q l s m) : F q := by
  obtain ⟨v, xs, hE, _⟩ := h
  exact hE.fp
end
/-- What Send makes of them, and answers. -/
def sendR (l : List Bd) (s m now : Int) (text : List UInt8) : Int × Pk × List Bd × Int :=
  if 2048 < text.length then (3, pk0, l, s) else if 64 ≤ l.length then (2, pk0, l, s) else (0, ⟨s + 1, m, text⟩, l ++ [newB (s + 1) text now], s + 1)
/-- What On makes of them, and answers. -/
def onR (l : List Bd) (m : Int) (p : Pk) : List UInt8 × Bool × Int × List Bd × Int :=
  if mayP p = false then ([], false, 0, l, m) else if p.seq = 0 then ([], false, 0, onL p.ack l, m) else if p.seq = m + 1 then (p.body, true, m + 1, onL p.ack l, m + 1) else ([], false, m, onL p.ack l, m)
theorem InvT.send {k : Int} {l : List Bd} {s m : Int} (h : InvT k l s m) (text : List UInt8) (now : Int) (hk : k < 4611686018427387904) (h0 : -9223372036854775808 ≤ now) : InvT (k + 1) (sendR l s m now text).2.2.1 (sendR l s m now text).2.2.2 m := by
  unfold sendR
  by_cases h1 : 2048 < text.length
  · rw [if_pos h1]; exact h.up (by omega)
  · rw [if_neg h1]
    by_cases h2 : 64 ≤ l.length
    · rw [if_pos h2]; exact h.up (by omega)
    · rw [if_neg h2]; exact h.snoc text now (by omega) (by omega) hk h0
theorem InvT.on {k : Int} {l : List Bd} {s m : Int} (h : InvT k l s m) (p : Pk) (hk : k < 4611686018427387904) : InvT (k + 1) (onR l m p).2.2.2.1 s (onR l m p).2.2.2.2 := by
  unfold onR
  by_cases h1 : mayP p = false
  · rw [if_pos h1]; exact h.up (by omega)
  · rw [if_neg h1]
    by_cases h2 : p.seq = 0
    · rw [if_pos h2]; exact (h.oned p.ack).up (by omega)
    · rw [if_neg h2]
      by_cases h3 : p.seq = m + 1
      · rw [if_pos h3]; exact (h.oned p.ack).marked hk
      · rw [if_neg h3]; exact (h.oned p.ack).up (by omega)
theorem mayP_of' (x : Pk) : mayP x = mayPn x.seq x.ack x.body.length := mayPn_of x x.body.length rfl
theorem ron_not {q : Nat} (s a : Int) (A : Option Addr) (n c : Nat) (w : World) (hn : n ≤ 9223372036854775807) (hm : mayPn s a n = false) : Calls Try.prog 19 #[.pointer (some ⟨q, 0, none⟩), PKV s a A n c] w fun e w' => e = .returned (.tuple #[.slice none 0 0, .bool false, pkN]) ∧ Below w.heap.size w w' := by
  have hmay := fun W => rmay_any s a A n c W hn
  rw [hm] at hmay
  go_enter Try.func19, Try.ntmps19
  go_wp2_with fail
  refine (hmay _).mono ?_
  rintro e w' ⟨rfl, rfl⟩
  clear hmay
  go_wp2
  refine bodyPost_ret (v := .tuple #[.slice none 0 0, .bool false, pkN]) (by simp [results, Try.results19, go_sem, pkN]) rfl ⟨rfl, (((Below.refl _ _).alloc (Nat.le_refl _) _).alloc (by simp) _).alloc (by simp; omega) _⟩
theorem RB.empty (w : World) : RB w none 0 [] := RB.nil w none
/-- What Send answers and leaves: K says how the end stands. -/
def SendU (w : World) (R : Int × Pk × List Bd × Int) (K : World → Prop) (e : Ending) (w' : World) : Prop :=
  ∃ A c, e = .returned (.tuple #[PKV R.2.1.seq R.2.1.ack A R.2.1.body.length c, .int .i64 R.1]) ∧ RB w' A R.2.1.body.length R.2.1.body ∧ K w'
/-- What On answers and leaves. -/
def OnU (w : World) (R : List UInt8 × Bool × Int × List Bd × Int) (K : World → Prop) (e : Ending) (w' : World) : Prop :=
  ∃ A c, e = .returned (.tuple #[.slice A R.1.length c, .bool R.2.1, PKV 0 R.2.2.1 none 0 0]) ∧ RB w' A R.1.length R.1 ∧ (0 < R.1.length → ∀ ad, A = some ad → w.heap.size ≤ ad.block) ∧ K w'
section
variable {F G : Nat → Prop} {w : World} {p q : Nat} {l : List Bd} {k s m : Int}
/-- The end behind a call: its blocks lie in F, or are new. -/
def LeftE (F : Nat → Prop) (w : World) (p : Nat) (l : List Bd) (s m : Int) (w' : World) : Prop := EK (fun k => F k ∨ w.heap.size ≤ k) w' p l s m ∧ Keep F w w'
def LeftQ (G : Nat → Prop) (w : World) (q : Nat) (l : List Bd) (s m : Int) (w' : World) : Prop := QN (fun k => G k ∨ w.heap.size ≤ k) w' q l s m ∧ Keep (fun k => k = q) w w'
theorem EK.left (h : EK F w p l s m) {w' : World} (hb : Below w.heap.size w w') : LeftE F w p l s m w' := ⟨(h.below hb).mono (fun _ _ e => .inl e), Keep.of_below' hb⟩
theorem QN.left (h : QN G w q l s m) {w' : World} (hb : Below w.heap.size w w') : LeftQ G w q l s m w' := ⟨(h.below hb).mono (fun _ _ e => .inl e), Keep.of_below' hb⟩
theorem send_u (A : Option Addr) (c : Nat) (text : List UInt8) (now : Int) (hI : InvT k l s m) (hk : k < 4611686018427387904) (hr : RB w A text.length text) (hal : 0 < text.length → ∀ ad, A = some ad → ¬ F ad.block) (h : EK F w p l s m) (h9 : text.length ≤ 9223372036854775807) (h0 : -9223372036854775808 ≤ now) (h1 : now ≤ 9223372036854775807) :
    Calls Try.prog 13 #[.pointer (some ⟨p, 0, none⟩), .slice A text.length c, .int .i64 now] w fun e w' => SendU w (sendR l s m now text) (LeftE F w p (sendR l s m now text).2.2.1 (sendR l s m now text).2.2.2 m) e w' ∧ (∀ v, e = .returned v → ∃ A' n c', v = .tuple #[PKV (sendR l s m now text).2.1.seq (sendR l s m now text).2.1.ack A' n c', .int .i64 (sendR l s m now text).1] ∧ (0 < n → ∀ ad, A' = some ad → w.heap.size ≤ ad.block)) := by
  have hs := hI.sk
  have hl := hI.inv.len
  have hs0 := hI.inv.s0
  unfold sendR
  by_cases hn : 2048 < text.length
  · rw [if_pos hn]
    refine (send_long p A text.length c now w hn h9).mono ?_
    rintro e w' ⟨rfl, hb⟩
    exact ⟨⟨none, 0, rfl, RB.empty w', h.left hb⟩, fun v hv => ⟨none, 0, 0, by injection hv with hv; exact hv.symm, fun hp => by omega⟩⟩
  rw [if_neg hn]
  by_cases h64 : 64 ≤ l.length
  · rw [if_pos h64]
    have h' := h
    obtain ⟨v, hE, hp, hv⟩ := h'
    refine (send_full A text.length c now w (by omega) hE (.inl h64) (by omega)).mono ?_
    rintro e w' ⟨rfl, hb⟩
    exact ⟨⟨none, 0, rfl, RB.empty w', h.left hb⟩, fun v hv => ⟨none, 0, 0, by injection hv with hv; exact hv.symm, fun hp => by omega⟩⟩
  rw [if_neg h64]
  obtain ⟨v, hE, hp, hv⟩ := h
  refine (send_any A text.length c text now w (by omega) hr (fun ad e hp2 e2 => hal hp2 ad e (hv _ e2)) hE (by omega) hs0.1 (by omega) h0 h1).mono ?_
  rintro e w' ⟨v', x, rfl, hE', hx, hkp, hv'⟩
  obtain ⟨A', c', rfl, h2, h3, h4, h5⟩ := hx.form
  have hF' : ∀ g, v'.ownBlock = some g → F g ∨ w.heap.size ≤ g := fun g hg => by
    rcases hv' with e | ⟨n, e, hn⟩
    · exact .inl (hv g (by rw [← e]; exact hg))
    · rw [e] at hg
      injection hg with hg
      exact .inr (by omega)
  refine ⟨⟨A', c', rfl, h4, ⟨v', hE', .inl hp, hF'⟩, hkp.mono (fun i _ e => by rcases e with e | e; rw [e]; exact hp; exact hv i e)⟩, fun u hu => ⟨A', text.length, c', by injection hu with hu; exact hu.symm, fun _ ad e => (h5 ad e).1⟩⟩
theorem rsend_u (A : Option Addr) (c : Nat) (text : List UInt8) (now : Int) (hI : InvT k l s m) (hk : k < 4611686018427387904) (hr : RB w A text.length text) (hal : 0 < text.length → ∀ ad, A = some ad → ad.block ≠ q) (h : QN G w q l s m) (h9 : text.length ≤ 9223372036854775807) (h0 : -9223372036854775808 ≤ now) (h1 : now ≤ 9223372036854775807) :
    Calls Try.prog 14 #[.pointer (some ⟨q, 0, none⟩), .slice A text.length c, .int .i64 now] w (SendU w (sendR l s m now text) (LeftQ G w q (sendR l s m now text).2.2.1 (sendR l s m now text).2.2.2 m)) := by
  have hs := hI.sk
  have hl := hI.inv.len
  have hs0 := hI.inv.s0
  unfold sendR
  by_cases hn : 2048 < text.length
  · rw [if_pos hn]
    refine (rsend_long q A text.length c now w hn h9).mono ?_
    rintro e w' ⟨rfl, hb⟩
    exact ⟨none, 0, rfl, RB.empty w', h.left hb⟩
  rw [if_neg hn]
  by_cases h64 : 64 ≤ l.length
  · rw [if_pos h64]
    refine (rsend_full A text.length c now w (by omega) h h64 (by omega)).mono ?_
    rintro e w' ⟨rfl, hb⟩
    exact ⟨none, 0, rfl, RB.empty w', h.left hb⟩
  rw [if_neg h64]
  refine (rsend_any A text.length c text now w (by omega) hr hal h (by omega) hs0.1 (by omega) h0 h1).mono ?_
  rintro e w' ⟨A', c', rfl, hr', hQ, hkp⟩
  exact ⟨A', c', rfl, hr', hQ, hkp⟩
theorem on_u (A : Option Addr) (c : Nat) (x : Pk) (hI : InvT k l s m) (hk : k < 4611686018427387904) (hr : RB w A x.body.length x.body) (hal : 0 < x.body.length → ∀ ad, A = some ad → ¬ F ad.block) (h : EK F w p l s m) (h9 : x.body.length ≤ 9223372036854775807) :
    Calls Try.prog 18 #[.pointer (some ⟨p, 0, none⟩), PKV x.seq x.ack A x.body.length c] w (OnU w (onR l m x) (LeftE F w p (onR l m x).2.2.2.1 s (onR l m x).2.2.2.2)) := by
  have hm0 := hI.inv.m0
  have hmk := hI.mmk
  unfold onR
  have hmay := mayP_of' x
  by_cases hm : mayP x = false
  · rw [if_pos hm]
    refine (on_not x.seq x.ack A x.body.length c w h9 (hmay.symm.trans hm)).mono ?_
    rintro e w' ⟨rfl, hb⟩
    exact ⟨none, 0, rfl, RB.empty w', fun hp => by simp at hp, h.left hb⟩
  have hm2 : mayPn x.seq x.ack x.body.length = true := by rw [← hmay]; simpa using hm
  rw [if_neg hm]
  obtain ⟨v, hE, hp, hv⟩ := h
  have hkk : ∀ {w' : World}, OnKeep p v w w' → Keep F w w' := fun hk => hk.mono (fun i _ e => by rcases e with e | e; rw [e]; exact hp; exact hv i e)
  have hal2 : ∀ ad, A = some ad → 0 < x.body.length → v.ownBlock ≠ some ad.block := fun ad e hp2 e2 => hal hp2 ad e (hv _ e2)
  by_cases h2 : x.seq = 0
  · rw [if_pos h2]
    refine (on_zero x.seq x.ack A x.body.length c x.body w hr hal2 hE hm2 hm0.1 (by omega) h2).mono ?_
    rintro e w' ⟨v', r, rfl, rfl, hE', hv', hk'⟩
    exact ⟨none, 0, rfl, RB.empty w', fun hp => by simp at hp, ⟨v', hE', .inl hp, fun g hg => .inl (hv g (by rw [← hv']; exact hg))⟩, hkk hk'⟩
  rw [if_neg h2]
  by_cases h3 : x.seq = m + 1
  · rw [if_pos h3]
    refine (on_next x.seq x.ack A x.body.length c x.body w hr hal2 hE hm2 hm0.1 (by omega) h3).mono ?_
    rintro e w' ⟨v', r, rfl, ⟨y, rfl, hy⟩, hE', hv', hk'⟩
    obtain ⟨A', c', rfl, _, _, h4, h5⟩ := hy.form
    exact ⟨A', c', rfl, h4, fun _ ad e => (h5 ad e).1, ⟨v', hE', .inl hp, fun g hg => .inl (hv g (by rw [← hv']; exact hg))⟩, hkk hk'⟩
  · rw [if_neg h3]
    refine (on_other x.seq x.ack A x.body.length c x.body w hr hal2 hE hm2 hm0.1 (by omega) h2 h3).mono ?_
    rintro e w' ⟨v', r, rfl, rfl, hE', hv', hk'⟩
    exact ⟨none, 0, rfl, RB.empty w', fun hp => by simp at hp, ⟨v', hE', .inl hp, fun g hg => .inl (hv g (by rw [← hv']; exact hg))⟩, hkk hk'⟩
theorem ron_u (A : Option Addr) (c : Nat) (x : Pk) (hI : InvT k l s m) (hk : k < 4611686018427387904) (hr : RB w A x.body.length x.body) (hal : 0 < x.body.length → ∀ ad, A = some ad → ad.block ≠ q) (h : QN G w q l s m) (h9 : x.body.length ≤ 9223372036854775807) :
    Calls Try.prog 19 #[.pointer (some ⟨q, 0, none⟩), PKV x.seq x.ack A x.body.length c] w (OnU w (onR l m x) (LeftQ G w q (onR l m x).2.2.2.1 s (onR l m x).2.2.2.2)) := by
  have hm0 := hI.inv.m0
  have hmk := hI.mmk
  have hl := hI.inv.len
  unfold onR
  have hmay := mayP_of' x
  by_cases hm : mayP x = false
  · rw [if_pos hm]
    refine (ron_not x.seq x.ack A x.body.length c w h9 (hmay.symm.trans hm)).mono ?_
    rintro e w' ⟨rfl, hb⟩
    exact ⟨none, 0, rfl, RB.empty w', fun hp => by simp at hp, h.left hb⟩
  have hm2 : mayPn x.seq x.ack x.body.length = true := by rw [← hmay]; simpa using hm
  rw [if_neg hm]
  refine (ron_any x.seq x.ack A x.body.length c x.body hr hal h (by omega) hm2 hm0.1 (by omega)).mono ?_
  rintro e w' ⟨hk', hc⟩
  rcases hc with ⟨h2, rfl, hQ⟩ | ⟨h3, y, rfl, hy, hQ⟩ | ⟨h2, h3, rfl, hQ⟩
  · rw [if_pos h2]
    exact ⟨none, 0, rfl, RB.empty w', fun hp => by simp at hp, hQ, hk'⟩
  · have h2 : ¬ x.seq = 0 := by omega
    rw [if_neg h2, if_pos h3]
    obtain ⟨A', c', rfl, _, _, h4, h5⟩ := hy.form
    exact ⟨A', c', rfl, h4, fun _ ad e => (h5 ad e).1, hQ, hk'⟩
  · rw [if_neg h2, if_neg h3]
    exact ⟨none, 0, rfl, RB.empty w', fun hp => by simp at hp, hQ, hk'⟩
theorem tick_u (now : Int) (hI : InvT k l s m) (h : EK F w p l s m) (h0 : -9223372036854775808 ≤ now) (h1 : now ≤ 9223372036854775807) :
    Calls Try.prog 16 #[.pointer (some ⟨p, 0, none⟩), .int .i64 now] w fun e w' => ∃ lv, e = .returned lv ∧ PB w.heap.size w' lv (tickP m now l) ∧ LeftE F w p (l.map (tickB now)) s m w' := by
  have hl := hI.inv.len
  obtain ⟨v, hE, hp, hv⟩ := h
  refine (tick_any now w hE hI.inv.ok (by omega) h0 h1).mono ?_
  rintro e w' ⟨lv, rfl, hP, hE', hk'⟩
  exact ⟨lv, rfl, hP, ⟨v, hE', .inl hp, fun g hg => .inl (hv g hg)⟩, hk'.mono (fun i _ e => hv i e)⟩
theorem rtick_u (now : Int) (hI : InvT k l s m) (hk : k < 4611686018427387904) (h : QN G w q l s m) (h0 : -9223372036854775808 ≤ now) (h1 : now ≤ 9223372036854775807) :
    Calls Try.prog 17 #[.pointer (some ⟨q, 0, none⟩), .int .i64 now] w fun e w' => ∃ v, e = .returned v ∧ PBR w' v (tickP m now l) ∧ LeftQ G w q (l.map (tickB now)) s m w' := by
  have hl := hI.inv.len
  refine (rtick_any now w h (by omega) (fun b hb => by have := hI.tr b hb; unfold topI; omega) (fun b hb => by have := (hI.inv.ok b hb).t0; omega) h0 h1).mono ?_
  rintro e w' ⟨v, rfl, hP, hQ, hk'⟩
  exact ⟨v, rfl, hP, hQ, hk'⟩
end

/-- An end and the document's, in blocks of their own. -/
structure DoE (B : Nat) (w : World) (p q : Nat) (wr : World) (F G : Nat → Prop) (l : List Bd) (s m : Int) (l2 : List Bd) (s2 m2 : Int) : Prop where
  ek : EK F wr p l s m
  qn : QN G wr q l2 s2 m2
  ap : ∀ k, F k → ¬ G k
  lo : ∀ k, F k → B ≤ k
  lo2 : ∀ k, G k → B ≤ k
  bel : Below B w wr
section
variable {B : Nat} {w : World} {p q : Nat} {wr w' : World} {F G : Nat → Prop} {l l' l2 : List Bd} {s s' s2 m m' m2 : Int}
theorem DoE.callE (h : DoE B w p q wr F G l s m l2 s2 m2) (hB : B ≤ w.heap.size) (hc : LeftE F wr p l' s' m' w') :
    DoE B w p q w' (fun k => F k ∨ wr.heap.size ≤ k) (fun k => G k ∧ k < wr.heap.size) l' s' m' l2 s2 m2 := by
  obtain ⟨hb, hk⟩ := hc
  have hs := h.bel.size
  refine ⟨hb, (h.qn.mono (G := fun k => G k ∧ k < wr.heap.size) fun k hk e => ⟨e, hk⟩).kept hk (fun g hg e => h.ap g e hg.1), fun k e e2 => ?_, fun k e => ?_, fun k e => h.lo2 k e.1, h.bel.trans (hk.below (Nat.le_trans hB hs) fun i hi e => by have := h.lo i e; omega)⟩
  · rcases e with e | e
    · exact h.ap k e e2.1
    · have := e2.2; omega
  · rcases e with e | e
    · exact h.lo k e
    · omega
theorem DoE.callQ (h : DoE B w p q wr F G l s m l2 s2 m2) (hB : B ≤ w.heap.size) (hc : LeftQ G wr q l' s' m' w') :
    DoE B w p q w' (fun k => F k ∧ k < wr.heap.size) (fun k => G k ∨ wr.heap.size ≤ k) l s m l' s' m' := by
  obtain ⟨hb, hk0⟩ := hc
  have hk : Keep G wr w' := hk0.mono (fun i _ e => by rw [e]; exact h.qn.fq)
  have hs := h.bel.size
  refine ⟨(h.ek.mono (G := fun k => F k ∧ k < wr.heap.size) fun k hk e => ⟨e, hk⟩).kept hk (fun g hg e => h.ap g hg.1 e), hb, fun k e e2 => ?_, fun k e => h.lo k e.1, fun k e => ?_, h.bel.trans (hk.below (Nat.le_trans hB hs) fun i hi e => by have := h.lo2 i e; omega)⟩
  · rcases e2 with e2 | e2
    · exact h.ap k e.1 e2
    · have := e.2; omega
  · rcases e with e | e
    · exact h.lo2 k e
    · omega
theorem DoE.below (h : DoE B w p q wr F G l s m l2 s2 m2) (hB : B ≤ w.heap.size) (hb : Below wr.heap.size wr w') : DoE B w p q w' F G l s m l2 s2 m2 :=
  ⟨h.ek.below hb, h.qn.below hb, h.ap, h.lo, h.lo2, h.bel.trans (hb.mono (Nat.le_trans hB h.bel.size))⟩
theorem DoE.drew (h : DoE B w p q wr F G l s m l2 s2 m2) : DoE B w p q wr.drew F G l s m l2 s2 m2 := ⟨h.ek.drew, h.qn.drew, h.ap, h.lo, h.lo2, h.bel.drew⟩
/-- Only blocks that are there. -/
theorem DoE.tight (h : DoE B w p q wr F G l s m l2 s2 m2) : DoE B w p q wr (fun k => F k ∧ k < wr.heap.size) (fun k => G k ∧ k < wr.heap.size) l s m l2 s2 m2 :=
  ⟨h.ek.mono fun k hk e => ⟨e, hk⟩, h.qn.mono fun k hk e => ⟨e, hk⟩, fun k e e2 => h.ap k e.1 e2.1, fun k e => h.lo k e.1, fun k e => h.lo2 k e.1, h.bel⟩
end
end Go.Proofs.Ytfgceplafjbmhaa
