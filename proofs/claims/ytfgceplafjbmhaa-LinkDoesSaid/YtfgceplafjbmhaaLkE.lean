/- On's closure, slices.IndexFunc and DeleteFunc with it, May. No condition but that the bodies lie in memory. -/
import Derived.Test.YtfgceplafjbmhaaLkD
import Derived.Deep.LoopGhost
namespace Go.Proofs.Ytfgceplafjbmhaa
open Go.RowKit
set_option linter.unusedVariables false
set_option linter.unusedSimpArgs false

def goneB (ack : Int) (b : Bd) : Bool := decide (b.seq ≤ ack)
theorem onL_snoc_gone {ack : Int} {l : List Bd} {b : Bd} (h : goneB ack b = true) : onL ack (l ++ [b]) = onL ack l := by unfold onL; unfold goneB at h; simp [List.filter_append, h]
theorem onL_snoc_kept {ack : Int} {l : List Bd} {b : Bd} (h : goneB ack b = false) : onL ack (l ++ [b]) = onL ack l ++ [b] := by unfold onL; unfold goneB at h; simp [List.filter_append, h]
theorem onL_none {ack : Int} {l : List Bd} (h : ∀ b ∈ l, goneB ack b = false) : onL ack l = l := by
  unfold onL
  rw [List.filter_eq_self]
  intro b hb
  have := h b hb
  unfold goneB at this
  rw [this]
  rfl
theorem take_one {l : List Bd} {k : Nat} {b : Bd} (h : l[k]? = some b) : l.take (k + 1) = l.take k ++ [b] := by rw [List.take_add_one, h]; rfl
theorem on1_any (b : Bd) (q : Nat) (s ack : Int) (v : Value) (w : World) (hq : Blk w q 32 #[.int .i64 s, .int .i64 ack, v]) :
    Calls Try.prog 45 #[.agg #[.int .i64 b.seq, .string ⟨b.text.toArray⟩, .int .i64 b.tries, .int .i64 b.due], .pointer (some ⟨q, 0, none⟩)] w fun e w' => e = .returned (.bool (goneB ack b)) ∧ w' = w.alloc (.cells #[.int .i64 b.seq, .string ⟨b.text.toArray⟩, .int .i64 b.tries, .int .i64 b.due] 81) := by
  have hc := hq.cell 1
  have hl := hq.lt
  simp at hc
  go_enter Try.func45, Try.ntmps45
  go_wp2
  go_ret
  exact ⟨rfl, rfl⟩

/-- What IndexFunc answers. -/
def IdxPost (base : Nat) (w : World) (ack : Int) (l : List Bd) (e : Ending) (w' : World) : Prop :=
  Below w.heap.size w w' ∧ ((∃ (k : Nat) (b : Bd), e = .returned (.int .i64 (k : Int)) ∧ l[k]? = some b ∧ goneB ack b = true ∧ onL ack (l.take k) = l.take k) ∨ (e = .returned (.int .i64 (-1)) ∧ onL ack l = l))
set_option maxRecDepth 100000 in
set_option maxHeartbeats 1600000 in
theorem index_any (base : Nat) (A : Option Addr) (n c : Nat) (l : List Bd) (q : Nat) (s ack : Int) (v : Value) (w : World) (hB : BO base w (.slice A n c) l) (hq : Blk w q 32 #[.int .i64 s, .int .i64 ack, v]) :
    Calls Try.prog 65 #[.slice A n c, .func (.func 45) #[] #[.pointer (some ⟨q, 0, none⟩)]] w (IdxPost base w ack l) := by
  have hn := hB.len
  have hmx : c ≤ 9223372036854775807 := by obtain ⟨_, _, e, _, hm, _⟩ := hB.form; unfold maxLen at hm; injection e; omega
  go_enter Try.func65, Try.ntmps65
  go_wp2
  go_loopw [8] (fun i wr => ∃ k : Nat, i = .int .i64 (k : Int) ∧ k ≤ n ∧ Below w.heap.size w wr ∧ Hid (onL ack (l.take k) = l.take k)) (fun i _ => n - (intOf i).toNat)
  case atStart => exact ⟨0, by go_num, by omega, Below.refl _ _, Lib.hid rfl⟩
  case round =>
    obtain ⟨k, rfl, hk, hb, hf⟩ := hrel
    by_cases hlt : k < n
    · have hlz : (k : Int) < (n : Int) := by omega
      obtain ⟨g, b, rfl, hx, c0, c1, c2, c3⟩ := (hB.below hb).place hlt
      have hqr := hq.kept (Keep.of_below hb) (Nat.not_le.2 hq.lt)
      have hon := on1_any b q s ack v wr hqr
      have hbz := hb.size
      have hba := hb.alloc hbz (.cells #[.int .i64 b.seq, .string ⟨b.text.toArray⟩, .int .i64 b.tries, .int .i64 b.due] 81)
      cases hg : goneB ack b with
      | true =>
        rw [hg] at hon
        have HX := Lib.hid hx
        have HG := Lib.hid hg
        clear hx hg
        go_wp2_with fail
        refine hon.mono ?_
        rintro e w' ⟨rfl, rfl⟩
        clear hon
        go_wp2
        go_ret
        exact ⟨hba, .inl ⟨k, b, rfl, HX.out, HG.out, hf.out⟩⟩
      | false =>
        rw [hg] at hon
        have hf2 : Hid (onL ack (l.take (k + 1)) = l.take (k + 1)) := Lib.hid (by rw [take_one hx, onL_snoc_kept hg, hf.out])
        clear hx hg
        go_wp2_with fail
        refine hon.mono ?_
        rintro e w' ⟨rfl, rfl⟩
        clear hon
        go_wp2
        go_roundw
        case measure => simp [intOf]; omega
        case rel => exact ⟨k + 1, by go_num, by omega, hba, hf2⟩
    · have hkn : k = n := by omega
      have hlz : ¬ (k : Int) < (n : Int) := by omega
      have hf2 : Hid (onL ack l = l) := by
        have := hf.out
        rw [hkn, List.take_of_length_le (by omega)] at this
        exact Lib.hid this
      clear hf hkn
      go_wp2
      go_ret
      exact ⟨hb, .inr ⟨rfl, hf2.out⟩⟩

theorem runB_from (w : World) (g n c i : Nat) (k : Int) (hk : k = (i : Int)) (hi : i < n) (hc : n ≤ c) :
    (Instr.slice 77 (.slice (some ⟨g, 0, none⟩) n c) (some (.int .i64 k)) none none).run Try.prog w = .ok (.slice (some ⟨g, i * 4, none⟩) (n - i) (c - i)) w := by
  subst hk
  have he : Try.prog.elem 77 = 81 := by kernel_rfl
  rw [run_slice_l w 77 _ n c (by rw [he]; exact body_under) .i64 (i : Int) (by omega) (by omega), he, Try.sizeOf81]
  simp [Result.andThen, sliced]
  rw [if_neg (by omega)]
  simp [Addr.add]
  intro h
  exact h.symm
theorem runB_to (w : World) (A : Option Addr) (n c i : Nat) (k : Int) (hk : k = (i : Int)) (hi : i ≤ n) (hc : n ≤ c) :
    (Instr.slice 77 (.slice A n c) none (some (.int .i64 k)) none).run Try.prog w = .ok (.slice A i c) w := by
  subst hk
  have he : Try.prog.elem 77 = 81 := by kernel_rfl
  rw [run_slice_h w 77 A n c (by rw [he]; exact body_under) .i64 (i : Int) (by omega) (by omega), he, Try.sizeOf81]
  simp [Result.andThen, sliced]
  intro _
  cases A with
  | none => rfl
  | some a => cases a; rfl

/-- How far the bodies are gone over. -/
structure DelRel (ack : Int) (n : Nat) (l l' : List Bd) (a b : Nat) : Prop where
  lt : a < b
  le : b ≤ n
  len : l'.length = n
  head : l'.take a = onL ack (l.take b)
  tail : l'.drop b = l.drop b
theorem DelRel.at_ {ack : Int} {n : Nat} {l l' : List Bd} {a b : Nat} (h : DelRel ack n l l' a b) {x : Bd} (hx : l'[b]? = some x) : l[b]? = some x := by
  have := h.tail
  have h1 : (l'.drop b)[0]? = some x := by rw [List.getElem?_drop]; simpa using hx
  rw [this, List.getElem?_drop] at h1
  simpa using h1
theorem DelRel.gone {ack : Int} {n : Nat} {l l' : List Bd} {a b : Nat} (h : DelRel ack n l l' a b) {x : Bd} (hx : l'[b]? = some x) (hg : goneB ack x = true) (hb : b < n) : DelRel ack n l l' a (b + 1) :=
  ⟨by have := h.lt; omega, hb, h.len, by rw [take_one (h.at_ hx), onL_snoc_gone hg]; exact h.head, by rw [← List.drop_drop, h.tail, List.drop_drop]⟩
theorem DelRel.kept {ack : Int} {n : Nat} {l l' : List Bd} {a b : Nat} (h : DelRel ack n l l' a b) {x : Bd} (hx : l'[b]? = some x) (hg : goneB ack x = false) (hb : b < n) : DelRel ack n l (l'.set a x) (a + 1) (b + 1) := by
  have hlt := h.lt
  have hlen := h.len
  refine ⟨by omega, hb, by simp [hlen], ?_, ?_⟩
  · rw [take_one (h.at_ hx), onL_snoc_kept hg, ← h.head]
    have : (l'.set a x)[a]? = some x := by rw [List.getElem?_set_self (by omega)]
    rw [take_one this, List.take_set_of_le (Nat.le_refl a)]
  · rw [List.drop_set_of_lt (by omega), ← List.drop_drop, h.tail, List.drop_drop]
/-- What DeleteFunc answers. -/
def DelPost (base : Nat) (w : World) (v : Value) (ack : Int) (l : List Bd) (e : Ending) (w' : World) : Prop :=
  ∃ v', e = .returned v' ∧ BO base w' v' (onL ack l) ∧ v'.ownBlock = v.ownBlock ∧ Keep (fun k => v.ownBlock = some k) w w'
set_option maxRecDepth 100000 in
set_option maxHeartbeats 3200000 in
theorem delete_any (base : Nat) (A : Option Addr) (n c : Nat) (l : List Bd) (q : Nat) (s ack : Int) (v : Value) (w : World) (hB : BO base w (.slice A n c) l) (hq : Blk w q 32 #[.int .i64 s, .int .i64 ack, v]) (hqA : (Value.slice A n c).ownBlock ≠ some q) :
    Calls Try.prog 44 #[.slice A n c, .func (.func 45) #[] #[.pointer (some ⟨q, 0, none⟩)]] w (DelPost base w (.slice A n c) ack l) := by
  have hn := hB.len
  have hmx : c ≤ 9223372036854775807 := by obtain ⟨_, _, e, _, hm, _⟩ := hB.form; unfold maxLen at hm; injection e; omega
  go_enter Try.func44, Try.ntmps44
  go_wp2_with fail
  refine (index_any base A n c l q s ack v w hB hq).mono ?_
  rintro e w1 ⟨hb1, ⟨i0, b0, rfl, hx0, hg0, hf0⟩ | ⟨rfl, hf0⟩⟩
  · have hB1 := hB.below hb1
    have hi0 : i0 < n := by have := (List.getElem?_eq_some_iff.1 hx0).1; omega
    obtain ⟨g, _, rfl, _⟩ := hB1.place hi0
    have hqg : q ≠ g := fun e => hqA (by rw [e]; rfl)
    have hq1 := hq.kept (Keep.of_below hb1) (Nat.not_le.2 hq.lt)
    have hk1 : Keep (fun k => (Value.slice (some ⟨g, 0, none⟩) n c).ownBlock = some k) w w1 := (Keep.of_below hb1).mono (fun k hk e => absurd hk (Nat.not_lt.2 e))
    have hr0 : DelRel ack n l l i0 (i0 + 1) := ⟨Nat.lt_succ_self _, hi0, hn.1, by rw [take_one hx0, onL_snoc_gone hg0, hf0], rfl⟩
    have hi1 : ((i0 : Int) == -1) = false := beq_eq_false_iff_ne.2 (by omega)
    clear hx0 hg0 hf0 hB hq hb1
    go_wp2
    go_loopw [5, 6] (fun i j wr => ∃ (a b : Nat) (l' : List Bd), i = .int .i64 (a : Int) ∧ j = .int .i64 (b : Int) ∧ DelRel ack n l l' a b ∧ BO base wr (.slice (some ⟨g, 0, none⟩) n c) l' ∧ Blk wr q 32 #[.int .i64 s, .int .i64 ack, v] ∧ Keep (fun k => (Value.slice (some ⟨g, 0, none⟩) n c).ownBlock = some k) w wr) (fun _ j _ => n - (intOf j).toNat)
    case atStart => exact ⟨i0, i0 + 1, l, by go_num, by go_num, hr0, hB1, hq1, hk1⟩
    case round =>
      obtain ⟨a, b, l', rfl, rfl, hr, hBr, hqr, hkr⟩ := hrel
      have hlt := hr.lt
      have hle := hr.le
      clear hr0 hB1 hq1 hk1 hi1
      by_cases hbn : b < n
      · have hbz : (b : Int) < (n : Int) := by omega
        have hb0 : (0 : Int) ≤ (b : Int) := by omega
        have haz : (a : Int) < (n : Int) := by omega
        have ha0 : (0 : Int) ≤ (a : Int) := by omega
        obtain ⟨_, x, e, hx, c0, c1, c2, c3⟩ := hBr.place hbn
        cases e
        obtain ⟨_, y, e, hy, d0, d1, d2, d3⟩ := hBr.place (k := a) (by omega)
        cases e
        have hgl : g < wr.heap.size := (hBr.lt g rfl).2
        have f0 := hBr.fz (g := g) rfl (a * 4)
        have f1 := hBr.fz (g := g) rfl (a * 4 + 1)
        have f2 := hBr.fz (g := g) rfl (a * 4 + 2)
        have f3 := hBr.fz (g := g) rfl (a * 4 + 3)
        cases hg : goneB ack x with
        | true =>
          have hr2 := hr.gone hx hg hbn
          have hon := on1_any x q s ack v _ (hqr.alloc (.cells #[.int .i64 x.seq, .string ⟨x.text.toArray⟩, .int .i64 x.tries, .int .i64 x.due] 81))
          rw [hg] at hon
          have hB2 := (hBr.alloc (.cells #[.int .i64 x.seq, .string ⟨x.text.toArray⟩, .int .i64 x.tries, .int .i64 x.due] 81)).alloc (.cells #[.int .i64 x.seq, .string ⟨x.text.toArray⟩, .int .i64 x.tries, .int .i64 x.due] 81)
          have hq2 := (hqr.alloc (.cells #[.int .i64 x.seq, .string ⟨x.text.toArray⟩, .int .i64 x.tries, .int .i64 x.due] 81)).alloc (.cells #[.int .i64 x.seq, .string ⟨x.text.toArray⟩, .int .i64 x.tries, .int .i64 x.due] 81)
          have hk2 := (hkr.alloc (.cells #[.int .i64 x.seq, .string ⟨x.text.toArray⟩, .int .i64 x.tries, .int .i64 x.due] 81)).alloc (.cells #[.int .i64 x.seq, .string ⟨x.text.toArray⟩, .int .i64 x.tries, .int .i64 x.due] 81)
          clear hr hx hy hg
          go_wp2_with fail
          refine hon.mono ?_
          rintro e w' ⟨rfl, rfl⟩
          clear hon
          go_wp2
          go_roundw
          case measure => simp [intOf]; omega
          case rel => exact ⟨a, b + 1, l', by go_num, by go_num, hr2, hB2, hq2, hk2⟩
        | false =>
          have hr2 := hr.kept hx hg hbn
          have hon := on1_any x q s ack v _ (hqr.alloc (.cells #[.int .i64 x.seq, .string ⟨x.text.toArray⟩, .int .i64 x.tries, .int .i64 x.due] 81))
          rw [hg] at hon
          obtain ⟨hB2, hk2⟩ := put4 hBr a (by omega) x
          have hq2 := hqr.kept hk2 hqg
          have hk3 := ((hkr.trans hk2 (fun i hi e => by rw [e]; rfl)).alloc (.cells #[.int .i64 x.seq, .string ⟨x.text.toArray⟩, .int .i64 x.tries, .int .i64 x.due] 81)).alloc (.cells #[.int .i64 x.seq, .string ⟨x.text.toArray⟩, .int .i64 x.tries, .int .i64 x.due] 81)
          have hB3 := (hB2.alloc (.cells #[.int .i64 x.seq, .string ⟨x.text.toArray⟩, .int .i64 x.tries, .int .i64 x.due] 81)).alloc (.cells #[.int .i64 x.seq, .string ⟨x.text.toArray⟩, .int .i64 x.tries, .int .i64 x.due] 81)
          have hq3 := (hq2.alloc (.cells #[.int .i64 x.seq, .string ⟨x.text.toArray⟩, .int .i64 x.tries, .int .i64 x.due] 81)).alloc (.cells #[.int .i64 x.seq, .string ⟨x.text.toArray⟩, .int .i64 x.tries, .int .i64 x.due] 81)
          clear hr hx hy hg hB2 hk2 hq2
          go_wp2_with fail
          refine hon.mono ?_
          rintro e w' ⟨rfl, rfl⟩
          clear hon
          go_wp2
          go_roundw
          case measure => simp [intOf]; omega
          case rel => exact ⟨a + 1, b + 1, l'.set a x, by go_num, by go_num, hr2, hB3, hq3, hk3⟩
      · have hbe : b = n := by omega
        have hhead := hr.head
        rw [hbe, List.take_of_length_le (l := l) (by omega)] at hhead
        have hbz : ¬ (b : Int) < (n : Int) := by omega
        have hfrom := fun W => runB_from W g n c a (a : Int) rfl (by omega) hn.2
        have hto := fun W => runB_to W (some ⟨g, 0, none⟩) n c a (a : Int) rfl (by omega) hn.2
        obtain ⟨w2, hrun, hB2, hk2⟩ := run_clearBO wr hBr a (n - a) (c - a) (by omega) rfl 0
        rw [hhead] at hB2
        have hk3 := hkr.trans hk2 (fun i hi e => by rw [e]; rfl)
        clear hr hhead hbe
        go_wp2
        go_ret
        exact ⟨_, rfl, hB2, rfl, hk3⟩
  · have hk1 : Keep (fun k => (Value.slice A n c).ownBlock = some k) w w1 := (Keep.of_below hb1).mono (fun k hk e => absurd hk (Nat.not_lt.2 e))
    have hB1 : BO base w1 (.slice A n c) (onL ack l) := by rw [hf0]; exact hB.below hb1
    clear hf0
    go_wp2
    go_ret
    exact ⟨_, rfl, hB1, rfl, hk1⟩
end Go.Proofs.Ytfgceplafjbmhaa
