/- The backlog's closures, slices.IndexFunc with them. No condition but that the rows lie in memory. -/
import Derived.Test.YtnkekjaljhpmjaaBkW
namespace Go.Proofs.Ytnkekjaljhpmjaa
open Go.RowKit
set_option linter.unusedVariables false
set_option linter.unusedSimpArgs false

def isK (k : Int) (x : Wt) : Bool := decide (x.k = k)
def isR (x : Wt) : Bool := x.r
/-- The slice value with address A and n elements reads as the rows l. -/
structure WR (w : World) (A : Option Addr) (n : Nat) (l : List Wt) : Prop where
  len : l.length = n
  at_ : ∀ j x, l[j]? = some x → ∃ b off, A = some ⟨b, off, none⟩ ∧ w.cell? ⟨b, off + j * 2, none⟩ = some (.int .i64 x.k) ∧ w.cell? ⟨b, off + j * 2 + 1, none⟩ = some (.bool x.r)
theorem WR.nil (w : World) (A : Option Addr) : WR w A 0 [] := ⟨rfl, fun j x h => by simp at h⟩
theorem WR.below {w w' : World} {A : Option Addr} {n : Nat} {l : List Wt} (h : WR w A n l) (k : Below w.heap.size w w') : WR w' A n l :=
  ⟨h.len, fun j x hx => by
    obtain ⟨b, off, e, h1, h2⟩ := h.at_ j x hx
    exact ⟨b, off, e, (k.cell (World.block_lt_of_cell? _ _ h1)).trans h1, (k.cell (World.block_lt_of_cell? _ _ h2)).trans h2⟩⟩
theorem WR.place {w : World} {A : Option Addr} {n : Nat} {l : List Wt} (h : WR w A n l) {k : Nat} (hk : k < n) : ∃ b off x, A = some ⟨b, off, none⟩ ∧ l[k]? = some x ∧ w.cell? ⟨b, off + k * 2, none⟩ = some (.int .i64 x.k) ∧ w.cell? ⟨b, off + k * 2 + 1, none⟩ = some (.bool x.r) := by
  have hl : k < l.length := by rw [h.len]; exact hk
  obtain ⟨b, off, e, h1, h2⟩ := h.at_ k _ (List.getElem?_eq_getElem hl)
  exact ⟨b, off, _, e, List.getElem?_eq_getElem hl, h1, h2⟩
theorem WO.wr {base : Nat} {w : World} {A : Option Addr} {n c : Nat} {l : List Wt} (h : WO base w (.slice A n c) l) : WR w A n l := by
  refine ⟨h.len.1, fun j x hx => ?_⟩
  have hj : j < n := by rw [← h.len.1]; exact (List.getElem?_eq_some_iff.1 hx).1
  obtain ⟨g, b, e, hb, h1, h2⟩ := h.place hj
  rw [hx] at hb
  cases hb
  exact ⟨g, 0, e, by rw [Nat.zero_add]; exact h1, by rw [Nat.zero_add]; exact h2⟩
theorem place1_any (b : Wt) (q : Nat) (k0 : Int) (w : World) (hq : Blk w q 3 #[.int .i64 k0]) :
    Calls Try.prog 36 #[.agg #[.int .i64 b.k, .bool b.r], .pointer (some ⟨q, 0, none⟩)] w fun e w' => e = .returned (.bool (isK k0 b)) ∧ w' = w.alloc (.cells #[.int .i64 b.k, .bool b.r] 60) := by
  have hc := hq.cell 0
  have hl := hq.lt
  simp at hc
  go_enter Try.func36, Try.ntmps36
  go_wp2
  go_ret
  exact ⟨rfl, rfl⟩
theorem try1_any (b : Wt) (w : World) :
    Calls Try.prog 35 #[.agg #[.int .i64 b.k, .bool b.r]] w fun e w' => e = .returned (.bool (isR b)) ∧ w' = w.alloc (.cells #[.int .i64 b.k, .bool b.r] 60) := by
  go_enter Try.func35, Try.ntmps35
  go_wp2
  go_ret
  exact ⟨rfl, rfl⟩
set_option maxRecDepth 100000 in
set_option maxHeartbeats 1600000 in
theorem indexP_any (A : Option Addr) (n c : Nat) (l : List Wt) (q : Nat) (k0 : Int) (w : World) (hB : WR w A n l) (hmx : n ≤ 9223372036854775807) (hq : Blk w q 3 #[.int .i64 k0]) :
    Calls Try.prog 34 #[.slice A n c, .func (.func 36) #[] #[.pointer (some ⟨q, 0, none⟩)]] w fun e w' => e = .returned (.int .i64 (idxW (isK k0) l)) ∧ Below w.heap.size w w' := by
  have hn := hB.len
  go_enter Try.func34, Try.ntmps34
  go_wp2
  go_loopw [8] (fun i wr => ∃ k : Nat, i = .int .i64 (k : Int) ∧ k ≤ n ∧ Below w.heap.size w wr ∧ Hid (k ≤ l.findIdx (isK k0))) (fun i _ => n - (intOf i).toNat)
  case atStart => exact ⟨0, by go_num, by omega, Below.refl _ _, Lib.hid (Nat.zero_le _)⟩
  case round =>
    obtain ⟨k, rfl, hk, hb, hf⟩ := hrel
    by_cases hlt : k < n
    · have hlz : (k : Int) < (n : Int) := by omega
      obtain ⟨g, off, b, rfl, hx, c0, c1⟩ := (hB.below hb).place hlt
      have hqr := hq.kept (Keep.of_below hb) (Nat.not_le.2 hq.lt)
      have hon := place1_any b q k0 wr hqr
      have hbz := hb.size
      have hba := hb.alloc hbz (.cells #[.int .i64 b.k, .bool b.r] 60)
      cases hg : (isK k0) b with
      | true =>
        rw [hg] at hon
        have HX := Lib.hid (idx_found hf.out hx hg)
        clear hx hg hf
        go_wp2_with fail
        refine hon.mono ?_
        rintro e w' ⟨rfl, rfl⟩
        clear hon
        go_wp2
        go_ret
        exact ⟨by rw [HX.out.1]; rfl, hba⟩
      | false =>
        rw [hg] at hon
        have hf2 := Lib.hid (idx_step hf.out hx hg)
        clear hx hg hf
        go_wp2_with fail
        refine hon.mono ?_
        rintro e w' ⟨rfl, rfl⟩
        clear hon
        go_wp2
        go_roundw
        case measure => simp [intOf]; omega
        case rel => exact ⟨k + 1, by go_num, by omega, hba, hf2⟩
    · have hkn : k = n := by omega
      have hlz : ¬ (k : Int) < (n : Int) := by omega
      have hf2 := Lib.hid (idx_end hf.out (hkn.trans hn.symm))
      clear hf hkn
      go_wp2
      go_ret
      exact ⟨by rw [hf2.out]; rfl, hb⟩
set_option maxRecDepth 100000 in
set_option maxHeartbeats 1600000 in
theorem indexT_any (A : Option Addr) (n c : Nat) (l : List Wt) (w : World) (hB : WR w A n l) (hmx : n ≤ 9223372036854775807) :
    Calls Try.prog 34 #[.slice A n c, .func (.func 35) #[] #[]] w fun e w' => e = .returned (.int .i64 (idxW isR l)) ∧ Below w.heap.size w w' := by
  have hn := hB.len
  go_enter Try.func34, Try.ntmps34
  go_wp2
  go_loopw [8] (fun i wr => ∃ k : Nat, i = .int .i64 (k : Int) ∧ k ≤ n ∧ Below w.heap.size w wr ∧ Hid (k ≤ l.findIdx isR)) (fun i _ => n - (intOf i).toNat)
  case atStart => exact ⟨0, by go_num, by omega, Below.refl _ _, Lib.hid (Nat.zero_le _)⟩
  case round =>
    obtain ⟨k, rfl, hk, hb, hf⟩ := hrel
    by_cases hlt : k < n
    · have hlz : (k : Int) < (n : Int) := by omega
      obtain ⟨g, off, b, rfl, hx, c0, c1⟩ := (hB.below hb).place hlt
      have hon := try1_any b wr
      have hbz := hb.size
      have hba := hb.alloc hbz (.cells #[.int .i64 b.k, .bool b.r] 60)
      cases hg : isR b with
      | true =>
        rw [hg] at hon
        have HX := Lib.hid (idx_found hf.out hx hg)
        clear hx hg hf
        go_wp2_with fail
        refine hon.mono ?_
        rintro e w' ⟨rfl, rfl⟩
        clear hon
        go_wp2
        go_ret
        exact ⟨by rw [HX.out.1]; rfl, hba⟩
      | false =>
        rw [hg] at hon
        have hf2 := Lib.hid (idx_step hf.out hx hg)
        clear hx hg hf
        go_wp2_with fail
        refine hon.mono ?_
        rintro e w' ⟨rfl, rfl⟩
        clear hon
        go_wp2
        go_roundw
        case measure => simp [intOf]; omega
        case rel => exact ⟨k + 1, by go_num, by omega, hba, hf2⟩
    · have hkn : k = n := by omega
      have hlz : ¬ (k : Int) < (n : Int) := by omega
      have hf2 := Lib.hid (idx_end hf.out (hkn.trans hn.symm))
      clear hf hkn
      go_wp2
      go_ret
      exact ⟨by rw [hf2.out]; rfl, hb⟩
end Go.Proofs.Ytnkekjaljhpmjaa
