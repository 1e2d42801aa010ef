/- A call each on a live device, whatever its state says: the state as one word that each call keeps. No condition. -/
import Derived.Test.YtakgmddmlcngoaaLaw3
namespace Go.Proofs.Ytakgmddmlcngoaa
open Go.RowKit Go.Maps
set_option linter.unusedVariables false

/-- A live device of n sectors: wt writes and fl flushes done, at most K of the map's slots used; C says what else holds of what is unsaved and of what is sure. -/
def DS (w : World) (g n bm gs : Nat) (wt fl : Int) (K : Nat) (C : (Nat → Option (List UInt8)) → List (List UInt8) → Prop) : Prop :=
  ∃ left sure D N dm, DEV w g n bm gs left wt fl sure D N ∧ REP n D dm ∧ N ≤ K ∧ C dm sure

theorem DS.below {w w' : World} {g n bm gs K : Nat} {wt fl : Int} {C : (Nat → Option (List UInt8)) → List (List UInt8) → Prop} (h : DS w g n bm gs wt fl K C) (k : Below w.heap.size w w') : DS w' g n bm gs wt fl K C := by
  obtain ⟨left, sure, D, N, dm, hd, hr, hN, hc⟩ := h
  exact ⟨left, sure, D, N, dm, hd.below k, hr, hN, hc⟩
theorem DS.kept {S : Nat → Prop} {w w' : World} {g n bm gs K : Nat} {wt fl : Int} {C : (Nat → Option (List UInt8)) → List (List UInt8) → Prop} (h : DS w g n bm gs wt fl K C) (k : Keep S w w') (h1 : ¬ S g) (h2 : ¬ S gs) (h3 : ¬ S bm) : DS w' g n bm gs wt fl K C := by
  obtain ⟨left, sure, D, N, dm, hd, hr, hN, hc⟩ := h
  exact ⟨left, sure, D, N, dm, hd.kept k h1 h2 h3, hr, hN, hc⟩
theorem below_drewN {B : Nat} {w w' : World} (h : RowKit.Below B w w') (n : Nat) : RowKit.Below B w (w'.drewN n) := ⟨h.os, h.tape, h.output, h.size, h.block⟩
theorem below_same (w : World) : RowKit.Below w.heap.size w w := ⟨rfl, rfl, rfl, Nat.le_refl _, fun _ _ => rfl⟩
theorem DS.drewN {w : World} {g n bm gs K : Nat} {wt fl : Int} {C : (Nat → Option (List UInt8)) → List (List UInt8) → Prop} (h : DS w g n bm gs wt fl K C) (m : Nat) : DS (w.drewN m) g n bm gs wt fl K C := h.below (below_drewN (below_same w) m)
theorem DS.drew {w : World} {g n bm gs K : Nat} {wt fl : Int} {C : (Nat → Option (List UInt8)) → List (List UInt8) → Prop} (h : DS w g n bm gs wt fl K C) : DS w.drew g n bm gs wt fl K C := h.below (Below.drew (below_same w))
theorem wrap_up (k : Nat) (h : k ≤ 1048576) : IntKind.i64.wrap ((k : Int) + 1) = (k : Int) + 1 := by
  have h1 : IntKind.i64.wrap ((k : Int) + 1) = wrap64 ((k : Int) + 1) := by rw [IntKind.wrap_i64, wrap64]
  rw [h1, IntWalk.wrap64_in _ (by omega)]
theorem DS.lt {w : World} {g n bm gs K : Nat} {wt fl : Int} {C : (Nat → Option (List UInt8)) → List (List UInt8) → Prop} (h : DS w g n bm gs wt fl K C) : g < w.heap.size ∧ gs < w.heap.size ∧ bm < w.heap.size := by
  obtain ⟨left, sure, D, N, dm, hd, hr, hN, hc⟩ := h
  exact hd.lt
theorem DS.more {w : World} {g n bm gs K K' : Nat} {wt fl : Int} {C : (Nat → Option (List UInt8)) → List (List UInt8) → Prop} (h : DS w g n bm gs wt fl K C) (k : K ≤ K') : DS w g n bm gs wt fl K' C := by
  obtain ⟨left, sure, D, N, dm, hd, hr, hN, hc⟩ := h
  exact ⟨left, sure, D, N, dm, hd, hr, by omega, hc⟩

theorem write_dev (g n bm gs K base : Nat) (v : Value) (wt fl i : Int) (C : (Nat → Option (List UInt8)) → List (List UInt8) → Prop) (l : List UInt8) (w : World) (h : DS w g n bm gs wt fl K C) (hn : n ≤ 16384) (ho : OB base w v l) (hll : l.length = 64) (hK : K < maxLen)
    (hs : IntKind.i64.wrap (wt + 1) = wt + 1) (hC : ∀ dm s (k : Nat), i = (k : Int) → C dm s → C (fun j => if j = k then some l else dm j) s) :
    Calls Try.prog 17 #[.pointer (some ⟨g, 0, none⟩), .int .i64 i, v] w fun e w' => ∃ c : Int, e = .returned (.int .i64 c) ∧ Keep (fun k => k = g ∨ k = bm) w w' ∧ DS w' g n bm gs (if c = 0 then wt + 1 else wt) fl (K + 1) C := by
  obtain ⟨left, sure, D, N, dm, hd, hr, hN, hc⟩ := h
  by_cases hi : inRange n i = true
  · by_cases hl : left = 0
    · subst hl
      obtain ⟨A, c, rfl, _⟩ := ho.form
      rw [hll]
      refine (write_off g n n bm (some ⟨gs, 0, none⟩) A c wt fl i w hd.db hi).mono ?_
      rintro e w' ⟨rfl, rfl⟩
      exact ⟨30, rfl, Keep.refl _ _, 0, sure, D, N, dm, hd, hr, by omega, hc⟩
    · obtain ⟨k, rfl, hk⟩ : ∃ k : Nat, i = (k : Int) ∧ k < n := ⟨i.toNat, by simp [inRange] at hi; omega, by simp [inRange] at hi; omega⟩
      refine (write_own g n bm gs N k base v left wt fl (wt + 1) sure D dm l w hd hr hn hk hl ho hll (by omega) hs).mono ?_
      rintro e w' ⟨rfl, hk', D', hd', hr'⟩
      exact ⟨0, rfl, hk', spent left, sure, D', N + 1, _, hd', hr', by omega, hC dm sure k rfl hc⟩
  · refine (write_none g n n bm (some ⟨gs, 0, none⟩) left wt fl i v w hd.db (by simpa using hi)).mono ?_
    rintro e w' ⟨rfl, rfl⟩
    exact ⟨1, rfl, Keep.refl _ _, left, sure, D, N, dm, hd, hr, by omega, hc⟩

theorem flush_dev (g n bm gs K : Nat) (wt fl : Int) (C : (Nat → Option (List UInt8)) → List (List UInt8) → Prop) (w : World) (h : DS w g n bm gs wt fl K C) (hn : n ≤ 16384)
    (hs : IntKind.i64.wrap (fl + 1) = fl + 1) (hC : ∀ dm s, C dm s → C (fun _ => none) (flushS dm s)) :
    Calls Try.prog 20 #[.pointer (some ⟨g, 0, none⟩)] w fun e w' => ∃ c : Int, e = .returned (.int .i64 c) ∧ Keep (fun k => k = g ∨ k = bm ∨ k = gs) w w' ∧ DS w' g n bm gs wt (if c = 0 then fl + 1 else fl) K C := by
  obtain ⟨left, sure, D, N, dm, hd, hr, hN, hc⟩ := h
  by_cases hl : left = 0
  · subst hl
    refine (flush_off g n n bm (some ⟨gs, 0, none⟩) wt fl w hd.db).mono ?_
    rintro e w' ⟨rfl, rfl⟩
    exact ⟨30, rfl, Keep.refl _ _, 0, sure, D, N, dm, hd, hr, hN, hc⟩
  · refine (flush_ok g n bm gs N left wt fl (fl + 1) sure D dm w hd hr hn hl hs).mono ?_
    rintro e w' ⟨rfl, hk', hd'⟩
    exact ⟨0, rfl, hk', spent left, _, _, 0, _, hd', REP.start n, by omega, hC dm sure hc⟩

theorem crash_dev (g n bm gs K : Nat) (A : Option Addr) (q c : Nat) (keep : List Int) (wt fl torn m : Int) (C : (Nat → Option (List UInt8)) → List (List UInt8) → Prop) (w : World) (h : DS w g n bm gs wt fl K C) (hn : n ≤ 16384)
    (hk : IR w A q keep) (hkw : ∀ x ∈ keep, (Lit.int .i64 x).wf = true) (htw : (Lit.int .i64 torn).wf = true) (hA : ∀ ad, A = some ad → 0 < q → ad.block ≠ gs) (hq : q ≤ 9223372036854775807)
    (hC : ∀ dm s (j : Nat), j ≤ 64 → C dm s → C (fun _ => none) (settleS dm (keep.foldl (fun s i => settleS dm s i 64) s) torn j)) :
    Calls Try.prog 22 #[.pointer (some ⟨g, 0, none⟩), .slice A q c, .int .i64 torn, .int .i64 m] w fun e w' => ∃ c : Int, e = .returned (.int .i64 c) ∧ Keep (fun k => k = g ∨ k = bm ∨ k = gs) w w' ∧ DS w' g n bm gs wt fl K C := by
  obtain ⟨left, sure, D, N, dm, hd, hr, hN, hc⟩ := h
  by_cases hm : m < 0 ∨ 64 < m
  · refine (crash_bad g _ _ m _ hm).mono ?_
    rintro e w' ⟨rfl, rfl⟩
    exact ⟨1, rfl, Keep.refl _ _, left, sure, D, N, dm, hd, hr, hN, hc⟩
  · obtain ⟨j, rfl⟩ : ∃ j : Nat, m = (j : Int) := ⟨m.toNat, by omega⟩
    refine (crash_ok g n bm gs N j A q c keep left wt fl torn sure D dm w hd hr hn (by omega) hk hkw htw hA hq).mono ?_
    rintro e w' ⟨rfl, hk', hd'⟩
    exact ⟨0, rfl, hk', -1, _, _, 0, _, hd', REP.start n, by omega, hC dm sure j (by omega) hc⟩

theorem stop_dev (g n bm gs K : Nat) (wt fl k : Int) (C : (Nat → Option (List UInt8)) → List (List UInt8) → Prop) (w : World) (h : DS w g n bm gs wt fl K C) :
    Calls Try.prog 24 #[.pointer (some ⟨g, 0, none⟩), .int .i64 k] w fun e w' => e = .returned (.tuple #[]) ∧ Keep (fun k => k = g) w w' ∧ DS w' g n bm gs wt fl K C := by
  obtain ⟨left, sure, D, N, dm, hd, hr, hN, hc⟩ := h
  refine (stop_any g n n bm (some ⟨gs, 0, none⟩) left wt fl k w hd.db).mono ?_
  rintro e w' ⟨rfl, hk', hdb⟩
  exact ⟨rfl, hk', k, sure, D, N, dm, hd.with_db hk' hdb, hr, hN, hc⟩

theorem counts_dev (g n bm gs K : Nat) (wt fl : Int) (C : (Nat → Option (List UInt8)) → List (List UInt8) → Prop) (w : World) (h : DS w g n bm gs wt fl K C) :
    Calls Try.prog 29 #[.pointer (some ⟨g, 0, none⟩)] w fun e w' => e = .returned (.tuple #[.int .i64 wt, .int .i64 fl]) ∧ ∃ m, w' = w.drewN m := by
  obtain ⟨left, sure, D, N, dm, hd, hr, hN, hc⟩ := h
  exact counts_any g n n bm (some ⟨gs, 0, none⟩) left wt fl w hd.db

/-- What SectorKeeps keeps: sector i is sure, and nothing of it is unsaved. -/
def Kept (i : Nat) (l : List UInt8) (dm : Nat → Option (List UInt8)) (s : List (List UInt8)) : Prop := dm i = none ∧ s[i]? = some l
theorem kept_settle {i : Nat} {l : List UInt8} {dm : Nat → Option (List UInt8)} {s : List (List UInt8)} (h : Kept i l dm s) (t : Int) (m : Nat) : Kept i l dm (settleS dm s t m) := by
  obtain ⟨h1, h2⟩ := h
  refine ⟨h1, ?_⟩
  unfold settleS
  split
  · split
    · rename_i hdm hs
      by_cases he : t.toNat = i
      · rw [he, h1] at hdm; cases hdm
      · rw [List.getElem?_set_ne he]; exact h2
    · exact h2
  · exact h2
theorem kept_fold {i : Nat} {l : List UInt8} {dm : Nat → Option (List UInt8)} (keep : List Int) : ∀ {s : List (List UInt8)}, Kept i l dm s → Kept i l dm (keep.foldl (fun s i => settleS dm s i 64) s) := by
  induction keep with
  | nil => exact fun h => h
  | cons x xs ih => exact fun h => ih (kept_settle h x 64)
theorem kept_crash {i : Nat} {l : List UInt8} {dm : Nat → Option (List UInt8)} {s : List (List UInt8)} (h : Kept i l dm s) (keep : List Int) (t : Int) (m : Nat) : Kept i l (fun _ => none) (settleS dm (keep.foldl (fun s i => settleS dm s i 64) s) t m) :=
  ⟨rfl, (kept_settle (kept_fold keep h) t m).2⟩
theorem kept_flush {i : Nat} {l : List UInt8} {dm : Nat → Option (List UInt8)} {s : List (List UInt8)} (h : Kept i l dm s) : Kept i l (fun _ => none) (flushS dm s) := by
  obtain ⟨h1, h2⟩ := h
  exact ⟨rfl, by simp [flushS, List.getElem?_mapIdx, h1, h2]⟩
theorem kept_write {i : Nat} {l b : List UInt8} {dm : Nat → Option (List UInt8)} {s : List (List UInt8)} (h : Kept i l dm s) (k : Nat) (hk : i ≠ k) : Kept i l (fun j => if j = k then some b else dm j) s :=
  ⟨by simp [hk, h.1], h.2⟩
end Go.Proofs.Ytakgmddmlcngoaa
