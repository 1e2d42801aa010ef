/- Identities: open: its iterator gives the numbers that are not done, in order. No condition but the map's size. -/
import Derived.Test.YtpendcaefjbomaaIdP
namespace Go.Proofs.Ytpendcaefjbomaa
open Go.RowKit Go.Maps Go.Shelf Go.Sort
set_option linter.unusedVariables false
set_option linter.unusedSimpArgs false
attribute [local go_sem] Oper.semAt_some

theorem open_make (k : Int) (m : Option Nat) (w : World) : Calls Try.prog 31 #[.agg #[.int .i64 k, .map m]] w fun e w' => e = .returned (.func (.func 51) #[] #[.pointer (some ⟨w.heap.size, 0, none⟩)]) ∧ w' = w.alloc (.cells #[.int .i64 k, .map m] 68) := by
  go_enter Try.func31, Try.ntmps31
  go_wp2
  go_ret
  exact ⟨rfl, rfl⟩
def Rq.cs (r : Rq) : List Value := [.int .u64 r.m, .bool r.d, .int .i64 r.c, .int .i64 r.n, .int .i64 r.e, .int .i64 r.x]
/-- The numbers that are not done. -/
def opens (g : Int → Rq) (l : List Int) : List Int := l.filter fun x => !(g x).d
theorem opens_snoc (g : Int → Rq) (l : List Int) (x : Int) : opens g (l ++ [x]) = if (g x).d then opens g l else opens g l ++ [x] := by
  unfold opens
  rw [List.filter_append]
  cases h : (g x).d <;> simp [h]
theorem opens_pre {g : Int → Rq} {a b : List Int} (h : a <+: b) : opens g a <+: opens g b := by
  obtain ⟨c, rfl⟩ := h
  unfold opens
  rw [List.filter_append]
  exact List.prefix_append _ _
set_option maxRecDepth 100000 in
set_option maxHeartbeats 3200000 in
theorem open_gives (B mb N : Nat) (D0 : DataW Value) (f : Int → Rq) (ks : List Int) (S : Nat → Prop) (w : World) (hS : ∀ k, S k → k < w.heap.size) (hc : w.cell? ⟨B, 1, none⟩ = some (.map (some mb))) (hown : w.ownsMap Try.prog 3 rR mb N D0) (hD : PM rq0.v D0 (fun j => (f j).v) ks) (hN : ks.length ≤ 1048576) (hSB : ¬ S B) (hSm : ¬ S mb) :
    SeqO 51 #[.pointer (some ⟨B, 0, none⟩)] (fun x : Int => #[.int .i64 x]) (opens f (sortI (intKeys D0))) S w := fun l J Jx W hW hl0 hlW hJ hJx hY h0 => by
  have hBw := World.block_lt_of_cell? _ _ hc
  have hmw := hown.lt
  dsimp only at hBw
  have hc' := (hW.cell hBw).trans hc
  have hown' := ownsMap_kept hown (Keep.of_below hW) (by omega)
  have hzW := hW.size
  obtain ⟨L, hL⟩ : ∃ L, sortI (intKeys D0) = L := ⟨_, rfl⟩
  rw [hL] at hY ⊢
  refine callsIn_wide.2 ((callsIn_wide (n := 9)).1 ?_)
  refine callsIn_of_wp_marks Try.func51 rfl trivial ?_ rfl
  simp only [Try.ntmps51, List.size_toArray, List.length_cons, List.length_nil, Nat.reduceAdd, Nat.reduceSub, Array.replicate_succ, Array.replicate_zero, List.push_toArray, List.append_toArray, List.nil_append, List.cons_append]
  have hc2 := cell_old (.cells #[.func (.yield l) #[] #[]] 64) hc'
  have hbx := Blk.new W 64 #[.func (.yield l) #[] #[]]
  have hm2 := hown'.alloc (.cells #[.func (.yield l) #[] #[]] 64)
  have hb2 := (Below.refl W.heap.size W).alloc (Nat.le_refl _) (.cells #[.func (.yield l) #[] #[]] 64)
  generalize hW2 : W.alloc (.cells #[.func (.yield l) #[] #[]] 64) = W2 at hc2 hb2 hbx hm2
  have hz2 : W2.heap.size = W.heap.size + 1 := by rw [← hW2]; simp
  gi_wp2_with (refine ⟨trivial, ?_⟩; gi_at_call 32; refine (callsIn_wide.2 (kmap_make (some mb) W2)).mono ?_; rintro e w2 ⟨rfl, rfl⟩)
  have hI := (cell_new_a W2 (.map (some mb)) 66).1
  have hb3 := hb2.alloc hb2.size (.cells #[.map (some mb)] 66)
  have hbx3 := hbx.alloc (.cells #[.map (some mb)] 66)
  have hm3 := hm2.alloc (.cells #[.map (some mb)] 66)
  have hz3 : (W2.alloc (.cells #[.map (some mb)] 66)).heap.size = W.heap.size + 2 := by simp [hz2]
  have hJ3 := hJ _ _ _ none h0 (grown_below hb3) (fun r e => by cases e)
  have hkr := kmap_gives W2.heap.size mb N D0 f ks (fun k => S k ∨ k = l) (W2.alloc (.cells #[.map (some mb)] 66)) (fun k h => h.elim (fun h => by have := hS k h; omega) (fun h => by omega)) hI hm3 hD hN (fun h => h.elim (fun h => by have := hS _ h; omega) (fun e => by omega)) (fun h => h.elim hSm (fun e => by omega))
  rw [hL] at hkr
  obtain ⟨W3, hW3⟩ : ∃ W3, W2.alloc (.cells #[.map (some mb)] 66) = W3 := ⟨_, rfl⟩
  rw [hW3] at hI hb3 hbx3 hm3 hz3 hJ3 hkr ⊢
  have hbc := hbx3.cell 0
  simp only [List.getElem?_toArray, List.getElem?_cons_zero] at hbc
  have hnx : ¬ (S W.heap.size ∨ W.heap.size = l) := fun h => h.elim (fun h => by have := hS _ h; omega) (fun e => by omega)
  have hz8 : W2.heap.size < W3.heap.size := by omega
  clear hW2 hW3 hc2 hbx hm2 hb2 hc' hown' h0 hL hbx3
  refine range_ownB (a := _) (w := W3) (w0 := W3) (gf := 52) (lb := #[.pointer (some ⟨W2.heap.size, 0, none⟩)]) (by first | rfl | simp [go_sem]) (enters_of Try.func52 (by kernel_rfl) rfl) hkr (Below.refl _ _) (fun k h => h.elim (fun h => by have := hS k h; omega) (fun h => by omega)) (fun _ => rfl)
    (fun pre W' => J (opens f pre) W' ∧ KX W3.heap.size (fun k => S k ∨ k = l) W3 W') (fun c pre W' => c = .ret ∧ Jx (opens f pre) W') ?hI ?hIx ⟨hJ3, KX.refl _ _ _⟩ 72 (fun x => (f x).cs.toArray) ?round ?done ?stop
  case hI => exact fun s A A' row h hg hr => ⟨hJ _ A A' row h.1 hg (fun r e => ⟨by have := (hr r e).1; omega, (hr r e).2⟩), kx_own (β := List Int) _ W3 s A A' row h.2 hg hr⟩
  case hIx => exact fun c s A A' row h hg hr => ⟨h.1, hJx _ A A' row h.2 hg (fun r e => ⟨by have := (hr r e).1; omega, (hr r e).2⟩)⟩
  case round =>
    apply Exists.intro
    constructor
    · rintro l' pre x W' K hpre hz ⟨hJ', hkx⟩ hK
      obtain ⟨r, hr⟩ : ∃ r, f x = r := ⟨_, rfl⟩
      obtain ⟨rm, rd, rc, rn, re, rx⟩ := r
      have hv : (f x).v = .agg #[.int .u64 rm, .bool rd, .int .i64 rc, .int .i64 rn, .int .i64 re, .int .i64 rx] := by rw [hr]; rfl
      have hcs : (f x).cs.toArray = #[.int .u64 rm, .bool rd, .int .i64 rc, .int .i64 rn, .int .i64 re, .int .i64 rx] := by rw [hr]; rfl
      rw [hv]
      rw [hcs] at hK
      obtain ⟨Bx, hBx⟩ : ∃ Bx, Bx = W'.heap.size := ⟨_, rfl⟩
      have hK2 := hK Bx (W'.alloc (.cells #[.int .u64 rm, .bool rd, .int .i64 rc, .int .i64 rn, .int .i64 re, .int .i64 rx] 72)) ((Keep.refl _ W').alloc _) ⟨hJ _ _ _ none hJ' (grown_below ((Below.refl _ W').alloc (Nat.le_refl _) _)) (fun r e => by cases e), hkx.kx' ((Keep.refl _ W').alloc _)⟩ (by omega) (by rw [hBx]; exact Blk.new W' _ _)
      gi_wp2
      rw [← hBx, ← hv]
      exact hK2
    · rintro l' pre x Bx W' hpre hz ⟨hJ', hkx⟩ hBx hB
      have c2 := hkx.cell (p := ⟨W.heap.size, 0, none⟩) (by dsimp only; omega) hnx hbc
      have hsn := opens_snoc f pre x
      obtain ⟨r, hr⟩ : ∃ r, f x = r := ⟨_, rfl⟩
      rw [hr] at hsn hB
      obtain ⟨rm, rd, rc, rn, re, rx⟩ := r
      change Blk W' Bx 72 #[.int .u64 rm, .bool rd, .int .i64 rc, .int .i64 rn, .int .i64 re, .int .i64 rx] at hB
      have x1 := hB.cell 1
      simp at x1
      cases rd with
      | true =>
        have hs : opens f (pre ++ [x]) = opens f pre := hsn
        clear hsn hr
        gi_wp2
        refine ⟨by simp, ?_⟩
        gi_wp2
        exact ⟨Keep.refl _ _, by rw [hs]; exact hJ', hkx⟩
      | false =>
        have hs : opens f (pre ++ [x]) = opens f pre ++ [x] := hsn
        have hpre2 := opens_pre (g := f) hpre
        rw [hs] at hpre2
        obtain ⟨⟨fn, tmps, assign, body, hy, hR⟩, -⟩ : YieldAt (Fence.wide.inRound l') 6 Try.prog l #[.int .i64 x] W' _ ∧ True := ⟨yieldAny 6 (hY (opens f pre) x W' hpre2 (by omega) hJ'), trivial⟩
        clear hsn hr hpre2
        replace hs := Lib.hid hs
        gi_wp2
        refine hR.mono ?_
        rintro e W6 ⟨hk6, ⟨rfl, hJ6⟩ | ⟨rfl, hJx6⟩⟩
        · gi_wp2
          exact ⟨hk6, by rw [hs.out]; exact hJ6, hkx.kx' hk6⟩
        · gi_wp2
          exact ⟨hk6, rfl, by rw [hs.out]; exact hJx6⟩
  case done =>
    intro D W' hD8 ⟨hJ', hkx⟩ hDf
    gi_wp2
    refine ⟨by simp, .inl ⟨_, _, rfl, run_takeDeferred hDf, ?_⟩⟩
    exact ⟨_, results_none rfl _ _ _, ⟨_, rfl⟩, .inl (hJ.putObj _ hJ' (by omega) hDf rfl)⟩
  case stop =>
    rintro D c pre W' hD8 hpre ⟨rfl, hJx'⟩ hDf
    gi_wp2
    refine ⟨by simp, .inl ⟨_, _, rfl, run_takeDeferred hDf, ?_⟩⟩
    exact ⟨_, results_none rfl _ _ _, ⟨_, rfl⟩, .inr ⟨opens f pre, opens_pre hpre, hJx.putObj _ hJx' (by omega) hDf rfl⟩⟩
end Go.Proofs.Ytpendcaefjbomaa
