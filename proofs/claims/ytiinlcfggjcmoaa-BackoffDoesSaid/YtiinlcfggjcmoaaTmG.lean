/- walks: timers gone over beside a row of the document's. No condition but that the row lies in memory. -/
import Derived.Test.YtiinlcfggjcmoaaTmF
import Derived.Laws.StructEq
namespace Go.Proofs.Ytiinlcfggjcmoaa
open Go.RowKit Go.Maps Go.Sort Go.Shelf
set_option linter.unusedVariables false
set_option linter.unusedSimpArgs false
attribute [local go_sem] Oper.semAt_some

theorem run_tm_neq (a b c d : Int) (z : Bool) (hz : ((a == c) && (b == d)) = z) (W : World) : (binOp .neq 34 (.agg #[.int .i64 a, .int .i64 b]) (.agg #[.int .i64 c, .int .i64 d])).run Try.prog W = .ok (.bool (!z)) W := by
  have hS : Try.prog.underlying 34 = some (.struct (Try.prog.fieldsOf 34)) := by kernel_rfl
  have hp : Try.prog.stoodInHeld 34 = false := by kernel_rfl
  have u3 := Try.underlying3
  have a3 := Try.isAgg3
  have z3 := Try.sizeOf3
  rw [run_neq_struct, show (10000 : Nat) = 9999 + 1 from rfl, run_equalIn_agg W 9999 _ _ _ hS hp]
  simp only [Program.fieldsOf, Try.underlying34]
  subst hz
  go_simp
  by_cases h1 : a = c <;> by_cases h2 : b = d <;> simp [h1, h2]
theorem tm_guard : Try.prog.eqGuardType Try.prog.depth 34 = false := by kernel_rfl
theorem prefix_next {pre x : List Tm} {u : Tm} (h : pre <+: x) (hu : x[pre.length]? = some u) : pre ++ [u] <+: x := by
  obtain ⟨r, rfl⟩ := h
  rw [List.getElem?_append_right (Nat.le_refl _), Nat.sub_self] at hu
  match r, hu with
  | y :: r, hu =>
    simp at hu
    subst hu
    exact ⟨r, by simp⟩
theorem prefix_get {pre x : List Tm} {u : Tm} (h : pre ++ [u] <+: x) : x[pre.length]? = some u := by
  obtain ⟨r, rfl⟩ := h
  simp

set_option maxRecDepth 100000 in
set_option maxHeartbeats 3200000 in
theorem walks_any {w : World} {p b N : Nat} {x : List Tm} (A : Option Addr) (n c : Nat) (hT : TM w p b N x) (hR : RR w A n x) (hN : N ≤ 1048576) (hc : n ≤ c) (hm : c ≤ 9223372036854775807) (hA : ∀ ad, A = some ad → ad.block < w.heap.size) :
    Calls Try.prog 22 #[.pointer (some ⟨p, 0, none⟩), .slice A n c] w fun e w' => e = .returned (.bool true) ∧ RowKit.Below w.heap.size w w' := by
  have hln := hR.len
  have hxl := hT.size
  have hfn := func_eq_nilT
  have hg0 := tm_guard
  refine (callsIn_wide (n := 9)).1 ?_
  refine callsIn_of_wp_marks Try.func22 rfl trivial ?_ rfl
  simp only [Try.ntmps22, List.size_toArray, List.length_cons, List.length_nil, Nat.reduceAdd, Nat.reduceSub, Array.replicate_succ, Array.replicate_zero, List.push_toArray, List.append_toArray, List.nil_append, List.cons_append]
  gi_wp2_with (refine ⟨trivial, ?_⟩; gi_at_call 23; refine (callsIn_wide.2 (iall_make (some ⟨p, 0, none⟩) _)).mono ?_; rintro e w2 ⟨rfl, rfl⟩)
  --A
  have e0 := (((Blk.new w 30 #[.slice A n c]).alloc (.cells #[.bool false] 4)).alloc (.cells #[.pointer (some ⟨p, 0, none⟩)] 28)).alloc (.cells #[.int .i64 0] 3)
  have e1 := ((Blk.new (w.alloc (.cells #[.slice A n c] 30)) 4 #[.bool false]).alloc (.cells #[.pointer (some ⟨p, 0, none⟩)] 28)).alloc (.cells #[.int .i64 0] 3)
  have e2 := (Blk.new ((w.alloc (.cells #[.slice A n c] 30)).alloc (.cells #[.bool false] 4)) 28 #[.pointer (some ⟨p, 0, none⟩)]).alloc (.cells #[.int .i64 0] 3)
  have e3 := Blk.new (((w.alloc (.cells #[.slice A n c] 30)).alloc (.cells #[.bool false] 4)).alloc (.cells #[.pointer (some ⟨p, 0, none⟩)] 28)) 3 #[.int .i64 0]
  rw [World.size_alloc] at e1
  rw [World.size_alloc, World.size_alloc] at e2
  rw [World.size_alloc, World.size_alloc, World.size_alloc] at e3
  have hT3 := (((hT.alloc (.cells #[.slice A n c] 30)).alloc (.cells #[.bool false] 4)).alloc (.cells #[.pointer (some ⟨p, 0, none⟩)] 28)).alloc (.cells #[.int .i64 0] 3)
  have hb3 := ((((RowKit.Below.refl w.heap.size w).alloc (Nat.le_refl _) (.cells #[.slice A n c] 30)).alloc (by simp) (.cells #[.bool false] 4)).alloc (by simp; omega) (.cells #[.pointer (some ⟨p, 0, none⟩)] 28)).alloc (by simp; omega) (.cells #[.int .i64 0] 3)
  have hz3 : ((((w.alloc (.cells #[.slice A n c] 30)).alloc (.cells #[.bool false] 4)).alloc (.cells #[.pointer (some ⟨p, 0, none⟩)] 28)).alloc (.cells #[.int .i64 0] 3)).heap.size = w.heap.size + 4 := by simp
  generalize hW : (((w.alloc (.cells #[.slice A n c] 30)).alloc (.cells #[.bool false] 4)).alloc (.cells #[.pointer (some ⟨p, 0, none⟩)] 28)).alloc (.cells #[.int .i64 0] 3) = W0 at *
  clear hW
  have i0 := e3.cell 0
  have i1 := e3.frozen 0
  have b0 := e2.cell 0
  simp at i0 b0
  have kS0 : Keep (fun k => k = w.heap.size + 1 + 1 + 1) W0 (W0.setCell ⟨w.heap.size + 1 + 1 + 1, 0, none⟩ (.int .i64 0)) := (Keep.refl (fun k => k = w.heap.size + 1 + 1 + 1) W0).setCell (p := ⟨w.heap.size + 1 + 1 + 1, 0, none⟩) (fun _ => rfl) _
  gi_wp2
  --B
  refine range_timers p b N x (w.heap.size + 1 + 1) (by first | rfl | simp [go_sem]) rfl b0 hT3 hN
    (fun pre W => pre <+: x ∧ Blk W w.heap.size 30 #[.slice A n c] ∧ Blk W (w.heap.size + 1) 4 #[.bool false] ∧ Blk W (w.heap.size + 1 + 1 + 1) 3 #[.int .i64 (pre.length : Int)] ∧ RowKit.Below w.heap.size w W)
    (fun c pre W => ¬ pre <+: x)
    (fun s X Y row h hg hr => ⟨h.1, h.2.1.row hg hr, h.2.2.1.row hg hr, h.2.2.2.1.row hg hr, bel_row h.2.2.2.2 hg (by have := h.2.1.lt; omega) (by omega) hr⟩)
    (fun c s X Y row h hg hr => h)
    ⟨List.nil_prefix, e0, e1, e3, hb3⟩ ?round ?done ?stop
  case round =>
    apply Exists.intro
    constructor
    · intro l' u W K hx hK
      gi_wp2
      exact hK
    · rintro l' pre ⟨kk, ka⟩ W hx hzW ⟨hpre, hv, hr1, hi, hb⟩ hlen
      dsimp only
      obtain ⟨j, hj⟩ : ∃ j, pre.length = j := ⟨_, rfl⟩
      rw [hj] at hi hlen
      have hjn : j < n := by omega
      have hjz : ¬ (n : Int) ≤ (j : Int) := by omega
      have hjb : j ≤ 1048576 := by omega
      obtain ⟨bx, off, ⟨tk, ta⟩, rfl, hu, c0, c1⟩ := (hR.belowN hb hA).place hjn
      dsimp only at c0 c1
      have v0 := hv.cell 0
      have r0 := hr1.cell 0
      have rf := hr1.frozen 0
      have n0 := hi.cell 0
      have nf := hi.frozen 0
      simp at v0 r0 n0
      have hvl := hv.lt
      have hbx : bx < w.heap.size := hA _ rfl
      by_cases he : tk = kk ∧ ta = ka
      · obtain ⟨rfl, rfl⟩ := he
        have hneq := run_tm_neq tk ta tk ta true (by simp)
        have hnext : pre ++ [(tk, ta)] <+: x := prefix_next hpre (by rw [hj]; exact hu)
        have hlen2 : (pre ++ [(tk, ta)]).length = j + 1 := by rw [List.length_append, hj]; try rfl
        have kS : Keep (fun k => k = w.heap.size + 1 + 1 + 1) W (W.setCell ⟨w.heap.size + 1 + 1 + 1, 0, none⟩ (.int .i64 ((j : Int) + 1))) := (Keep.refl (fun k => k = w.heap.size + 1 + 1 + 1) W).setCell (p := ⟨w.heap.size + 1 + 1 + 1, 0, none⟩) (fun _ => rfl) _
        have hiS := hi.set_ 0 (.int .i64 ((j : Int) + 1))
        simp at hiS
        have hvS := hv.kept kS (by omega)
        have hrS := hr1.kept kS (by omega)
        have hbS := hb.setCell (p := ⟨w.heap.size + 1 + 1 + 1, 0, none⟩) (by dsimp only; omega) (.int .i64 ((j : Int) + 1))
        have hkt : KT W (W.setCell ⟨w.heap.size + 1 + 1 + 1, 0, none⟩ (.int .i64 ((j : Int) + 1))) := KT.keep kS fun k cs e h => by
          subst e
          have h1 : W.heap[w.heap.size + 1 + 1 + 1]? = some (.cells #[.int .i64 (j : Int)] 3 (0, 0)) := hi
          rw [h] at h1
          injection h1 with h1
          injection h1 with _ h1
          exact absurd h1 (by decide)
        have hkf : KeepsFrom (w.heap.size + 4) W (W.setCell ⟨w.heap.size + 1 + 1 + 1, 0, none⟩ (.int .i64 ((j : Int) + 1))) := (KeepsOthers.setCell W _ _).from _
        gi_wp2
        exact ⟨hkf, hkt, hnext, hvS, hrS, by rw [hlen2]; exact hiS, hbS⟩
      · have hneq := run_tm_neq tk ta kk ka false (by
          by_cases h1 : tk = kk
          · have h2 : ¬ ta = ka := fun h2 => he ⟨h1, h2⟩
            simp [h1, h2]
          · simp [h1])
        have hnot : ¬ pre ++ [(kk, ka)] <+: x := fun hp => by
          have := prefix_get hp
          rw [hj, hu] at this
          injection this with this
          injection this with h1 h2
          exact he ⟨h1, h2⟩
        gi_wp2
        exact ⟨(KeepsOthers.setCell W _ _).from _, hnot⟩
  case done =>
    rintro D W hD ⟨hpre, hv, hr1, hi, hb⟩ hDf
    rw [hln] at hi
    have v0 := hv.cell 0
    have r0 := hr1.cell 0
    have rf := hr1.frozen 0
    have n0 := hi.cell 0
    simp at v0 r0 n0
    gi_wp2
    have hrE := hr1.set_ 0 (.bool true)
    simp at hrE
    have hbE := hb.setCell (p := ⟨w.heap.size + 1, 0, none⟩) (by dsimp only; omega) (.bool true)
    have kE : Keep (fun k => k = w.heap.size + 1) W (W.setCell ⟨w.heap.size + 1, 0, none⟩ (.bool true)) := (Keep.refl (fun k => k = w.heap.size + 1) W).setCell (p := ⟨w.heap.size + 1, 0, none⟩) (fun _ => rfl) _
    have hDE := (kE.block D (Array.getElem?_eq_some_iff.1 hDf).1 (by omega)).trans hDf
    generalize W.setCell ⟨w.heap.size + 1, 0, none⟩ (.bool true) = WE at *
    have hrD : Blk (WE.putObj D (.deferred none)) (w.heap.size + 1) 4 #[.bool true] := hrE.row (n := 0) (grownBy_putObj' WE D _) (fun r e => by cases e; exact ⟨Nat.zero_le _, _, hDE, rfl⟩)
    have E0 := hrD.cell 0
    simp at E0
    refine ⟨by simp, .inl ⟨_, _, rfl, run_takeDeferred hDE, ?_⟩⟩
    exact ⟨.bool true, by simp [results, Try.results22, go_sem, E0], rfl, bel_putD hbE (by omega) hDE⟩
  case stop =>
    rintro D c pre W hD hpre hno hDf
    exact absurd hpre hno
end Go.Proofs.Ytiinlcfggjcmoaa
