/- A total that came in by value. No condition. -/
import Derived.Test.YtipmamgmcipbfaaGdM
import Derived.Test.YtipmamgmcipbfaaStlD
namespace Go.Proofs.Ytipmamgmcipbfaa
open Go.RowKit Go.Maps Go.Shelf Go.Sort
set_option linter.unusedVariables false
set_option linter.unusedSimpArgs false

theorem tot_size : Try.prog.cellsOf 33 = 13 := by kernel_rfl
set_option maxRecDepth 100000 in
open Go.ChangeShapes Go.WideShapes in
theorem tot_open {H : Type} {enc : TypeId × Value → H} {w : World} {r : Reach} {b0 : Nat} {v : Value} {d : DataW H} {p : List MemPlace}
    (hv : Value.okWide Try.prog w r b0 33 v) (h : DataW.Trod enc Try.prog w 0 (fun _ => true) true 33 v d p) :
    ∃ (g : List UInt8) (k1 k2 k3 k4 k5 k6 k7 k8 k9 k10 k11 k12 : Int), v = .agg #[.string ⟨g.toArray⟩, .int .i64 k1, .int .i64 k2, .int .i64 k3, .int .i64 k4, .int .i64 k5, .int .i64 k6, .int .i64 k7, .int .i64 k8, .int .i64 k9, .int .i64 k10, .int .i64 k11, .int .i64 k12] := by
  obtain ⟨cs, rfl, hsz⟩ := okWide_struct Try.underlying33 hv
  rw [tot_size] at hsz
  obtain ⟨l⟩ := cs
  match l, hsz with
  | [c0, c1, c2, c3, c4, c5, c6, c7, c8, c9, c10, c11, c12], _ =>
  obtain ⟨fuel, hf⟩ := h
  have hf2 : DataW.trod enc Try.prog w 0 (fun _ => true) true fuel 33 [c0, c1, c2, c3, c4, c5, c6, c7, c8, c9, c10, c11, c12] = some (d, p) := by simpa [Value.cells] using hf
  obtain ⟨xs, m, _, hx, _, hlen, hg⟩ := DataW.trod_struct Try.underlying33 hf2
  have h0 : DataW.trod enc Try.prog w 0 (fun _ => true) true m 9 (([c0, c1, c2, c3, c4, c5, c6, c7, c8, c9, c10, c11, c12].drop 0).take (Try.prog.cellsOf 9)) = xs[0]? := hg 0 _ rfl
  have h1 : DataW.trod enc Try.prog w 0 (fun _ => true) true m 29 (([c0, c1, c2, c3, c4, c5, c6, c7, c8, c9, c10, c11, c12].drop 1).take (Try.prog.cellsOf 29)) = xs[1]? := hg 1 _ rfl
  have h2 : DataW.trod enc Try.prog w 0 (fun _ => true) true m 31 (([c0, c1, c2, c3, c4, c5, c6, c7, c8, c9, c10, c11, c12].drop 5).take (Try.prog.cellsOf 31)) = xs[2]? := hg 2 _ rfl
  have h3 : DataW.trod enc Try.prog w 0 (fun _ => true) true m 3 (([c0, c1, c2, c3, c4, c5, c6, c7, c8, c9, c10, c11, c12].drop 12).take (Try.prog.cellsOf 3)) = xs[3]? := hg 3 _ rfl
  match xs, hlen with
  | [y0, y1, y2, y3], _ =>
    rw [cells_str] at h0
    rw [lev_size] at h1
    rw [flo_size] at h2
    rw [cells_int] at h3
    simp at h0 h1 h2 h3
    obtain ⟨k0, e0, x0, w0⟩ := DataW.trod_string Try.underlying9 h0
    obtain ⟨k12, e12, x12, w12⟩ := DataW.trod_int Try.underlying3 h3
    simp only [List.cons.injEq, and_true] at e0 e12
    obtain ⟨y1a, y1b⟩ := y1
    obtain ⟨y2a, y2b⟩ := y2
    obtain ⟨xsp, mp, _, hxp, _, hlenp, hgp⟩ := DataW.trod_struct Try.underlying29 h1
    have p0 : DataW.trod enc Try.prog w 0 (fun _ => true) true mp 3 (([c1, c2, c3, c4].drop 0).take (Try.prog.cellsOf 3)) = xsp[0]? := hgp 0 _ rfl
    have p1 : DataW.trod enc Try.prog w 0 (fun _ => true) true mp 3 (([c1, c2, c3, c4].drop 1).take (Try.prog.cellsOf 3)) = xsp[1]? := hgp 1 _ rfl
    have p2 : DataW.trod enc Try.prog w 0 (fun _ => true) true mp 3 (([c1, c2, c3, c4].drop 2).take (Try.prog.cellsOf 3)) = xsp[2]? := hgp 2 _ rfl
    have p3 : DataW.trod enc Try.prog w 0 (fun _ => true) true mp 3 (([c1, c2, c3, c4].drop 3).take (Try.prog.cellsOf 3)) = xsp[3]? := hgp 3 _ rfl
    match xsp, hlenp with
    | [u0, u1, u2, u3], _ =>
      rw [cells_int] at p0 p1 p2 p3
      simp at p0 p1 p2 p3
      obtain ⟨k1, e1, x1, w1⟩ := DataW.trod_int Try.underlying3 p0
      obtain ⟨k2, e2, x2, w2⟩ := DataW.trod_int Try.underlying3 p1
      obtain ⟨k3, e3, x3, w3⟩ := DataW.trod_int Try.underlying3 p2
      obtain ⟨k4, e4, x4, w4⟩ := DataW.trod_int Try.underlying3 p3
      simp only [List.cons.injEq, and_true] at e1 e2 e3 e4
      obtain ⟨xsq, mq, _, hxq, _, hlenq, hgq⟩ := DataW.trod_struct Try.underlying31 h2
      have q0 : DataW.trod enc Try.prog w 0 (fun _ => true) true mq 3 (([c5, c6, c7, c8, c9, c10, c11].drop 0).take (Try.prog.cellsOf 3)) = xsq[0]? := hgq 0 _ rfl
      have q1 : DataW.trod enc Try.prog w 0 (fun _ => true) true mq 3 (([c5, c6, c7, c8, c9, c10, c11].drop 1).take (Try.prog.cellsOf 3)) = xsq[1]? := hgq 1 _ rfl
      have q2 : DataW.trod enc Try.prog w 0 (fun _ => true) true mq 3 (([c5, c6, c7, c8, c9, c10, c11].drop 2).take (Try.prog.cellsOf 3)) = xsq[2]? := hgq 2 _ rfl
      have q3 : DataW.trod enc Try.prog w 0 (fun _ => true) true mq 3 (([c5, c6, c7, c8, c9, c10, c11].drop 3).take (Try.prog.cellsOf 3)) = xsq[3]? := hgq 3 _ rfl
      have q4 : DataW.trod enc Try.prog w 0 (fun _ => true) true mq 3 (([c5, c6, c7, c8, c9, c10, c11].drop 4).take (Try.prog.cellsOf 3)) = xsq[4]? := hgq 4 _ rfl
      have q5 : DataW.trod enc Try.prog w 0 (fun _ => true) true mq 3 (([c5, c6, c7, c8, c9, c10, c11].drop 5).take (Try.prog.cellsOf 3)) = xsq[5]? := hgq 5 _ rfl
      have q6 : DataW.trod enc Try.prog w 0 (fun _ => true) true mq 3 (([c5, c6, c7, c8, c9, c10, c11].drop 6).take (Try.prog.cellsOf 3)) = xsq[6]? := hgq 6 _ rfl
      match xsq, hlenq with
      | [v0, v1, v2, v3, v4, v5, v6], _ =>
        rw [cells_int] at q0 q1 q2 q3 q4 q5 q6
        simp at q0 q1 q2 q3 q4 q5 q6
        obtain ⟨k5, e5, x5, w5⟩ := DataW.trod_int Try.underlying3 q0
        obtain ⟨k6, e6, x6, w6⟩ := DataW.trod_int Try.underlying3 q1
        obtain ⟨k7, e7, x7, w7⟩ := DataW.trod_int Try.underlying3 q2
        obtain ⟨k8, e8, x8, w8⟩ := DataW.trod_int Try.underlying3 q3
        obtain ⟨k9, e9, x9, w9⟩ := DataW.trod_int Try.underlying3 q4
        obtain ⟨k10, e10, x10, w10⟩ := DataW.trod_int Try.underlying3 q5
        obtain ⟨k11, e11, x11, w11⟩ := DataW.trod_int Try.underlying3 q6
        simp only [List.cons.injEq, and_true] at e5 e6 e7 e8 e9 e10 e11
        subst e0 e1 e2 e3 e4 e5 e6 e7 e8 e9 e10 e11 e12
        exact ⟨k0.data.toList, k1, k2, k3, k4, k5, k6, k7, k8, k9, k10, k11, k12, rfl⟩
theorem lost_0 (fr he pi sa re rt cn cm sh sc se way by_ : Int) (hfr : -35184372088832 ≤ fr ∧ fr ≤ 35184372088832) (hhe : -35184372088832 ≤ he ∧ he ≤ 35184372088832) (hpi : -35184372088832 ≤ pi ∧ pi ≤ 35184372088832) (hsa : -35184372088832 ≤ sa ∧ sa ≤ 35184372088832) (hway : -35184372088832 ≤ way ∧ way ≤ 35184372088832) (hre : -35184372088832 ≤ re ∧ re ≤ 35184372088832) (hrt : -35184372088832 ≤ rt ∧ rt ≤ 35184372088832) (hcn : -35184372088832 ≤ cn ∧ cn ≤ 35184372088832) (hsh : -35184372088832 ≤ sh ∧ sh ≤ 35184372088832) (hsc : -35184372088832 ≤ sc ∧ sc ≤ 35184372088832) (h0 : by_ ≠ 0) (hb : -1099511627776 ≤ by_ ∧ by_ ≤ 1099511627776) (hk : keptB ⟨fr, he, pi, sa, re, rt, cn, cm, sh, sc, se⟩ way = true) : keptB ⟨(wrap64 (fr + by_)), he, pi, sa, re, rt, cn, cm, sh, sc, se⟩ way = false := by
  unfold keptB at hk ⊢
  dsimp only at hk ⊢
  rw [Bool.and_eq_true, decide_eq_true_eq, decide_eq_true_eq] at hk
  obtain ⟨hk1, hk2⟩ := hk
  rw [Bool.and_eq_false_iff]
  right
  apply decide_eq_false
  intro hk3
  unfold wrap64 at hk2 hk3
  omega
theorem lost_1 (fr he pi sa re rt cn cm sh sc se way by_ : Int) (hfr : -35184372088832 ≤ fr ∧ fr ≤ 35184372088832) (hhe : -35184372088832 ≤ he ∧ he ≤ 35184372088832) (hpi : -35184372088832 ≤ pi ∧ pi ≤ 35184372088832) (hsa : -35184372088832 ≤ sa ∧ sa ≤ 35184372088832) (hway : -35184372088832 ≤ way ∧ way ≤ 35184372088832) (hre : -35184372088832 ≤ re ∧ re ≤ 35184372088832) (hrt : -35184372088832 ≤ rt ∧ rt ≤ 35184372088832) (hcn : -35184372088832 ≤ cn ∧ cn ≤ 35184372088832) (hsh : -35184372088832 ≤ sh ∧ sh ≤ 35184372088832) (hsc : -35184372088832 ≤ sc ∧ sc ≤ 35184372088832) (h0 : by_ ≠ 0) (hb : -1099511627776 ≤ by_ ∧ by_ ≤ 1099511627776) (hk : keptB ⟨fr, he, pi, sa, re, rt, cn, cm, sh, sc, se⟩ way = true) : keptB ⟨fr, he, pi, (wrap64 (sa + by_)), re, rt, cn, cm, sh, sc, se⟩ way = false := by
  unfold keptB at hk ⊢
  dsimp only at hk ⊢
  rw [Bool.and_eq_true, decide_eq_true_eq, decide_eq_true_eq] at hk
  obtain ⟨hk1, hk2⟩ := hk
  rw [Bool.and_eq_false_iff]
  right
  apply decide_eq_false
  intro hk3
  unfold wrap64 at hk2 hk3
  omega
theorem lost_2 (fr he pi sa re rt cn cm sh sc se way by_ : Int) (hfr : -35184372088832 ≤ fr ∧ fr ≤ 35184372088832) (hhe : -35184372088832 ≤ he ∧ he ≤ 35184372088832) (hpi : -35184372088832 ≤ pi ∧ pi ≤ 35184372088832) (hsa : -35184372088832 ≤ sa ∧ sa ≤ 35184372088832) (hway : -35184372088832 ≤ way ∧ way ≤ 35184372088832) (hre : -35184372088832 ≤ re ∧ re ≤ 35184372088832) (hrt : -35184372088832 ≤ rt ∧ rt ≤ 35184372088832) (hcn : -35184372088832 ≤ cn ∧ cn ≤ 35184372088832) (hsh : -35184372088832 ≤ sh ∧ sh ≤ 35184372088832) (hsc : -35184372088832 ≤ sc ∧ sc ≤ 35184372088832) (h0 : by_ ≠ 0) (hb : -1099511627776 ≤ by_ ∧ by_ ≤ 1099511627776) (hk : keptB ⟨fr, he, pi, sa, re, rt, cn, cm, sh, sc, se⟩ way = true) : keptB ⟨fr, he, pi, sa, (wrap64 (re + by_)), rt, cn, cm, sh, sc, se⟩ way = false := by
  unfold keptB at hk ⊢
  dsimp only at hk ⊢
  rw [Bool.and_eq_true, decide_eq_true_eq, decide_eq_true_eq] at hk
  obtain ⟨hk1, hk2⟩ := hk
  rw [Bool.and_eq_false_iff]
  right
  apply decide_eq_false
  intro hk3
  unfold wrap64 at hk2 hk3
  omega
theorem lost_3 (fr he pi sa re rt cn cm sh sc se way by_ : Int) (hfr : -35184372088832 ≤ fr ∧ fr ≤ 35184372088832) (hhe : -35184372088832 ≤ he ∧ he ≤ 35184372088832) (hpi : -35184372088832 ≤ pi ∧ pi ≤ 35184372088832) (hsa : -35184372088832 ≤ sa ∧ sa ≤ 35184372088832) (hway : -35184372088832 ≤ way ∧ way ≤ 35184372088832) (hre : -35184372088832 ≤ re ∧ re ≤ 35184372088832) (hrt : -35184372088832 ≤ rt ∧ rt ≤ 35184372088832) (hcn : -35184372088832 ≤ cn ∧ cn ≤ 35184372088832) (hsh : -35184372088832 ≤ sh ∧ sh ≤ 35184372088832) (hsc : -35184372088832 ≤ sc ∧ sc ≤ 35184372088832) (h0 : by_ ≠ 0) (hb : -1099511627776 ≤ by_ ∧ by_ ≤ 1099511627776) (hk : keptB ⟨fr, he, pi, sa, re, rt, cn, cm, sh, sc, se⟩ way = true) : keptB ⟨fr, he, pi, sa, re, rt, cn, cm, (wrap64 (sh + by_)), sc, se⟩ way = false := by
  unfold keptB at hk ⊢
  dsimp only at hk ⊢
  rw [Bool.and_eq_true, decide_eq_true_eq, decide_eq_true_eq] at hk
  obtain ⟨hk1, hk2⟩ := hk
  rw [Bool.and_eq_false_iff]
  right
  apply decide_eq_false
  intro hk3
  unfold wrap64 at hk2 hk3
  omega
theorem lost_d (fr he pi sa re rt cn cm sh sc se way by_ : Int) (hfr : -35184372088832 ≤ fr ∧ fr ≤ 35184372088832) (hhe : -35184372088832 ≤ he ∧ he ≤ 35184372088832) (hpi : -35184372088832 ≤ pi ∧ pi ≤ 35184372088832) (hsa : -35184372088832 ≤ sa ∧ sa ≤ 35184372088832) (hway : -35184372088832 ≤ way ∧ way ≤ 35184372088832) (hre : -35184372088832 ≤ re ∧ re ≤ 35184372088832) (hrt : -35184372088832 ≤ rt ∧ rt ≤ 35184372088832) (hcn : -35184372088832 ≤ cn ∧ cn ≤ 35184372088832) (hsh : -35184372088832 ≤ sh ∧ sh ≤ 35184372088832) (hsc : -35184372088832 ≤ sc ∧ sc ≤ 35184372088832) (h0 : by_ ≠ 0) (hb : -1099511627776 ≤ by_ ∧ by_ ≤ 1099511627776) (hk : keptB ⟨fr, he, pi, sa, re, rt, cn, cm, sh, sc, se⟩ way = true) : keptB ⟨fr, he, pi, sa, re, rt, (wrap64 (cn + by_)), cm, sh, sc, se⟩ way = false := by
  unfold keptB at hk ⊢
  dsimp only at hk ⊢
  rw [Bool.and_eq_true, decide_eq_true_eq, decide_eq_true_eq] at hk
  obtain ⟨hk1, hk2⟩ := hk
  rw [Bool.and_eq_false_iff]
  right
  apply decide_eq_false
  intro hk3
  unfold wrap64 at hk2 hk3
  omega
end Go.Proofs.Ytipmamgmcipbfaa
