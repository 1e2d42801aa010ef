/- ask.Encode and Body. No condition but that its items lie in memory. -/
import Derived.Test.YtpfkhalomnfcfaaAskM
namespace Go.Proofs.Ytpfkhalomnfcfaa
open Go.RowKit Go.Maps Go.Shelf
set_option linter.unusedVariables false
set_option linter.unusedSimpArgs false

theorem boxS {W : World} {B : Nat} {c m k o r t n : Int} {g : List UInt8} {l : List It} {A : Option Addr} {cap : Nat} (h : Blk W B 24 (AV.cs ⟨c, m, k, o, r, t, n, g, l⟩ A cap)) :
    W.cell? ⟨B, 0, none⟩ = some (.int .i64 c) ∧ W.cell? ⟨B, 1, none⟩ = some (.int .i64 m) ∧ W.cell? ⟨B, 2, none⟩ = some (.int .i64 k) ∧ W.cell? ⟨B, 3, none⟩ = some (.int .i64 o) ∧ W.cell? ⟨B, 4, none⟩ = some (.int .i64 r) ∧ W.cell? ⟨B, 5, none⟩ = some (.int .i64 t) ∧ W.cell? ⟨B, 6, none⟩ = some (.int .i64 n) ∧ W.cell? ⟨B, 7, none⟩ = some (.string ⟨g.toArray⟩) ∧ W.cell? ⟨B, 8, none⟩ = some (.slice A l.length cap) :=
  ⟨h.cell 0, h.cell 1, h.cell 2, h.cell 3, h.cell 4, h.cell 5, h.cell 6, h.cell 7, h.cell 8⟩
/-- A maker beside a box. -/
structure PB (base : Nat) (w : World) (g : Nat) (v : Value) (B : Nat) (cs : Array Value) (W : World) (v' : Value) (st : Option (List UInt8)) : Prop where
  mo : MK base W g v' st
  keep : Keep (MF g v) w W
  foot : ∀ i, MF g v' i → MF g v i ∨ w.heap.size ≤ i
  box : Blk W B 24 cs
  out : ¬ MF g v' B
theorem PB.step {base : Nat} {w : World} {g : Nat} {v : Value} {B : Nat} {cs : Array Value} {W W' : World} {v' v2 : Value} {st st2 : Option (List UInt8)} (h : PB base w g v B cs W v' st) (hm : MK base W' g v2 st2) (hk : Keep (MF g v') W W') (hf : ∀ i, MF g v2 i → MF g v' i ∨ W.heap.size ≤ i) : PB base w g v B cs W' v2 st2 := by
  refine ⟨hm, h.keep.trans hk (fun i hi h2 => (h.foot i h2).elim id (fun h3 => by omega)), fun i hi => ?_, h.box.kept hk h.out, fun hb => ?_⟩
  · rcases hf i hi with h2 | h2
    · exact h.foot i h2
    · exact .inr (Nat.le_trans h.keep.size h2)
  · rcases hf B hb with h2 | h2
    · exact h.out h2
    · have := h.box.lt
      omega
theorem PB.start {base : Nat} {w : World} {g : Nat} {v : Value} {st : Option (List UInt8)} (hm : MK base w g v st) (cs : Array Value) : PB base w g v w.heap.size cs (w.alloc (.cells cs 24)).drew v st := by
  have k : Keep (MF g v) w (w.alloc (.cells cs 24)).drew := ((Keep.refl _ w).alloc _).drew
  refine ⟨hm.kept (((Keep.refl (fun _ => False) w).alloc _).drew) (fun _ _ => id), k, fun i hi => .inl hi, (Blk.new _ _ _).drew, fun hb => ?_⟩
  have := (hm.foot _ hb).2
  omega

set_option maxRecDepth 100000 in
set_option maxHeartbeats 6400000 in
theorem putBody_any (base : Nat) (gm : Nat) (v : Value) (st : Option (List UInt8)) (x : AV) (A : Option Addr) (cap : Nat) (w : World) (hm : MK base w gm v st) (hl : IL w A x.l.length x.l) (hx : mayA x = true)
    (hA : ∀ ad, A = some ad → 0 < x.l.length → ¬ MF gm v ad.block) :
    Calls Try.prog 54 #[.pointer (some ⟨gm, 0, none⟩), x.v A cap] w (MakerPost base w gm v (putB st x)) := by
  obtain ⟨_, _, _, f4, f5, f6, f7, f8, f9⟩ := mayA_facts hx
  have f3 := (mayA_facts hx).1
  have hln := (mayL_okI f9).1
  obtain ⟨c, m, k, o, r, t, n, g, l⟩ := x
  dsimp only at hl hA f3 f4 f5 f6 f7 f8 f9 hln
  unfold AV.v
  dsimp only
  have hP0 := PB.start hm (AV.cs ⟨c, m, k, o, r, t, n, g, l⟩ A cap)
  unfold AV.cs at hP0
  dsimp only at hP0
  have hSI := mayL_SI f9
  clear hx
  go_enter Try.func54, Try.ntmps54
  go_wp2_with fail
  refine wp_region_held_drew (S := (fun w' => w'.cell? ⟨w.heap.size, 0, none⟩ = some (.int .i64 c) ∧ w'.cell? ⟨w.heap.size, 1, none⟩ = some (.int .i64 m) ∧ w'.cell? ⟨w.heap.size, 2, none⟩ = some (.int .i64 k) ∧ w'.cell? ⟨w.heap.size, 3, none⟩ = some (.int .i64 o) ∧ w'.cell? ⟨w.heap.size, 4, none⟩ = some (.int .i64 r) ∧ w'.cell? ⟨w.heap.size, 5, none⟩ = some (.int .i64 t) ∧ w'.cell? ⟨w.heap.size, 6, none⟩ = some (.int .i64 n) ∧ w'.cell? ⟨w.heap.size, 7, none⟩ = some (.string ⟨g.toArray⟩) ∧ w'.cell? ⟨w.heap.size, 8, none⟩ = some (.slice A l.length cap))) (by kernel_rfl) (boxS hP0.box) (fun hHeld => ?_)
  refine wpAnyH_take (i := 0) (oi := ?oi0) (v := ?v0) ?hi0 (by kernel_rfl) (by kernel_rfl) (by kernel_rfl) ?hq0 (Or.inl ⟨?hw0, ?hy0⟩) (by assumption) ?rest0
  case hi0 => (simp only [List.getElem?_toArray, List.getElem?_cons_succ, List.getElem?_cons_zero]; rfl)
  case hq0 => exact fun _ _ _ h => h
  case hw0 => rfl
  case hy0 => (intro w hSw; (try dsimp only at hSw); go_simp <;> with_reducible rfl)
  try simp only [Act.put, List.setIfInBounds_toArray, List.set_cons_zero, List.set_cons_succ]
  refine wpAnyH_take (i := 1) (oi := ?oi1) (v := ?v1) ?hi1 (by kernel_rfl) (by kernel_rfl) (by kernel_rfl) ?hq1 (Or.inl ⟨?hw1, ?hy1⟩) (by assumption) ?rest1
  case hi1 => (simp only [List.getElem?_toArray, List.getElem?_cons_succ, List.getElem?_cons_zero]; rfl)
  case hq1 => exact fun _ _ _ h => h
  case hw1 => rfl
  case hy1 => (intro w hSw; (try dsimp only at hSw); go_simp <;> with_reducible rfl)
  try simp only [Act.put, List.setIfInBounds_toArray, List.set_cons_zero, List.set_cons_succ]
  refine wpAnyH_take (i := 2) (oi := ?oi2) (v := ?v2) ?hi2 (by kernel_rfl) (by kernel_rfl) (by kernel_rfl) ?hq2 (Or.inl ⟨?hw2, ?hy2⟩) (by assumption) ?rest2
  case hi2 => (simp only [List.getElem?_toArray, List.getElem?_cons_succ, List.getElem?_cons_zero]; rfl)
  case hq2 => exact fun _ _ _ h => h
  case hw2 => rfl
  case hy2 => (intro w hSw; (try dsimp only at hSw); go_simp <;> with_reducible rfl)
  try simp only [Act.put, List.setIfInBounds_toArray, List.set_cons_zero, List.set_cons_succ]
  refine wpAnyH_take (i := 4) (oi := ?oi4) (v := ?v4) ?hi4 (by kernel_rfl) (by kernel_rfl) (by kernel_rfl) ?hq4 (Or.inl ⟨?hw4, ?hy4⟩) (by assumption) ?rest4
  case hi4 => (simp only [List.getElem?_toArray, List.getElem?_cons_succ, List.getElem?_cons_zero]; rfl)
  case hq4 => exact fun _ _ _ h => h
  case hw4 => rfl
  case hy4 => (intro w hSw; (try dsimp only at hSw); go_simp <;> with_reducible rfl)
  try simp only [Act.put, List.setIfInBounds_toArray, List.set_cons_zero, List.set_cons_succ]
  refine wpAnyH_take (i := 5) (oi := ?oi5) (v := ?v5) ?hi5 (by kernel_rfl) (by kernel_rfl) (by kernel_rfl) ?hq5 (Or.inl ⟨?hw5, ?hy5⟩) (by assumption) ?rest5
  case hi5 => (simp only [List.getElem?_toArray, List.getElem?_cons_succ, List.getElem?_cons_zero]; rfl)
  case hq5 => exact fun _ _ _ h => h
  case hw5 => rfl
  case hy5 => (intro w hSw; (try dsimp only at hSw); go_simp <;> with_reducible rfl)
  try simp only [Act.put, List.setIfInBounds_toArray, List.set_cons_zero, List.set_cons_succ]
  refine wpAnyH_take (i := 7) (oi := ?oi7) (v := ?v7) ?hi7 (by kernel_rfl) (by kernel_rfl) (by kernel_rfl) ?hq7 (Or.inl ⟨?hw7, ?hy7⟩) (by assumption) ?rest7
  case hi7 => (simp only [List.getElem?_toArray, List.getElem?_cons_succ, List.getElem?_cons_zero]; rfl)
  case hq7 => exact fun _ _ _ h => h
  case hw7 => rfl
  case hy7 => (intro w hSw; (try dsimp only at hSw); go_simp <;> with_reducible rfl)
  try simp only [Act.put, List.setIfInBounds_toArray, List.set_cons_zero, List.set_cons_succ]
  refine wpAnyH_take (i := 8) (oi := ?oi8) (v := ?v8) ?hi8 (by kernel_rfl) (by kernel_rfl) (by kernel_rfl) ?hq8 (Or.inl ⟨?hw8, ?hy8⟩) (by assumption) ?rest8
  case hi8 => (simp only [List.getElem?_toArray, List.getElem?_cons_succ, List.getElem?_cons_zero]; rfl)
  case hq8 => exact fun _ _ _ h => h
  case hw8 => rfl
  case hy8 => (intro w hSw; (try dsimp only at hSw); go_simp <;> with_reducible rfl)
  try simp only [Act.put, List.setIfInBounds_toArray, List.set_cons_zero, List.set_cons_succ]
  refine wpAnyH_take (i := 10) (oi := ?oi10) (v := ?v10) ?hi10 (by kernel_rfl) (by kernel_rfl) (by kernel_rfl) ?hq10 (Or.inl ⟨?hw10, ?hy10⟩) (by assumption) ?rest10
  case hi10 => (simp only [List.getElem?_toArray, List.getElem?_cons_succ, List.getElem?_cons_zero]; rfl)
  case hq10 => exact fun _ _ _ h => h
  case hw10 => rfl
  case hy10 => (intro w hSw; (try dsimp only at hSw); go_simp <;> with_reducible rfl)
  try simp only [Act.put, List.setIfInBounds_toArray, List.set_cons_zero, List.set_cons_succ]
  refine wpAnyH_take (i := 11) (oi := ?oi11) (v := ?v11) ?hi11 (by kernel_rfl) (by kernel_rfl) (by kernel_rfl) ?hq11 (Or.inl ⟨?hw11, ?hy11⟩) (by assumption) ?rest11
  case hi11 => (simp only [List.getElem?_toArray, List.getElem?_cons_succ, List.getElem?_cons_zero]; rfl)
  case hq11 => exact fun _ _ _ h => h
  case hw11 => rfl
  case hy11 => (intro w hSw; (try dsimp only at hSw); go_simp <;> with_reducible rfl)
  try simp only [Act.put, List.setIfInBounds_toArray, List.set_cons_zero, List.set_cons_succ]
  refine wpAnyH_take (i := 13) (oi := ?oi13) (v := ?v13) ?hi13 (by kernel_rfl) (by kernel_rfl) (by kernel_rfl) ?hq13 (Or.inl ⟨?hw13, ?hy13⟩) (by assumption) ?rest13
  case hi13 => (simp only [List.getElem?_toArray, List.getElem?_cons_succ, List.getElem?_cons_zero]; rfl)
  case hq13 => exact fun _ _ _ h => h
  case hw13 => rfl
  case hy13 => (intro w hSw; (try dsimp only at hSw); go_simp <;> with_reducible rfl)
  try simp only [Act.put, List.setIfInBounds_toArray, List.set_cons_zero, List.set_cons_succ]
  refine wpAnyH_take (i := 14) (oi := ?oi14) (v := ?v14) ?hi14 (by kernel_rfl) (by kernel_rfl) (by kernel_rfl) ?hq14 (Or.inl ⟨?hw14, ?hy14⟩) (by assumption) ?rest14
  case hi14 => (simp only [List.getElem?_toArray, List.getElem?_cons_succ, List.getElem?_cons_zero]; rfl)
  case hq14 => exact fun _ _ _ h => h
  case hw14 => rfl
  case hy14 => (intro w hSw; (try dsimp only at hSw); go_simp <;> with_reducible rfl)
  try simp only [Act.put, List.setIfInBounds_toArray, List.set_cons_zero, List.set_cons_succ]
  refine wpAnyH_take (i := 16) (oi := ?oi16) (v := ?v16) ?hi16 (by kernel_rfl) (by kernel_rfl) (by kernel_rfl) ?hq16 (Or.inl ⟨?hw16, ?hy16⟩) (by assumption) ?rest16
  case hi16 => (simp only [List.getElem?_toArray, List.getElem?_cons_succ, List.getElem?_cons_zero]; rfl)
  case hq16 => exact fun _ _ _ h => h
  case hw16 => rfl
  case hy16 => (intro w hSw; (try dsimp only at hSw); go_simp <;> with_reducible rfl)
  try simp only [Act.put, List.setIfInBounds_toArray, List.set_cons_zero, List.set_cons_succ]
  refine wpAnyH_take (i := 17) (oi := ?oi17) (v := ?v17) ?hi17 (by kernel_rfl) (by kernel_rfl) (by kernel_rfl) ?hq17 (Or.inl ⟨?hw17, ?hy17⟩) (by assumption) ?rest17
  case hi17 => (simp only [List.getElem?_toArray, List.getElem?_cons_succ, List.getElem?_cons_zero]; rfl)
  case hq17 => exact fun _ _ _ h => h
  case hw17 => rfl
  case hy17 => (intro w hSw; (try dsimp only at hSw); go_simp <;> with_reducible rfl)
  try simp only [Act.put, List.setIfInBounds_toArray, List.set_cons_zero, List.set_cons_succ]
  refine wpAnyH_ready (rs := [3]) (by kernel_rfl) (by simp) ?_
  refine AllReadyH.cons (o := ?o3) ?hi3 (fun K hK => ?st3) AllReadyH.nil
  case hi3 => (simp only [List.getElem?_toArray, List.getElem?_cons_succ, List.getElem?_cons_zero]; rfl)
  go_simp
  refine (mnum_any base gm _ _ k _ hP0.mo (by omega) (by omega)).mono ?_
  rintro e w1 ⟨v1, rfl, hm1, hk1, hf1⟩
  have hP1 := hP0.step hm1 hk1 hf1
  have hS1 := boxS hP1.box
  go_wp2_with fail
  refine hK.out _ _ hS1 (fun hHeld2 => ?_)
  clear hK K hHeld
  have hHeld := hHeld2
  clear hHeld2
  try simp only [Act.put, List.setIfInBounds_toArray, List.set_cons_zero, List.set_cons_succ]
  refine wpAnyH_ready (rs := [6]) (by kernel_rfl) (by simp) ?_
  refine AllReadyH.cons (o := ?o6) ?hi6 (fun K hK => ?st6) AllReadyH.nil
  case hi6 => (simp only [List.getElem?_toArray, List.getElem?_cons_succ, List.getElem?_cons_zero]; rfl)
  go_simp
  refine (mnum_any base gm _ _ o _ hP1.mo (by omega) (by omega)).mono ?_
  rintro e w2 ⟨v2, rfl, hm2, hk2, hf2⟩
  have hP2 := hP1.step hm2 hk2 hf2
  have hS2 := boxS hP2.box
  go_wp2_with fail
  refine hK.out _ _ hS2 (fun hHeld2 => ?_)
  clear hK K hHeld
  have hHeld := hHeld2
  clear hHeld2
  try simp only [Act.put, List.setIfInBounds_toArray, List.set_cons_zero, List.set_cons_succ]
  refine wpAnyH_ready (rs := [9]) (by kernel_rfl) (by simp) ?_
  refine AllReadyH.cons (o := ?o9) ?hi9 (fun K hK => ?st9) AllReadyH.nil
  case hi9 => (simp only [List.getElem?_toArray, List.getElem?_cons_succ, List.getElem?_cons_zero]; rfl)
  go_simp
  refine (mnum_any base gm _ _ r _ hP2.mo (by omega) (by omega)).mono ?_
  rintro e w3 ⟨v3, rfl, hm3, hk3, hf3⟩
  have hP3 := hP2.step hm3 hk3 hf3
  have hS3 := boxS hP3.box
  go_wp2_with fail
  refine hK.out _ _ hS3 (fun hHeld2 => ?_)
  clear hK K hHeld
  have hHeld := hHeld2
  clear hHeld2
  try simp only [Act.put, List.setIfInBounds_toArray, List.set_cons_zero, List.set_cons_succ]
  refine wpAnyH_ready (rs := [12]) (by kernel_rfl) (by simp) ?_
  refine AllReadyH.cons (o := ?o12) ?hi12 (fun K hK => ?st12) AllReadyH.nil
  case hi12 => (simp only [List.getElem?_toArray, List.getElem?_cons_succ, List.getElem?_cons_zero]; rfl)
  go_simp
  refine (mnum_any base gm _ _ t _ hP3.mo (by omega) (by omega)).mono ?_
  rintro e w4 ⟨v4, rfl, hm4, hk4, hf4⟩
  have hP4 := hP3.step hm4 hk4 hf4
  have hS4 := boxS hP4.box
  go_wp2_with fail
  refine hK.out _ _ hS4 (fun hHeld2 => ?_)
  clear hK K hHeld
  have hHeld := hHeld2
  clear hHeld2
  try simp only [Act.put, List.setIfInBounds_toArray, List.set_cons_zero, List.set_cons_succ]
  refine wpAnyH_ready (rs := [15]) (by kernel_rfl) (by simp) ?_
  refine AllReadyH.cons (o := ?o15) ?hi15 (fun K hK => ?st15) AllReadyH.nil
  case hi15 => (simp only [List.getElem?_toArray, List.getElem?_cons_succ, List.getElem?_cons_zero]; rfl)
  go_simp
  refine (mnum_any base gm _ _ n _ hP4.mo (by omega) (by omega)).mono ?_
  rintro e w5 ⟨v5, rfl, hm5, hk5, hf5⟩
  have hP5 := hP4.step hm5 hk5 hf5
  have hS5 := boxS hP5.box
  go_wp2_with fail
  refine hK.out _ _ hS5 (fun hHeld2 => ?_)
  clear hK K hHeld
  have hHeld := hHeld2
  clear hHeld2
  try simp only [Act.put, List.setIfInBounds_toArray, List.set_cons_zero, List.set_cons_succ]
  refine wpAnyH_ready (rs := [18]) (by kernel_rfl) (by simp) ?_
  refine AllReadyH.cons (o := ?o18) ?hi18 (fun K hK => ?st18) AllReadyH.nil
  case hi18 => (simp only [List.getElem?_toArray, List.getElem?_cons_succ, List.getElem?_cons_zero]; rfl)
  go_simp
  refine (mtext_l base gm _ _ g _ hP5.mo (by omega)).mono ?_
  rintro e w6 ⟨v6, rfl, hm6, hk6, hf6⟩
  have hP6 := hP5.step hm6 hk6 hf6
  have hS6 := boxS hP6.box
  go_wp2_with fail
  refine hK.out _ _ hS6 (fun hHeld2 => ?_)
  clear hK K hHeld
  have hHeld := hHeld2
  clear hHeld2
  try simp only [Act.put, List.setIfInBounds_toArray, List.set_cons_zero, List.set_cons_succ]
  refine wpAnyH_done (by kernel_rfl) ?_ _
  have hil : IL w6 A l.length l := hl.kept hP6.keep (fun ad h1 h2 => hA ad h1 h2)
  have hB8 := hS6.2.2.2.2.2.2.2.2
  go_wp2_with fail
  refine (iput_any base gm _ _ A l.length cap l w6 hP6.mo hil hSI (by omega) (fun ad h1 h2 h3 => (hP6.foot _ h3).elim (hA ad h1 h2) (fun h4 => by have := hl.lt ad h1 h2; omega))).mono ?_
  rintro e w7 ⟨v7, rfl, hm7, hk7, hf7⟩
  have hP7 := hP6.step hm7 hk7 hf7
  go_wp2
  go_ret
  exact ⟨v7, rfl, hP7.mo, hP7.keep, hP7.foot⟩
/-- A maker that was just made beside a box. -/
theorem PB.first {w w2 : World} {B : Nat} {cs : Array Value} (hb : Blk w B 24 cs) (hm : MK w.heap.size w2 w.heap.size (.slice none 0 0) (some [])) (hx : Below w.heap.size w w2) : PB w.heap.size w w.heap.size (.slice none 0 0) B cs w2 (.slice none 0 0) (some []) := by
  refine ⟨hm, (Keep.of_below hx).mono (fun i hi h => by omega), fun i hi => .inl hi, hb.kept (Keep.of_below hx) (fun h => by have := hb.lt; omega), fun h => ?_⟩
  have := foot_new h
  have := hb.lt
  omega
theorem PB.list {w W : World} {B : Nat} {cs : Array Value} {v' : Value} {st : Option (List UInt8)} {A : Option Addr} {q : Nat} {l : List It} (h : PB w.heap.size w w.heap.size (.slice none 0 0) B cs W v' st) (hl : IL w A q l) : IL W A q l :=
  hl.kept h.keep (fun ad h1 h2 h3 => by have := hl.lt ad h1 h2; have := foot_new h3; omega)
theorem PB.away {w W : World} {B : Nat} {cs : Array Value} {v' : Value} {st : Option (List UInt8)} {A : Option Addr} {q : Nat} {l : List It} (h : PB w.heap.size w w.heap.size (.slice none 0 0) B cs W v' st) (hl : IL w A q l) : ∀ ad, A = some ad → 0 < q → ¬ MF w.heap.size v' ad.block :=
  fun ad h1 h2 h3 => by
    have := hl.lt ad h1 h2
    rcases h.foot _ h3 with h4 | h4
    · have := foot_new h4
      omega
    · omega
theorem PB.bel {w W : World} {B : Nat} {cs : Array Value} {v' : Value} {st : Option (List UInt8)} (h : PB w.heap.size w w.heap.size (.slice none 0 0) B cs W v' st) : Below w.heap.size w W :=
  h.keep.below (Nat.le_refl _) (fun i hi h2 => by have := foot_new h2; omega)

/-- Bytes that were made, or none. -/
def BodyPost (ok : Bool) (code : List UInt8) (w : World) (e : Ending) (w' : World) : Prop :=
  Below w.heap.size w w' ∧ match ok with
    | false => e = .returned (.slice none 0 0)
    | true => ∃ A c, e = .returned (.slice A code.length c) ∧ code.length ≤ c ∧ c ≤ maxLen ∧ RB w' A code.length code ∧ ∀ ad, A = some ad → w.heap.size ≤ ad.block ∧ ad.block < w'.heap.size

set_option maxRecDepth 100000 in
set_option maxHeartbeats 6400000 in
theorem askencode_any (x : AV) (A : Option Addr) (cap : Nat) (w : World) (hl : IL w A x.l.length x.l) (hn : x.l.length ≤ 9223372036854775807) :
    Calls Try.prog 20 #[x.v A cap] w (EncPost (mayA x) (encA x) 1 w) := by
  cases hx : mayA x with
  | false =>
    obtain ⟨c, m, k, o, r, t, n, g, l⟩ := x
    dsimp only at hl hn
    have hbx : Blk (w.alloc (.cells (AV.cs ⟨c, m, k, o, r, t, n, g, l⟩ A cap) 24)) w.heap.size 24 (AV.cs ⟨c, m, k, o, r, t, n, g, l⟩ A cap) := Blk.new _ _ _
    have hb1 := (Below.refl w.heap.size w).alloc (Nat.le_refl _) (.cells (AV.cs ⟨c, m, k, o, r, t, n, g, l⟩ A cap) 24)
    unfold AV.v
    unfold AV.cs at hb1
    dsimp only at hb1 ⊢
    go_enter Try.func20, Try.ntmps20
    go_wp2_with fail
    refine (askmay_any ⟨c, m, k, o, r, t, n, g, l⟩ A cap _ (hl.alloc _) (by omega)).mono ?_
    rintro e w1 ⟨rfl, hx1⟩
    have hb2 := hb1.trans (hx1.mono hb1.size)
    rw [hx]
    go_wp2
    go_ret2
    exact ⟨hb2, rfl⟩
  | true =>
    obtain ⟨_, ⟨f2, f2'⟩, ⟨f3, f3'⟩, f4, f5, f6, f7, f8, f9⟩ := mayA_facts hx
    have hln := (mayL_okI f9).1
    obtain ⟨c, m, k, o, r, t, n, g, l⟩ := x
    dsimp only at hl f2 f2' f3 f3' f4 f5 f6 f7 f8 f9 hln hn
    have hfit : putB (put (put (some []) (numCell c)) (numCell m)) ⟨c, m, k, o, r, t, n, g, l⟩ = some (encA ⟨c, m, k, o, r, t, n, g, l⟩) := by
      have e0 : put (put (some []) (numCell c)) (numCell m) = some (numCell c ++ numCell m) := by
        have q1 := numCell_len c
        have q2 := numCell_len m
        rw [put_fits _ _ (by simp; omega), List.nil_append, put_fits _ _ (by omega)]
      rw [e0, putB_fits hx _ (by rw [List.length_append]; have q1 := numCell_len c; have q2 := numCell_len m; omega)]
      rfl
    have hbx0 : Blk (w.alloc (.cells (AV.cs ⟨c, m, k, o, r, t, n, g, l⟩ A cap) 24)) w.heap.size 24 (AV.cs ⟨c, m, k, o, r, t, n, g, l⟩ A cap) := Blk.new _ _ _
    have hb0 := (Below.refl w.heap.size w).alloc (Nat.le_refl _) (.cells (AV.cs ⟨c, m, k, o, r, t, n, g, l⟩ A cap) 24)
    have hil0 := hl.alloc (.cells (AV.cs ⟨c, m, k, o, r, t, n, g, l⟩ A cap) 24)
    unfold AV.v
    unfold AV.cs at hb0 hbx0 hil0
    dsimp only at hb0 hbx0 hil0 ⊢
    go_enter Try.func20, Try.ntmps20
    go_wp2_with fail
    refine (askmay_any ⟨c, m, k, o, r, t, n, g, l⟩ A cap _ (hl.alloc _) (by omega)).mono ?_
    rintro e w01 ⟨rfl, hx1⟩
    have hbx1 := hbx0.kept (Keep.of_below hx1) (fun h => by have := hbx0.lt; omega)
    have hil1 := hil0.below hx1
    have hb01 := hb0.trans (hx1.mono hb0.size)
    rw [hx]
    clear hbx0 hil0 hb0 hx1
    go_wp2_with fail
    have hbx := hbx1.drew
    have hb1 := Below.drew hb01
    have hil2 : IL w01.drew A l.length l := hil1.drew
    refine wp_region_held_drew (S := (fun w' => w'.cell? ⟨w.heap.size, 0, none⟩ = some (.int .i64 c) ∧ w'.cell? ⟨w.heap.size, 1, none⟩ = some (.int .i64 m) ∧ w'.cell? ⟨w.heap.size, 2, none⟩ = some (.int .i64 k) ∧ w'.cell? ⟨w.heap.size, 3, none⟩ = some (.int .i64 o) ∧ w'.cell? ⟨w.heap.size, 4, none⟩ = some (.int .i64 r) ∧ w'.cell? ⟨w.heap.size, 5, none⟩ = some (.int .i64 t) ∧ w'.cell? ⟨w.heap.size, 6, none⟩ = some (.int .i64 n) ∧ w'.cell? ⟨w.heap.size, 7, none⟩ = some (.string ⟨g.toArray⟩) ∧ w'.cell? ⟨w.heap.size, 8, none⟩ = some (.slice A l.length cap))) (by kernel_rfl) (boxS hbx1) (fun hHeld => ?_)
    refine wpAnyH_take (i := 1) (oi := ?oi1) (v := ?v1) ?hi1 (by kernel_rfl) (by kernel_rfl) (by kernel_rfl) ?hq1 (Or.inl ⟨?hw1, ?hy1⟩) (by assumption) ?rest1
    case hi1 => (simp only [List.getElem?_toArray, List.getElem?_cons_succ, List.getElem?_cons_zero]; rfl)
    case hq1 => exact fun _ _ _ h => h
    case hw1 => rfl
    case hy1 => (intro w hSw; (try dsimp only at hSw); go_simp <;> with_reducible rfl)
    try simp only [Act.put, List.setIfInBounds_toArray, List.set_cons_zero, List.set_cons_succ]
    refine wpAnyH_take (i := 2) (oi := ?oi2) (v := ?v2) ?hi2 (by kernel_rfl) (by kernel_rfl) (by kernel_rfl) ?hq2 (Or.inl ⟨?hw2, ?hy2⟩) (by assumption) ?rest2
    case hi2 => (simp only [List.getElem?_toArray, List.getElem?_cons_succ, List.getElem?_cons_zero]; rfl)
    case hq2 => exact fun _ _ _ h => h
    case hw2 => rfl
    case hy2 => (intro w hSw; (try dsimp only at hSw); go_simp <;> with_reducible rfl)
    try simp only [Act.put, List.setIfInBounds_toArray, List.set_cons_zero, List.set_cons_succ]
    refine wpAnyH_take (i := 4) (oi := ?oi4) (v := ?v4) ?hi4 (by kernel_rfl) (by kernel_rfl) (by kernel_rfl) ?hq4 (Or.inl ⟨?hw4, ?hy4⟩) (by assumption) ?rest4
    case hi4 => (simp only [List.getElem?_toArray, List.getElem?_cons_succ, List.getElem?_cons_zero]; rfl)
    case hq4 => exact fun _ _ _ h => h
    case hw4 => rfl
    case hy4 => (intro w hSw; (try dsimp only at hSw); go_simp <;> with_reducible rfl)
    try simp only [Act.put, List.setIfInBounds_toArray, List.set_cons_zero, List.set_cons_succ]
    refine wpAnyH_take (i := 5) (oi := ?oi5) (v := ?v5) ?hi5 (by kernel_rfl) (by kernel_rfl) (by kernel_rfl) ?hq5 (Or.inl ⟨?hw5, ?hy5⟩) (by assumption) ?rest5
    case hi5 => (simp only [List.getElem?_toArray, List.getElem?_cons_succ, List.getElem?_cons_zero]; rfl)
    case hq5 => exact fun _ _ _ h => h
    case hw5 => rfl
    case hy5 => (intro w hSw; (try dsimp only at hSw); go_simp <;> with_reducible rfl)
    try simp only [Act.put, List.setIfInBounds_toArray, List.set_cons_zero, List.set_cons_succ]
    refine wpAnyH_take (i := 7) (oi := ?oi7) (v := ?v7) ?hi7 (by kernel_rfl) (by kernel_rfl) (by kernel_rfl) ?hq7 (Or.inl ⟨?hw7, ?hy7⟩) (by assumption) ?rest7
    case hi7 => (simp only [List.getElem?_toArray, List.getElem?_cons_succ, List.getElem?_cons_zero]; rfl)
    case hq7 => exact fun _ _ _ h => h
    case hw7 => rfl
    case hy7 => (intro w hSw; (try dsimp only at hSw); go_simp <;> with_reducible rfl)
    try simp only [Act.put, List.setIfInBounds_toArray, List.set_cons_zero, List.set_cons_succ]
    refine wpAnyH_ready (rs := [0]) (by kernel_rfl) (by simp) ?_
    refine AllReadyH.cons (o := ?o0) ?hi0 (fun K hK => ?st0) AllReadyH.nil
    case hi0 => (simp only [List.getElem?_toArray, List.getElem?_cons_succ, List.getElem?_cons_zero]; rfl)
    go_simp
    refine (new_any _).mono ?_
    rintro e w2 ⟨rfl, hm2, hx2⟩
    have hP2 := PB.first hbx hm2 hx2
    have hS2 := boxS hP2.box
    go_wp2_with fail
    refine hK.out _ _ hS2 (fun hHeld2 => ?_)
    clear hK K hHeld
    have hHeld := hHeld2
    clear hHeld2
    try simp only [Act.put, List.setIfInBounds_toArray, List.set_cons_zero, List.set_cons_succ]
    refine wpAnyH_ready (rs := [3]) (by kernel_rfl) (by simp) ?_
    refine AllReadyH.cons (o := ?o3) ?hi3 (fun K hK => ?st3) AllReadyH.nil
    case hi3 => (simp only [List.getElem?_toArray, List.getElem?_cons_succ, List.getElem?_cons_zero]; rfl)
    go_simp
    refine (mnum_any w01.drew.heap.size w01.drew.heap.size _ _ c _ hP2.mo (by omega) (by omega)).mono ?_
    rintro e w3 ⟨v3, rfl, hm3, hk3, hf3⟩
    have hP3 := hP2.step hm3 hk3 hf3
    have hS3 := boxS hP3.box
    go_wp2_with fail
    refine hK.out _ _ hS3 (fun hHeld2 => ?_)
    clear hK K hHeld
    have hHeld := hHeld2
    clear hHeld2
    try simp only [Act.put, List.setIfInBounds_toArray, List.set_cons_zero, List.set_cons_succ]
    refine wpAnyH_ready (rs := [6]) (by kernel_rfl) (by simp) ?_
    refine AllReadyH.cons (o := ?o6) ?hi6 (fun K hK => ?st6) AllReadyH.nil
    case hi6 => (simp only [List.getElem?_toArray, List.getElem?_cons_succ, List.getElem?_cons_zero]; rfl)
    go_simp
    refine (mnum_any w01.drew.heap.size w01.drew.heap.size _ _ m _ hP3.mo (by omega) (by omega)).mono ?_
    rintro e w4 ⟨v4, rfl, hm4, hk4, hf4⟩
    have hP4 := hP3.step hm4 hk4 hf4
    have hS4 := boxS hP4.box
    go_wp2_with fail
    refine hK.out _ _ hS4 (fun hHeld2 => ?_)
    clear hK K hHeld
    have hHeld := hHeld2
    clear hHeld2
    try simp only [Act.put, List.setIfInBounds_toArray, List.set_cons_zero, List.set_cons_succ]
    refine wpAnyH_ready (rs := [8]) (by kernel_rfl) (by simp) ?_
    refine AllReadyH.cons (o := ?o8) ?hi8 (fun K hK => ?st8) AllReadyH.nil
    case hi8 => (simp only [List.getElem?_toArray, List.getElem?_cons_succ, List.getElem?_cons_zero]; rfl)
    go_simp
    refine (putBody_any w01.drew.heap.size w01.drew.heap.size _ _ ⟨c, m, k, o, r, t, n, g, l⟩ A cap _ hP4.mo (hP4.list hil2) hx (hP4.away hil2)).mono ?_
    rintro e w5 ⟨v5, rfl, hm5, hk5, hf5⟩
    have hP5 := hP4.step hm5 hk5 hf5
    have hS5 := boxS hP5.box
    rw [hfit] at hm5
    go_wp2_with fail
    refine hK.out _ _ hS5 (fun hHeld2 => ?_)
    clear hK K hHeld
    have hHeld := hHeld2
    clear hHeld2
    try simp only [Act.put, List.setIfInBounds_toArray, List.set_cons_zero, List.set_cons_succ]
    refine wpAnyH_ready (rs := [9]) (by kernel_rfl) (by simp) ?_
    refine AllReadyH.cons (o := ?o9) ?hi9 (fun K hK => ?st9) AllReadyH.nil
    case hi9 => (simp only [List.getElem?_toArray, List.getElem?_cons_succ, List.getElem?_cons_zero]; rfl)
    go_simp
    refine (mdone_any w01.drew.heap.size w01.drew.heap.size v5 _ _ hm5).mono ?_
    rintro e w6 ⟨hx6, A6, c6, rfl, q1, q2, q3, q4⟩
    have hS6 := boxS (hP5.box.kept (Keep.of_below hx6) (fun h => by have := hP5.box.lt; omega))
    go_wp2_with fail
    refine hK.out _ _ hS6 (fun hHeld2 => ?_)
    clear hK K hHeld
    have hHeld := hHeld2
    clear hHeld2
    try simp only [Act.put, List.setIfInBounds_toArray, List.set_cons_zero, List.set_cons_succ]
    refine wpAnyH_take (i := 10) (oi := ?oi10) (v := ?v10) ?hi10 (by kernel_rfl) (by kernel_rfl) (by kernel_rfl) ?hq10 (Or.inl ⟨?hw10, ?hy10⟩) (by assumption) ?rest10
    case hi10 => (simp only [List.getElem?_toArray, List.getElem?_cons_succ, List.getElem?_cons_zero]; rfl)
    case hq10 => exact fun _ _ _ h => h
    case hw10 => rfl
    case hy10 => (intro w hSw; (try dsimp only at hSw); go_simp <;> with_reducible rfl)
    try simp only [Act.put, List.setIfInBounds_toArray, List.set_cons_zero, List.set_cons_succ]
    refine wpAnyH_take (i := 11) (oi := ?oi11) (v := ?v11) ?hi11 (by kernel_rfl) (by kernel_rfl) (by kernel_rfl) ?hq11 (Or.inl ⟨?hw11, ?hy11⟩) (by assumption) ?rest11
    case hi11 => (simp only [List.getElem?_toArray, List.getElem?_cons_succ, List.getElem?_cons_zero]; rfl)
    case hq11 => exact fun _ _ _ h => h
    case hw11 => rfl
    case hy11 => (intro w hSw; (try dsimp only at hSw); go_simp <;> with_reducible rfl)
    try simp only [Act.put, List.setIfInBounds_toArray, List.set_cons_zero, List.set_cons_succ]
    refine wpAnyH_take (i := 12) (oi := ?oi12) (v := ?v12) ?hi12 (by kernel_rfl) (by kernel_rfl) (by kernel_rfl) ?hq12 (Or.inl ⟨?hw12, ?hy12⟩) (by assumption) ?rest12
    case hi12 => (simp only [List.getElem?_toArray, List.getElem?_cons_succ, List.getElem?_cons_zero]; rfl)
    case hq12 => exact fun _ _ _ h => h
    case hw12 => rfl
    case hy12 => (intro w hSw; (try dsimp only at hSw); go_simp <;> with_reducible rfl)
    try simp only [Act.put, List.setIfInBounds_toArray, List.set_cons_zero, List.set_cons_succ]
    refine wpAnyH_take (i := 13) (oi := ?oi13) (v := ?v13) ?hi13 (by kernel_rfl) (by kernel_rfl) (by kernel_rfl) ?hq13 (Or.inl ⟨?hw13, ?hy13⟩) (by assumption) ?rest13
    case hi13 => (simp only [List.getElem?_toArray, List.getElem?_cons_succ, List.getElem?_cons_zero]; rfl)
    case hq13 => exact fun _ _ _ h => h
    case hw13 => rfl
    case hy13 => (intro w hSw; (try dsimp only at hSw); go_simp <;> with_reducible rfl)
    try simp only [Act.put, List.setIfInBounds_toArray, List.set_cons_zero, List.set_cons_succ]
    refine wpAnyH_done (by kernel_rfl) ?_ _
    have hb5 := hb1.trans (hP5.bel.mono hb1.size)
    have hb6 := hb5.trans (hx6.mono hb5.size)
    have hz5 := hb5.size
    go_wp2
    go_ret2
    exact ⟨hb6, A6, c6, rfl, q1, q2, q3, fun ad had => ⟨by have := (q4 ad had).1; omega, (q4 ad had).2⟩⟩

end Go.Proofs.Ytpfkhalomnfcfaa
