/- The program's Pack of an end. No condition but that the end lies in memory, and is one that may be. -/
import Derived.Test.YtfgceplafjbmhaaLqX
import Derived.Deep.CutRange
namespace Go.Proofs.Ytfgceplafjbmhaa
open Go.RowKit Go.Shelf
set_option linter.unusedVariables false
set_option linter.unusedSimpArgs false

theorem MK.low {base B : Nat} {w : World} {g : Nat} {v : Value} {st : Option (List UInt8)} (h : MK base w g v st) (hB : B ≤ base) : MK B w g v st := ⟨h.blk, Nat.le_trans hB h.ge, h.own.mono hB, h.short⟩
theorem put_some {a b : List UInt8} (h : a.length + b.length ≤ 262144) : put (some a) b = some (a ++ b) := by unfold put; dsimp only; rw [if_neg (by omega)]
/-- What a body's code leaves. -/
def Pack1Post (B : Nat) (mg : Nat) (vm : Value) (st : List UInt8) (b : Bd) (w : World) (e : Ending) (w' : World) : Prop :=
  e = .returned (.tuple #[]) ∧ ∃ v', MK B w' mg v' (some (st ++ rowE b)) ∧ Keep (MF mg vm) w w' ∧ ∀ i, MF mg v' i → MF mg vm i ∨ w.heap.size ≤ i
set_option maxRecDepth 100000 in
set_option maxHeartbeats 3200000 in
theorem pack1_any (B bm mg g j : Nat) (vm : Value) (st : List UInt8) (b : Bd) (w : World) (hm : MK B w mg vm (some st)) (hbx : w.cell? ⟨bm, 0, none⟩ = some (.pointer (some ⟨mg, 0, none⟩))) (hxm : ¬ MF mg vm bm) (hgm : ¬ MF mg vm g)
    (h1 : w.cell? ⟨g, j * 4 + 1, none⟩ = some (.string ⟨b.text.toArray⟩)) (h2 : w.cell? ⟨g, j * 4 + 2, none⟩ = some (.int .i64 b.tries)) (h3 : w.cell? ⟨g, j * 4 + 3, none⟩ = some (.int .i64 b.due)) (hok : okB b) (hst : st.length ≤ 200000) :
    Calls Try.prog 61 #[.pointer (some ⟨g, j * 4, none⟩), .pointer (some ⟨bm, 0, none⟩)] w (Pack1Post B mg vm st b w) := by
  unfold Pack1Post rowE
  obtain ⟨bs, bt, btr, bd⟩ := b
  have ht1 : bt.length ≤ 2048 := hok.text
  have htr0 : 1 ≤ btr := hok.t0
  have htr1 : btr ≤ 9223372036854775807 := hok.t1
  have htd0 : -9223372036854775808 ≤ bd := hok.d0
  have htd1 : bd ≤ 9223372036854775807 := hok.d1
  dsimp only at h1 h2 h3 ⊢
  have hL0 := numCell_len (bt.length : Int)
  have hL2 := numCell_len btr
  have hL3 := numCell_len bd
  have hq1 : put (some st) (numCell ((ByteArray.mk bt.toArray).size : Int) ++ (ByteArray.mk bt.toArray).data.toList) = some (st ++ (numCell (bt.length : Int) ++ bt)) := by
    rw [show numCell ((ByteArray.mk bt.toArray).size : Int) ++ (ByteArray.mk bt.toArray).data.toList = numCell (bt.length : Int) ++ bt from by show numCell ((bt.toArray.size : Nat) : Int) ++ bt.toArray.toList = _; simp]
    exact put_some (by rw [List.length_append]; omega)
  have hq2 : put (some (st ++ (numCell (bt.length : Int) ++ bt))) (numCell btr) = some (st ++ (numCell (bt.length : Int) ++ bt) ++ numCell btr) := put_some (by rw [List.length_append, List.length_append]; omega)
  have hq3 : put (some (st ++ (numCell (bt.length : Int) ++ bt) ++ numCell btr)) (numCell bd) = some (st ++ ((numCell (bt.length : Int) ++ bt) ++ (numCell btr ++ numCell bd))) := by
    rw [put_some (by rw [List.length_append, List.length_append, List.length_append]; omega)]
    simp only [List.append_assoc]
  have hbl := World.block_lt_of_cell? _ _ hbx
  have hgl := World.block_lt_of_cell? _ _ h1
  dsimp only at hbl hgl
  have s0 : (fun W => W.cell? ⟨bm, 0, none⟩ = some (.pointer (some ⟨mg, 0, none⟩)) ∧ W.cell? ⟨g, j * 4 + 1, none⟩ = some (.string ⟨bt.toArray⟩) ∧ W.cell? ⟨g, j * 4 + 2, none⟩ = some (.int .i64 btr) ∧ W.cell? ⟨g, j * 4 + 3, none⟩ = some (.int .i64 bd)) w.drew := ⟨hbx, h1, h2, h3⟩
  have hm0 : MK B w.drew mg vm (some st) := ⟨hm.blk, hm.ge, hm.own, hm.short⟩
  have hx0 := hxm
  have hg0 := hgm
  have hz0 : w.drew.heap.size = w.heap.size := rfl
  go_enter Try.func61, Try.ntmps61
  go_wp2_with fail
  refine wp_region_held_drew (S := (fun W => W.cell? ⟨bm, 0, none⟩ = some (.pointer (some ⟨mg, 0, none⟩)) ∧ W.cell? ⟨g, j * 4 + 1, none⟩ = some (.string ⟨bt.toArray⟩) ∧ W.cell? ⟨g, j * 4 + 2, none⟩ = some (.int .i64 btr) ∧ W.cell? ⟨g, j * 4 + 3, none⟩ = some (.int .i64 bd))) (by kernel_rfl) s0 (fun hHeld => ?_)
  refine wpAnyH_take (i := 0) (oi := ?oi0q) (v := ?v0q) ?hi0q (by kernel_rfl) (by kernel_rfl) (by kernel_rfl) ?hq0q (Or.inl ⟨?hw0q, ?hy0q⟩) (by assumption) ?rest0q
  case hi0q => (simp only [List.getElem?_toArray, List.getElem?_cons_succ, List.getElem?_cons_zero]; rfl)
  case hq0q => exact fun _ _ _ h => h
  case hw0q => rfl
  case hy0q => (intro w hSw; (try dsimp only at hSw); go_simp <;> with_reducible rfl)
  try simp only [Act.put, List.setIfInBounds_toArray, List.set_cons_zero, List.set_cons_succ]
  refine wpAnyH_take (i := 1) (oi := ?oi1q) (v := ?v1q) ?hi1q (by kernel_rfl) (by kernel_rfl) (by kernel_rfl) ?hq1q (Or.inl ⟨?hw1q, ?hy1q⟩) (by assumption) ?rest1q
  case hi1q => (simp only [List.getElem?_toArray, List.getElem?_cons_succ, List.getElem?_cons_zero]; rfl)
  case hq1q => exact fun _ _ _ h => h
  case hw1q => rfl
  case hy1q => (intro w hSw; (try dsimp only at hSw); go_simp <;> with_reducible rfl)
  try simp only [Act.put, List.setIfInBounds_toArray, List.set_cons_zero, List.set_cons_succ]
  refine wpAnyH_take (i := 2) (oi := ?oi2q) (v := ?v2q) ?hi2q (by kernel_rfl) (by kernel_rfl) (by kernel_rfl) ?hq2q (Or.inl ⟨?hw2q, ?hy2q⟩) (by assumption) ?rest2q
  case hi2q => (simp only [List.getElem?_toArray, List.getElem?_cons_succ, List.getElem?_cons_zero]; rfl)
  case hq2q => exact fun _ _ _ h => h
  case hw2q => rfl
  case hy2q => (intro w hSw; (try dsimp only at hSw); go_simp <;> with_reducible rfl)
  try simp only [Act.put, List.setIfInBounds_toArray, List.set_cons_zero, List.set_cons_succ]
  refine wpAnyH_take (i := 3) (oi := ?oi3q) (v := ?v3q) ?hi3q (by kernel_rfl) (by kernel_rfl) (by kernel_rfl) ?hq3q (Or.inl ⟨?hw3q, ?hy3q⟩) (by assumption) ?rest3q
  case hi3q => (simp only [List.getElem?_toArray, List.getElem?_cons_succ, List.getElem?_cons_zero]; rfl)
  case hq3q => exact fun _ _ _ h => h
  case hw3q => rfl
  case hy3q => (intro w hSw; (try dsimp only at hSw); go_simp <;> with_reducible rfl)
  try simp only [Act.put, List.setIfInBounds_toArray, List.set_cons_zero, List.set_cons_succ]
  refine wpAnyH_take (i := 4) (oi := ?oi4q) (v := ?v4q) ?hi4q (by kernel_rfl) (by kernel_rfl) (by kernel_rfl) ?hq4q (Or.inl ⟨?hw4q, ?hy4q⟩) (by assumption) ?rest4q
  case hi4q => (simp only [List.getElem?_toArray, List.getElem?_cons_succ, List.getElem?_cons_zero]; rfl)
  case hq4q => exact fun _ _ _ h => h
  case hw4q => rfl
  case hy4q => (intro w hSw; (try dsimp only at hSw); go_simp <;> with_reducible rfl)
  try simp only [Act.put, List.setIfInBounds_toArray, List.set_cons_zero, List.set_cons_succ]
  refine wpAnyH_take (i := 6) (oi := ?oi6q) (v := ?v6q) ?hi6q (by kernel_rfl) (by kernel_rfl) (by kernel_rfl) ?hq6q (Or.inl ⟨?hw6q, ?hy6q⟩) (by assumption) ?rest6q
  case hi6q => (simp only [List.getElem?_toArray, List.getElem?_cons_succ, List.getElem?_cons_zero]; rfl)
  case hq6q => exact fun _ _ _ h => h
  case hw6q => rfl
  case hy6q => (intro w hSw; (try dsimp only at hSw); go_simp <;> with_reducible rfl)
  try simp only [Act.put, List.setIfInBounds_toArray, List.set_cons_zero, List.set_cons_succ]
  refine wpAnyH_take (i := 7) (oi := ?oi7q) (v := ?v7q) ?hi7q (by kernel_rfl) (by kernel_rfl) (by kernel_rfl) ?hq7q (Or.inl ⟨?hw7q, ?hy7q⟩) (by assumption) ?rest7q
  case hi7q => (simp only [List.getElem?_toArray, List.getElem?_cons_succ, List.getElem?_cons_zero]; rfl)
  case hq7q => exact fun _ _ _ h => h
  case hw7q => rfl
  case hy7q => (intro w hSw; (try dsimp only at hSw); go_simp <;> with_reducible rfl)
  try simp only [Act.put, List.setIfInBounds_toArray, List.set_cons_zero, List.set_cons_succ]
  refine wpAnyH_take (i := 8) (oi := ?oi8q) (v := ?v8q) ?hi8q (by kernel_rfl) (by kernel_rfl) (by kernel_rfl) ?hq8q (Or.inl ⟨?hw8q, ?hy8q⟩) (by assumption) ?rest8q
  case hi8q => (simp only [List.getElem?_toArray, List.getElem?_cons_succ, List.getElem?_cons_zero]; rfl)
  case hq8q => exact fun _ _ _ h => h
  case hw8q => rfl
  case hy8q => (intro w hSw; (try dsimp only at hSw); go_simp <;> with_reducible rfl)
  try simp only [Act.put, List.setIfInBounds_toArray, List.set_cons_zero, List.set_cons_succ]
  refine wpAnyH_take (i := 9) (oi := ?oi9q) (v := ?v9q) ?hi9q (by kernel_rfl) (by kernel_rfl) (by kernel_rfl) ?hq9q (Or.inl ⟨?hw9q, ?hy9q⟩) (by assumption) ?rest9q
  case hi9q => (simp only [List.getElem?_toArray, List.getElem?_cons_succ, List.getElem?_cons_zero]; rfl)
  case hq9q => exact fun _ _ _ h => h
  case hw9q => rfl
  case hy9q => (intro w hSw; (try dsimp only at hSw); go_simp <;> with_reducible rfl)
  try simp only [Act.put, List.setIfInBounds_toArray, List.set_cons_zero, List.set_cons_succ]
  refine wpAnyH_take (i := 11) (oi := ?oi11q) (v := ?v11q) ?hi11q (by kernel_rfl) (by kernel_rfl) (by kernel_rfl) ?hq11q (Or.inl ⟨?hw11q, ?hy11q⟩) (by assumption) ?rest11q
  case hi11q => (simp only [List.getElem?_toArray, List.getElem?_cons_succ, List.getElem?_cons_zero]; rfl)
  case hq11q => exact fun _ _ _ h => h
  case hw11q => rfl
  case hy11q => (intro w hSw; (try dsimp only at hSw); go_simp <;> with_reducible rfl)
  try simp only [Act.put, List.setIfInBounds_toArray, List.set_cons_zero, List.set_cons_succ]
  refine wpAnyH_take (i := 12) (oi := ?oi12q) (v := ?v12q) ?hi12q (by kernel_rfl) (by kernel_rfl) (by kernel_rfl) ?hq12q (Or.inl ⟨?hw12q, ?hy12q⟩) (by assumption) ?rest12q
  case hi12q => (simp only [List.getElem?_toArray, List.getElem?_cons_succ, List.getElem?_cons_zero]; rfl)
  case hq12q => exact fun _ _ _ h => h
  case hw12q => rfl
  case hy12q => (intro w hSw; (try dsimp only at hSw); go_simp <;> with_reducible rfl)
  try simp only [Act.put, List.setIfInBounds_toArray, List.set_cons_zero, List.set_cons_succ]
  refine wpAnyH_take (i := 13) (oi := ?oi13q) (v := ?v13q) ?hi13q (by kernel_rfl) (by kernel_rfl) (by kernel_rfl) ?hq13q (Or.inl ⟨?hw13q, ?hy13q⟩) (by assumption) ?rest13q
  case hi13q => (simp only [List.getElem?_toArray, List.getElem?_cons_succ, List.getElem?_cons_zero]; rfl)
  case hq13q => exact fun _ _ _ h => h
  case hw13q => rfl
  case hy13q => (intro w hSw; (try dsimp only at hSw); go_simp <;> with_reducible rfl)
  try simp only [Act.put, List.setIfInBounds_toArray, List.set_cons_zero, List.set_cons_succ]
  refine wpAnyH_take (i := 14) (oi := ?oi14q) (v := ?v14q) ?hi14q (by kernel_rfl) (by kernel_rfl) (by kernel_rfl) ?hq14q (Or.inl ⟨?hw14q, ?hy14q⟩) (by assumption) ?rest14q
  case hi14q => (simp only [List.getElem?_toArray, List.getElem?_cons_succ, List.getElem?_cons_zero]; rfl)
  case hq14q => exact fun _ _ _ h => h
  case hw14q => rfl
  case hy14q => (intro w hSw; (try dsimp only at hSw); go_simp <;> with_reducible rfl)
  try simp only [Act.put, List.setIfInBounds_toArray, List.set_cons_zero, List.set_cons_succ]
  refine wpAnyH_ready (rs := [5]) (by kernel_rfl) (by simp) ?_
  refine AllReadyH.cons (o := ?o5q) ?hi5q (fun K hK => ?st5q) AllReadyH.nil
  case hi5q => (simp only [List.getElem?_toArray, List.getElem?_cons_succ, List.getElem?_cons_zero]; rfl)
  go_simp
  refine (mtext_any B mg vm _ ⟨bt.toArray⟩ _ hm0 (by show bt.toArray.size ≤ _; simp; omega)).mono ?_
  rintro e W1 ⟨v1, rfl, hm1, hk1, hf1⟩
  rw [hq1] at hm1
  have hg1 : ¬ MF mg v1 g := fun e => by
    rcases hf1 _ e with e | e
    · exact hg0 e
    · omega
  have hx1 : ¬ MF mg v1 bm := fun e => by
    rcases hf1 _ e with e | e
    · exact hx0 e
    · omega
  have s1 := And.intro (hk1.cell s0.1 hx0) (And.intro (hk1.cell s0.2.1 hg0) (And.intro (hk1.cell s0.2.2.1 hg0) (hk1.cell s0.2.2.2 hg0)))
  have hz1 := hk1.size
  refine hK.out _ _ s1 (fun hHeld2 => ?_)
  clear hK K hHeld
  have hHeld := hHeld2
  clear hHeld2
  try simp only [Act.put, List.setIfInBounds_toArray, List.set_cons_zero, List.set_cons_succ]
  refine wpAnyH_ready (rs := [10]) (by kernel_rfl) (by simp) ?_
  refine AllReadyH.cons (o := ?o10q) ?hi10q (fun K hK => ?st10q) AllReadyH.nil
  case hi10q => (simp only [List.getElem?_toArray, List.getElem?_cons_succ, List.getElem?_cons_zero]; rfl)
  go_simp
  refine (mnum_any B mg v1 _ btr _ hm1 (by omega) (by omega)).mono ?_
  rintro e W2 ⟨v2, rfl, hm2, hk2, hf2⟩
  rw [hq2] at hm2
  have hg2 : ¬ MF mg v2 g := fun e => by
    rcases hf2 _ e with e | e
    · exact hg1 e
    · omega
  have hx2 : ¬ MF mg v2 bm := fun e => by
    rcases hf2 _ e with e | e
    · exact hx1 e
    · omega
  have s2 := And.intro (hk2.cell s1.1 hx1) (And.intro (hk2.cell s1.2.1 hg1) (And.intro (hk2.cell s1.2.2.1 hg1) (hk2.cell s1.2.2.2 hg1)))
  have hz2 := hk2.size
  refine hK.out _ _ s2 (fun hHeld2 => ?_)
  clear hK K hHeld
  have hHeld := hHeld2
  clear hHeld2
  try simp only [Act.put, List.setIfInBounds_toArray, List.set_cons_zero, List.set_cons_succ]
  refine wpAnyH_ready (rs := [15]) (by kernel_rfl) (by simp) ?_
  refine AllReadyH.cons (o := ?o15q) ?hi15q (fun K hK => ?st15q) AllReadyH.nil
  case hi15q => (simp only [List.getElem?_toArray, List.getElem?_cons_succ, List.getElem?_cons_zero]; rfl)
  go_simp
  refine (mnum_any B mg v2 _ bd _ hm2 (by omega) (by omega)).mono ?_
  rintro e W3 ⟨v3, rfl, hm3, hk3, hf3⟩
  rw [hq3] at hm3
  have hg3 : ¬ MF mg v3 g := fun e => by
    rcases hf3 _ e with e | e
    · exact hg2 e
    · omega
  have hx3 : ¬ MF mg v3 bm := fun e => by
    rcases hf3 _ e with e | e
    · exact hx2 e
    · omega
  have s3 := And.intro (hk3.cell s2.1 hx2) (And.intro (hk3.cell s2.2.1 hg2) (And.intro (hk3.cell s2.2.2.1 hg2) (hk3.cell s2.2.2.2 hg2)))
  have hz3 := hk3.size
  refine hK.out _ _ s3 (fun hHeld2 => ?_)
  clear hK K hHeld
  have hHeld := hHeld2
  clear hHeld2
  try simp only [Act.put, List.setIfInBounds_toArray, List.set_cons_zero, List.set_cons_succ]
  refine wpAnyH_done (by kernel_rfl) ?_ _
  go_wp2
  go_end0
  refine ⟨rfl, v3, hm3, ?_, ?_⟩
  · have k0 : Keep (MF mg vm) w w.drew := (Keep.refl _ w).drew
    have k1 := k0.trans hk1 (fun i _ e => e)
    have k2 := k1.trans hk2 (fun i hi e => by
      rcases hf1 i e with e | e
      · exact e
      · omega)
    exact k2.trans hk3 (fun i hi e => by
      rcases hf2 i e with e | e
      · rcases hf1 i e with e | e
        · exact e
        · omega
      · omega)
  · intro i e
    rcases hf3 i e with e | e
    · rcases hf2 i e with e | e
      · rcases hf1 i e with e | e
        · exact .inl e
        · exact .inr (by omega)
      · exact .inr (by omega)
    · exact .inr (by omega)
set_option maxRecDepth 100000 in
set_option maxHeartbeats 3200000 in
theorem each_pack (B p bm mg : Nat) (sent mark : Int) (vE : Value) (l : List Bd) (w0 w : World) (hE : ES 0 w0 p sent mark vE l) (hB : w0.heap.size = B) (hb : Below B w0 w) (hok : ∀ b ∈ l, okB b) (hlen : l.length ≤ 64) (st : List UInt8) (hst : st.length ≤ 27) (vm : Value) (hm : MK B w mg vm (some st)) (hne : ¬ MF mg vm bm) (hbx : Blk w bm 93 #[.pointer (some ⟨mg, 0, none⟩)]) (hbm : B ≤ bm) :
    Calls Try.prog 42 #[.pointer (some ⟨p, 0, none⟩), .func (.func 61) #[] #[.pointer (some ⟨bm, 0, none⟩)]] w fun e w' => e = .returned (.tuple #[]) ∧ ∃ v', MK B w' mg v' (some (st ++ rowsE l)) ∧ ¬ MF mg v' bm ∧ Blk w' bm 93 #[.pointer (some ⟨mg, 0, none⟩)] ∧ Below B w0 w' := by
  obtain ⟨A, cap, rfl, hfm⟩ := hE.own.form
  clear hfm
  obtain ⟨N, hN⟩ : ∃ N, l.length = N := ⟨_, rfl⟩
  rw [hN] at hE hlen
  have hbel : ∀ {W}, Below B w0 W → ES 0 W p sent mark (.slice A N cap) l := fun hb => hE.below (by rw [hB]; exact hb)
  obtain ⟨a0, a1, a2⟩ := (hbel hb).fields
  go_enter Try.func42, Try.ntmps42
  go_wp2
  go_loopw [10] (fun i wr => ∃ (j : Nat) (v' : Value), i = .int .i64 (j : Int) ∧ j ≤ N ∧ MK B wr mg v' (some (st ++ rowsE (l.take j))) ∧ ¬ MF mg v' bm ∧ Blk wr bm 93 #[.pointer (some ⟨mg, 0, none⟩)] ∧ Below B w0 wr) (fun i _ => N - (intOf i).toNat)
  case atStart => exact ⟨0, vm, by go_num, by omega, by simpa [rowsE] using hm, hne, hbx, hb⟩
  case round =>
    obtain ⟨j, v', rfl, hj, hm, hne, hbx, hb⟩ := hrel
    clear a0 a1 a2
    have hEr := hbel hb
    obtain ⟨a0, a1, a2⟩ := hEr.fields
    by_cases hlt : j < N
    · have hlz : (j : Int) < (N : Int) := by omega
      have hj0 : (0 : Int) ≤ (j : Int) := by omega
      obtain ⟨g, b, rfl, hx, c0, c1, c2, c3⟩ := hEr.own.place hlt
      have hgB : g < B := by have := (hE.own.lt g rfl).2; omega
      have hgm : ¬ MF mg v' g := fun e => by have := (hm.foot g e).1; omega
      have hL := rowsE_len (l.take j) (fun b hb => (hok b (List.mem_of_mem_take hb)).text)
      have hLt : (l.take j).length ≤ 64 := by rw [List.length_take]; omega
      have hbc := hbx.cell 0
      simp at hbc
      have hone := pack1_any B bm mg g j v' (st ++ rowsE (l.take j)) b wr hm hbc hne hgm c1 c2 c3 (hok b (List.mem_of_getElem? hx)) (by rw [List.length_append]; omega)
      unfold Pack1Post at hone
      rw [show st ++ rowsE (l.take j) ++ rowE b = st ++ rowsE (l.take (j + 1)) by rw [List.append_assoc, ← rowsE_snoc, List.take_add_one, hx]; rfl] at hone
      clear hx hL hLt
      go_wp2_with fail
      refine hone.mono ?_
      rintro e w2 ⟨rfl, v2, hm2, hk2, hf2⟩
      have hb2 := hb.trans (hk2.below (B := B) (by have := hb.size; omega) (fun i hi e => by have := (hm.foot i e).1; omega))
      have hbx2 := hbx.kept hk2 hne
      have hne2 : ¬ MF mg v2 bm := fun e => by
        have := hbx.lt
        rcases hf2 _ e with e | e
        · exact hne e
        · omega
      clear hone hm hne hbx hb hk2 hf2 hEr a0 a1 a2 c0 c1 c2 c3
      go_wp2
      go_roundw
      case measure => simp [intOf]; omega
      case rel => exact ⟨j + 1, v2, by go_num, by omega, hm2, hne2, hbx2, hb2⟩
    · have hjn : j = N := by omega
      have hlz : ¬ (j : Int) < (N : Int) := by omega
      rw [show l.take j = l from List.take_of_length_le (by omega)] at hm
      clear hjn
      go_wp2
      go_end0
      exact ⟨rfl, v', hm, hne, hbx, hb⟩
theorem then_normal {K : Act → World → Prop} {Q : Exit → Act → World → Prop} {a : Act} {w : World} : Exit.then K Q .normal a w = K a w := rfl
theorem wp_calm {c : Code} {Q : Exit → Act → World → Prop} {P : Program} {a : Act} {w : World} (h : c.wp P (Exit.then (Q .normal) (fun _ _ _ => False)) a w) : c.wp P Q a w :=
  wp_mono h fun e a w h => by cases e <;> first | exact h | exact h.elim
/-- Behind the making of the code's beginning. -/
def HeadE (w : World) (hc : List UInt8) (s3 : Value) (wc : World) : Prop :=
  ∃ bm g v, s3 = .pointer (some ⟨bm, 0, none⟩) ∧ Blk wc bm 93 #[.pointer (some ⟨g, 0, none⟩)] ∧ MK w.heap.size wc g v (some hc) ∧ ¬ MF g v bm ∧ Below w.heap.size w wc ∧ w.heap.size ≤ bm
set_option maxRecDepth 100000 in
set_option maxHeartbeats 6400000 in
theorem lpack_any {w : World} {p : Nat} {l : List Bd} {sent mark : Int} {vb : Value} (hV : ES 0 w p sent mark vb l) (hI : InvE l sent mark) :
    Calls Try.prog 35 #[.pointer (some ⟨p, 0, none⟩)] w (PackPost w (encE l sent mark)) := by
  have hll := hI.len
  have hs0 := hI.s0
  have hm0' := hI.m0
  have hok := hI.ok
  have hn1 := numCell_len sent
  have hn2 := numCell_len mark
  have hn3 := numCell_len (l.length : Int)
  obtain ⟨H2, hH2⟩ : ∃ x, numCell sent ++ numCell mark = x := ⟨_, rfl⟩
  obtain ⟨HC, hHC⟩ : ∃ x, H2 ++ numCell (l.length : Int) = x := ⟨_, rfl⟩
  have hH2l : H2.length ≤ 18 := by rw [← hH2, List.length_append]; omega
  have hHL : HC.length ≤ 27 := by rw [← hHC, List.length_append]; omega
  have hp5 : put (some []) (numCell sent) = some (numCell sent) := put_some (by simp; omega)
  have hp10 : put (some (numCell sent)) (numCell mark) = some H2 := by rw [put_some (by omega), hH2]
  have hp16 : put (some H2) (numCell (l.length : Int)) = some HC := by rw [put_some (by omega), hHC]
  have hhid := Lib.hid (show HC ++ rowsE l = encE l sent mark by rw [← hHC, ← hH2]; unfold encE; simp only [List.append_assoc])
  clear hHC hH2
  obtain ⟨A, c, rfl, hfm⟩ := hV.own.form
  clear hfm
  have hS : ∀ W, Below w.heap.size w W → (fun W => W.cell? ⟨p, 0, none⟩ = some (.int .i64 sent) ∧ W.cell? ⟨p, 1, none⟩ = some (.int .i64 mark) ∧ W.cell? ⟨p, 2, none⟩ = some (.slice A l.length c)) W := fun W hb => (hV.below hb).fields
  have hbd : Below w.heap.size w w.drew := (Below.refl w.heap.size w).drew
  go_enter Try.func35, Try.ntmps35
  go_upto_region 3 with fail
  go_cut [3] from 8 to 24 (fun s3 wc => HeadE w HC s3 wc)
  case first =>
    refine wp_calm ?_
    refine wp_region_held_drew (S := (fun W => W.cell? ⟨p, 0, none⟩ = some (.int .i64 sent) ∧ W.cell? ⟨p, 1, none⟩ = some (.int .i64 mark) ∧ W.cell? ⟨p, 2, none⟩ = some (.slice A l.length c))) (by kernel_rfl) (hS _ hbd) (fun hHeld => ?_)
    refine wpAnyH_take (i := 1) (oi := ?oi1z1) (v := ?v1z1) ?hi1z1 (by kernel_rfl) (by kernel_rfl) (by kernel_rfl) ?hq1z1 (Or.inl ⟨?hw1z1, ?hy1z1⟩) (by assumption) ?rest1z1
    case hi1z1 => (simp only [List.getElem?_toArray, List.getElem?_cons_succ, List.getElem?_cons_zero]; rfl)
    case hq1z1 => exact fun _ _ _ h => h
    case hw1z1 => rfl
    case hy1z1 => (intro w hSw; (try dsimp only at hSw); go_simp <;> with_reducible rfl)
    try simp only [Act.put, List.setIfInBounds_toArray, List.set_cons_zero, List.set_cons_succ]
    refine wpAnyH_take (i := 2) (oi := ?oi2z2) (v := ?v2z2) ?hi2z2 (by kernel_rfl) (by kernel_rfl) (by kernel_rfl) ?hq2z2 (Or.inl ⟨?hw2z2, ?hy2z2⟩) (by assumption) ?rest2z2
    case hi2z2 => (simp only [List.getElem?_toArray, List.getElem?_cons_succ, List.getElem?_cons_zero]; rfl)
    case hq2z2 => exact fun _ _ _ h => h
    case hw2z2 => rfl
    case hy2z2 => (intro w hSw; (try dsimp only at hSw); go_simp <;> with_reducible rfl)
    try simp only [Act.put, List.setIfInBounds_toArray, List.set_cons_zero, List.set_cons_succ]
    refine wpAnyH_take (i := 3) (oi := ?oi3z3) (v := ?v3z3) ?hi3z3 (by kernel_rfl) (by kernel_rfl) (by kernel_rfl) ?hq3z3 (Or.inl ⟨?hw3z3, ?hy3z3⟩) (by assumption) ?rest3z3
    case hi3z3 => (simp only [List.getElem?_toArray, List.getElem?_cons_succ, List.getElem?_cons_zero]; rfl)
    case hq3z3 => exact fun _ _ _ h => h
    case hw3z3 => rfl
    case hy3z3 => (intro w hSw; (try dsimp only at hSw); go_simp <;> with_reducible rfl)
    try simp only [Act.put, List.setIfInBounds_toArray, List.set_cons_zero, List.set_cons_succ]
    refine wpAnyH_take (i := 4) (oi := ?oi4z4) (v := ?v4z4) ?hi4z4 (by kernel_rfl) (by kernel_rfl) (by kernel_rfl) ?hq4z4 (Or.inl ⟨?hw4z4, ?hy4z4⟩) (by assumption) ?rest4z4
    case hi4z4 => (simp only [List.getElem?_toArray, List.getElem?_cons_succ, List.getElem?_cons_zero]; rfl)
    case hq4z4 => exact fun _ _ _ h => h
    case hw4z4 => rfl
    case hy4z4 => (intro w hSw; (try dsimp only at hSw); go_simp <;> with_reducible rfl)
    try simp only [Act.put, List.setIfInBounds_toArray, List.set_cons_zero, List.set_cons_succ]
    refine wpAnyH_take (i := 6) (oi := ?oi6z5) (v := ?v6z5) ?hi6z5 (by kernel_rfl) (by kernel_rfl) (by kernel_rfl) ?hq6z5 (Or.inl ⟨?hw6z5, ?hy6z5⟩) (by assumption) ?rest6z5
    case hi6z5 => (simp only [List.getElem?_toArray, List.getElem?_cons_succ, List.getElem?_cons_zero]; rfl)
    case hq6z5 => exact fun _ _ _ h => h
    case hw6z5 => rfl
    case hy6z5 => (intro w hSw; (try dsimp only at hSw); go_simp <;> with_reducible rfl)
    try simp only [Act.put, List.setIfInBounds_toArray, List.set_cons_zero, List.set_cons_succ]
    refine wpAnyH_take (i := 7) (oi := ?oi7z6) (v := ?v7z6) ?hi7z6 (by kernel_rfl) (by kernel_rfl) (by kernel_rfl) ?hq7z6 (Or.inl ⟨?hw7z6, ?hy7z6⟩) (by assumption) ?rest7z6
    case hi7z6 => (simp only [List.getElem?_toArray, List.getElem?_cons_succ, List.getElem?_cons_zero]; rfl)
    case hq7z6 => exact fun _ _ _ h => h
    case hw7z6 => rfl
    case hy7z6 => (intro w hSw; (try dsimp only at hSw); go_simp <;> with_reducible rfl)
    try simp only [Act.put, List.setIfInBounds_toArray, List.set_cons_zero, List.set_cons_succ]
    refine wpAnyH_take (i := 8) (oi := ?oi8z7) (v := ?v8z7) ?hi8z7 (by kernel_rfl) (by kernel_rfl) (by kernel_rfl) ?hq8z7 (Or.inl ⟨?hw8z7, ?hy8z7⟩) (by assumption) ?rest8z7
    case hi8z7 => (simp only [List.getElem?_toArray, List.getElem?_cons_succ, List.getElem?_cons_zero]; rfl)
    case hq8z7 => exact fun _ _ _ h => h
    case hw8z7 => rfl
    case hy8z7 => (intro w hSw; (try dsimp only at hSw); go_simp <;> with_reducible rfl)
    try simp only [Act.put, List.setIfInBounds_toArray, List.set_cons_zero, List.set_cons_succ]
    refine wpAnyH_take (i := 9) (oi := ?oi9z8) (v := ?v9z8) ?hi9z8 (by kernel_rfl) (by kernel_rfl) (by kernel_rfl) ?hq9z8 (Or.inl ⟨?hw9z8, ?hy9z8⟩) (by assumption) ?rest9z8
    case hi9z8 => (simp only [List.getElem?_toArray, List.getElem?_cons_succ, List.getElem?_cons_zero]; rfl)
    case hq9z8 => exact fun _ _ _ h => h
    case hw9z8 => rfl
    case hy9z8 => (intro w hSw; (try dsimp only at hSw); go_simp <;> with_reducible rfl)
    try simp only [Act.put, List.setIfInBounds_toArray, List.set_cons_zero, List.set_cons_succ]
    refine wpAnyH_take (i := 11) (oi := ?oi11z9) (v := ?v11z9) ?hi11z9 (by kernel_rfl) (by kernel_rfl) (by kernel_rfl) ?hq11z9 (Or.inl ⟨?hw11z9, ?hy11z9⟩) (by assumption) ?rest11z9
    case hi11z9 => (simp only [List.getElem?_toArray, List.getElem?_cons_succ, List.getElem?_cons_zero]; rfl)
    case hq11z9 => exact fun _ _ _ h => h
    case hw11z9 => rfl
    case hy11z9 => (intro w hSw; (try dsimp only at hSw); go_simp <;> with_reducible rfl)
    try simp only [Act.put, List.setIfInBounds_toArray, List.set_cons_zero, List.set_cons_succ]
    refine wpAnyH_take (i := 12) (oi := ?oi12z10) (v := ?v12z10) ?hi12z10 (by kernel_rfl) (by kernel_rfl) (by kernel_rfl) ?hq12z10 (Or.inl ⟨?hw12z10, ?hy12z10⟩) (by assumption) ?rest12z10
    case hi12z10 => (simp only [List.getElem?_toArray, List.getElem?_cons_succ, List.getElem?_cons_zero]; rfl)
    case hq12z10 => exact fun _ _ _ h => h
    case hw12z10 => rfl
    case hy12z10 => (intro w hSw; (try dsimp only at hSw); go_simp <;> with_reducible rfl)
    try simp only [Act.put, List.setIfInBounds_toArray, List.set_cons_zero, List.set_cons_succ]
    refine wpAnyH_take (i := 13) (oi := ?oi13z11) (v := ?v13z11) ?hi13z11 (by kernel_rfl) (by kernel_rfl) (by kernel_rfl) ?hq13z11 (Or.inl ⟨?hw13z11, ?hy13z11⟩) (by assumption) ?rest13z11
    case hi13z11 => (simp only [List.getElem?_toArray, List.getElem?_cons_succ, List.getElem?_cons_zero]; rfl)
    case hq13z11 => exact fun _ _ _ h => h
    case hw13z11 => rfl
    case hy13z11 => (intro w hSw; (try dsimp only at hSw); go_simp <;> with_reducible rfl)
    try simp only [Act.put, List.setIfInBounds_toArray, List.set_cons_zero, List.set_cons_succ]
    refine wpAnyH_take (i := 14) (oi := ?oi14z12) (v := ?v14z12) ?hi14z12 (by kernel_rfl) (by kernel_rfl) (by kernel_rfl) ?hq14z12 (Or.inl ⟨?hw14z12, ?hy14z12⟩) (by assumption) ?rest14z12
    case hi14z12 => (simp only [List.getElem?_toArray, List.getElem?_cons_succ, List.getElem?_cons_zero]; rfl)
    case hq14z12 => exact fun _ _ _ h => h
    case hw14z12 => rfl
    case hy14z12 => (intro w hSw; (try dsimp only at hSw); go_simp <;> with_reducible rfl)
    try simp only [Act.put, List.setIfInBounds_toArray, List.set_cons_zero, List.set_cons_succ]
    refine wpAnyH_take (i := 15) (oi := ?oi15z13) (v := ?v15z13) ?hi15z13 (by kernel_rfl) (by kernel_rfl) (by kernel_rfl) ?hq15z13 (Or.inl ⟨?hw15z13, ?hy15z13⟩) (by assumption) ?rest15z13
    case hi15z13 => (simp only [List.getElem?_toArray, List.getElem?_cons_succ, List.getElem?_cons_zero]; rfl)
    case hq15z13 => exact fun _ _ _ h => h
    case hw15z13 => rfl
    case hy15z13 => (intro w hSw; (try dsimp only at hSw); go_simp <;> with_reducible rfl)
    try simp only [Act.put, List.setIfInBounds_toArray, List.set_cons_zero, List.set_cons_succ]
    refine wpAnyH_ready (rs := [0, 17]) (by kernel_rfl) (by simp) ?_
    refine AllReadyH.cons (by (simp only [List.getElem?_toArray, List.getElem?_cons_succ, List.getElem?_cons_zero]; rfl)) (fun K hK => ?_) (AllReadyH.cons (by (simp only [List.getElem?_toArray, List.getElem?_cons_succ, List.getElem?_cons_zero]; rfl)) (fun K hK => ?_) AllReadyH.nil)
    · go_simp
      refine (new_any (w.drew)).mono ?_
      rintro e W14 ⟨rfl, hm14', hx14⟩
      have hb14 := hbd.trans (hx14.mono hbd.size)
      have hm14 := hm14'.low hbd.size
      refine hK.out _ _ (hS _ hb14) (fun hHeld2 => ?_)
      clear hK K hHeld
      have hHeld := hHeld2
      clear hHeld2
      try simp only [Act.put, List.setIfInBounds_toArray, List.set_cons_zero, List.set_cons_succ]
      refine wpAnyH_ready (rs := [5, 17]) (by kernel_rfl) (by simp) ?_
      refine AllReadyH.cons (by (simp only [List.getElem?_toArray, List.getElem?_cons_succ, List.getElem?_cons_zero]; rfl)) (fun K hK => ?_) (AllReadyH.cons (by (simp only [List.getElem?_toArray, List.getElem?_cons_succ, List.getElem?_cons_zero]; rfl)) (fun K hK => ?_) AllReadyH.nil)
      · go_simp
        refine (mnum_any w.heap.size _ _ _ sent _ hm14 (by omega) (by omega)).mono ?_
        rintro e W15 ⟨v15, rfl, hm15, hk15, hf15⟩
        rw [hp5] at hm15
        have hb15 := hb14.trans (hk15.below hb14.size (fun i hi e => by have := (hm14.foot i e).1; omega))
        refine hK.out _ _ (hS _ hb15) (fun hHeld2 => ?_)
        clear hK K hHeld
        have hHeld := hHeld2
        clear hHeld2
        try simp only [Act.put, List.setIfInBounds_toArray, List.set_cons_zero, List.set_cons_succ]
        refine wpAnyH_ready (rs := [10, 17]) (by kernel_rfl) (by simp) ?_
        refine AllReadyH.cons (by (simp only [List.getElem?_toArray, List.getElem?_cons_succ, List.getElem?_cons_zero]; rfl)) (fun K hK => ?_) (AllReadyH.cons (by (simp only [List.getElem?_toArray, List.getElem?_cons_succ, List.getElem?_cons_zero]; rfl)) (fun K hK => ?_) AllReadyH.nil)
        · go_simp
          refine (mnum_any w.heap.size _ _ _ mark _ hm15 (by omega) (by omega)).mono ?_
          rintro e W16 ⟨v16, rfl, hm16, hk16, hf16⟩
          rw [hp10] at hm16
          have hb16 := hb15.trans (hk16.below hb15.size (fun i hi e => by have := (hm15.foot i e).1; omega))
          refine hK.out _ _ (hS _ hb16) (fun hHeld2 => ?_)
          clear hK K hHeld
          have hHeld := hHeld2
          clear hHeld2
          try simp only [Act.put, List.setIfInBounds_toArray, List.set_cons_zero, List.set_cons_succ]
          refine wpAnyH_ready (rs := [16, 17]) (by kernel_rfl) (by simp) ?_
          refine AllReadyH.cons (by (simp only [List.getElem?_toArray, List.getElem?_cons_succ, List.getElem?_cons_zero]; rfl)) (fun K hK => ?_) (AllReadyH.cons (by (simp only [List.getElem?_toArray, List.getElem?_cons_succ, List.getElem?_cons_zero]; rfl)) (fun K hK => ?_) AllReadyH.nil)
          · go_simp
            refine (mnum_any w.heap.size _ _ _ (l.length : Int) _ hm16 (by omega) (by omega)).mono ?_
            rintro e W17 ⟨v17, rfl, hm17, hk17, hf17⟩
            rw [hp16] at hm17
            have hb17 := hb16.trans (hk17.below hb16.size (fun i hi e => by have := (hm16.foot i e).1; omega))
            refine hK.out _ _ (hS _ hb17) (fun hHeld2 => ?_)
            clear hK K hHeld
            have hHeld := hHeld2
            clear hHeld2
            try simp only [Act.put, List.setIfInBounds_toArray, List.set_cons_zero, List.set_cons_succ]
            refine wpAnyH_ready (rs := [17]) (by kernel_rfl) (by simp) ?_
            refine AllReadyH.cons (by (simp only [List.getElem?_toArray, List.getElem?_cons_succ, List.getElem?_cons_zero]; rfl)) (fun K hK => ?_) AllReadyH.nil
            go_simp
            have hbx18 := Blk.new (W17) 93 #[.pointer none]
            have hb18 := hb17.alloc hb17.size (.cells #[.pointer none] 93)
            have hne18 : ¬ MF w.heap.size v17 (W17).heap.size := fun e => by have := (hm17.foot _ e).2; omega
            have hm18 := hm17.alloc_ (.cells #[.pointer none] 93)
            have hz18 := hb17.size
            generalize hW18 : (W17).alloc (.cells #[.pointer none] 93) = W18 at *
            clear hW18
            refine hK.out _ _ (hS _ hb18) (fun hHeld2 => ?_)
            clear hK K hHeld
            have hHeld := hHeld2
            clear hHeld2
            try simp only [Act.put, List.setIfInBounds_toArray, List.set_cons_zero, List.set_cons_succ]
            have f0 := hbx18.frozen 0
            have q0 := hbx18.cell 0
            simp at q0
            have hlx := hbx18.lt
            refine wpAnyH_ready (rs := [18]) (by kernel_rfl) (by simp) ?_
            refine AllReadyH.cons (by (simp only [List.getElem?_toArray, List.getElem?_cons_succ, List.getElem?_cons_zero]; rfl)) (fun K hK => ?_) AllReadyH.nil
            go_simp
            have hbs := hbx18.set_ 0 (.pointer (some ⟨w.heap.size, 0, none⟩))
            simp only [List.setIfInBounds_toArray, List.set_cons_zero] at hbs
            have kS : Keep (fun k => k = (W17).heap.size) (W18) ((W18).setCell ⟨(W17).heap.size, 0, none⟩ (.pointer (some ⟨w.heap.size, 0, none⟩))) := (Keep.refl (fun k => k = (W17).heap.size) (W18)).setCell (p := ⟨(W17).heap.size, 0, none⟩) (fun _ => rfl) _
            have hmS := hm18.kept kS (fun i hi e => hne18 (by rw [← e]; exact hi))
            have hbS := hb18.setCell (p := ⟨(W17).heap.size, 0, none⟩) (by dsimp only; omega) (.pointer (some ⟨w.heap.size, 0, none⟩))
            refine hK.out _ _ (hS _ hbS) (fun hHeld2 => ?_)
            clear hK K hHeld
            have hHeld := hHeld2
            clear hHeld2
            try simp only [Act.put, List.setIfInBounds_toArray, List.set_cons_zero, List.set_cons_succ]
            refine wpAnyH_done (by kernel_rfl) ?_ _
            go_wp2_with fail
            go_meet
            exact ⟨(W17).heap.size, w.heap.size, v17, rfl, hbs, hmS, hne18, hbS, by omega⟩
          · go_simp
            have hbx19 := Blk.new (W16) 93 #[.pointer none]
            have hb19 := hb16.alloc hb16.size (.cells #[.pointer none] 93)
            have hne19 : ¬ MF w.heap.size v16 (W16).heap.size := fun e => by have := (hm16.foot _ e).2; omega
            have hm19 := hm16.alloc_ (.cells #[.pointer none] 93)
            have hz19 := hb16.size
            generalize hW19 : (W16).alloc (.cells #[.pointer none] 93) = W19 at *
            clear hW19
            refine hK.out _ _ (hS _ hb19) (fun hHeld2 => ?_)
            clear hK K hHeld
            have hHeld := hHeld2
            clear hHeld2
            try simp only [Act.put, List.setIfInBounds_toArray, List.set_cons_zero, List.set_cons_succ]
            refine wpAnyH_ready (rs := [16]) (by kernel_rfl) (by simp) ?_
            refine AllReadyH.cons (by (simp only [List.getElem?_toArray, List.getElem?_cons_succ, List.getElem?_cons_zero]; rfl)) (fun K hK => ?_) AllReadyH.nil
            go_simp
            refine (mnum_any w.heap.size _ _ _ (l.length : Int) _ hm19 (by omega) (by omega)).mono ?_
            rintro e W20 ⟨v20, rfl, hm20, hk20, hf20⟩
            rw [hp16] at hm20
            have hb20 := hb19.trans (hk20.below hb19.size (fun i hi e => by have := (hm19.foot i e).1; omega))
            have hbx20 := hbx19.kept hk20 hne19
            have hne20 : ¬ MF w.heap.size v20 (W16).heap.size := fun e => by
              have := hbx19.lt
              rcases hf20 _ e with e | e
              · exact hne19 e
              · omega
            refine hK.out _ _ (hS _ hb20) (fun hHeld2 => ?_)
            clear hK K hHeld
            have hHeld := hHeld2
            clear hHeld2
            try simp only [Act.put, List.setIfInBounds_toArray, List.set_cons_zero, List.set_cons_succ]
            have f0 := hbx20.frozen 0
            have q0 := hbx20.cell 0
            simp at q0
            have hlx := hbx20.lt
            refine wpAnyH_ready (rs := [18]) (by kernel_rfl) (by simp) ?_
            refine AllReadyH.cons (by (simp only [List.getElem?_toArray, List.getElem?_cons_succ, List.getElem?_cons_zero]; rfl)) (fun K hK => ?_) AllReadyH.nil
            go_simp
            have hbs := hbx20.set_ 0 (.pointer (some ⟨w.heap.size, 0, none⟩))
            simp only [List.setIfInBounds_toArray, List.set_cons_zero] at hbs
            have kS : Keep (fun k => k = (W16).heap.size) (W20) ((W20).setCell ⟨(W16).heap.size, 0, none⟩ (.pointer (some ⟨w.heap.size, 0, none⟩))) := (Keep.refl (fun k => k = (W16).heap.size) (W20)).setCell (p := ⟨(W16).heap.size, 0, none⟩) (fun _ => rfl) _
            have hmS := hm20.kept kS (fun i hi e => hne20 (by rw [← e]; exact hi))
            have hbS := hb20.setCell (p := ⟨(W16).heap.size, 0, none⟩) (by dsimp only; omega) (.pointer (some ⟨w.heap.size, 0, none⟩))
            refine hK.out _ _ (hS _ hbS) (fun hHeld2 => ?_)
            clear hK K hHeld
            have hHeld := hHeld2
            clear hHeld2
            try simp only [Act.put, List.setIfInBounds_toArray, List.set_cons_zero, List.set_cons_succ]
            refine wpAnyH_done (by kernel_rfl) ?_ _
            go_wp2_with fail
            go_meet
            exact ⟨(W16).heap.size, w.heap.size, v20, rfl, hbs, hmS, hne20, hbS, by omega⟩
        · go_simp
          have hbx21 := Blk.new (W15) 93 #[.pointer none]
          have hb21 := hb15.alloc hb15.size (.cells #[.pointer none] 93)
          have hne21 : ¬ MF w.heap.size v15 (W15).heap.size := fun e => by have := (hm15.foot _ e).2; omega
          have hm21 := hm15.alloc_ (.cells #[.pointer none] 93)
          have hz21 := hb15.size
          generalize hW21 : (W15).alloc (.cells #[.pointer none] 93) = W21 at *
          clear hW21
          refine hK.out _ _ (hS _ hb21) (fun hHeld2 => ?_)
          clear hK K hHeld
          have hHeld := hHeld2
          clear hHeld2
          try simp only [Act.put, List.setIfInBounds_toArray, List.set_cons_zero, List.set_cons_succ]
          refine wpAnyH_ready (rs := [10]) (by kernel_rfl) (by simp) ?_
          refine AllReadyH.cons (by (simp only [List.getElem?_toArray, List.getElem?_cons_succ, List.getElem?_cons_zero]; rfl)) (fun K hK => ?_) AllReadyH.nil
          go_simp
          refine (mnum_any w.heap.size _ _ _ mark _ hm21 (by omega) (by omega)).mono ?_
          rintro e W22 ⟨v22, rfl, hm22, hk22, hf22⟩
          rw [hp10] at hm22
          have hb22 := hb21.trans (hk22.below hb21.size (fun i hi e => by have := (hm21.foot i e).1; omega))
          have hbx22 := hbx21.kept hk22 hne21
          have hne22 : ¬ MF w.heap.size v22 (W15).heap.size := fun e => by
            have := hbx21.lt
            rcases hf22 _ e with e | e
            · exact hne21 e
            · omega
          refine hK.out _ _ (hS _ hb22) (fun hHeld2 => ?_)
          clear hK K hHeld
          have hHeld := hHeld2
          clear hHeld2
          try simp only [Act.put, List.setIfInBounds_toArray, List.set_cons_zero, List.set_cons_succ]
          refine wpAnyH_ready (rs := [16]) (by kernel_rfl) (by simp) ?_
          refine AllReadyH.cons (by (simp only [List.getElem?_toArray, List.getElem?_cons_succ, List.getElem?_cons_zero]; rfl)) (fun K hK => ?_) AllReadyH.nil
          go_simp
          refine (mnum_any w.heap.size _ _ _ (l.length : Int) _ hm22 (by omega) (by omega)).mono ?_
          rintro e W23 ⟨v23, rfl, hm23, hk23, hf23⟩
          rw [hp16] at hm23
          have hb23 := hb22.trans (hk23.below hb22.size (fun i hi e => by have := (hm22.foot i e).1; omega))
          have hbx23 := hbx22.kept hk23 hne22
          have hne23 : ¬ MF w.heap.size v23 (W15).heap.size := fun e => by
            have := hbx22.lt
            rcases hf23 _ e with e | e
            · exact hne22 e
            · omega
          refine hK.out _ _ (hS _ hb23) (fun hHeld2 => ?_)
          clear hK K hHeld
          have hHeld := hHeld2
          clear hHeld2
          try simp only [Act.put, List.setIfInBounds_toArray, List.set_cons_zero, List.set_cons_succ]
          have f0 := hbx23.frozen 0
          have q0 := hbx23.cell 0
          simp at q0
          have hlx := hbx23.lt
          refine wpAnyH_ready (rs := [18]) (by kernel_rfl) (by simp) ?_
          refine AllReadyH.cons (by (simp only [List.getElem?_toArray, List.getElem?_cons_succ, List.getElem?_cons_zero]; rfl)) (fun K hK => ?_) AllReadyH.nil
          go_simp
          have hbs := hbx23.set_ 0 (.pointer (some ⟨w.heap.size, 0, none⟩))
          simp only [List.setIfInBounds_toArray, List.set_cons_zero] at hbs
          have kS : Keep (fun k => k = (W15).heap.size) (W23) ((W23).setCell ⟨(W15).heap.size, 0, none⟩ (.pointer (some ⟨w.heap.size, 0, none⟩))) := (Keep.refl (fun k => k = (W15).heap.size) (W23)).setCell (p := ⟨(W15).heap.size, 0, none⟩) (fun _ => rfl) _
          have hmS := hm23.kept kS (fun i hi e => hne23 (by rw [← e]; exact hi))
          have hbS := hb23.setCell (p := ⟨(W15).heap.size, 0, none⟩) (by dsimp only; omega) (.pointer (some ⟨w.heap.size, 0, none⟩))
          refine hK.out _ _ (hS _ hbS) (fun hHeld2 => ?_)
          clear hK K hHeld
          have hHeld := hHeld2
          clear hHeld2
          try simp only [Act.put, List.setIfInBounds_toArray, List.set_cons_zero, List.set_cons_succ]
          refine wpAnyH_done (by kernel_rfl) ?_ _
          go_wp2_with fail
          go_meet
          exact ⟨(W15).heap.size, w.heap.size, v23, rfl, hbs, hmS, hne23, hbS, by omega⟩
      · go_simp
        have hbx24 := Blk.new (W14) 93 #[.pointer none]
        have hb24 := hb14.alloc hb14.size (.cells #[.pointer none] 93)
        have hne24 : ¬ MF w.heap.size (.slice none 0 0) (W14).heap.size := fun e => by have := (hm14.foot _ e).2; omega
        have hm24 := hm14.alloc_ (.cells #[.pointer none] 93)
        have hz24 := hb14.size
        generalize hW24 : (W14).alloc (.cells #[.pointer none] 93) = W24 at *
        clear hW24
        refine hK.out _ _ (hS _ hb24) (fun hHeld2 => ?_)
        clear hK K hHeld
        have hHeld := hHeld2
        clear hHeld2
        try simp only [Act.put, List.setIfInBounds_toArray, List.set_cons_zero, List.set_cons_succ]
        refine wpAnyH_ready (rs := [5]) (by kernel_rfl) (by simp) ?_
        refine AllReadyH.cons (by (simp only [List.getElem?_toArray, List.getElem?_cons_succ, List.getElem?_cons_zero]; rfl)) (fun K hK => ?_) AllReadyH.nil
        go_simp
        refine (mnum_any w.heap.size _ _ _ sent _ hm24 (by omega) (by omega)).mono ?_
        rintro e W25 ⟨v25, rfl, hm25, hk25, hf25⟩
        rw [hp5] at hm25
        have hb25 := hb24.trans (hk25.below hb24.size (fun i hi e => by have := (hm24.foot i e).1; omega))
        have hbx25 := hbx24.kept hk25 hne24
        have hne25 : ¬ MF w.heap.size v25 (W14).heap.size := fun e => by
          have := hbx24.lt
          rcases hf25 _ e with e | e
          · exact hne24 e
          · omega
        refine hK.out _ _ (hS _ hb25) (fun hHeld2 => ?_)
        clear hK K hHeld
        have hHeld := hHeld2
        clear hHeld2
        try simp only [Act.put, List.setIfInBounds_toArray, List.set_cons_zero, List.set_cons_succ]
        refine wpAnyH_ready (rs := [10]) (by kernel_rfl) (by simp) ?_
        refine AllReadyH.cons (by (simp only [List.getElem?_toArray, List.getElem?_cons_succ, List.getElem?_cons_zero]; rfl)) (fun K hK => ?_) AllReadyH.nil
        go_simp
        refine (mnum_any w.heap.size _ _ _ mark _ hm25 (by omega) (by omega)).mono ?_
        rintro e W26 ⟨v26, rfl, hm26, hk26, hf26⟩
        rw [hp10] at hm26
        have hb26 := hb25.trans (hk26.below hb25.size (fun i hi e => by have := (hm25.foot i e).1; omega))
        have hbx26 := hbx25.kept hk26 hne25
        have hne26 : ¬ MF w.heap.size v26 (W14).heap.size := fun e => by
          have := hbx25.lt
          rcases hf26 _ e with e | e
          · exact hne25 e
          · omega
        refine hK.out _ _ (hS _ hb26) (fun hHeld2 => ?_)
        clear hK K hHeld
        have hHeld := hHeld2
        clear hHeld2
        try simp only [Act.put, List.setIfInBounds_toArray, List.set_cons_zero, List.set_cons_succ]
        refine wpAnyH_ready (rs := [16]) (by kernel_rfl) (by simp) ?_
        refine AllReadyH.cons (by (simp only [List.getElem?_toArray, List.getElem?_cons_succ, List.getElem?_cons_zero]; rfl)) (fun K hK => ?_) AllReadyH.nil
        go_simp
        refine (mnum_any w.heap.size _ _ _ (l.length : Int) _ hm26 (by omega) (by omega)).mono ?_
        rintro e W27 ⟨v27, rfl, hm27, hk27, hf27⟩
        rw [hp16] at hm27
        have hb27 := hb26.trans (hk27.below hb26.size (fun i hi e => by have := (hm26.foot i e).1; omega))
        have hbx27 := hbx26.kept hk27 hne26
        have hne27 : ¬ MF w.heap.size v27 (W14).heap.size := fun e => by
          have := hbx26.lt
          rcases hf27 _ e with e | e
          · exact hne26 e
          · omega
        refine hK.out _ _ (hS _ hb27) (fun hHeld2 => ?_)
        clear hK K hHeld
        have hHeld := hHeld2
        clear hHeld2
        try simp only [Act.put, List.setIfInBounds_toArray, List.set_cons_zero, List.set_cons_succ]
        have f0 := hbx27.frozen 0
        have q0 := hbx27.cell 0
        simp at q0
        have hlx := hbx27.lt
        refine wpAnyH_ready (rs := [18]) (by kernel_rfl) (by simp) ?_
        refine AllReadyH.cons (by (simp only [List.getElem?_toArray, List.getElem?_cons_succ, List.getElem?_cons_zero]; rfl)) (fun K hK => ?_) AllReadyH.nil
        go_simp
        have hbs := hbx27.set_ 0 (.pointer (some ⟨w.heap.size, 0, none⟩))
        simp only [List.setIfInBounds_toArray, List.set_cons_zero] at hbs
        have kS : Keep (fun k => k = (W14).heap.size) (W27) ((W27).setCell ⟨(W14).heap.size, 0, none⟩ (.pointer (some ⟨w.heap.size, 0, none⟩))) := (Keep.refl (fun k => k = (W14).heap.size) (W27)).setCell (p := ⟨(W14).heap.size, 0, none⟩) (fun _ => rfl) _
        have hmS := hm27.kept kS (fun i hi e => hne27 (by rw [← e]; exact hi))
        have hbS := hb27.setCell (p := ⟨(W14).heap.size, 0, none⟩) (by dsimp only; omega) (.pointer (some ⟨w.heap.size, 0, none⟩))
        refine hK.out _ _ (hS _ hbS) (fun hHeld2 => ?_)
        clear hK K hHeld
        have hHeld := hHeld2
        clear hHeld2
        try simp only [Act.put, List.setIfInBounds_toArray, List.set_cons_zero, List.set_cons_succ]
        refine wpAnyH_done (by kernel_rfl) ?_ _
        go_wp2_with fail
        go_meet
        exact ⟨(W14).heap.size, w.heap.size, v27, rfl, hbs, hmS, hne27, hbS, by omega⟩
    · go_simp
      have hbx28 := (Blk.new w 93 #[.pointer none]).drew
      have hb28 := ((Below.refl w.heap.size w).alloc (Nat.le_refl _) (.cells #[.pointer none] 93)).drew
      have hz28 := hbd.size
      generalize hW28 : (w.alloc (.cells #[.pointer none] 93)).drew = W28 at *
      clear hW28
      refine hK.out _ _ (hS _ hb28) (fun hHeld2 => ?_)
      clear hK K hHeld
      have hHeld := hHeld2
      clear hHeld2
      try simp only [Act.put, List.setIfInBounds_toArray, List.set_cons_zero, List.set_cons_succ]
      refine wpAnyH_ready (rs := [0]) (by kernel_rfl) (by simp) ?_
      refine AllReadyH.cons (by (simp only [List.getElem?_toArray, List.getElem?_cons_succ, List.getElem?_cons_zero]; rfl)) (fun K hK => ?_) AllReadyH.nil
      go_simp
      refine (new_any (W28)).mono ?_
      rintro e W29 ⟨rfl, hm29', hx29⟩
      have hb29 := hb28.trans (hx29.mono hb28.size)
      have hm29 := hm29'.low hb28.size
      have hbx29 := hbx28.kept (Keep.of_below hx29) (Nat.not_le.2 hbx28.lt)
      have hne29 : ¬ MF (W28).heap.size (.slice none 0 0) w.heap.size := fun e => by
        have := hbx28.lt
        rcases e with e | e
        · omega
        · cases e
      refine hK.out _ _ (hS _ hb29) (fun hHeld2 => ?_)
      clear hK K hHeld
      have hHeld := hHeld2
      clear hHeld2
      try simp only [Act.put, List.setIfInBounds_toArray, List.set_cons_zero, List.set_cons_succ]
      refine wpAnyH_ready (rs := [5]) (by kernel_rfl) (by simp) ?_
      refine AllReadyH.cons (by (simp only [List.getElem?_toArray, List.getElem?_cons_succ, List.getElem?_cons_zero]; rfl)) (fun K hK => ?_) AllReadyH.nil
      go_simp
      refine (mnum_any w.heap.size _ _ _ sent _ hm29 (by omega) (by omega)).mono ?_
      rintro e W30 ⟨v30, rfl, hm30, hk30, hf30⟩
      rw [hp5] at hm30
      have hb30 := hb29.trans (hk30.below hb29.size (fun i hi e => by have := (hm29.foot i e).1; omega))
      have hbx30 := hbx29.kept hk30 hne29
      have hne30 : ¬ MF (W28).heap.size v30 w.heap.size := fun e => by
        have := hbx29.lt
        rcases hf30 _ e with e | e
        · exact hne29 e
        · omega
      refine hK.out _ _ (hS _ hb30) (fun hHeld2 => ?_)
      clear hK K hHeld
      have hHeld := hHeld2
      clear hHeld2
      try simp only [Act.put, List.setIfInBounds_toArray, List.set_cons_zero, List.set_cons_succ]
      refine wpAnyH_ready (rs := [10]) (by kernel_rfl) (by simp) ?_
      refine AllReadyH.cons (by (simp only [List.getElem?_toArray, List.getElem?_cons_succ, List.getElem?_cons_zero]; rfl)) (fun K hK => ?_) AllReadyH.nil
      go_simp
      refine (mnum_any w.heap.size _ _ _ mark _ hm30 (by omega) (by omega)).mono ?_
      rintro e W31 ⟨v31, rfl, hm31, hk31, hf31⟩
      rw [hp10] at hm31
      have hb31 := hb30.trans (hk31.below hb30.size (fun i hi e => by have := (hm30.foot i e).1; omega))
      have hbx31 := hbx30.kept hk31 hne30
      have hne31 : ¬ MF (W28).heap.size v31 w.heap.size := fun e => by
        have := hbx30.lt
        rcases hf31 _ e with e | e
        · exact hne30 e
        · omega
      refine hK.out _ _ (hS _ hb31) (fun hHeld2 => ?_)
      clear hK K hHeld
      have hHeld := hHeld2
      clear hHeld2
      try simp only [Act.put, List.setIfInBounds_toArray, List.set_cons_zero, List.set_cons_succ]
      refine wpAnyH_ready (rs := [16]) (by kernel_rfl) (by simp) ?_
      refine AllReadyH.cons (by (simp only [List.getElem?_toArray, List.getElem?_cons_succ, List.getElem?_cons_zero]; rfl)) (fun K hK => ?_) AllReadyH.nil
      go_simp
      refine (mnum_any w.heap.size _ _ _ (l.length : Int) _ hm31 (by omega) (by omega)).mono ?_
      rintro e W32 ⟨v32, rfl, hm32, hk32, hf32⟩
      rw [hp16] at hm32
      have hb32 := hb31.trans (hk32.below hb31.size (fun i hi e => by have := (hm31.foot i e).1; omega))
      have hbx32 := hbx31.kept hk32 hne31
      have hne32 : ¬ MF (W28).heap.size v32 w.heap.size := fun e => by
        have := hbx31.lt
        rcases hf32 _ e with e | e
        · exact hne31 e
        · omega
      refine hK.out _ _ (hS _ hb32) (fun hHeld2 => ?_)
      clear hK K hHeld
      have hHeld := hHeld2
      clear hHeld2
      try simp only [Act.put, List.setIfInBounds_toArray, List.set_cons_zero, List.set_cons_succ]
      have f0 := hbx32.frozen 0
      have q0 := hbx32.cell 0
      simp at q0
      have hlx := hbx32.lt
      refine wpAnyH_ready (rs := [18]) (by kernel_rfl) (by simp) ?_
      refine AllReadyH.cons (by (simp only [List.getElem?_toArray, List.getElem?_cons_succ, List.getElem?_cons_zero]; rfl)) (fun K hK => ?_) AllReadyH.nil
      go_simp
      have hbs := hbx32.set_ 0 (.pointer (some ⟨(W28).heap.size, 0, none⟩))
      simp only [List.setIfInBounds_toArray, List.set_cons_zero] at hbs
      have kS : Keep (fun k => k = w.heap.size) (W32) ((W32).setCell ⟨w.heap.size, 0, none⟩ (.pointer (some ⟨(W28).heap.size, 0, none⟩))) := (Keep.refl (fun k => k = w.heap.size) (W32)).setCell (p := ⟨w.heap.size, 0, none⟩) (fun _ => rfl) _
      have hmS := hm32.kept kS (fun i hi e => hne32 (by rw [← e]; exact hi))
      have hbS := hb32.setCell (p := ⟨w.heap.size, 0, none⟩) (by dsimp only; omega) (.pointer (some ⟨(W28).heap.size, 0, none⟩))
      refine hK.out _ _ (hS _ hbS) (fun hHeld2 => ?_)
      clear hK K hHeld
      have hHeld := hHeld2
      clear hHeld2
      try simp only [Act.put, List.setIfInBounds_toArray, List.set_cons_zero, List.set_cons_succ]
      refine wpAnyH_done (by kernel_rfl) ?_ _
      go_wp2_with fail
      go_meet
      exact ⟨w.heap.size, (W28).heap.size, v32, rfl, hbs, hmS, hne32, hbS, by omega⟩
  case rest =>
    obtain ⟨bm, g, v, rfl, hbx, hm, hne, hb, hbm⟩ := hcut
    have hea := each_pack w.heap.size p bm g sent mark _ l w wc hV rfl hb hok hll HC hHL v hm hne hbx hbm
    rw [hhid.out] at hea
    clear hm hne hbx hb hp5 hp10 hp16
    go_wp2_with fail
    refine hea.mono ?_
    rintro e w2 ⟨rfl, v2, hm2, hne2, hbx2, hb2⟩
    have q0 := hbx2.cell 0
    simp at q0
    have hd := mdone_any w.heap.size g v2 _ w2 hm2
    clear hea
    go_wp2_with fail
    refine hd.mono ?_
    rintro e w4 ⟨hb4, A4, c4, rfl, h41, h42, h43, h44⟩
    have hb5 := hb2.trans (hb4.mono hb2.size)
    clear hd hm2 hne2 hbx2
    go_wp2
    go_ret
    exact ⟨A4, c4, rfl, h41, h42, h43, hb5, fun ad e => by have := (h44 ad e).1; have := hb2.size; omega⟩
end Go.Proofs.Ytfgceplafjbmhaa
