/- link: new memory of bytes; try. No condition but that the bodies lie in memory. -/
import Derived.Test.YtfgceplafjbmhaaLkW
import Derived.Test.YtfgceplafjbmhaaWaitC
import Derived.Deep.RegionHeld
namespace Go.Proofs.Ytfgceplafjbmhaa
open Go.RowKit
set_option linter.unusedVariables false
set_option linter.unusedSimpArgs false

theorem lfreshS_any (l : List UInt8) (w : World) (hn : l.length ≤ 140737488355328) :
    Calls Try.prog 54 #[.string ⟨l.toArray⟩] w fun e w' => ∃ v', e = .returned v' ∧ Grew w.heap.size w (.slice none 0 0) w' v' l := by
  go_enter Try.func54, Try.ntmps54
  go_wp2_with (at_builtin; refine wpAppStr rfl _ (.tmp 3) rfl w.heap.size (.slice none 0 0) [] rfl (OB.nil _ _) ⟨l.toArray⟩ rfl (by simp [ByteArray.size]; omega) (Nat.le_refl _) ?_; intro v1 w1 hg1)
  go_ret
  exact ⟨v1, rfl, by simpa using hg1⟩
theorem lfreshB_any (A : Option Addr) (n c : Nat) (l : List UInt8) (w : World) (hr : RB w A n l) (hn : n ≤ 140737488355328) :
    Calls Try.prog 46 #[.slice A n c] w fun e w' => ∃ v', e = .returned v' ∧ Grew w.heap.size w (.slice none 0 0) w' v' l := by
  go_enter Try.func46, Try.ntmps46
  go_wp2_with (at_builtin; refine wpApp rfl _ (.tmp 3) rfl w.heap.size _ [] rfl (OB.nil _ _) A n c l rfl hr (by simp; omega) (Nat.le_refl _) ?_; intro v1 w1 hg1)
  go_ret
  exact ⟨v1, rfl, hg1⟩

/-- Three cells filled. -/
theorem fill3 {w : World} {g : Nat} {t : TypeId} {z0 z1 z2 : Value} (h : Blk w g t #[z0, z1, z2]) (x0 x1 x2 : Value) : Blk (((w.setCell ⟨g, 0, none⟩ x0).setCell ⟨g, 1, none⟩ x1).setCell ⟨g, 2, none⟩ x2) g t #[x0, x1, x2] := by
  have := ((h.set_ 0 x0).set_ 1 x1).set_ 2 x2
  simpa using this
theorem keep3 (w : World) (g : Nat) (x0 x1 x2 : Value) : Keep (fun k => k = g) w (((w.setCell ⟨g, 0, none⟩ x0).setCell ⟨g, 1, none⟩ x1).setCell ⟨g, 2, none⟩ x2) :=
  (((Keep.refl (fun k => k = g) w).setCell (p := ⟨g, 0, none⟩) (fun _ => rfl) x0).setCell (p := ⟨g, 1, none⟩) (fun _ => rfl) x1).setCell (p := ⟨g, 2, none⟩) (fun _ => rfl) x2
theorem lt_keep {S : Nat → Prop} {w w' : World} {g : Nat} {t : TypeId} {cs : Array Value} (h : Blk w g t cs) (k : Keep S w w') : g < w'.heap.size := Nat.lt_of_lt_of_le h.lt k.size

/-- A body that is tried. -/
def triedB (now : Int) (b : Bd) : Bd := ⟨b.seq, b.text, upT b.tries, nextN now 2 16 b.tries⟩
/-- What try answers. -/
def TryPost (base : Nat) (w : World) (g n cap : Nat) (mark : Int) (l : List Bd) (j : Nat) (b : Bd) (now : Int) (e : Ending) (w' : World) : Prop :=
  ∃ v, e = .returned (.agg #[.int .i64 b.seq, .int .i64 mark, v]) ∧ OB w.heap.size w' v b.text ∧ BO base w' (.slice (some ⟨g, 0, none⟩) n cap) (l.set j (triedB now b)) ∧ Keep (fun k => k = g) w w'
set_option maxRecDepth 100000 in
set_option maxHeartbeats 3200000 in
theorem try_any (base p g n cap : Nat) (sent mark now : Int) (v0 : Value) (l : List Bd) (j : Nat) (b : Bd) (w : World) (hE : Blk w p 79 #[.int .i64 sent, .int .i64 mark, v0]) (hB : BO base w (.slice (some ⟨g, 0, none⟩) n cap) l) (hn : l.length = n) (hj : l[j]? = some b) (htr : b.tries ≤ 9223372036854775807) (htr0 : 0 ≤ b.tries) (htx : b.text.length ≤ 2048) (hpg : p ≠ g)
    (hn0 : -9223372036854775808 ≤ now) (hn1 : now ≤ 9223372036854775807) :
    Calls Try.prog 40 #[.pointer (some ⟨p, 0, none⟩), .pointer (some ⟨g, j * 4, none⟩), .int .i64 now] w (TryPost base w g n cap mark l j b now) := by
  obtain ⟨s, tx, tr, du⟩ := b
  have hgl : g < w.heap.size := (hB.lt g rfl).2
  have hpl := hE.lt
  dsimp only at htr htr0 htx
  have rows : ∀ (W : World) (l' : List Bd) (x : Bd), BO base W (.slice (some ⟨g, 0, none⟩) n cap) l' → l'[j]? = some x → W.cell? ⟨g, j * 4, none⟩ = some (.int .i64 x.seq) ∧ W.cell? ⟨g, j * 4 + 1, none⟩ = some (.string ⟨x.text.toArray⟩) ∧ W.cell? ⟨g, j * 4 + 2, none⟩ = some (.int .i64 x.tries) ∧ W.cell? ⟨g, j * 4 + 3, none⟩ = some (.int .i64 x.due) := by
    intro W l' x h hx
    obtain ⟨A, c, e, _, _, _, _, h3⟩ := h.form
    obtain ⟨b, e2, hc⟩ := h3 j x hx
    cases e
    cases e2
    exact ⟨hc 0 _ rfl, hc 1 _ rfl, hc 2 _ rfl, hc 3 _ rfl⟩
  have hne : w.heap.size ≠ g := by omega
  generalize hd : nextN now 2 16 tr = d
  have hnx := fun W => next_any now 2 16 tr W (by omega) htr hn0 hn1
  rw [hd] at hnx
  obtain ⟨c0, c1, c2, c3⟩ := rows _ l _ hB hj
  dsimp only at c0 c1 c2 c3
  have f3 := hB.fz (g := g) rfl (j * 4 + 3)
  have hb2 := hB.put hn j 3 ⟨s, tx, tr, du⟩ ⟨s, tx, tr, d⟩ (.int .i64 d) hj rfl (by omega)
  have hk12 : Keep (fun k => k = g) w (w.setCell ⟨g, j * 4 + 3, none⟩ (.int .i64 d)) := (Keep.refl (fun k => k = g) _).setCell (p := ⟨g, j * 4 + 3, none⟩) (fun _ => rfl) (.int .i64 d)
  have hp2 := hE.kept hk12 hpg
  have hj2 : (l.set j ⟨s, tx, tr, d⟩)[j]? = some ⟨s, tx, tr, d⟩ := by
    rw [List.getElem?_set_self (List.getElem?_eq_some_iff.1 hj).1]
  have hn2 : (l.set j ⟨s, tx, tr, d⟩).length = n := by rw [List.length_set]; exact hn
  have hz2 : (w.setCell ⟨g, j * 4 + 3, none⟩ (.int .i64 d)).heap.size = w.heap.size := by simp [World.setCell]
  obtain ⟨e0, e1, e2, e3⟩ := rows _ _ _ hb2 hj2
  dsimp only at e0 e1 e2 e3
  have f2 := hb2.fz (g := g) rfl (j * 4 + 2)
  have HD := Lib.hid hd
  clear hd e0 e1 e3 c0 c1
  by_cases hlt : tr < 9223372036854775807
  · have hdc : decide (tr < 9223372036854775807) = true := decide_eq_true hlt
    have hup : upT tr = tr + 1 := by unfold upT topI; rw [if_pos hlt]
    have hs1 : tr + 1 ≤ 9223372036854775807 := by omega
    have htd : triedB now ⟨s, tx, tr, du⟩ = ⟨s, tx, tr + 1, d⟩ := by unfold triedB; rw [hup, HD.out]
    have hb3 := hb2.put hn2 j 2 ⟨s, tx, tr, d⟩ ⟨s, tx, tr + 1, d⟩ (.int .i64 (tr + 1)) hj2 rfl (by omega)
    rw [List.set_set] at hb3
    have hk23 : Keep (fun k => k = g) (w.setCell ⟨g, j * 4 + 3, none⟩ (.int .i64 d)) ((w.setCell ⟨g, j * 4 + 3, none⟩ (.int .i64 d)).setCell ⟨g, j * 4 + 2, none⟩ (.int .i64 (tr + 1))) := (Keep.refl (fun k => k = g) _).setCell (p := ⟨g, j * 4 + 2, none⟩) (fun _ => rfl) _
    have hk3 := hk12.trans hk23 (fun i hi e => e)
    have hp3 := hp2.kept hk23 hpg
    have HTD := Lib.hid htd
    clear htd hup hb2 hp2 hk23 hk12 hj2 hn2
    have hj3 : (l.set j ⟨s, tx, tr + 1, d⟩)[j]? = some ⟨s, tx, tr + 1, d⟩ := by
      rw [List.getElem?_set_self (List.getElem?_eq_some_iff.1 hj).1]
    go_enter Try.func40, Try.ntmps40
    go_wp2_with fail
    refine (hnx _).mono ?_
    rintro e w' ⟨rfl, rfl⟩
    go_wp2_with fail
    have hz3 : ((w.setCell ⟨g, j * 4 + 3, none⟩ (.int .i64 d)).setCell ⟨g, j * 4 + 2, none⟩ (.int .i64 (tr + 1))).heap.size = w.heap.size := by simp [World.setCell]
    generalize (w.setCell ⟨g, j * 4 + 3, none⟩ (.int .i64 d)).setCell ⟨g, j * 4 + 2, none⟩ (.int .i64 (tr + 1)) = V3 at *
    have hq3' := Blk.new V3 32 #[.int .i64 0, .int .i64 0, .slice none 0 0]
    rw [hz3] at hq3'
    replace hb3 := hb3.alloc (.cells #[.int .i64 0, .int .i64 0, .slice none 0 0] 32)
    replace hp3 := hp3.alloc (.cells #[.int .i64 0, .int .i64 0, .slice none 0 0] 32)
    replace hk3 := hk3.alloc (.cells #[.int .i64 0, .int .i64 0, .slice none 0 0] 32)
    have hq3 := hq3'
    clear hq3' c2 c3 e2 f2 f3 hnx
    generalize V3.alloc (.cells #[.int .i64 0, .int .i64 0, .slice none 0 0] 32) = W3 at *
    obtain ⟨h0, h1, h2, h3⟩ := rows _ _ _ hb3.drew hj3
    have m3 := hp3.drew.cell 1
    dsimp only at h0 h1 h2 h3
    simp at m3
    have hz3 := hk3.size
    refine wp_region_held_drew (S := (fun w' => w'.cell? ⟨g, j * 4, none⟩ = some (.int .i64 s) ∧ w'.cell? ⟨p, 1, none⟩ = some (.int .i64 mark) ∧ w'.cell? ⟨g, j * 4 + 1, none⟩ = some (.string ⟨tx.toArray⟩))) (by kernel_rfl) ⟨h0, m3, h1⟩ (fun hHeld => ?_)
    refine wpAnyH_take (i := 0) (oi := ?oi0A) (v := ?v0A) ?hi0A (by kernel_rfl) (by kernel_rfl) (by kernel_rfl) ?hq0A (Or.inl ⟨?hw0A, ?hy0A⟩) (by assumption) ?rest0A
    case hi0A => (simp only [List.getElem?_toArray, List.getElem?_cons_succ, List.getElem?_cons_zero]; rfl)
    case hq0A => exact fun _ _ _ h => h
    case hw0A => rfl
    case hy0A => (intro w hSw; (try dsimp only at hSw); go_simp <;> with_reducible rfl)
    try simp only [Act.put, List.setIfInBounds_toArray, List.set_cons_zero, List.set_cons_succ]
    refine wpAnyH_take (i := 1) (oi := ?oi1A) (v := ?v1A) ?hi1A (by kernel_rfl) (by kernel_rfl) (by kernel_rfl) ?hq1A (Or.inl ⟨?hw1A, ?hy1A⟩) (by assumption) ?rest1A
    case hi1A => (simp only [List.getElem?_toArray, List.getElem?_cons_succ, List.getElem?_cons_zero]; rfl)
    case hq1A => exact fun _ _ _ h => h
    case hw1A => rfl
    case hy1A => (intro w hSw; (try dsimp only at hSw); go_simp <;> with_reducible rfl)
    try simp only [Act.put, List.setIfInBounds_toArray, List.set_cons_zero, List.set_cons_succ]
    refine wpAnyH_take (i := 2) (oi := ?oi2A) (v := ?v2A) ?hi2A (by kernel_rfl) (by kernel_rfl) (by kernel_rfl) ?hq2A (Or.inl ⟨?hw2A, ?hy2A⟩) (by assumption) ?rest2A
    case hi2A => (simp only [List.getElem?_toArray, List.getElem?_cons_succ, List.getElem?_cons_zero]; rfl)
    case hq2A => exact fun _ _ _ h => h
    case hw2A => rfl
    case hy2A => (intro w hSw; (try dsimp only at hSw); go_simp <;> with_reducible rfl)
    try simp only [Act.put, List.setIfInBounds_toArray, List.set_cons_zero, List.set_cons_succ]
    refine wpAnyH_take (i := 3) (oi := ?oi3A) (v := ?v3A) ?hi3A (by kernel_rfl) (by kernel_rfl) (by kernel_rfl) ?hq3A (Or.inl ⟨?hw3A, ?hy3A⟩) (by assumption) ?rest3A
    case hi3A => (simp only [List.getElem?_toArray, List.getElem?_cons_succ, List.getElem?_cons_zero]; rfl)
    case hq3A => exact fun _ _ _ h => h
    case hw3A => rfl
    case hy3A => (intro w hSw; (try dsimp only at hSw); go_simp <;> with_reducible rfl)
    try simp only [Act.put, List.setIfInBounds_toArray, List.set_cons_zero, List.set_cons_succ]
    refine wpAnyH_take (i := 4) (oi := ?oi4A) (v := ?v4A) ?hi4A (by kernel_rfl) (by kernel_rfl) (by kernel_rfl) ?hq4A (Or.inl ⟨?hw4A, ?hy4A⟩) (by assumption) ?rest4A
    case hi4A => (simp only [List.getElem?_toArray, List.getElem?_cons_succ, List.getElem?_cons_zero]; rfl)
    case hq4A => exact fun _ _ _ h => h
    case hw4A => rfl
    case hy4A => (intro w hSw; (try dsimp only at hSw); go_simp <;> with_reducible rfl)
    try simp only [Act.put, List.setIfInBounds_toArray, List.set_cons_zero, List.set_cons_succ]
    refine wpAnyH_take (i := 5) (oi := ?oi5A) (v := ?v5A) ?hi5A (by kernel_rfl) (by kernel_rfl) (by kernel_rfl) ?hq5A (Or.inl ⟨?hw5A, ?hy5A⟩) (by assumption) ?rest5A
    case hi5A => (simp only [List.getElem?_toArray, List.getElem?_cons_succ, List.getElem?_cons_zero]; rfl)
    case hq5A => exact fun _ _ _ h => h
    case hw5A => rfl
    case hy5A => (intro w hSw; (try dsimp only at hSw); go_simp <;> with_reducible rfl)
    try simp only [Act.put, List.setIfInBounds_toArray, List.set_cons_zero, List.set_cons_succ]
    refine wpAnyH_take (i := 6) (oi := ?oi6A) (v := ?v6A) ?hi6A (by kernel_rfl) (by kernel_rfl) (by kernel_rfl) ?hq6A (Or.inl ⟨?hw6A, ?hy6A⟩) (by assumption) ?rest6A
    case hi6A => (simp only [List.getElem?_toArray, List.getElem?_cons_succ, List.getElem?_cons_zero]; rfl)
    case hq6A => exact fun _ _ _ h => h
    case hw6A => rfl
    case hy6A => (intro w hSw; (try dsimp only at hSw); go_simp <;> with_reducible rfl)
    try simp only [Act.put, List.setIfInBounds_toArray, List.set_cons_zero, List.set_cons_succ]
    refine wpAnyH_take (i := 7) (oi := ?oi7A) (v := ?v7A) ?hi7A (by kernel_rfl) (by kernel_rfl) (by kernel_rfl) ?hq7A (Or.inl ⟨?hw7A, ?hy7A⟩) (by assumption) ?rest7A
    case hi7A => (simp only [List.getElem?_toArray, List.getElem?_cons_succ, List.getElem?_cons_zero]; rfl)
    case hq7A => exact fun _ _ _ h => h
    case hw7A => rfl
    case hy7A => (intro w hSw; (try dsimp only at hSw); go_simp <;> with_reducible rfl)
    try simp only [Act.put, List.setIfInBounds_toArray, List.set_cons_zero, List.set_cons_succ]
    refine wpAnyH_take (i := 8) (oi := ?oi8A) (v := ?v8A) ?hi8A (by kernel_rfl) (by kernel_rfl) (by kernel_rfl) ?hq8A (Or.inl ⟨?hw8A, ?hy8A⟩) (by assumption) ?rest8A
    case hi8A => (simp only [List.getElem?_toArray, List.getElem?_cons_succ, List.getElem?_cons_zero]; rfl)
    case hq8A => exact fun _ _ _ h => h
    case hw8A => rfl
    case hy8A => (intro w hSw; (try dsimp only at hSw); go_simp <;> with_reducible rfl)
    try simp only [Act.put, List.setIfInBounds_toArray, List.set_cons_zero, List.set_cons_succ]
    refine wpAnyH_take (i := 9) (oi := ?oi9A) (v := ?v9A) ?hi9A (by kernel_rfl) (by kernel_rfl) (by kernel_rfl) ?hq9A (Or.inl ⟨?hw9A, ?hy9A⟩) (by assumption) ?rest9A
    case hi9A => (simp only [List.getElem?_toArray, List.getElem?_cons_succ, List.getElem?_cons_zero]; rfl)
    case hq9A => exact fun _ _ _ h => h
    case hw9A => rfl
    case hy9A => (intro w hSw; (try dsimp only at hSw); go_simp <;> with_reducible rfl)
    try simp only [Act.put, List.setIfInBounds_toArray, List.set_cons_zero, List.set_cons_succ]
    refine wpAnyH_take (i := 10) (oi := ?oi10A) (v := ?v10A) ?hi10A (by kernel_rfl) (by kernel_rfl) (by kernel_rfl) ?hq10A (Or.inl ⟨?hw10A, ?hy10A⟩) (by assumption) ?rest10A
    case hi10A => (simp only [List.getElem?_toArray, List.getElem?_cons_succ, List.getElem?_cons_zero]; rfl)
    case hq10A => exact fun _ _ _ h => h
    case hw10A => rfl
    case hy10A => (intro w hSw; (try dsimp only at hSw); go_simp <;> with_reducible rfl)
    try simp only [Act.put, List.setIfInBounds_toArray, List.set_cons_zero, List.set_cons_succ]
    refine wpAnyH_take (i := 11) (oi := ?oi11A) (v := ?v11A) ?hi11A (by kernel_rfl) (by kernel_rfl) (by kernel_rfl) ?hq11A (Or.inl ⟨?hw11A, ?hy11A⟩) (by assumption) ?rest11A
    case hi11A => (simp only [List.getElem?_toArray, List.getElem?_cons_succ, List.getElem?_cons_zero]; rfl)
    case hq11A => exact fun _ _ _ h => h
    case hw11A => rfl
    case hy11A => (intro w hSw; (try dsimp only at hSw); go_simp <;> with_reducible rfl)
    try simp only [Act.put, List.setIfInBounds_toArray, List.set_cons_zero, List.set_cons_succ]
    refine wpAnyH_ready (rs := [12]) (by kernel_rfl) (by simp) ?_
    refine AllReadyH.cons (o := ?o12A) ?hi12A (fun K hK => ?st12A) AllReadyH.nil
    case hi12A => (simp only [List.getElem?_toArray, List.getElem?_cons_succ, List.getElem?_cons_zero]; rfl)
    go_simp
    refine (lfreshS_any tx _ (by omega)).mono ?_
    rintro e W4 ⟨v4, rfl, hg4⟩
    have hx4 : Below W3.drew.heap.size W3.drew W4 := hg4.fresh
    have ho4 : OB W3.drew.heap.size W4 v4 tx := hg4.own
    obtain ⟨A4, c4, hf4, hl4, hm4, hr4, hA4⟩ := ho4.form
    clear hg4 hl4 hm4 hr4 hA4
    subst hf4
    have hz4 : W3.heap.size ≤ W4.heap.size := hx4.size
    have hkx4 : Keep (fun k => W3.heap.size ≤ k) W3.drew W4 := Keep.of_below hx4
    have hb4 := hb3.drew.below hx4
    have hp4 := hp3.drew.kept hkx4 (Nat.not_le.2 hp3.lt)
    have hq4 := hq3.drew.kept hkx4 (Nat.not_le.2 hq3.lt)
    have hk4 : Keep (fun k => k = g) w W4 := hk3.drew.trans hkx4 (fun i hi e => absurd e (by have := hk3.size; omega))
    obtain ⟨i0, i1, i2, i3⟩ := rows _ _ _ hb4 hj3
    have m4 := hp4.cell 1
    dsimp only at i0 i1 i2 i3
    simp at m4
    go_wp2_with fail
    refine hK.out _ _ ⟨i0, m4, i1⟩ (fun hHeld2 => ?_)
    clear hK K hHeld
    have hHeld := hHeld2
    clear hHeld2
    try simp only [Act.put, List.setIfInBounds_toArray, List.set_cons_zero, List.set_cons_succ]
    refine wpAnyH_take (i := 13) (oi := ?oi13A) (v := ?v13A) ?hi13A (by kernel_rfl) (by kernel_rfl) (by kernel_rfl) ?hq13A (Or.inl ⟨?hw13A, ?hy13A⟩) (by assumption) ?rest13A
    case hi13A => (simp only [List.getElem?_toArray, List.getElem?_cons_succ, List.getElem?_cons_zero]; rfl)
    case hq13A => exact fun _ _ _ h => h
    case hw13A => rfl
    case hy13A => (intro w hSw; (try dsimp only at hSw); go_simp <;> with_reducible rfl)
    try simp only [Act.put, List.setIfInBounds_toArray, List.set_cons_zero, List.set_cons_succ]
    refine wpAnyH_ready (rs := [14]) (by kernel_rfl) (by simp) ?_
    refine AllReadyH.cons (o := ?o14A) ?hi14A (fun K hK => ?st14A) AllReadyH.nil
    case hi14A => (simp only [List.getElem?_toArray, List.getElem?_cons_succ, List.getElem?_cons_zero]; rfl)
    go_simp
    have hSz0 := hq4.cell 0
    have hSz1 := hq4.cell 1
    have hSz2 := hq4.cell 2
    have hFz := fun i => hq4.frozen i
    simp at hSz0 hSz1 hSz2
    have hv4 := ho4.one_cell'
    go_simp
    have hqE := fill3 hq4 (.int .i64 s) (.int .i64 mark) (.slice A4 tx.length c4)
    have hkE := keep3 W4 w.heap.size (.int .i64 s) (.int .i64 mark) (.slice A4 tx.length c4)
    generalize ((W4.setCell ⟨w.heap.size, 0, none⟩ (.int .i64 s)).setCell ⟨w.heap.size, 1, none⟩ (.int .i64 mark)).setCell ⟨w.heap.size, 2, none⟩ (.slice A4 tx.length c4) = WE at hqE hkE ⊢
    have hbE := hb4.kept hkE (fun q hq e => by simp [Value.ownBlock] at hq; omega)
    have hpE := hp4.kept hkE (by omega)
    have hoE := ho4.kept hkE (fun q hq e => by have := (ho4.lt q hq).1; have h3 := hq3.lt; have : W3.heap.size ≤ q := this; omega)
    have hkwE : Keep (fun k => k = g) w WE := hk4.trans (hkE.mono (T := fun k => k = w.heap.size) (fun _ _ e => e)) (fun i hi e => by omega)
    obtain ⟨y0, y1, y2, y3⟩ := rows _ _ _ hbE hj3
    have mE := hpE.cell 1
    dsimp only at y0 y1 y2 y3
    simp at mE
    refine hK.out _ _ ⟨y0, mE, y1⟩ (fun hHeld2 => ?_)
    clear hK K hHeld
    have hHeld := hHeld2
    clear hHeld2
    try simp only [Act.put, List.setIfInBounds_toArray, List.set_cons_zero, List.set_cons_succ]
    refine wpAnyH_done (by kernel_rfl) ?_ _
    go_wp2
    obtain ⟨q0, q1, q2⟩ := (⟨hqE.cell 0, hqE.cell 1, hqE.cell 2⟩ : _ ∧ _ ∧ _)
    simp at q0 q1 q2
    refine bodyPost_ret (v := .agg #[.int .i64 s, .int .i64 mark, .slice A4 tx.length c4]) (by simp [results, Try.results40, go_sem, q0, q1, q2]) rfl ?_
    refine ⟨_, rfl, hoE.mono (by have := hk3.size; exact this), ?_, hkwE⟩
    rw [HTD.out]
    exact hbE
  · have hdc : decide (tr < 9223372036854775807) = false := decide_eq_false hlt
    have hup : upT tr = tr := by unfold upT topI; rw [if_neg hlt]
    have htd : triedB now ⟨s, tx, tr, du⟩ = ⟨s, tx, tr, d⟩ := by unfold triedB; rw [hup, HD.out]
    have HTD := Lib.hid htd
    clear htd hup
    go_enter Try.func40, Try.ntmps40
    go_wp2_with fail
    refine (hnx _).mono ?_
    rintro e w' ⟨rfl, rfl⟩
    go_wp2_with fail
    generalize w.setCell ⟨g, j * 4 + 3, none⟩ (.int .i64 d) = V3 at *
    obtain ⟨hb3, hp3, hk3, hj3, hz3⟩ := And.intro hb2 (And.intro hp2 (And.intro hk12 (And.intro hj2 hz2)))
    clear hb2 hp2 hk12 hj2 hn2 hz2
    have hq3' := Blk.new V3 32 #[.int .i64 0, .int .i64 0, .slice none 0 0]
    rw [hz3] at hq3'
    replace hb3 := hb3.alloc (.cells #[.int .i64 0, .int .i64 0, .slice none 0 0] 32)
    replace hp3 := hp3.alloc (.cells #[.int .i64 0, .int .i64 0, .slice none 0 0] 32)
    replace hk3 := hk3.alloc (.cells #[.int .i64 0, .int .i64 0, .slice none 0 0] 32)
    have hq3 := hq3'
    clear hq3' c2 c3 e2 f2 f3 hnx
    generalize V3.alloc (.cells #[.int .i64 0, .int .i64 0, .slice none 0 0] 32) = W3 at *
    obtain ⟨h0, h1, h2, h3⟩ := rows _ _ _ hb3.drew hj3
    have m3 := hp3.drew.cell 1
    dsimp only at h0 h1 h2 h3
    simp at m3
    have hz3 := hk3.size
    refine wp_region_held_drew (S := (fun w' => w'.cell? ⟨g, j * 4, none⟩ = some (.int .i64 s) ∧ w'.cell? ⟨p, 1, none⟩ = some (.int .i64 mark) ∧ w'.cell? ⟨g, j * 4 + 1, none⟩ = some (.string ⟨tx.toArray⟩))) (by kernel_rfl) ⟨h0, m3, h1⟩ (fun hHeld => ?_)
    refine wpAnyH_take (i := 0) (oi := ?oi0B) (v := ?v0B) ?hi0B (by kernel_rfl) (by kernel_rfl) (by kernel_rfl) ?hq0B (Or.inl ⟨?hw0B, ?hy0B⟩) (by assumption) ?rest0B
    case hi0B => (simp only [List.getElem?_toArray, List.getElem?_cons_succ, List.getElem?_cons_zero]; rfl)
    case hq0B => exact fun _ _ _ h => h
    case hw0B => rfl
    case hy0B => (intro w hSw; (try dsimp only at hSw); go_simp <;> with_reducible rfl)
    try simp only [Act.put, List.setIfInBounds_toArray, List.set_cons_zero, List.set_cons_succ]
    refine wpAnyH_take (i := 1) (oi := ?oi1B) (v := ?v1B) ?hi1B (by kernel_rfl) (by kernel_rfl) (by kernel_rfl) ?hq1B (Or.inl ⟨?hw1B, ?hy1B⟩) (by assumption) ?rest1B
    case hi1B => (simp only [List.getElem?_toArray, List.getElem?_cons_succ, List.getElem?_cons_zero]; rfl)
    case hq1B => exact fun _ _ _ h => h
    case hw1B => rfl
    case hy1B => (intro w hSw; (try dsimp only at hSw); go_simp <;> with_reducible rfl)
    try simp only [Act.put, List.setIfInBounds_toArray, List.set_cons_zero, List.set_cons_succ]
    refine wpAnyH_take (i := 2) (oi := ?oi2B) (v := ?v2B) ?hi2B (by kernel_rfl) (by kernel_rfl) (by kernel_rfl) ?hq2B (Or.inl ⟨?hw2B, ?hy2B⟩) (by assumption) ?rest2B
    case hi2B => (simp only [List.getElem?_toArray, List.getElem?_cons_succ, List.getElem?_cons_zero]; rfl)
    case hq2B => exact fun _ _ _ h => h
    case hw2B => rfl
    case hy2B => (intro w hSw; (try dsimp only at hSw); go_simp <;> with_reducible rfl)
    try simp only [Act.put, List.setIfInBounds_toArray, List.set_cons_zero, List.set_cons_succ]
    refine wpAnyH_take (i := 3) (oi := ?oi3B) (v := ?v3B) ?hi3B (by kernel_rfl) (by kernel_rfl) (by kernel_rfl) ?hq3B (Or.inl ⟨?hw3B, ?hy3B⟩) (by assumption) ?rest3B
    case hi3B => (simp only [List.getElem?_toArray, List.getElem?_cons_succ, List.getElem?_cons_zero]; rfl)
    case hq3B => exact fun _ _ _ h => h
    case hw3B => rfl
    case hy3B => (intro w hSw; (try dsimp only at hSw); go_simp <;> with_reducible rfl)
    try simp only [Act.put, List.setIfInBounds_toArray, List.set_cons_zero, List.set_cons_succ]
    refine wpAnyH_take (i := 4) (oi := ?oi4B) (v := ?v4B) ?hi4B (by kernel_rfl) (by kernel_rfl) (by kernel_rfl) ?hq4B (Or.inl ⟨?hw4B, ?hy4B⟩) (by assumption) ?rest4B
    case hi4B => (simp only [List.getElem?_toArray, List.getElem?_cons_succ, List.getElem?_cons_zero]; rfl)
    case hq4B => exact fun _ _ _ h => h
    case hw4B => rfl
    case hy4B => (intro w hSw; (try dsimp only at hSw); go_simp <;> with_reducible rfl)
    try simp only [Act.put, List.setIfInBounds_toArray, List.set_cons_zero, List.set_cons_succ]
    refine wpAnyH_take (i := 5) (oi := ?oi5B) (v := ?v5B) ?hi5B (by kernel_rfl) (by kernel_rfl) (by kernel_rfl) ?hq5B (Or.inl ⟨?hw5B, ?hy5B⟩) (by assumption) ?rest5B
    case hi5B => (simp only [List.getElem?_toArray, List.getElem?_cons_succ, List.getElem?_cons_zero]; rfl)
    case hq5B => exact fun _ _ _ h => h
    case hw5B => rfl
    case hy5B => (intro w hSw; (try dsimp only at hSw); go_simp <;> with_reducible rfl)
    try simp only [Act.put, List.setIfInBounds_toArray, List.set_cons_zero, List.set_cons_succ]
    refine wpAnyH_take (i := 6) (oi := ?oi6B) (v := ?v6B) ?hi6B (by kernel_rfl) (by kernel_rfl) (by kernel_rfl) ?hq6B (Or.inl ⟨?hw6B, ?hy6B⟩) (by assumption) ?rest6B
    case hi6B => (simp only [List.getElem?_toArray, List.getElem?_cons_succ, List.getElem?_cons_zero]; rfl)
    case hq6B => exact fun _ _ _ h => h
    case hw6B => rfl
    case hy6B => (intro w hSw; (try dsimp only at hSw); go_simp <;> with_reducible rfl)
    try simp only [Act.put, List.setIfInBounds_toArray, List.set_cons_zero, List.set_cons_succ]
    refine wpAnyH_take (i := 7) (oi := ?oi7B) (v := ?v7B) ?hi7B (by kernel_rfl) (by kernel_rfl) (by kernel_rfl) ?hq7B (Or.inl ⟨?hw7B, ?hy7B⟩) (by assumption) ?rest7B
    case hi7B => (simp only [List.getElem?_toArray, List.getElem?_cons_succ, List.getElem?_cons_zero]; rfl)
    case hq7B => exact fun _ _ _ h => h
    case hw7B => rfl
    case hy7B => (intro w hSw; (try dsimp only at hSw); go_simp <;> with_reducible rfl)
    try simp only [Act.put, List.setIfInBounds_toArray, List.set_cons_zero, List.set_cons_succ]
    refine wpAnyH_take (i := 8) (oi := ?oi8B) (v := ?v8B) ?hi8B (by kernel_rfl) (by kernel_rfl) (by kernel_rfl) ?hq8B (Or.inl ⟨?hw8B, ?hy8B⟩) (by assumption) ?rest8B
    case hi8B => (simp only [List.getElem?_toArray, List.getElem?_cons_succ, List.getElem?_cons_zero]; rfl)
    case hq8B => exact fun _ _ _ h => h
    case hw8B => rfl
    case hy8B => (intro w hSw; (try dsimp only at hSw); go_simp <;> with_reducible rfl)
    try simp only [Act.put, List.setIfInBounds_toArray, List.set_cons_zero, List.set_cons_succ]
    refine wpAnyH_take (i := 9) (oi := ?oi9B) (v := ?v9B) ?hi9B (by kernel_rfl) (by kernel_rfl) (by kernel_rfl) ?hq9B (Or.inl ⟨?hw9B, ?hy9B⟩) (by assumption) ?rest9B
    case hi9B => (simp only [List.getElem?_toArray, List.getElem?_cons_succ, List.getElem?_cons_zero]; rfl)
    case hq9B => exact fun _ _ _ h => h
    case hw9B => rfl
    case hy9B => (intro w hSw; (try dsimp only at hSw); go_simp <;> with_reducible rfl)
    try simp only [Act.put, List.setIfInBounds_toArray, List.set_cons_zero, List.set_cons_succ]
    refine wpAnyH_take (i := 10) (oi := ?oi10B) (v := ?v10B) ?hi10B (by kernel_rfl) (by kernel_rfl) (by kernel_rfl) ?hq10B (Or.inl ⟨?hw10B, ?hy10B⟩) (by assumption) ?rest10B
    case hi10B => (simp only [List.getElem?_toArray, List.getElem?_cons_succ, List.getElem?_cons_zero]; rfl)
    case hq10B => exact fun _ _ _ h => h
    case hw10B => rfl
    case hy10B => (intro w hSw; (try dsimp only at hSw); go_simp <;> with_reducible rfl)
    try simp only [Act.put, List.setIfInBounds_toArray, List.set_cons_zero, List.set_cons_succ]
    refine wpAnyH_take (i := 11) (oi := ?oi11B) (v := ?v11B) ?hi11B (by kernel_rfl) (by kernel_rfl) (by kernel_rfl) ?hq11B (Or.inl ⟨?hw11B, ?hy11B⟩) (by assumption) ?rest11B
    case hi11B => (simp only [List.getElem?_toArray, List.getElem?_cons_succ, List.getElem?_cons_zero]; rfl)
    case hq11B => exact fun _ _ _ h => h
    case hw11B => rfl
    case hy11B => (intro w hSw; (try dsimp only at hSw); go_simp <;> with_reducible rfl)
    try simp only [Act.put, List.setIfInBounds_toArray, List.set_cons_zero, List.set_cons_succ]
    refine wpAnyH_ready (rs := [12]) (by kernel_rfl) (by simp) ?_
    refine AllReadyH.cons (o := ?o12B) ?hi12B (fun K hK => ?st12B) AllReadyH.nil
    case hi12B => (simp only [List.getElem?_toArray, List.getElem?_cons_succ, List.getElem?_cons_zero]; rfl)
    go_simp
    refine (lfreshS_any tx _ (by omega)).mono ?_
    rintro e W4 ⟨v4, rfl, hg4⟩
    have hx4 : Below W3.drew.heap.size W3.drew W4 := hg4.fresh
    have ho4 : OB W3.drew.heap.size W4 v4 tx := hg4.own
    obtain ⟨A4, c4, hf4, hl4, hm4, hr4, hA4⟩ := ho4.form
    clear hg4 hl4 hm4 hr4 hA4
    subst hf4
    have hz4 : W3.heap.size ≤ W4.heap.size := hx4.size
    have hkx4 : Keep (fun k => W3.heap.size ≤ k) W3.drew W4 := Keep.of_below hx4
    have hb4 := hb3.drew.below hx4
    have hp4 := hp3.drew.kept hkx4 (Nat.not_le.2 hp3.lt)
    have hq4 := hq3.drew.kept hkx4 (Nat.not_le.2 hq3.lt)
    have hk4 : Keep (fun k => k = g) w W4 := hk3.drew.trans hkx4 (fun i hi e => absurd e (by have := hk3.size; omega))
    obtain ⟨i0, i1, i2, i3⟩ := rows _ _ _ hb4 hj3
    have m4 := hp4.cell 1
    dsimp only at i0 i1 i2 i3
    simp at m4
    go_wp2_with fail
    refine hK.out _ _ ⟨i0, m4, i1⟩ (fun hHeld2 => ?_)
    clear hK K hHeld
    have hHeld := hHeld2
    clear hHeld2
    try simp only [Act.put, List.setIfInBounds_toArray, List.set_cons_zero, List.set_cons_succ]
    refine wpAnyH_take (i := 13) (oi := ?oi13B) (v := ?v13B) ?hi13B (by kernel_rfl) (by kernel_rfl) (by kernel_rfl) ?hq13B (Or.inl ⟨?hw13B, ?hy13B⟩) (by assumption) ?rest13B
    case hi13B => (simp only [List.getElem?_toArray, List.getElem?_cons_succ, List.getElem?_cons_zero]; rfl)
    case hq13B => exact fun _ _ _ h => h
    case hw13B => rfl
    case hy13B => (intro w hSw; (try dsimp only at hSw); go_simp <;> with_reducible rfl)
    try simp only [Act.put, List.setIfInBounds_toArray, List.set_cons_zero, List.set_cons_succ]
    refine wpAnyH_ready (rs := [14]) (by kernel_rfl) (by simp) ?_
    refine AllReadyH.cons (o := ?o14B) ?hi14B (fun K hK => ?st14B) AllReadyH.nil
    case hi14B => (simp only [List.getElem?_toArray, List.getElem?_cons_succ, List.getElem?_cons_zero]; rfl)
    go_simp
    have hSz0 := hq4.cell 0
    have hSz1 := hq4.cell 1
    have hSz2 := hq4.cell 2
    have hFz := fun i => hq4.frozen i
    simp at hSz0 hSz1 hSz2
    have hv4 := ho4.one_cell'
    go_simp
    have hqE := fill3 hq4 (.int .i64 s) (.int .i64 mark) (.slice A4 tx.length c4)
    have hkE := keep3 W4 w.heap.size (.int .i64 s) (.int .i64 mark) (.slice A4 tx.length c4)
    generalize ((W4.setCell ⟨w.heap.size, 0, none⟩ (.int .i64 s)).setCell ⟨w.heap.size, 1, none⟩ (.int .i64 mark)).setCell ⟨w.heap.size, 2, none⟩ (.slice A4 tx.length c4) = WE at hqE hkE ⊢
    have hbE := hb4.kept hkE (fun q hq e => by simp [Value.ownBlock] at hq; omega)
    have hpE := hp4.kept hkE (by omega)
    have hoE := ho4.kept hkE (fun q hq e => by have := (ho4.lt q hq).1; have h3 := hq3.lt; have : W3.heap.size ≤ q := this; omega)
    have hkwE : Keep (fun k => k = g) w WE := hk4.trans (hkE.mono (T := fun k => k = w.heap.size) (fun _ _ e => e)) (fun i hi e => by omega)
    obtain ⟨y0, y1, y2, y3⟩ := rows _ _ _ hbE hj3
    have mE := hpE.cell 1
    dsimp only at y0 y1 y2 y3
    simp at mE
    refine hK.out _ _ ⟨y0, mE, y1⟩ (fun hHeld2 => ?_)
    clear hK K hHeld
    have hHeld := hHeld2
    clear hHeld2
    try simp only [Act.put, List.setIfInBounds_toArray, List.set_cons_zero, List.set_cons_succ]
    refine wpAnyH_done (by kernel_rfl) ?_ _
    go_wp2
    obtain ⟨q0, q1, q2⟩ := (⟨hqE.cell 0, hqE.cell 1, hqE.cell 2⟩ : _ ∧ _ ∧ _)
    simp at q0 q1 q2
    refine bodyPost_ret (v := .agg #[.int .i64 s, .int .i64 mark, .slice A4 tx.length c4]) (by simp [results, Try.results40, go_sem, q0, q1, q2]) rfl ?_
    refine ⟨_, rfl, hoE.mono (by have := hk3.size; exact this), ?_, hkwE⟩
    rw [HTD.out]
    exact hbE
end Go.Proofs.Ytfgceplafjbmhaa
