/- 'CellsBack' returns true for every input: the row of this law, proved. No condition. -/
import Derived.Test.YtdelbddgaekkaaaOps
import Derived.ProofKit
import Derived.OpenShut
import Derived.ShutString
import Derived.ChangeOld
import Derived.SizedLaws
namespace Go.Proofs.Ytdelbddgaekkaaa
open Go.RowKit
set_option linter.unusedVariables false
set_option linter.unusedSimpArgs false
/-- What a maker has behind k rounds. -/
def opBytes (o : OpV) : List UInt8 := numCell o.n ++ (numCell o.s.size ++ o.s.data.toList) ++ numCell (flagN (o.k == 1))
def putOp (st : Option (List UInt8)) (o : OpV) : Option (List UInt8) := put (put (put st (numCell o.n)) (numCell o.s.size ++ o.s.data.toList)) (numCell (flagN (o.k == 1)))
def putAll (f : Nat → OpV) : Nat → Option (List UInt8)
  | 0 => some []
  | k + 1 => putOp (putAll f k) (f k)

theorem put_none (x : List UInt8) : put none x = none := rfl
theorem put_some {l x y : List UInt8} (h : put (some l) x = some y) : y = l ++ x := by
  unfold put at h
  simp only [] at h
  split at h
  · cases h
  · injection h with h
    exact h.symm
theorem putOp_some {st : Option (List UInt8)} {o : OpV} {y : List UInt8} (h : putOp st o = some y) : ∃ l, st = some l ∧ y = l ++ opBytes o := by
  cases st with
  | none => cases h
  | some l =>
    refine ⟨l, rfl, ?_⟩
    unfold putOp at h
    cases h1 : put (some l) (numCell o.n) with
    | none => rw [h1] at h; cases h
    | some l1 =>
      rw [h1] at h
      cases h2 : put (some l1) (numCell o.s.size ++ o.s.data.toList) with
      | none => rw [h2] at h; cases h
      | some l2 =>
        rw [h2] at h
        rw [put_some h, put_some h2, put_some h1, opBytes]
        simp only [List.append_assoc]

/-- The bytes of the calls from k on. -/
def restOf (f : Nat → OpV) (n : Nat) : Nat → List UInt8
  | 0 => []
  | m + 1 => opBytes (f (n - (m + 1))) ++ restOf f n m

theorem putAll_rest (f : Nat → OpV) (n : Nat) (y : List UInt8) (h : putAll f n = some y) : ∀ m, m ≤ n → ∃ l, putAll f (n - m) = some l ∧ y = l ++ restOf f n m
  | 0, _ => ⟨y, h, by simp [restOf]⟩
  | m + 1, hm => by
    obtain ⟨l, hl, hy⟩ := putAll_rest f n y h m (by omega)
    rw [show n - m = (n - (m + 1)) + 1 from by omega] at hl
    obtain ⟨l0, h0, e0⟩ := putOp_some hl
    exact ⟨l0, h0, by rw [hy, e0, List.append_assoc, restOf]⟩
theorem putAll_all {f : Nat → OpV} {n : Nat} {y : List UInt8} (h : putAll f n = some y) : y = restOf f n n := by
  obtain ⟨l, hl, hy⟩ := putAll_rest f n y h n (Nat.le_refl _)
  rw [Nat.sub_self] at hl
  injection hl with hl
  subst hl
  exact hy

theorem take_num (n : Int) (r : List UInt8) (h0 : -9223372036854775808 ≤ n) (h1 : n ≤ 9223372036854775807) (a b : Int) (ha : a ≤ n) (hb : n ≤ b) : tnum (some (numCell n ++ r)) a b = (n, some r) := by
  rw [pt_some_first (st := some (numCell n ++ r)) a b (first_num n r h0 h1), if_neg (by omega)]
  simp
theorem take_text (s : ByteArray) (r : List UInt8) (b : Int) (hs : s.size ≤ 9223372036854775807) (hb : (s.size : Int) ≤ b) : ttext (some (numCell s.size ++ s.data.toList ++ r)) b = (s.data.toList, some r) := by
  have hl : s.data.toList.length = s.size := rfl
  have hf := first_num s.size (s.data.toList ++ r) (by omega) (by omega)
  rw [← List.append_assoc] at hf
  have hft : ft (numCell s.size ++ s.data.toList ++ r) = some ((numCell (s.size : Int)).length, s.size) := by
    rw [ft_some hf, if_neg (by rw [List.length_append, List.length_append, hl]; omega)]
    simp
  rw [pt_some_ft (st := some (numCell s.size ++ s.data.toList ++ r)) b hft, if_neg (by omega), Option.getD_some]
  have h1 : (numCell (s.size : Int) ++ s.data.toList ++ r).drop (numCell (s.size : Int)).length = s.data.toList ++ r := by
    rw [List.append_assoc]
    simp
  rw [h1, ← List.drop_drop, h1, List.take_left' hl, List.drop_left' hl]
theorem take_flag (b : Bool) (r : List UInt8) : ((tnum (some (numCell (flagN b) ++ r)) 0 1).1 == 1) = b ∧ (tnum (some (numCell (flagN b) ++ r)) 0 1).2 = some r := by
  cases b
  · rw [take_num (flagN false) r (by decide) (by decide) 0 1 (by decide) (by decide)]
    exact ⟨rfl, rfl⟩
  · rw [take_num (flagN true) r (by decide) (by decide) 0 1 (by decide) (by decide)]
    exact ⟨rfl, rfl⟩


theorem strV_str (s : ByteArray) : strV s.data.toList = .string s := rfl

theorem back_num (W : World) (g : Nat) (At : Option Addr) (ct : Nat) (o : OpV) (R : List UInt8) (hok : opOk o) (h : PT W g At ct (some (opBytes o ++ R))) :
    Calls Try.prog 27 #[.pointer (some ⟨g, 0, none⟩), .int .i64 (-9223372036854775808), .int .i64 9223372036854775807] W (TPost W g At (some ((numCell o.s.size ++ o.s.data.toList) ++ (numCell (flagN (o.k == 1)) ++ R))) (.int .i64 o.n)) := by
  have e : opBytes o ++ R = numCell o.n ++ ((numCell o.s.size ++ o.s.data.toList) ++ (numCell (flagN (o.k == 1)) ++ R)) := by
    unfold opBytes
    simp only [List.append_assoc]
  rw [e] at h
  have := tnum_any W g At ct _ (-9223372036854775808) 9223372036854775807 h
  rw [take_num o.n _ hok.1 hok.2.1 _ _ hok.1 hok.2.1] at this
  exact this
theorem back_text (W : World) (g : Nat) (At : Option Addr) (ct : Nat) (o : OpV) (R : List UInt8) (hs : o.s.size ≤ 262144) (h : PT W g At ct (some ((numCell o.s.size ++ o.s.data.toList) ++ (numCell (flagN (o.k == 1)) ++ R)))) :
    Calls Try.prog 29 #[.pointer (some ⟨g, 0, none⟩), .int .i64 262144] W (TPost W g At (some (numCell (flagN (o.k == 1)) ++ R)) (.string o.s)) := by
  have := ttext_any W g At ct _ 262144 h
  rw [take_text o.s _ 262144 (by omega) (by omega)] at this
  exact this
theorem back_flag (W : World) (g : Nat) (At : Option Addr) (ct : Nat) (o : OpV) (R : List UInt8) (h : PT W g At ct (some (numCell (flagN (o.k == 1)) ++ R))) :
    Calls Try.prog 31 #[.pointer (some ⟨g, 0, none⟩)] W (TPost W g At (some R) (.bool (o.k == 1))) := by
  have := tflag_any W g At ct _ h
  rw [(take_flag (o.k == 1) R).1, (take_flag (o.k == 1) R).2] at this
  exact this

theorem rest_size (f : Nat → OpV) (n m : Nat) : (f (n - (m + 1))).s.size ≤ (restOf f n (m + 1)).length := by
  unfold restOf opBytes
  simp only [List.length_append]
  have : (f (n - (m + 1))).s.data.toList.length = (f (n - (m + 1))).s.size := rfl
  omega
theorem rest_le (f : Nat → OpV) (n : Nat) : ∀ m k, m ≤ k → (restOf f n m).length ≤ (restOf f n k).length
  | m, 0, h => by
    have : m = 0 := by omega
    subst this
    exact Nat.le_refl _
  | m, k + 1, h => by
    by_cases e : m = k + 1
    · subst e
      exact Nat.le_refl _
    · have := rest_le f n m k (by omega)
      have e2 : (restOf f n (k + 1)).length = (opBytes (f (n - (k + 1)))).length + (restOf f n k).length := by rw [restOf, List.length_append]
      omega

/-- The three cells of a call that are read. -/
def OpAt3 (w : World) (b off : Nat) (o : OpV) : Prop :=
  w.cell? ⟨b, off, none⟩ = some (.int .i64 o.k) ∧ w.cell? ⟨b, off + 1, none⟩ = some (.int .i64 o.n) ∧ w.cell? ⟨b, off + 2, none⟩ = some (.string o.s)
theorem OpAt3.kept {S : Nat → Prop} {w w' : World} {b off : Nat} {o : OpV} (h : OpAt3 w b off o) (k : Keep S w w') (hb : ¬ S b) : OpAt3 w' b off o :=
  ⟨k.cell h.1 hb, k.cell h.2.1 hb, k.cell h.2.2 hb⟩

set_option maxRecDepth 100000 in
set_option maxHeartbeats 8000000 in
theorem cellsBack_short {w : World} (A : Option Addr) (len cap : Nat) (f : Nat → OpV) (ho : OPS w A len f) (hc : len ≤ cap) (hm : cap ≤ 9223372036854775807) (N : Nat) (hNl : N ≤ len) (hN5 : N ≤ 500) (hge : len ≤ N) :
    Calls Try.prog 8 #[.slice A len cap] w fun e w' => e = .returned (.bool true) ∧ Below w.heap.size w w' := by
  go_enter Try.func8, Try.ntmps8
  go_wp2_with fail
  refine (new_any w).mono ?_
  rintro e w1 ⟨rfl, hm1, hb1⟩
  have hz1 := hb1.size
  have hgm : w.heap.size < w1.heap.size := hm1.blk.lt
  go_wp2_with fail
  refine (lives_any _).mono ?_
  rintro e w3 ⟨rfl, hb3⟩
  have hm3 := hm1.kept (Keep.of_below hb3) fun i hi => by have := (hm1.foot i hi).2; omega
  have hb3' := hb1.trans (hb3.mono hz1)
  clear hm1 hb1 hb3
  go_wp2_with fail
  go_loopw [3, 4] (fun p i wr => p = .pointer (some ⟨w.heap.size, 0, none⟩) ∧ ∃ k : Nat, k ≤ N ∧ i = .int .i64 (k : Int) ∧ ∃ v, MK w.heap.size wr w.heap.size v (putAll f k) ∧ Below w.heap.size w wr)
    (fun _ i _ => N - (intOf i).toNat)
  case atStart => exact ⟨rfl, 0, Nat.zero_le _, rfl, .slice none 0 0, hm3, hb3'⟩
  case round =>
    obtain ⟨rfl, k, hk, rfl, v, hmk, hbk⟩ := hrel
    clear hm3 hb3'
    have hzk := hbk.size
    by_cases hlt : k < N
    · have hkl : k < len := by omega
      have hk5 : k < 500 := by omega
      obtain ⟨hok', hat⟩ := ho
      obtain ⟨b, off, rfl, hbl, hcells⟩ := hat (by omega)
      obtain ⟨c0, c1, c2, _, _⟩ := (hcells k hkl).below hbk hbl
      have hok := hok' k hkl
      have hstep : Hid (putAll f (k + 1) = putOp (putAll f k) (f k)) := Lib.hid rfl
      clear hat hcells hok'
      generalize f k = o at *
      have SA : OpAt3 wr.drew b (off + k * 5) o := ⟨c0, c1, c2⟩
      have hmD : MK w.heap.size wr.drew w.heap.size v (putAll f k) := ⟨hmk.blk, hmk.ge, hmk.own, hmk.short⟩
      have hBb : ¬ MF w.heap.size v b := fun h => by have := (hmk.foot b h).1; omega
      go_wp2_with fail
      refine wp_region_held_drew (S := (fun w' => w'.cell? ⟨b, off + k * 5, none⟩ = some (.int .i64 o.k) ∧ w'.cell? ⟨b, off + k * 5 + 1, none⟩ = some (.int .i64 o.n) ∧ w'.cell? ⟨b, off + k * 5 + 2, none⟩ = some (.string o.s))) (by kernel_rfl) SA (fun hHeld => ?_)
      refine wpAnyH_take (i := 0) (oi := ?oi0) (v := ?v0) ?hi0 (by kernel_rfl) (by kernel_rfl) (by kernel_rfl) ?hq0 (Or.inl ⟨?hw0, ?hy0⟩) (by assumption) ?rest0
      case hi0 => (simp only [List.getElem?_toArray, List.getElem?_cons_succ, List.getElem?_cons_zero]; rfl)
      case hq0 => exact fun _ _ _ h => h
      case hw0 => rfl
      case hy0 => (intro w hSw; (try dsimp only at hSw); go_simp <;> with_reducible rfl)
      try simp only [Act.put, List.setIfInBounds_toArray, List.set_cons_zero, List.set_cons_succ]
      refine wpAnyH_take (i := 1) (oi := ?oi1) (v := ?v1) ?hi1 (by kernel_rfl) (by kernel_rfl) (by kernel_rfl) ?hq1 (Or.inl ⟨?hw1, ?hy1⟩) (by assumption) ?rest1
      case hi1 => (simp only [List.getElem?_toArray, List.getElem?_cons_succ, List.getElem?_cons_zero]; rfl)
      case hq1 => exact fun _ _ _ h => h
      case hw1 => rfl
      case hy1 => (intro w hSw; (try dsimp only at hSw); go_simp <;> with_reducible rfl)
      try simp only [Act.put, List.setIfInBounds_toArray, List.set_cons_zero, List.set_cons_succ]
      refine wpAnyH_take (i := 2) (oi := ?oi2) (v := ?v2) ?hi2 (by kernel_rfl) (by kernel_rfl) (by kernel_rfl) ?hq2 (Or.inl ⟨?hw2, ?hy2⟩) (by assumption) ?rest2
      case hi2 => (simp only [List.getElem?_toArray, List.getElem?_cons_succ, List.getElem?_cons_zero]; rfl)
      case hq2 => exact fun _ _ _ h => h
      case hw2 => rfl
      case hy2 => (intro w hSw; (try dsimp only at hSw); go_simp <;> with_reducible rfl)
      try simp only [Act.put, List.setIfInBounds_toArray, List.set_cons_zero, List.set_cons_succ]
      refine wpAnyH_take (i := 3) (oi := ?oi3) (v := ?v3) ?hi3 (by kernel_rfl) (by kernel_rfl) (by kernel_rfl) ?hq3 (Or.inl ⟨?hw3, ?hy3⟩) (by assumption) ?rest3
      case hi3 => (simp only [List.getElem?_toArray, List.getElem?_cons_succ, List.getElem?_cons_zero]; rfl)
      case hq3 => exact fun _ _ _ h => h
      case hw3 => rfl
      case hy3 => (intro w hSw; (try dsimp only at hSw); go_simp <;> with_reducible rfl)
      try simp only [Act.put, List.setIfInBounds_toArray, List.set_cons_zero, List.set_cons_succ]
      refine wpAnyH_take (i := 4) (oi := ?oi4) (v := ?v4) ?hi4 (by kernel_rfl) (by kernel_rfl) (by kernel_rfl) ?hq4 (Or.inl ⟨?hw4, ?hy4⟩) (by assumption) ?rest4
      case hi4 => (simp only [List.getElem?_toArray, List.getElem?_cons_succ, List.getElem?_cons_zero]; rfl)
      case hq4 => exact fun _ _ _ h => h
      case hw4 => rfl
      case hy4 => (intro w hSw; (try dsimp only at hSw); go_simp <;> with_reducible rfl)
      try simp only [Act.put, List.setIfInBounds_toArray, List.set_cons_zero, List.set_cons_succ]
      refine wpAnyH_take (i := 5) (oi := ?oi5) (v := ?v5) ?hi5 (by kernel_rfl) (by kernel_rfl) (by kernel_rfl) ?hq5 (Or.inl ⟨?hw5, ?hy5⟩) (by assumption) ?rest5
      case hi5 => (simp only [List.getElem?_toArray, List.getElem?_cons_succ, List.getElem?_cons_zero]; rfl)
      case hq5 => exact fun _ _ _ h => h
      case hw5 => rfl
      case hy5 => (intro w hSw; (try dsimp only at hSw); go_simp <;> with_reducible rfl)
      try simp only [Act.put, List.setIfInBounds_toArray, List.set_cons_zero, List.set_cons_succ]
      refine wpAnyH_take (i := 7) (oi := ?oi7) (v := ?v7) ?hi7 (by kernel_rfl) (by kernel_rfl) (by kernel_rfl) ?hq7 (Or.inl ⟨?hw7, ?hy7⟩) (by assumption) ?rest7
      case hi7 => (simp only [List.getElem?_toArray, List.getElem?_cons_succ, List.getElem?_cons_zero]; rfl)
      case hq7 => exact fun _ _ _ h => h
      case hw7 => rfl
      case hy7 => (intro w hSw; (try dsimp only at hSw); go_simp <;> with_reducible rfl)
      try simp only [Act.put, List.setIfInBounds_toArray, List.set_cons_zero, List.set_cons_succ]
      refine wpAnyH_take (i := 8) (oi := ?oi8) (v := ?v8) ?hi8 (by kernel_rfl) (by kernel_rfl) (by kernel_rfl) ?hq8 (Or.inl ⟨?hw8, ?hy8⟩) (by assumption) ?rest8
      case hi8 => (simp only [List.getElem?_toArray, List.getElem?_cons_succ, List.getElem?_cons_zero]; rfl)
      case hq8 => exact fun _ _ _ h => h
      case hw8 => rfl
      case hy8 => (intro w hSw; (try dsimp only at hSw); go_simp <;> with_reducible rfl)
      try simp only [Act.put, List.setIfInBounds_toArray, List.set_cons_zero, List.set_cons_succ]
      refine wpAnyH_take (i := 9) (oi := ?oi9) (v := ?v9) ?hi9 (by kernel_rfl) (by kernel_rfl) (by kernel_rfl) ?hq9 (Or.inl ⟨?hw9, ?hy9⟩) (by assumption) ?rest9
      case hi9 => (simp only [List.getElem?_toArray, List.getElem?_cons_succ, List.getElem?_cons_zero]; rfl)
      case hq9 => exact fun _ _ _ h => h
      case hw9 => rfl
      case hy9 => (intro w hSw; (try dsimp only at hSw); go_simp <;> with_reducible rfl)
      try simp only [Act.put, List.setIfInBounds_toArray, List.set_cons_zero, List.set_cons_succ]
      refine wpAnyH_take (i := 10) (oi := ?oi10) (v := ?v10) ?hi10 (by kernel_rfl) (by kernel_rfl) (by kernel_rfl) ?hq10 (Or.inl ⟨?hw10, ?hy10⟩) (by assumption) ?rest10
      case hi10 => (simp only [List.getElem?_toArray, List.getElem?_cons_succ, List.getElem?_cons_zero]; rfl)
      case hq10 => exact fun _ _ _ h => h
      case hw10 => rfl
      case hy10 => (intro w hSw; (try dsimp only at hSw); go_simp <;> with_reducible rfl)
      try simp only [Act.put, List.setIfInBounds_toArray, List.set_cons_zero, List.set_cons_succ]
      refine wpAnyH_take (i := 11) (oi := ?oi11) (v := ?v11) ?hi11 (by kernel_rfl) (by kernel_rfl) (by kernel_rfl) ?hq11 (Or.inl ⟨?hw11, ?hy11⟩) (by assumption) ?rest11
      case hi11 => (simp only [List.getElem?_toArray, List.getElem?_cons_succ, List.getElem?_cons_zero]; rfl)
      case hq11 => exact fun _ _ _ h => h
      case hw11 => rfl
      case hy11 => (intro w hSw; (try dsimp only at hSw); go_simp <;> with_reducible rfl)
      try simp only [Act.put, List.setIfInBounds_toArray, List.set_cons_zero, List.set_cons_succ]
      refine wpAnyH_take (i := 13) (oi := ?oi13) (v := ?v13) ?hi13 (by kernel_rfl) (by kernel_rfl) (by kernel_rfl) ?hq13 (Or.inl ⟨?hw13, ?hy13⟩) (by assumption) ?rest13
      case hi13 => (simp only [List.getElem?_toArray, List.getElem?_cons_succ, List.getElem?_cons_zero]; rfl)
      case hq13 => exact fun _ _ _ h => h
      case hw13 => rfl
      case hy13 => (intro w hSw; (try dsimp only at hSw); go_simp <;> with_reducible rfl)
      try simp only [Act.put, List.setIfInBounds_toArray, List.set_cons_zero, List.set_cons_succ]
      refine wpAnyH_take (i := 14) (oi := ?oi14) (v := ?v14) ?hi14 (by kernel_rfl) (by kernel_rfl) (by kernel_rfl) ?hq14 (Or.inl ⟨?hw14, ?hy14⟩) (by assumption) ?rest14
      case hi14 => (simp only [List.getElem?_toArray, List.getElem?_cons_succ, List.getElem?_cons_zero]; rfl)
      case hq14 => exact fun _ _ _ h => h
      case hw14 => rfl
      case hy14 => (intro w hSw; (try dsimp only at hSw); go_simp <;> with_reducible rfl)
      try simp only [Act.put, List.setIfInBounds_toArray, List.set_cons_zero, List.set_cons_succ]
      refine wpAnyH_take (i := 15) (oi := ?oi15) (v := ?v15) ?hi15 (by kernel_rfl) (by kernel_rfl) (by kernel_rfl) ?hq15 (Or.inl ⟨?hw15, ?hy15⟩) (by assumption) ?rest15
      case hi15 => (simp only [List.getElem?_toArray, List.getElem?_cons_succ, List.getElem?_cons_zero]; rfl)
      case hq15 => exact fun _ _ _ h => h
      case hw15 => rfl
      case hy15 => (intro w hSw; (try dsimp only at hSw); go_simp <;> with_reducible rfl)
      try simp only [Act.put, List.setIfInBounds_toArray, List.set_cons_zero, List.set_cons_succ]
      refine wpAnyH_take (i := 16) (oi := ?oi16) (v := ?v16) ?hi16 (by kernel_rfl) (by kernel_rfl) (by kernel_rfl) ?hq16 (Or.inl ⟨?hw16, ?hy16⟩) (by assumption) ?rest16
      case hi16 => (simp only [List.getElem?_toArray, List.getElem?_cons_succ, List.getElem?_cons_zero]; rfl)
      case hq16 => exact fun _ _ _ h => h
      case hw16 => rfl
      case hy16 => (intro w hSw; (try dsimp only at hSw); go_simp <;> with_reducible rfl)
      try simp only [Act.put, List.setIfInBounds_toArray, List.set_cons_zero, List.set_cons_succ]
      refine wpAnyH_take (i := 17) (oi := ?oi17) (v := ?v17) ?hi17 (by kernel_rfl) (by kernel_rfl) (by kernel_rfl) ?hq17 (Or.inl ⟨?hw17, ?hy17⟩) (by assumption) ?rest17
      case hi17 => (simp only [List.getElem?_toArray, List.getElem?_cons_succ, List.getElem?_cons_zero]; rfl)
      case hq17 => exact fun _ _ _ h => h
      case hw17 => rfl
      case hy17 => (intro w hSw; (try dsimp only at hSw); go_simp <;> with_reducible rfl)
      try simp only [Act.put, List.setIfInBounds_toArray, List.set_cons_zero, List.set_cons_succ]
      refine wpAnyH_take (i := 18) (oi := ?oi18) (v := ?v18) ?hi18 (by kernel_rfl) (by kernel_rfl) (by kernel_rfl) ?hq18 (Or.inl ⟨?hw18, ?hy18⟩) (by assumption) ?rest18
      case hi18 => (simp only [List.getElem?_toArray, List.getElem?_cons_succ, List.getElem?_cons_zero]; rfl)
      case hq18 => exact fun _ _ _ h => h
      case hw18 => rfl
      case hy18 => (intro w hSw; (try dsimp only at hSw); go_simp <;> with_reducible rfl)
      try simp only [Act.put, List.setIfInBounds_toArray, List.set_cons_zero, List.set_cons_succ]
      refine wpAnyH_ready (rs := [6]) (by kernel_rfl) (by simp) ?_
      refine AllReadyH.cons (o := ?o6) ?hi6 (fun K hK => ?st6) AllReadyH.nil
      case hi6 => (simp only [List.getElem?_toArray, List.getElem?_cons_succ, List.getElem?_cons_zero]; rfl)
      go_simp
      refine (mnum_any _ _ v _ o.n _ hmD hok.1 hok.2.1).mono ?_
      rintro e w4 ⟨v4, rfl, hm4, hk4, hf4⟩
      have S4 := SA.kept hk4 hBb
      go_wp2_with fail
      refine hK.out _ _ S4 (fun hHeld2 => ?_)
      clear hK K hHeld
      have hHeld := hHeld2
      clear hHeld2
      try simp only [Act.put, List.setIfInBounds_toArray, List.set_cons_zero, List.set_cons_succ]
      refine wpAnyH_ready (rs := [12]) (by kernel_rfl) (by simp) ?_
      refine AllReadyH.cons (o := ?o12) ?hi12 (fun K hK => ?st12) AllReadyH.nil
      case hi12 => (simp only [List.getElem?_toArray, List.getElem?_cons_succ, List.getElem?_cons_zero]; rfl)
      go_simp
      refine (mtext_any _ _ v4 _ o.s w4 hm4 (by have := hok.2.2; omega)).mono ?_
      rintro e w5 ⟨v5, rfl, hm5, hk5, hf5⟩
      have hF5 := (Foot.mk hk4 hf4).trans (Foot.mk hk5 hf5)
      have S5 := SA.kept hF5.keep hBb
      go_wp2_with fail
      refine hK.out _ _ S5 (fun hHeld2 => ?_)
      clear hK K hHeld
      have hHeld := hHeld2
      clear hHeld2
      try simp only [Act.put, List.setIfInBounds_toArray, List.set_cons_zero, List.set_cons_succ]
      refine wpAnyH_ready (rs := [19]) (by kernel_rfl) (by simp) ?_
      refine AllReadyH.cons (o := ?o19) ?hi19 (fun K hK => ?st19) AllReadyH.nil
      case hi19 => (simp only [List.getElem?_toArray, List.getElem?_cons_succ, List.getElem?_cons_zero]; rfl)
      go_simp
      refine (mflag_any _ _ v5 _ (o.k == 1) w5 hm5).mono ?_
      rintro e w6 ⟨v6, rfl, hm6, hk6, hf6⟩
      have hF6 := hF5.trans (Foot.mk hk6 hf6)
      have S6 := SA.kept hF6.keep hBb
      go_wp2_with fail
      refine hK.out _ _ S6 (fun hHeld2 => ?_)
      clear hK K hHeld
      have hHeld := hHeld2
      clear hHeld2
      try simp only [Act.put, List.setIfInBounds_toArray, List.set_cons_zero, List.set_cons_succ]
      refine wpAnyH_take (i := 20) (oi := ?oi20) (v := ?v20) ?hi20 (by kernel_rfl) (by kernel_rfl) (by kernel_rfl) ?hq20 (Or.inl ⟨?hw20, ?hy20⟩) (by assumption) ?rest20
      case hi20 => (simp only [List.getElem?_toArray, List.getElem?_cons_succ, List.getElem?_cons_zero]; rfl)
      case hq20 => exact fun _ _ _ h => h
      case hw20 => rfl
      case hy20 => (intro w hSw; (try dsimp only at hSw); go_simp <;> with_reducible rfl)
      try simp only [Act.put, List.setIfInBounds_toArray, List.set_cons_zero, List.set_cons_succ]
      refine wpAnyH_done (by kernel_rfl) ?_ _
      go_wp2_with fail
      go_roundw
      case rel => exact ⟨rfl, k + 1, by omega, by go_num, v6, by rw [hstep.out]; exact hm6, (Below.drew hbk).trans (hF6.below hzk fun i hi => (hmk.foot i hi).1)⟩
      case measure => simp [intOf]; omega
    · obtain rfl : k = N := by omega
      cases hst : putAll f k with
      | none =>
        rw [hst] at hmk
        have HST := Lib.hid hst
        clear hst
        go_wp2_with fail
        refine (mdone_any _ _ _ _ wr hmk).mono ?_
        rintro e w6 ⟨hb6, rfl⟩
        have hb6' := hbk.trans (hb6.mono hzk)
        clear hb6
        go_wp2
        go_ret
        exact ⟨rfl, hb6'⟩
      | some y =>
        rw [hst] at hmk
        have hyl : y.length ≤ 262144 := hmk.short
        have hy : Hid (y = restOf f k k) := Lib.hid (putAll_all hst)
        clear hst
        go_wp2_with fail
        refine (mdone_any _ _ _ _ wr hmk).mono ?_
        rintro e w6 ⟨hb6, A6, c6, rfl, hl6, hc6, hr6, hA6⟩
        have hb6' := hbk.trans (hb6.mono hzk)
        have hz6 := hb6'.size
        clear hb6 hmk
        go_wp2_with fail
        refine (take_any A6 _ c6 y w6 hr6 (by omega)).mono ?_
        rintro e w7 ⟨g, At, ct, rfl, hg, ht, hb7, hAt⟩
        have hb7' := hb6'.trans (hb7.mono hz6)
        rw [hy.out] at ht hyl
        clear hb7 hb6' hbk hy hr6 hA6
        go_wp2_with fail
        go_loopw [8] (fun i wr => ∃ j : Nat, j ≤ k ∧ i = .int .i64 (j : Int) ∧ ∃ Att ctt, PT wr g Att ctt (some (restOf f k (k - j))) ∧ Below w.heap.size w wr)
          (fun i _ => k - (intOf i).toNat)
        case atStart => exact ⟨0, Nat.zero_le _, rfl, At, ct, ht, hb7'⟩
        case round =>
          obtain ⟨j, hj, rfl, Att, ctt, htk, hbk⟩ := hrel
          clear ht hb7'
          have hzk := hbk.size
          have hgl := htk.blk.lt
          by_cases hlt : j < k
          · have hjl : j < len := by omega
            have hj5 : j < 500 := by omega
            obtain ⟨hok', hat⟩ := ho
            obtain ⟨b, off, rfl, hbl, hcells⟩ := hat (by omega)
            obtain ⟨c0, c1, c2, _, _⟩ := (hcells j hjl).below hbk hbl
            have hok := hok' j hjl
            obtain ⟨m, hm'⟩ : ∃ m, k - j = m + 1 := ⟨k - j - 1, by omega⟩
            have hjm : k - (m + 1) = j := by omega
            have hnext : k - (j + 1) = m := by omega
            have hrest : restOf f k (k - j) = opBytes (f j) ++ restOf f k m := by rw [hm', restOf, hjm]
            have hos : (f j).s.size ≤ 262144 := by
              have h1 := rest_size f k m
              have h2 := rest_le f k (m + 1) k (by omega)
              rw [hjm] at h1
              omega
            rw [hrest] at htk
            have HR : Hid (restOf f k (k - (j + 1)) = restOf f k m) := Lib.hid (by rw [hnext])
            clear hat hcells hok' hm' hjm hnext hrest hyl
            generalize f j = o at *
            generalize restOf f k m = R at *
            have SA : OpAt3 wr.drew b (off + j * 5) o := ⟨c0, c1, c2⟩
            have hBg : ¬ b = g := by omega
            go_wp2_with fail
            refine wp_region_held_drew (S := (fun w' => w'.cell? ⟨b, off + j * 5, none⟩ = some (.int .i64 o.k) ∧ w'.cell? ⟨b, off + j * 5 + 1, none⟩ = some (.int .i64 o.n) ∧ w'.cell? ⟨b, off + j * 5 + 2, none⟩ = some (.string o.s))) (by kernel_rfl) SA (fun hHeld => ?_)
            refine wpAnyH_take (i := 0) (oi := ?oi200) (v := ?v200) ?hi200 (by kernel_rfl) (by kernel_rfl) (by kernel_rfl) ?hq200 (Or.inl ⟨?hw200, ?hy200⟩) (by assumption) ?rest200
            case hi200 => (simp only [List.getElem?_toArray, List.getElem?_cons_succ, List.getElem?_cons_zero]; rfl)
            case hq200 => exact fun _ _ _ h => h
            case hw200 => rfl
            case hy200 => (intro w hSw; (try dsimp only at hSw); go_simp <;> with_reducible rfl)
            try simp only [Act.put, List.setIfInBounds_toArray, List.set_cons_zero, List.set_cons_succ]
            refine wpAnyH_take (i := 2) (oi := ?oi202) (v := ?v202) ?hi202 (by kernel_rfl) (by kernel_rfl) (by kernel_rfl) ?hq202 (Or.inl ⟨?hw202, ?hy202⟩) (by assumption) ?rest202
            case hi202 => (simp only [List.getElem?_toArray, List.getElem?_cons_succ, List.getElem?_cons_zero]; rfl)
            case hq202 => exact fun _ _ _ h => h
            case hw202 => rfl
            case hy202 => (intro w hSw; (try dsimp only at hSw); go_simp <;> with_reducible rfl)
            try simp only [Act.put, List.setIfInBounds_toArray, List.set_cons_zero, List.set_cons_succ]
            refine wpAnyH_take (i := 3) (oi := ?oi203) (v := ?v203) ?hi203 (by kernel_rfl) (by kernel_rfl) (by kernel_rfl) ?hq203 (Or.inl ⟨?hw203, ?hy203⟩) (by assumption) ?rest203
            case hi203 => (simp only [List.getElem?_toArray, List.getElem?_cons_succ, List.getElem?_cons_zero]; rfl)
            case hq203 => exact fun _ _ _ h => h
            case hw203 => rfl
            case hy203 => (intro w hSw; (try dsimp only at hSw); go_simp <;> with_reducible rfl)
            try simp only [Act.put, List.setIfInBounds_toArray, List.set_cons_zero, List.set_cons_succ]
            refine wpAnyH_take (i := 4) (oi := ?oi204) (v := ?v204) ?hi204 (by kernel_rfl) (by kernel_rfl) (by kernel_rfl) ?hq204 (Or.inl ⟨?hw204, ?hy204⟩) (by assumption) ?rest204
            case hi204 => (simp only [List.getElem?_toArray, List.getElem?_cons_succ, List.getElem?_cons_zero]; rfl)
            case hq204 => exact fun _ _ _ h => h
            case hw204 => rfl
            case hy204 => (intro w hSw; (try dsimp only at hSw); go_simp <;> with_reducible rfl)
            try simp only [Act.put, List.setIfInBounds_toArray, List.set_cons_zero, List.set_cons_succ]
            refine wpAnyH_take (i := 5) (oi := ?oi205) (v := ?v205) ?hi205 (by kernel_rfl) (by kernel_rfl) (by kernel_rfl) ?hq205 (Or.inl ⟨?hw205, ?hy205⟩) (by assumption) ?rest205
            case hi205 => (simp only [List.getElem?_toArray, List.getElem?_cons_succ, List.getElem?_cons_zero]; rfl)
            case hq205 => exact fun _ _ _ h => h
            case hw205 => rfl
            case hy205 => (intro w hSw; (try dsimp only at hSw); go_simp <;> with_reducible rfl)
            try simp only [Act.put, List.setIfInBounds_toArray, List.set_cons_zero, List.set_cons_succ]
            refine wpAnyH_take (i := 6) (oi := ?oi206) (v := ?v206) ?hi206 (by kernel_rfl) (by kernel_rfl) (by kernel_rfl) ?hq206 (Or.inl ⟨?hw206, ?hy206⟩) (by assumption) ?rest206
            case hi206 => (simp only [List.getElem?_toArray, List.getElem?_cons_succ, List.getElem?_cons_zero]; rfl)
            case hq206 => exact fun _ _ _ h => h
            case hw206 => rfl
            case hy206 => (intro w hSw; (try dsimp only at hSw); go_simp <;> with_reducible rfl)
            try simp only [Act.put, List.setIfInBounds_toArray, List.set_cons_zero, List.set_cons_succ]
            refine wpAnyH_ready (rs := [1]) (by kernel_rfl) (by simp) ?_
            refine AllReadyH.cons (o := ?o201) ?hi201 (fun K hK => ?st201) AllReadyH.nil
            case hi201 => (simp only [List.getElem?_toArray, List.getElem?_cons_succ, List.getElem?_cons_zero]; rfl)
            go_simp
            refine (back_num _ g Att ctt o R hok (show PT wr.drew g Att ctt _ from TK.drewN htk 1)).mono ?_
            rintro e w4 ⟨A4, c4, rfl, h4, k4, s4⟩
            have S4 := SA.kept k4 hBg
            go_wp2_with fail
            refine hK.out _ _ S4 (fun hHeld2 => ?_)
            clear hK K hHeld
            have hHeld := hHeld2
            clear hHeld2
            try simp only [Act.put, List.setIfInBounds_toArray, List.set_cons_zero, List.set_cons_succ]
            refine wpAnyH_take (i := 7) (oi := ?oi207) (v := ?v207) ?hi207 (by kernel_rfl) (by kernel_rfl) (by kernel_rfl) ?hq207 (Or.inl ⟨?hw207, ?hy207⟩) (by assumption) ?rest207
            case hi207 => (simp only [List.getElem?_toArray, List.getElem?_cons_succ, List.getElem?_cons_zero]; rfl)
            case hq207 => exact fun _ _ _ h => h
            case hw207 => rfl
            case hy207 => (intro w hSw; (try dsimp only at hSw); go_simp <;> with_reducible rfl)
            try simp only [Act.put, List.setIfInBounds_toArray, List.set_cons_zero, List.set_cons_succ]
            refine wpAnyH_take (i := 8) (oi := ?oi208) (v := ?v208) ?hi208 (by kernel_rfl) (by kernel_rfl) (by kernel_rfl) ?hq208 (Or.inl ⟨?hw208, ?hy208⟩) (by assumption) ?rest208
            case hi208 => (simp only [List.getElem?_toArray, List.getElem?_cons_succ, List.getElem?_cons_zero]; rfl)
            case hq208 => exact fun _ _ _ h => h
            case hw208 => rfl
            case hy208 => (intro w hSw; (try dsimp only at hSw); go_simp <;> with_reducible rfl)
            try simp only [Act.put, List.setIfInBounds_toArray, List.set_cons_zero, List.set_cons_succ]
            refine wpAnyH_take (i := 9) (oi := ?oi209) (v := ?v209) ?hi209 (by kernel_rfl) (by kernel_rfl) (by kernel_rfl) ?hq209 (Or.inl ⟨?hw209, ?hy209⟩) (by assumption) ?rest209
            case hi209 => (simp only [List.getElem?_toArray, List.getElem?_cons_succ, List.getElem?_cons_zero]; rfl)
            case hq209 => exact fun _ _ _ h => h
            case hw209 => rfl
            case hy209 => (intro w hSw; (try dsimp only at hSw); go_simp <;> with_reducible rfl)
            try simp only [Act.put, List.setIfInBounds_toArray, List.set_cons_zero, List.set_cons_succ]
            refine wpAnyH_take (i := 11) (oi := ?oi211) (v := ?v211) ?hi211 (by kernel_rfl) (by kernel_rfl) (by kernel_rfl) ?hq211 (Or.inl ⟨?hw211, ?hy211⟩) (by assumption) ?rest211
            case hi211 => (simp only [List.getElem?_toArray, List.getElem?_cons_succ, List.getElem?_cons_zero]; rfl)
            case hq211 => exact fun _ _ _ h => h
            case hw211 => rfl
            case hy211 => (intro w hSw; (try dsimp only at hSw); go_simp <;> with_reducible rfl)
            try simp only [Act.put, List.setIfInBounds_toArray, List.set_cons_zero, List.set_cons_succ]
            refine wpAnyH_take (i := 12) (oi := ?oi212) (v := ?v212) ?hi212 (by kernel_rfl) (by kernel_rfl) (by kernel_rfl) ?hq212 (Or.inl ⟨?hw212, ?hy212⟩) (by assumption) ?rest212
            case hi212 => (simp only [List.getElem?_toArray, List.getElem?_cons_succ, List.getElem?_cons_zero]; rfl)
            case hq212 => exact fun _ _ _ h => h
            case hw212 => rfl
            case hy212 => (intro w hSw; (try dsimp only at hSw); go_simp <;> with_reducible rfl)
            try simp only [Act.put, List.setIfInBounds_toArray, List.set_cons_zero, List.set_cons_succ]
            refine wpAnyH_take (i := 13) (oi := ?oi213) (v := ?v213) ?hi213 (by kernel_rfl) (by kernel_rfl) (by kernel_rfl) ?hq213 (Or.inl ⟨?hw213, ?hy213⟩) (by assumption) ?rest213
            case hi213 => (simp only [List.getElem?_toArray, List.getElem?_cons_succ, List.getElem?_cons_zero]; rfl)
            case hq213 => exact fun _ _ _ h => h
            case hw213 => rfl
            case hy213 => (intro w hSw; (try dsimp only at hSw); go_simp <;> with_reducible rfl)
            try simp only [Act.put, List.setIfInBounds_toArray, List.set_cons_zero, List.set_cons_succ]
            refine wpAnyH_take (i := 14) (oi := ?oi214) (v := ?v214) ?hi214 (by kernel_rfl) (by kernel_rfl) (by kernel_rfl) ?hq214 (Or.inl ⟨?hw214, ?hy214⟩) (by assumption) ?rest214
            case hi214 => (simp only [List.getElem?_toArray, List.getElem?_cons_succ, List.getElem?_cons_zero]; rfl)
            case hq214 => exact fun _ _ _ h => h
            case hw214 => rfl
            case hy214 => (intro w hSw; (try dsimp only at hSw); go_simp <;> with_reducible rfl)
            try simp only [Act.put, List.setIfInBounds_toArray, List.set_cons_zero, List.set_cons_succ]
            refine wpAnyH_take (i := 15) (oi := ?oi215) (v := ?v215) ?hi215 (by kernel_rfl) (by kernel_rfl) (by kernel_rfl) ?hq215 (Or.inl ⟨?hw215, ?hy215⟩) (by assumption) ?rest215
            case hi215 => (simp only [List.getElem?_toArray, List.getElem?_cons_succ, List.getElem?_cons_zero]; rfl)
            case hq215 => exact fun _ _ _ h => h
            case hw215 => rfl
            case hy215 => (intro w hSw; (try dsimp only at hSw); go_simp <;> with_reducible rfl)
            try simp only [Act.put, List.setIfInBounds_toArray, List.set_cons_zero, List.set_cons_succ]
            refine wpAnyH_ready (rs := [10]) (by kernel_rfl) (by simp) ?_
            refine AllReadyH.cons (o := ?o210) ?hi210 (fun K hK => ?st210) AllReadyH.nil
            case hi210 => (simp only [List.getElem?_toArray, List.getElem?_cons_succ, List.getElem?_cons_zero]; rfl)
            go_simp
            refine (back_text w4 g A4 c4 o R hos h4).mono ?_
            rintro e w5 ⟨A5, c5, rfl, h5, k5, s5⟩
            have S5 := S4.kept k5 hBg
            go_wp2_with fail
            refine hK.out _ _ S5 (fun hHeld2 => ?_)
            clear hK K hHeld
            have hHeld := hHeld2
            clear hHeld2
            try simp only [Act.put, List.setIfInBounds_toArray, List.set_cons_zero, List.set_cons_succ]
            refine wpAnyH_take (i := 16) (oi := ?oi216) (v := ?v216) ?hi216 (by kernel_rfl) (by kernel_rfl) (by kernel_rfl) ?hq216 (Or.inl ⟨?hw216, ?hy216⟩) (by assumption) ?rest216
            case hi216 => (simp only [List.getElem?_toArray, List.getElem?_cons_succ, List.getElem?_cons_zero]; rfl)
            case hq216 => exact fun _ _ _ h => h
            case hw216 => rfl
            case hy216 => (intro w hSw; (try dsimp only at hSw); go_simp <;> with_reducible rfl)
            try simp only [Act.put, List.setIfInBounds_toArray, List.set_cons_zero, List.set_cons_succ]
            refine wpAnyH_take (i := 17) (oi := ?oi217) (v := ?v217) ?hi217 (by kernel_rfl) (by kernel_rfl) (by kernel_rfl) ?hq217 (Or.inl ⟨?hw217, ?hy217⟩) (by assumption) ?rest217
            case hi217 => (simp only [List.getElem?_toArray, List.getElem?_cons_succ, List.getElem?_cons_zero]; rfl)
            case hq217 => exact fun _ _ _ h => h
            case hw217 => rfl
            case hy217 => (intro w hSw; (try dsimp only at hSw); go_simp <;> with_reducible rfl)
            try simp only [Act.put, List.setIfInBounds_toArray, List.set_cons_zero, List.set_cons_succ]
            refine wpAnyH_take (i := 18) (oi := ?oi218) (v := ?v218) ?hi218 (by kernel_rfl) (by kernel_rfl) (by kernel_rfl) ?hq218 (Or.inl ⟨?hw218, ?hy218⟩) (by assumption) ?rest218
            case hi218 => (simp only [List.getElem?_toArray, List.getElem?_cons_succ, List.getElem?_cons_zero]; rfl)
            case hq218 => exact fun _ _ _ h => h
            case hw218 => rfl
            case hy218 => (intro w hSw; (try dsimp only at hSw); go_simp <;> with_reducible rfl)
            try simp only [Act.put, List.setIfInBounds_toArray, List.set_cons_zero, List.set_cons_succ]
            refine wpAnyH_take (i := 19) (oi := ?oi219) (v := ?v219) ?hi219 (by kernel_rfl) (by kernel_rfl) (by kernel_rfl) ?hq219 (Or.inl ⟨?hw219, ?hy219⟩) (by assumption) ?rest219
            case hi219 => (simp only [List.getElem?_toArray, List.getElem?_cons_succ, List.getElem?_cons_zero]; rfl)
            case hq219 => exact fun _ _ _ h => h
            case hw219 => rfl
            case hy219 => (intro w hSw; (try dsimp only at hSw); go_simp <;> with_reducible rfl)
            try simp only [Act.put, List.setIfInBounds_toArray, List.set_cons_zero, List.set_cons_succ]
            refine wpAnyH_take (i := 21) (oi := ?oi221) (v := ?v221) ?hi221 (by kernel_rfl) (by kernel_rfl) (by kernel_rfl) ?hq221 (Or.inl ⟨?hw221, ?hy221⟩) (by assumption) ?rest221
            case hi221 => (simp only [List.getElem?_toArray, List.getElem?_cons_succ, List.getElem?_cons_zero]; rfl)
            case hq221 => exact fun _ _ _ h => h
            case hw221 => rfl
            case hy221 => (intro w hSw; (try dsimp only at hSw); go_simp <;> with_reducible rfl)
            try simp only [Act.put, List.setIfInBounds_toArray, List.set_cons_zero, List.set_cons_succ]
            refine wpAnyH_take (i := 22) (oi := ?oi222) (v := ?v222) ?hi222 (by kernel_rfl) (by kernel_rfl) (by kernel_rfl) ?hq222 (Or.inl ⟨?hw222, ?hy222⟩) (by assumption) ?rest222
            case hi222 => (simp only [List.getElem?_toArray, List.getElem?_cons_succ, List.getElem?_cons_zero]; rfl)
            case hq222 => exact fun _ _ _ h => h
            case hw222 => rfl
            case hy222 => (intro w hSw; (try dsimp only at hSw); go_simp <;> with_reducible rfl)
            try simp only [Act.put, List.setIfInBounds_toArray, List.set_cons_zero, List.set_cons_succ]
            refine wpAnyH_take (i := 23) (oi := ?oi223) (v := ?v223) ?hi223 (by kernel_rfl) (by kernel_rfl) (by kernel_rfl) ?hq223 (Or.inl ⟨?hw223, ?hy223⟩) (by assumption) ?rest223
            case hi223 => (simp only [List.getElem?_toArray, List.getElem?_cons_succ, List.getElem?_cons_zero]; rfl)
            case hq223 => exact fun _ _ _ h => h
            case hw223 => rfl
            case hy223 => (intro w hSw; (try dsimp only at hSw); go_simp <;> with_reducible rfl)
            try simp only [Act.put, List.setIfInBounds_toArray, List.set_cons_zero, List.set_cons_succ]
            refine wpAnyH_take (i := 24) (oi := ?oi224) (v := ?v224) ?hi224 (by kernel_rfl) (by kernel_rfl) (by kernel_rfl) ?hq224 (Or.inl ⟨?hw224, ?hy224⟩) (by assumption) ?rest224
            case hi224 => (simp only [List.getElem?_toArray, List.getElem?_cons_succ, List.getElem?_cons_zero]; rfl)
            case hq224 => exact fun _ _ _ h => h
            case hw224 => rfl
            case hy224 => (intro w hSw; (try dsimp only at hSw); go_simp <;> with_reducible rfl)
            try simp only [Act.put, List.setIfInBounds_toArray, List.set_cons_zero, List.set_cons_succ]
            refine wpAnyH_take (i := 25) (oi := ?oi225) (v := ?v225) ?hi225 (by kernel_rfl) (by kernel_rfl) (by kernel_rfl) ?hq225 (Or.inl ⟨?hw225, ?hy225⟩) (by assumption) ?rest225
            case hi225 => (simp only [List.getElem?_toArray, List.getElem?_cons_succ, List.getElem?_cons_zero]; rfl)
            case hq225 => exact fun _ _ _ h => h
            case hw225 => rfl
            case hy225 => (intro w hSw; (try dsimp only at hSw); go_simp <;> with_reducible rfl)
            try simp only [Act.put, List.setIfInBounds_toArray, List.set_cons_zero, List.set_cons_succ]
            refine wpAnyH_take (i := 26) (oi := ?oi226) (v := ?v226) ?hi226 (by kernel_rfl) (by kernel_rfl) (by kernel_rfl) ?hq226 (Or.inl ⟨?hw226, ?hy226⟩) (by assumption) ?rest226
            case hi226 => (simp only [List.getElem?_toArray, List.getElem?_cons_succ, List.getElem?_cons_zero]; rfl)
            case hq226 => exact fun _ _ _ h => h
            case hw226 => rfl
            case hy226 => (intro w hSw; (try dsimp only at hSw); go_simp <;> with_reducible rfl)
            try simp only [Act.put, List.setIfInBounds_toArray, List.set_cons_zero, List.set_cons_succ]
            refine wpAnyH_ready (rs := [20]) (by kernel_rfl) (by simp) ?_
            refine AllReadyH.cons (o := ?o220) ?hi220 (fun K hK => ?st220) AllReadyH.nil
            case hi220 => (simp only [List.getElem?_toArray, List.getElem?_cons_succ, List.getElem?_cons_zero]; rfl)
            go_simp
            refine (back_flag w5 g A5 c5 o R h5).mono ?_
            rintro e w6 ⟨A6', c6', rfl, h6, k6, s6⟩
            have S6 := S5.kept k6 hBg
            go_wp2_with fail
            refine hK.out _ _ S6 (fun hHeld2 => ?_)
            clear hK K hHeld
            have hHeld := hHeld2
            clear hHeld2
            try simp only [Act.put, List.setIfInBounds_toArray, List.set_cons_zero, List.set_cons_succ]
            refine wpAnyH_take (i := 27) (oi := ?oi227) (v := ?v227) ?hi227 (by kernel_rfl) (by kernel_rfl) (by kernel_rfl) ?hq227 (Or.inl ⟨?hw227, ?hy227⟩) (by assumption) ?rest227
            case hi227 => (simp only [List.getElem?_toArray, List.getElem?_cons_succ, List.getElem?_cons_zero]; rfl)
            case hq227 => exact fun _ _ _ h => h
            case hw227 => rfl
            case hy227 => (intro w hSw; (try dsimp only at hSw); go_simp <;> with_reducible rfl)
            try simp only [Act.put, List.setIfInBounds_toArray, List.set_cons_zero, List.set_cons_succ]
            refine wpAnyH_take (i := 28) (oi := ?oi228) (v := ?v228) ?hi228 (by kernel_rfl) (by kernel_rfl) (by kernel_rfl) ?hq228 (Or.inl ⟨?hw228, ?hy228⟩) (by assumption) ?rest228
            case hi228 => (simp only [List.getElem?_toArray, List.getElem?_cons_succ, List.getElem?_cons_zero]; rfl)
            case hq228 => exact fun _ _ _ h => h
            case hw228 => rfl
            case hy228 => (intro w hSw; (try dsimp only at hSw); go_simp <;> with_reducible rfl)
            try simp only [Act.put, List.setIfInBounds_toArray, List.set_cons_zero, List.set_cons_succ]
            refine wpAnyH_done (by kernel_rfl) ?_ _
            go_wp2_with fail
            go_roundw
            case rel => exact ⟨j + 1, by omega, by go_num, A6', c6', by rw [HR.out]; exact h6, (Below.drew hbk).trans ((((k4.trans k5 fun _ _ h => h).trans k6 fun _ _ h => h)).below hzk fun i hi he => by have : i = g := he; omega)⟩
            case measure => simp [intOf]; omega
          · obtain rfl : j = k := by omega
            rw [Nat.sub_self] at htk
            have htk' : PT wr g Att ctt (some []) := htk
            clear htk
            go_wp2_with fail
            refine (tdone_any wr g Att ctt _ htk').mono ?_
            rintro e w8 ⟨rfl, rfl⟩
            rw [show tdoneN (some []) = 0 from rfl]
            go_wp2
            go_ret
            exact ⟨rfl, hbk⟩

set_option maxRecDepth 100000 in
set_option maxHeartbeats 8000000 in
theorem cellsBack_long {w : World} (A : Option Addr) (len cap : Nat) (f : Nat → OpV) (ho : OPS w A len f) (hc : len ≤ cap) (hm : cap ≤ 9223372036854775807) (N : Nat) (hNl : N ≤ len) (hN5 : N ≤ 500) (hlt5 : N < len) (h500 : 500 ≤ N) :
    Calls Try.prog 8 #[.slice A len cap] w fun e w' => e = .returned (.bool true) ∧ Below w.heap.size w w' := by
  go_enter Try.func8, Try.ntmps8
  go_wp2_with fail
  refine (new_any w).mono ?_
  rintro e w1 ⟨rfl, hm1, hb1⟩
  have hz1 := hb1.size
  have hgm : w.heap.size < w1.heap.size := hm1.blk.lt
  go_wp2_with fail
  refine (lives_any _).mono ?_
  rintro e w3 ⟨rfl, hb3⟩
  have hm3 := hm1.kept (Keep.of_below hb3) fun i hi => by have := (hm1.foot i hi).2; omega
  have hb3' := hb1.trans (hb3.mono hz1)
  clear hm1 hb1 hb3
  go_wp2_with fail
  go_loopw [3, 4] (fun p i wr => p = .pointer (some ⟨w.heap.size, 0, none⟩) ∧ ∃ k : Nat, k ≤ N ∧ i = .int .i64 (k : Int) ∧ ∃ v, MK w.heap.size wr w.heap.size v (putAll f k) ∧ Below w.heap.size w wr)
    (fun _ i _ => N - (intOf i).toNat)
  case atStart => exact ⟨rfl, 0, Nat.zero_le _, rfl, .slice none 0 0, hm3, hb3'⟩
  case round =>
    obtain ⟨rfl, k, hk, rfl, v, hmk, hbk⟩ := hrel
    clear hm3 hb3'
    have hzk := hbk.size
    by_cases hlt : k < N
    · have hkl : k < len := by omega
      have hk5 : k < 500 := by omega
      obtain ⟨hok', hat⟩ := ho
      obtain ⟨b, off, rfl, hbl, hcells⟩ := hat (by omega)
      obtain ⟨c0, c1, c2, _, _⟩ := (hcells k hkl).below hbk hbl
      have hok := hok' k hkl
      have hstep : Hid (putAll f (k + 1) = putOp (putAll f k) (f k)) := Lib.hid rfl
      clear hat hcells hok'
      generalize f k = o at *
      have SA : OpAt3 wr.drew b (off + k * 5) o := ⟨c0, c1, c2⟩
      have hmD : MK w.heap.size wr.drew w.heap.size v (putAll f k) := ⟨hmk.blk, hmk.ge, hmk.own, hmk.short⟩
      have hBb : ¬ MF w.heap.size v b := fun h => by have := (hmk.foot b h).1; omega
      go_wp2_with fail
      refine wp_region_held_drew (S := (fun w' => w'.cell? ⟨b, off + k * 5, none⟩ = some (.int .i64 o.k) ∧ w'.cell? ⟨b, off + k * 5 + 1, none⟩ = some (.int .i64 o.n) ∧ w'.cell? ⟨b, off + k * 5 + 2, none⟩ = some (.string o.s))) (by kernel_rfl) SA (fun hHeld => ?_)
      refine wpAnyH_take (i := 0) (oi := ?oi0) (v := ?v0) ?hi0 (by kernel_rfl) (by kernel_rfl) (by kernel_rfl) ?hq0 (Or.inl ⟨?hw0, ?hy0⟩) (by assumption) ?rest0
      case hi0 => (simp only [List.getElem?_toArray, List.getElem?_cons_succ, List.getElem?_cons_zero]; rfl)
      case hq0 => exact fun _ _ _ h => h
      case hw0 => rfl
      case hy0 => (intro w hSw; (try dsimp only at hSw); go_simp <;> with_reducible rfl)
      try simp only [Act.put, List.setIfInBounds_toArray, List.set_cons_zero, List.set_cons_succ]
      refine wpAnyH_take (i := 1) (oi := ?oi1) (v := ?v1) ?hi1 (by kernel_rfl) (by kernel_rfl) (by kernel_rfl) ?hq1 (Or.inl ⟨?hw1, ?hy1⟩) (by assumption) ?rest1
      case hi1 => (simp only [List.getElem?_toArray, List.getElem?_cons_succ, List.getElem?_cons_zero]; rfl)
      case hq1 => exact fun _ _ _ h => h
      case hw1 => rfl
      case hy1 => (intro w hSw; (try dsimp only at hSw); go_simp <;> with_reducible rfl)
      try simp only [Act.put, List.setIfInBounds_toArray, List.set_cons_zero, List.set_cons_succ]
      refine wpAnyH_take (i := 2) (oi := ?oi2) (v := ?v2) ?hi2 (by kernel_rfl) (by kernel_rfl) (by kernel_rfl) ?hq2 (Or.inl ⟨?hw2, ?hy2⟩) (by assumption) ?rest2
      case hi2 => (simp only [List.getElem?_toArray, List.getElem?_cons_succ, List.getElem?_cons_zero]; rfl)
      case hq2 => exact fun _ _ _ h => h
      case hw2 => rfl
      case hy2 => (intro w hSw; (try dsimp only at hSw); go_simp <;> with_reducible rfl)
      try simp only [Act.put, List.setIfInBounds_toArray, List.set_cons_zero, List.set_cons_succ]
      refine wpAnyH_take (i := 3) (oi := ?oi3) (v := ?v3) ?hi3 (by kernel_rfl) (by kernel_rfl) (by kernel_rfl) ?hq3 (Or.inl ⟨?hw3, ?hy3⟩) (by assumption) ?rest3
      case hi3 => (simp only [List.getElem?_toArray, List.getElem?_cons_succ, List.getElem?_cons_zero]; rfl)
      case hq3 => exact fun _ _ _ h => h
      case hw3 => rfl
      case hy3 => (intro w hSw; (try dsimp only at hSw); go_simp <;> with_reducible rfl)
      try simp only [Act.put, List.setIfInBounds_toArray, List.set_cons_zero, List.set_cons_succ]
      refine wpAnyH_take (i := 4) (oi := ?oi4) (v := ?v4) ?hi4 (by kernel_rfl) (by kernel_rfl) (by kernel_rfl) ?hq4 (Or.inl ⟨?hw4, ?hy4⟩) (by assumption) ?rest4
      case hi4 => (simp only [List.getElem?_toArray, List.getElem?_cons_succ, List.getElem?_cons_zero]; rfl)
      case hq4 => exact fun _ _ _ h => h
      case hw4 => rfl
      case hy4 => (intro w hSw; (try dsimp only at hSw); go_simp <;> with_reducible rfl)
      try simp only [Act.put, List.setIfInBounds_toArray, List.set_cons_zero, List.set_cons_succ]
      refine wpAnyH_take (i := 5) (oi := ?oi5) (v := ?v5) ?hi5 (by kernel_rfl) (by kernel_rfl) (by kernel_rfl) ?hq5 (Or.inl ⟨?hw5, ?hy5⟩) (by assumption) ?rest5
      case hi5 => (simp only [List.getElem?_toArray, List.getElem?_cons_succ, List.getElem?_cons_zero]; rfl)
      case hq5 => exact fun _ _ _ h => h
      case hw5 => rfl
      case hy5 => (intro w hSw; (try dsimp only at hSw); go_simp <;> with_reducible rfl)
      try simp only [Act.put, List.setIfInBounds_toArray, List.set_cons_zero, List.set_cons_succ]
      refine wpAnyH_take (i := 7) (oi := ?oi7) (v := ?v7) ?hi7 (by kernel_rfl) (by kernel_rfl) (by kernel_rfl) ?hq7 (Or.inl ⟨?hw7, ?hy7⟩) (by assumption) ?rest7
      case hi7 => (simp only [List.getElem?_toArray, List.getElem?_cons_succ, List.getElem?_cons_zero]; rfl)
      case hq7 => exact fun _ _ _ h => h
      case hw7 => rfl
      case hy7 => (intro w hSw; (try dsimp only at hSw); go_simp <;> with_reducible rfl)
      try simp only [Act.put, List.setIfInBounds_toArray, List.set_cons_zero, List.set_cons_succ]
      refine wpAnyH_take (i := 8) (oi := ?oi8) (v := ?v8) ?hi8 (by kernel_rfl) (by kernel_rfl) (by kernel_rfl) ?hq8 (Or.inl ⟨?hw8, ?hy8⟩) (by assumption) ?rest8
      case hi8 => (simp only [List.getElem?_toArray, List.getElem?_cons_succ, List.getElem?_cons_zero]; rfl)
      case hq8 => exact fun _ _ _ h => h
      case hw8 => rfl
      case hy8 => (intro w hSw; (try dsimp only at hSw); go_simp <;> with_reducible rfl)
      try simp only [Act.put, List.setIfInBounds_toArray, List.set_cons_zero, List.set_cons_succ]
      refine wpAnyH_take (i := 9) (oi := ?oi9) (v := ?v9) ?hi9 (by kernel_rfl) (by kernel_rfl) (by kernel_rfl) ?hq9 (Or.inl ⟨?hw9, ?hy9⟩) (by assumption) ?rest9
      case hi9 => (simp only [List.getElem?_toArray, List.getElem?_cons_succ, List.getElem?_cons_zero]; rfl)
      case hq9 => exact fun _ _ _ h => h
      case hw9 => rfl
      case hy9 => (intro w hSw; (try dsimp only at hSw); go_simp <;> with_reducible rfl)
      try simp only [Act.put, List.setIfInBounds_toArray, List.set_cons_zero, List.set_cons_succ]
      refine wpAnyH_take (i := 10) (oi := ?oi10) (v := ?v10) ?hi10 (by kernel_rfl) (by kernel_rfl) (by kernel_rfl) ?hq10 (Or.inl ⟨?hw10, ?hy10⟩) (by assumption) ?rest10
      case hi10 => (simp only [List.getElem?_toArray, List.getElem?_cons_succ, List.getElem?_cons_zero]; rfl)
      case hq10 => exact fun _ _ _ h => h
      case hw10 => rfl
      case hy10 => (intro w hSw; (try dsimp only at hSw); go_simp <;> with_reducible rfl)
      try simp only [Act.put, List.setIfInBounds_toArray, List.set_cons_zero, List.set_cons_succ]
      refine wpAnyH_take (i := 11) (oi := ?oi11) (v := ?v11) ?hi11 (by kernel_rfl) (by kernel_rfl) (by kernel_rfl) ?hq11 (Or.inl ⟨?hw11, ?hy11⟩) (by assumption) ?rest11
      case hi11 => (simp only [List.getElem?_toArray, List.getElem?_cons_succ, List.getElem?_cons_zero]; rfl)
      case hq11 => exact fun _ _ _ h => h
      case hw11 => rfl
      case hy11 => (intro w hSw; (try dsimp only at hSw); go_simp <;> with_reducible rfl)
      try simp only [Act.put, List.setIfInBounds_toArray, List.set_cons_zero, List.set_cons_succ]
      refine wpAnyH_take (i := 13) (oi := ?oi13) (v := ?v13) ?hi13 (by kernel_rfl) (by kernel_rfl) (by kernel_rfl) ?hq13 (Or.inl ⟨?hw13, ?hy13⟩) (by assumption) ?rest13
      case hi13 => (simp only [List.getElem?_toArray, List.getElem?_cons_succ, List.getElem?_cons_zero]; rfl)
      case hq13 => exact fun _ _ _ h => h
      case hw13 => rfl
      case hy13 => (intro w hSw; (try dsimp only at hSw); go_simp <;> with_reducible rfl)
      try simp only [Act.put, List.setIfInBounds_toArray, List.set_cons_zero, List.set_cons_succ]
      refine wpAnyH_take (i := 14) (oi := ?oi14) (v := ?v14) ?hi14 (by kernel_rfl) (by kernel_rfl) (by kernel_rfl) ?hq14 (Or.inl ⟨?hw14, ?hy14⟩) (by assumption) ?rest14
      case hi14 => (simp only [List.getElem?_toArray, List.getElem?_cons_succ, List.getElem?_cons_zero]; rfl)
      case hq14 => exact fun _ _ _ h => h
      case hw14 => rfl
      case hy14 => (intro w hSw; (try dsimp only at hSw); go_simp <;> with_reducible rfl)
      try simp only [Act.put, List.setIfInBounds_toArray, List.set_cons_zero, List.set_cons_succ]
      refine wpAnyH_take (i := 15) (oi := ?oi15) (v := ?v15) ?hi15 (by kernel_rfl) (by kernel_rfl) (by kernel_rfl) ?hq15 (Or.inl ⟨?hw15, ?hy15⟩) (by assumption) ?rest15
      case hi15 => (simp only [List.getElem?_toArray, List.getElem?_cons_succ, List.getElem?_cons_zero]; rfl)
      case hq15 => exact fun _ _ _ h => h
      case hw15 => rfl
      case hy15 => (intro w hSw; (try dsimp only at hSw); go_simp <;> with_reducible rfl)
      try simp only [Act.put, List.setIfInBounds_toArray, List.set_cons_zero, List.set_cons_succ]
      refine wpAnyH_take (i := 16) (oi := ?oi16) (v := ?v16) ?hi16 (by kernel_rfl) (by kernel_rfl) (by kernel_rfl) ?hq16 (Or.inl ⟨?hw16, ?hy16⟩) (by assumption) ?rest16
      case hi16 => (simp only [List.getElem?_toArray, List.getElem?_cons_succ, List.getElem?_cons_zero]; rfl)
      case hq16 => exact fun _ _ _ h => h
      case hw16 => rfl
      case hy16 => (intro w hSw; (try dsimp only at hSw); go_simp <;> with_reducible rfl)
      try simp only [Act.put, List.setIfInBounds_toArray, List.set_cons_zero, List.set_cons_succ]
      refine wpAnyH_take (i := 17) (oi := ?oi17) (v := ?v17) ?hi17 (by kernel_rfl) (by kernel_rfl) (by kernel_rfl) ?hq17 (Or.inl ⟨?hw17, ?hy17⟩) (by assumption) ?rest17
      case hi17 => (simp only [List.getElem?_toArray, List.getElem?_cons_succ, List.getElem?_cons_zero]; rfl)
      case hq17 => exact fun _ _ _ h => h
      case hw17 => rfl
      case hy17 => (intro w hSw; (try dsimp only at hSw); go_simp <;> with_reducible rfl)
      try simp only [Act.put, List.setIfInBounds_toArray, List.set_cons_zero, List.set_cons_succ]
      refine wpAnyH_take (i := 18) (oi := ?oi18) (v := ?v18) ?hi18 (by kernel_rfl) (by kernel_rfl) (by kernel_rfl) ?hq18 (Or.inl ⟨?hw18, ?hy18⟩) (by assumption) ?rest18
      case hi18 => (simp only [List.getElem?_toArray, List.getElem?_cons_succ, List.getElem?_cons_zero]; rfl)
      case hq18 => exact fun _ _ _ h => h
      case hw18 => rfl
      case hy18 => (intro w hSw; (try dsimp only at hSw); go_simp <;> with_reducible rfl)
      try simp only [Act.put, List.setIfInBounds_toArray, List.set_cons_zero, List.set_cons_succ]
      refine wpAnyH_ready (rs := [6]) (by kernel_rfl) (by simp) ?_
      refine AllReadyH.cons (o := ?o6) ?hi6 (fun K hK => ?st6) AllReadyH.nil
      case hi6 => (simp only [List.getElem?_toArray, List.getElem?_cons_succ, List.getElem?_cons_zero]; rfl)
      go_simp
      refine (mnum_any _ _ v _ o.n _ hmD hok.1 hok.2.1).mono ?_
      rintro e w4 ⟨v4, rfl, hm4, hk4, hf4⟩
      have S4 := SA.kept hk4 hBb
      go_wp2_with fail
      refine hK.out _ _ S4 (fun hHeld2 => ?_)
      clear hK K hHeld
      have hHeld := hHeld2
      clear hHeld2
      try simp only [Act.put, List.setIfInBounds_toArray, List.set_cons_zero, List.set_cons_succ]
      refine wpAnyH_ready (rs := [12]) (by kernel_rfl) (by simp) ?_
      refine AllReadyH.cons (o := ?o12) ?hi12 (fun K hK => ?st12) AllReadyH.nil
      case hi12 => (simp only [List.getElem?_toArray, List.getElem?_cons_succ, List.getElem?_cons_zero]; rfl)
      go_simp
      refine (mtext_any _ _ v4 _ o.s w4 hm4 (by have := hok.2.2; omega)).mono ?_
      rintro e w5 ⟨v5, rfl, hm5, hk5, hf5⟩
      have hF5 := (Foot.mk hk4 hf4).trans (Foot.mk hk5 hf5)
      have S5 := SA.kept hF5.keep hBb
      go_wp2_with fail
      refine hK.out _ _ S5 (fun hHeld2 => ?_)
      clear hK K hHeld
      have hHeld := hHeld2
      clear hHeld2
      try simp only [Act.put, List.setIfInBounds_toArray, List.set_cons_zero, List.set_cons_succ]
      refine wpAnyH_ready (rs := [19]) (by kernel_rfl) (by simp) ?_
      refine AllReadyH.cons (o := ?o19) ?hi19 (fun K hK => ?st19) AllReadyH.nil
      case hi19 => (simp only [List.getElem?_toArray, List.getElem?_cons_succ, List.getElem?_cons_zero]; rfl)
      go_simp
      refine (mflag_any _ _ v5 _ (o.k == 1) w5 hm5).mono ?_
      rintro e w6 ⟨v6, rfl, hm6, hk6, hf6⟩
      have hF6 := hF5.trans (Foot.mk hk6 hf6)
      have S6 := SA.kept hF6.keep hBb
      go_wp2_with fail
      refine hK.out _ _ S6 (fun hHeld2 => ?_)
      clear hK K hHeld
      have hHeld := hHeld2
      clear hHeld2
      try simp only [Act.put, List.setIfInBounds_toArray, List.set_cons_zero, List.set_cons_succ]
      refine wpAnyH_take (i := 20) (oi := ?oi20) (v := ?v20) ?hi20 (by kernel_rfl) (by kernel_rfl) (by kernel_rfl) ?hq20 (Or.inl ⟨?hw20, ?hy20⟩) (by assumption) ?rest20
      case hi20 => (simp only [List.getElem?_toArray, List.getElem?_cons_succ, List.getElem?_cons_zero]; rfl)
      case hq20 => exact fun _ _ _ h => h
      case hw20 => rfl
      case hy20 => (intro w hSw; (try dsimp only at hSw); go_simp <;> with_reducible rfl)
      try simp only [Act.put, List.setIfInBounds_toArray, List.set_cons_zero, List.set_cons_succ]
      refine wpAnyH_done (by kernel_rfl) ?_ _
      go_wp2_with fail
      go_roundw
      case rel => exact ⟨rfl, k + 1, by omega, by go_num, v6, by rw [hstep.out]; exact hm6, (Below.drew hbk).trans (hF6.below hzk fun i hi => (hmk.foot i hi).1)⟩
      case measure => simp [intOf]; omega
    · obtain rfl : k = N := by omega
      cases hst : putAll f k with
      | none =>
        rw [hst] at hmk
        have HST := Lib.hid hst
        clear hst
        go_wp2_with fail
        refine (mdone_any _ _ _ _ wr hmk).mono ?_
        rintro e w6 ⟨hb6, rfl⟩
        have hb6' := hbk.trans (hb6.mono hzk)
        clear hb6
        go_wp2
        go_ret
        exact ⟨rfl, hb6'⟩
      | some y =>
        rw [hst] at hmk
        have hyl : y.length ≤ 262144 := hmk.short
        have hy : Hid (y = restOf f k k) := Lib.hid (putAll_all hst)
        clear hst
        go_wp2_with fail
        refine (mdone_any _ _ _ _ wr hmk).mono ?_
        rintro e w6 ⟨hb6, A6, c6, rfl, hl6, hc6, hr6, hA6⟩
        have hb6' := hbk.trans (hb6.mono hzk)
        have hz6 := hb6'.size
        clear hb6 hmk
        go_wp2_with fail
        refine (take_any A6 _ c6 y w6 hr6 (by omega)).mono ?_
        rintro e w7 ⟨g, At, ct, rfl, hg, ht, hb7, hAt⟩
        have hb7' := hb6'.trans (hb7.mono hz6)
        rw [hy.out] at ht hyl
        clear hb7 hb6' hbk hy hr6 hA6
        go_wp2_with fail
        go_loopw [8] (fun i wr => ∃ j : Nat, j ≤ k ∧ i = .int .i64 (j : Int) ∧ ∃ Att ctt, PT wr g Att ctt (some (restOf f k (k - j))) ∧ Below w.heap.size w wr)
          (fun i _ => k - (intOf i).toNat)
        case atStart => exact ⟨0, Nat.zero_le _, rfl, At, ct, ht, hb7'⟩
        case round =>
          obtain ⟨j, hj, rfl, Att, ctt, htk, hbk⟩ := hrel
          clear ht hb7'
          have hzk := hbk.size
          have hgl := htk.blk.lt
          by_cases hlt : j < k
          · have hjl : j < len := by omega
            have hj5 : j < 500 := by omega
            obtain ⟨hok', hat⟩ := ho
            obtain ⟨b, off, rfl, hbl, hcells⟩ := hat (by omega)
            obtain ⟨c0, c1, c2, _, _⟩ := (hcells j hjl).below hbk hbl
            have hok := hok' j hjl
            obtain ⟨m, hm'⟩ : ∃ m, k - j = m + 1 := ⟨k - j - 1, by omega⟩
            have hjm : k - (m + 1) = j := by omega
            have hnext : k - (j + 1) = m := by omega
            have hrest : restOf f k (k - j) = opBytes (f j) ++ restOf f k m := by rw [hm', restOf, hjm]
            have hos : (f j).s.size ≤ 262144 := by
              have h1 := rest_size f k m
              have h2 := rest_le f k (m + 1) k (by omega)
              rw [hjm] at h1
              omega
            rw [hrest] at htk
            have HR : Hid (restOf f k (k - (j + 1)) = restOf f k m) := Lib.hid (by rw [hnext])
            clear hat hcells hok' hm' hjm hnext hrest hyl
            generalize f j = o at *
            generalize restOf f k m = R at *
            have SA : OpAt3 wr.drew b (off + j * 5) o := ⟨c0, c1, c2⟩
            have hBg : ¬ b = g := by omega
            go_wp2_with fail
            refine wp_region_held_drew (S := (fun w' => w'.cell? ⟨b, off + j * 5, none⟩ = some (.int .i64 o.k) ∧ w'.cell? ⟨b, off + j * 5 + 1, none⟩ = some (.int .i64 o.n) ∧ w'.cell? ⟨b, off + j * 5 + 2, none⟩ = some (.string o.s))) (by kernel_rfl) SA (fun hHeld => ?_)
            refine wpAnyH_take (i := 0) (oi := ?oi200) (v := ?v200) ?hi200 (by kernel_rfl) (by kernel_rfl) (by kernel_rfl) ?hq200 (Or.inl ⟨?hw200, ?hy200⟩) (by assumption) ?rest200
            case hi200 => (simp only [List.getElem?_toArray, List.getElem?_cons_succ, List.getElem?_cons_zero]; rfl)
            case hq200 => exact fun _ _ _ h => h
            case hw200 => rfl
            case hy200 => (intro w hSw; (try dsimp only at hSw); go_simp <;> with_reducible rfl)
            try simp only [Act.put, List.setIfInBounds_toArray, List.set_cons_zero, List.set_cons_succ]
            refine wpAnyH_take (i := 2) (oi := ?oi202) (v := ?v202) ?hi202 (by kernel_rfl) (by kernel_rfl) (by kernel_rfl) ?hq202 (Or.inl ⟨?hw202, ?hy202⟩) (by assumption) ?rest202
            case hi202 => (simp only [List.getElem?_toArray, List.getElem?_cons_succ, List.getElem?_cons_zero]; rfl)
            case hq202 => exact fun _ _ _ h => h
            case hw202 => rfl
            case hy202 => (intro w hSw; (try dsimp only at hSw); go_simp <;> with_reducible rfl)
            try simp only [Act.put, List.setIfInBounds_toArray, List.set_cons_zero, List.set_cons_succ]
            refine wpAnyH_take (i := 3) (oi := ?oi203) (v := ?v203) ?hi203 (by kernel_rfl) (by kernel_rfl) (by kernel_rfl) ?hq203 (Or.inl ⟨?hw203, ?hy203⟩) (by assumption) ?rest203
            case hi203 => (simp only [List.getElem?_toArray, List.getElem?_cons_succ, List.getElem?_cons_zero]; rfl)
            case hq203 => exact fun _ _ _ h => h
            case hw203 => rfl
            case hy203 => (intro w hSw; (try dsimp only at hSw); go_simp <;> with_reducible rfl)
            try simp only [Act.put, List.setIfInBounds_toArray, List.set_cons_zero, List.set_cons_succ]
            refine wpAnyH_take (i := 4) (oi := ?oi204) (v := ?v204) ?hi204 (by kernel_rfl) (by kernel_rfl) (by kernel_rfl) ?hq204 (Or.inl ⟨?hw204, ?hy204⟩) (by assumption) ?rest204
            case hi204 => (simp only [List.getElem?_toArray, List.getElem?_cons_succ, List.getElem?_cons_zero]; rfl)
            case hq204 => exact fun _ _ _ h => h
            case hw204 => rfl
            case hy204 => (intro w hSw; (try dsimp only at hSw); go_simp <;> with_reducible rfl)
            try simp only [Act.put, List.setIfInBounds_toArray, List.set_cons_zero, List.set_cons_succ]
            refine wpAnyH_take (i := 5) (oi := ?oi205) (v := ?v205) ?hi205 (by kernel_rfl) (by kernel_rfl) (by kernel_rfl) ?hq205 (Or.inl ⟨?hw205, ?hy205⟩) (by assumption) ?rest205
            case hi205 => (simp only [List.getElem?_toArray, List.getElem?_cons_succ, List.getElem?_cons_zero]; rfl)
            case hq205 => exact fun _ _ _ h => h
            case hw205 => rfl
            case hy205 => (intro w hSw; (try dsimp only at hSw); go_simp <;> with_reducible rfl)
            try simp only [Act.put, List.setIfInBounds_toArray, List.set_cons_zero, List.set_cons_succ]
            refine wpAnyH_take (i := 6) (oi := ?oi206) (v := ?v206) ?hi206 (by kernel_rfl) (by kernel_rfl) (by kernel_rfl) ?hq206 (Or.inl ⟨?hw206, ?hy206⟩) (by assumption) ?rest206
            case hi206 => (simp only [List.getElem?_toArray, List.getElem?_cons_succ, List.getElem?_cons_zero]; rfl)
            case hq206 => exact fun _ _ _ h => h
            case hw206 => rfl
            case hy206 => (intro w hSw; (try dsimp only at hSw); go_simp <;> with_reducible rfl)
            try simp only [Act.put, List.setIfInBounds_toArray, List.set_cons_zero, List.set_cons_succ]
            refine wpAnyH_ready (rs := [1]) (by kernel_rfl) (by simp) ?_
            refine AllReadyH.cons (o := ?o201) ?hi201 (fun K hK => ?st201) AllReadyH.nil
            case hi201 => (simp only [List.getElem?_toArray, List.getElem?_cons_succ, List.getElem?_cons_zero]; rfl)
            go_simp
            refine (back_num _ g Att ctt o R hok (show PT wr.drew g Att ctt _ from TK.drewN htk 1)).mono ?_
            rintro e w4 ⟨A4, c4, rfl, h4, k4, s4⟩
            have S4 := SA.kept k4 hBg
            go_wp2_with fail
            refine hK.out _ _ S4 (fun hHeld2 => ?_)
            clear hK K hHeld
            have hHeld := hHeld2
            clear hHeld2
            try simp only [Act.put, List.setIfInBounds_toArray, List.set_cons_zero, List.set_cons_succ]
            refine wpAnyH_take (i := 7) (oi := ?oi207) (v := ?v207) ?hi207 (by kernel_rfl) (by kernel_rfl) (by kernel_rfl) ?hq207 (Or.inl ⟨?hw207, ?hy207⟩) (by assumption) ?rest207
            case hi207 => (simp only [List.getElem?_toArray, List.getElem?_cons_succ, List.getElem?_cons_zero]; rfl)
            case hq207 => exact fun _ _ _ h => h
            case hw207 => rfl
            case hy207 => (intro w hSw; (try dsimp only at hSw); go_simp <;> with_reducible rfl)
            try simp only [Act.put, List.setIfInBounds_toArray, List.set_cons_zero, List.set_cons_succ]
            refine wpAnyH_take (i := 8) (oi := ?oi208) (v := ?v208) ?hi208 (by kernel_rfl) (by kernel_rfl) (by kernel_rfl) ?hq208 (Or.inl ⟨?hw208, ?hy208⟩) (by assumption) ?rest208
            case hi208 => (simp only [List.getElem?_toArray, List.getElem?_cons_succ, List.getElem?_cons_zero]; rfl)
            case hq208 => exact fun _ _ _ h => h
            case hw208 => rfl
            case hy208 => (intro w hSw; (try dsimp only at hSw); go_simp <;> with_reducible rfl)
            try simp only [Act.put, List.setIfInBounds_toArray, List.set_cons_zero, List.set_cons_succ]
            refine wpAnyH_take (i := 9) (oi := ?oi209) (v := ?v209) ?hi209 (by kernel_rfl) (by kernel_rfl) (by kernel_rfl) ?hq209 (Or.inl ⟨?hw209, ?hy209⟩) (by assumption) ?rest209
            case hi209 => (simp only [List.getElem?_toArray, List.getElem?_cons_succ, List.getElem?_cons_zero]; rfl)
            case hq209 => exact fun _ _ _ h => h
            case hw209 => rfl
            case hy209 => (intro w hSw; (try dsimp only at hSw); go_simp <;> with_reducible rfl)
            try simp only [Act.put, List.setIfInBounds_toArray, List.set_cons_zero, List.set_cons_succ]
            refine wpAnyH_take (i := 11) (oi := ?oi211) (v := ?v211) ?hi211 (by kernel_rfl) (by kernel_rfl) (by kernel_rfl) ?hq211 (Or.inl ⟨?hw211, ?hy211⟩) (by assumption) ?rest211
            case hi211 => (simp only [List.getElem?_toArray, List.getElem?_cons_succ, List.getElem?_cons_zero]; rfl)
            case hq211 => exact fun _ _ _ h => h
            case hw211 => rfl
            case hy211 => (intro w hSw; (try dsimp only at hSw); go_simp <;> with_reducible rfl)
            try simp only [Act.put, List.setIfInBounds_toArray, List.set_cons_zero, List.set_cons_succ]
            refine wpAnyH_take (i := 12) (oi := ?oi212) (v := ?v212) ?hi212 (by kernel_rfl) (by kernel_rfl) (by kernel_rfl) ?hq212 (Or.inl ⟨?hw212, ?hy212⟩) (by assumption) ?rest212
            case hi212 => (simp only [List.getElem?_toArray, List.getElem?_cons_succ, List.getElem?_cons_zero]; rfl)
            case hq212 => exact fun _ _ _ h => h
            case hw212 => rfl
            case hy212 => (intro w hSw; (try dsimp only at hSw); go_simp <;> with_reducible rfl)
            try simp only [Act.put, List.setIfInBounds_toArray, List.set_cons_zero, List.set_cons_succ]
            refine wpAnyH_take (i := 13) (oi := ?oi213) (v := ?v213) ?hi213 (by kernel_rfl) (by kernel_rfl) (by kernel_rfl) ?hq213 (Or.inl ⟨?hw213, ?hy213⟩) (by assumption) ?rest213
            case hi213 => (simp only [List.getElem?_toArray, List.getElem?_cons_succ, List.getElem?_cons_zero]; rfl)
            case hq213 => exact fun _ _ _ h => h
            case hw213 => rfl
            case hy213 => (intro w hSw; (try dsimp only at hSw); go_simp <;> with_reducible rfl)
            try simp only [Act.put, List.setIfInBounds_toArray, List.set_cons_zero, List.set_cons_succ]
            refine wpAnyH_take (i := 14) (oi := ?oi214) (v := ?v214) ?hi214 (by kernel_rfl) (by kernel_rfl) (by kernel_rfl) ?hq214 (Or.inl ⟨?hw214, ?hy214⟩) (by assumption) ?rest214
            case hi214 => (simp only [List.getElem?_toArray, List.getElem?_cons_succ, List.getElem?_cons_zero]; rfl)
            case hq214 => exact fun _ _ _ h => h
            case hw214 => rfl
            case hy214 => (intro w hSw; (try dsimp only at hSw); go_simp <;> with_reducible rfl)
            try simp only [Act.put, List.setIfInBounds_toArray, List.set_cons_zero, List.set_cons_succ]
            refine wpAnyH_take (i := 15) (oi := ?oi215) (v := ?v215) ?hi215 (by kernel_rfl) (by kernel_rfl) (by kernel_rfl) ?hq215 (Or.inl ⟨?hw215, ?hy215⟩) (by assumption) ?rest215
            case hi215 => (simp only [List.getElem?_toArray, List.getElem?_cons_succ, List.getElem?_cons_zero]; rfl)
            case hq215 => exact fun _ _ _ h => h
            case hw215 => rfl
            case hy215 => (intro w hSw; (try dsimp only at hSw); go_simp <;> with_reducible rfl)
            try simp only [Act.put, List.setIfInBounds_toArray, List.set_cons_zero, List.set_cons_succ]
            refine wpAnyH_ready (rs := [10]) (by kernel_rfl) (by simp) ?_
            refine AllReadyH.cons (o := ?o210) ?hi210 (fun K hK => ?st210) AllReadyH.nil
            case hi210 => (simp only [List.getElem?_toArray, List.getElem?_cons_succ, List.getElem?_cons_zero]; rfl)
            go_simp
            refine (back_text w4 g A4 c4 o R hos h4).mono ?_
            rintro e w5 ⟨A5, c5, rfl, h5, k5, s5⟩
            have S5 := S4.kept k5 hBg
            go_wp2_with fail
            refine hK.out _ _ S5 (fun hHeld2 => ?_)
            clear hK K hHeld
            have hHeld := hHeld2
            clear hHeld2
            try simp only [Act.put, List.setIfInBounds_toArray, List.set_cons_zero, List.set_cons_succ]
            refine wpAnyH_take (i := 16) (oi := ?oi216) (v := ?v216) ?hi216 (by kernel_rfl) (by kernel_rfl) (by kernel_rfl) ?hq216 (Or.inl ⟨?hw216, ?hy216⟩) (by assumption) ?rest216
            case hi216 => (simp only [List.getElem?_toArray, List.getElem?_cons_succ, List.getElem?_cons_zero]; rfl)
            case hq216 => exact fun _ _ _ h => h
            case hw216 => rfl
            case hy216 => (intro w hSw; (try dsimp only at hSw); go_simp <;> with_reducible rfl)
            try simp only [Act.put, List.setIfInBounds_toArray, List.set_cons_zero, List.set_cons_succ]
            refine wpAnyH_take (i := 17) (oi := ?oi217) (v := ?v217) ?hi217 (by kernel_rfl) (by kernel_rfl) (by kernel_rfl) ?hq217 (Or.inl ⟨?hw217, ?hy217⟩) (by assumption) ?rest217
            case hi217 => (simp only [List.getElem?_toArray, List.getElem?_cons_succ, List.getElem?_cons_zero]; rfl)
            case hq217 => exact fun _ _ _ h => h
            case hw217 => rfl
            case hy217 => (intro w hSw; (try dsimp only at hSw); go_simp <;> with_reducible rfl)
            try simp only [Act.put, List.setIfInBounds_toArray, List.set_cons_zero, List.set_cons_succ]
            refine wpAnyH_take (i := 18) (oi := ?oi218) (v := ?v218) ?hi218 (by kernel_rfl) (by kernel_rfl) (by kernel_rfl) ?hq218 (Or.inl ⟨?hw218, ?hy218⟩) (by assumption) ?rest218
            case hi218 => (simp only [List.getElem?_toArray, List.getElem?_cons_succ, List.getElem?_cons_zero]; rfl)
            case hq218 => exact fun _ _ _ h => h
            case hw218 => rfl
            case hy218 => (intro w hSw; (try dsimp only at hSw); go_simp <;> with_reducible rfl)
            try simp only [Act.put, List.setIfInBounds_toArray, List.set_cons_zero, List.set_cons_succ]
            refine wpAnyH_take (i := 19) (oi := ?oi219) (v := ?v219) ?hi219 (by kernel_rfl) (by kernel_rfl) (by kernel_rfl) ?hq219 (Or.inl ⟨?hw219, ?hy219⟩) (by assumption) ?rest219
            case hi219 => (simp only [List.getElem?_toArray, List.getElem?_cons_succ, List.getElem?_cons_zero]; rfl)
            case hq219 => exact fun _ _ _ h => h
            case hw219 => rfl
            case hy219 => (intro w hSw; (try dsimp only at hSw); go_simp <;> with_reducible rfl)
            try simp only [Act.put, List.setIfInBounds_toArray, List.set_cons_zero, List.set_cons_succ]
            refine wpAnyH_take (i := 21) (oi := ?oi221) (v := ?v221) ?hi221 (by kernel_rfl) (by kernel_rfl) (by kernel_rfl) ?hq221 (Or.inl ⟨?hw221, ?hy221⟩) (by assumption) ?rest221
            case hi221 => (simp only [List.getElem?_toArray, List.getElem?_cons_succ, List.getElem?_cons_zero]; rfl)
            case hq221 => exact fun _ _ _ h => h
            case hw221 => rfl
            case hy221 => (intro w hSw; (try dsimp only at hSw); go_simp <;> with_reducible rfl)
            try simp only [Act.put, List.setIfInBounds_toArray, List.set_cons_zero, List.set_cons_succ]
            refine wpAnyH_take (i := 22) (oi := ?oi222) (v := ?v222) ?hi222 (by kernel_rfl) (by kernel_rfl) (by kernel_rfl) ?hq222 (Or.inl ⟨?hw222, ?hy222⟩) (by assumption) ?rest222
            case hi222 => (simp only [List.getElem?_toArray, List.getElem?_cons_succ, List.getElem?_cons_zero]; rfl)
            case hq222 => exact fun _ _ _ h => h
            case hw222 => rfl
            case hy222 => (intro w hSw; (try dsimp only at hSw); go_simp <;> with_reducible rfl)
            try simp only [Act.put, List.setIfInBounds_toArray, List.set_cons_zero, List.set_cons_succ]
            refine wpAnyH_take (i := 23) (oi := ?oi223) (v := ?v223) ?hi223 (by kernel_rfl) (by kernel_rfl) (by kernel_rfl) ?hq223 (Or.inl ⟨?hw223, ?hy223⟩) (by assumption) ?rest223
            case hi223 => (simp only [List.getElem?_toArray, List.getElem?_cons_succ, List.getElem?_cons_zero]; rfl)
            case hq223 => exact fun _ _ _ h => h
            case hw223 => rfl
            case hy223 => (intro w hSw; (try dsimp only at hSw); go_simp <;> with_reducible rfl)
            try simp only [Act.put, List.setIfInBounds_toArray, List.set_cons_zero, List.set_cons_succ]
            refine wpAnyH_take (i := 24) (oi := ?oi224) (v := ?v224) ?hi224 (by kernel_rfl) (by kernel_rfl) (by kernel_rfl) ?hq224 (Or.inl ⟨?hw224, ?hy224⟩) (by assumption) ?rest224
            case hi224 => (simp only [List.getElem?_toArray, List.getElem?_cons_succ, List.getElem?_cons_zero]; rfl)
            case hq224 => exact fun _ _ _ h => h
            case hw224 => rfl
            case hy224 => (intro w hSw; (try dsimp only at hSw); go_simp <;> with_reducible rfl)
            try simp only [Act.put, List.setIfInBounds_toArray, List.set_cons_zero, List.set_cons_succ]
            refine wpAnyH_take (i := 25) (oi := ?oi225) (v := ?v225) ?hi225 (by kernel_rfl) (by kernel_rfl) (by kernel_rfl) ?hq225 (Or.inl ⟨?hw225, ?hy225⟩) (by assumption) ?rest225
            case hi225 => (simp only [List.getElem?_toArray, List.getElem?_cons_succ, List.getElem?_cons_zero]; rfl)
            case hq225 => exact fun _ _ _ h => h
            case hw225 => rfl
            case hy225 => (intro w hSw; (try dsimp only at hSw); go_simp <;> with_reducible rfl)
            try simp only [Act.put, List.setIfInBounds_toArray, List.set_cons_zero, List.set_cons_succ]
            refine wpAnyH_take (i := 26) (oi := ?oi226) (v := ?v226) ?hi226 (by kernel_rfl) (by kernel_rfl) (by kernel_rfl) ?hq226 (Or.inl ⟨?hw226, ?hy226⟩) (by assumption) ?rest226
            case hi226 => (simp only [List.getElem?_toArray, List.getElem?_cons_succ, List.getElem?_cons_zero]; rfl)
            case hq226 => exact fun _ _ _ h => h
            case hw226 => rfl
            case hy226 => (intro w hSw; (try dsimp only at hSw); go_simp <;> with_reducible rfl)
            try simp only [Act.put, List.setIfInBounds_toArray, List.set_cons_zero, List.set_cons_succ]
            refine wpAnyH_ready (rs := [20]) (by kernel_rfl) (by simp) ?_
            refine AllReadyH.cons (o := ?o220) ?hi220 (fun K hK => ?st220) AllReadyH.nil
            case hi220 => (simp only [List.getElem?_toArray, List.getElem?_cons_succ, List.getElem?_cons_zero]; rfl)
            go_simp
            refine (back_flag w5 g A5 c5 o R h5).mono ?_
            rintro e w6 ⟨A6', c6', rfl, h6, k6, s6⟩
            have S6 := S5.kept k6 hBg
            go_wp2_with fail
            refine hK.out _ _ S6 (fun hHeld2 => ?_)
            clear hK K hHeld
            have hHeld := hHeld2
            clear hHeld2
            try simp only [Act.put, List.setIfInBounds_toArray, List.set_cons_zero, List.set_cons_succ]
            refine wpAnyH_take (i := 27) (oi := ?oi227) (v := ?v227) ?hi227 (by kernel_rfl) (by kernel_rfl) (by kernel_rfl) ?hq227 (Or.inl ⟨?hw227, ?hy227⟩) (by assumption) ?rest227
            case hi227 => (simp only [List.getElem?_toArray, List.getElem?_cons_succ, List.getElem?_cons_zero]; rfl)
            case hq227 => exact fun _ _ _ h => h
            case hw227 => rfl
            case hy227 => (intro w hSw; (try dsimp only at hSw); go_simp <;> with_reducible rfl)
            try simp only [Act.put, List.setIfInBounds_toArray, List.set_cons_zero, List.set_cons_succ]
            refine wpAnyH_take (i := 28) (oi := ?oi228) (v := ?v228) ?hi228 (by kernel_rfl) (by kernel_rfl) (by kernel_rfl) ?hq228 (Or.inl ⟨?hw228, ?hy228⟩) (by assumption) ?rest228
            case hi228 => (simp only [List.getElem?_toArray, List.getElem?_cons_succ, List.getElem?_cons_zero]; rfl)
            case hq228 => exact fun _ _ _ h => h
            case hw228 => rfl
            case hy228 => (intro w hSw; (try dsimp only at hSw); go_simp <;> with_reducible rfl)
            try simp only [Act.put, List.setIfInBounds_toArray, List.set_cons_zero, List.set_cons_succ]
            refine wpAnyH_done (by kernel_rfl) ?_ _
            go_wp2_with fail
            go_roundw
            case rel => exact ⟨j + 1, by omega, by go_num, A6', c6', by rw [HR.out]; exact h6, (Below.drew hbk).trans ((((k4.trans k5 fun _ _ h => h).trans k6 fun _ _ h => h)).below hzk fun i hi he => by have : i = g := he; omega)⟩
            case measure => simp [intOf]; omega
          · obtain rfl : j = k := by omega
            rw [Nat.sub_self] at htk
            have htk' : PT wr g Att ctt (some []) := htk
            clear htk
            go_wp2_with fail
            refine (tdone_any wr g Att ctt _ htk').mono ?_
            rintro e w8 ⟨rfl, rfl⟩
            rw [show tdoneN (some []) = 0 from rfl]
            go_wp2
            go_ret
            exact ⟨rfl, hbk⟩


theorem cellsBack_walk {w : World} (A : Option Addr) (len cap : Nat) (f : Nat → OpV) (ho : OPS w A len f) (hc : len ≤ cap) (hm : cap ≤ 9223372036854775807) :
    Calls Try.prog 8 #[.slice A len cap] w fun e w' => e = .returned (.bool true) ∧ Below w.heap.size w w' := by
  by_cases h : len ≤ 500
  · exact cellsBack_short A len cap f ho hc hm len (Nat.le_refl _) h (Nat.le_refl _)
  · exact cellsBack_long A len cap f ho hc hm 500 (by omega) (Nat.le_refl _) (by omega) (Nat.le_refl _)

namespace cellsBackDone
open Go.ChangeShapes Go.WideShapes Go.ChangeAt
set_option maxRecDepth 100000 in
theorem lifted (os : Os) (started : os.Started) (H : Type) (enc : TypeId × Value → H) :
    ReturnsInHanded {} Try.checked os 8 .any (Rows.cellsBackSpec.pre6 enc Try.prog Try.f8 Rows.cellsBackRow.domain false) (Rows.cellsBackSpec.post enc Try.prog Try.f8 false true false false) := by
  refine returnsInHanded_of_change_sized (C := Try.checked) own started (by kernel_rfl) Try.func8
    (ChangeSpec.witness6 (enc := enc) (C := Try.checked) false ⟨#[], #[Value.slice none 0 0], []⟩ 8 (by kernel_rfl) (by kernel_rfl) (by kernel_rfl) (by kernel_rfl)) ?_
  intro W base args ds gs before hval0 hW hcnd hsz0 _
  have hsz : (DataW.weightsEach Try.prog (Try.f8.params.toList ++ Rows.cellsBackSpec.plain.varTypes Try.prog) (ds ++ gs)).all (· ≤ reachBytes) = true := hsz0
  clear hsz0
  have hval : ∀ (j : Nat) t v, Try.f8.params[j]? = some t → args[j]? = some v → Value.okWide Try.prog W .any base t v := hval0
  have hW' := hW
  obtain ⟨p, q, hA0, hV, rfl, hfz, hnd⟩ := hW
  have hA : DataW.TrodAll enc Try.prog W 0 (fun _ => true) true Try.f8.params.toList args.toList ds p := hA0
  rw [Try.params8] at hA hval hsz
  obtain ⟨v0, vs0, d0, ds0, p0, q0, hargs, rfl, rfl, h0, r0⟩ := trodAll_cons hA
  obtain ⟨rfl, rfl, rfl⟩ := trodAll_nil r0
  obtain rfl : args = #[v0] := by cases args; simp_all
  obtain ⟨rfl, rfl⟩ := trodVars_none hV
  obtain ⟨a0, len0, cap0, rfl⟩ := okWide_slice Try.underlying33 (hval 0 33 v0 rfl rfl)
  have k0 := h0
  have lt0 : ∀ x ∈ p0, x.block < W.heap.size := by obtain ⟨m, hm⟩ := k0; exact DataW.trod_lt m _ _ _ hm
  obtain ⟨f0, ho0, hc0, hm0⟩ := ops_open h0 hsz (j := 0) rfl rfl
  clear hA0 hval0
  refine (cellsBack_walk (w := W) a0 len0 cap0 f0 ho0 hc0 hm0).mono fun e W' ⟨he, bel⟩ => ?_
  subst he
  exact ⟨_, rfl, _, _, _, [], _, [], hW', trodAll_mk1 (shut_bool Try.underlying4 _), (trodAll_cons_mk (Below.trod laidOut (by kernel_rfl) (of_decide_eq_true (by kernel_rfl)) k0 bel lt0) trodAll_mk0), rfl, bel.frame _, fun h => by cases h⟩

theorem over : Rows.cellsBackRow.holds Try.pinned (OpenSpec.ofChange Rows.cellsBackSpec) :=
  OpenClaim.holds_of_wide 8 Try.f8 rfl rfl rfl rfl rfl rfl rfl ⟨rfl, rfl, rfl, rfl, rfl⟩ rfl rfl rfl rfl rfl (by kernel_rfl) Try.func8 (by kernel_rfl)
    (of_decide_eq_true (by kernel_rfl)) (by unfold Func.isWrapper; first | (rw [if_pos (by decide +kernel)]; kernel_rfl) | (rw [if_neg (by decide +kernel)]; exact ⟨rfl, rfl⟩))
    (fun os started H enc _ => lifted os started H enc)

/-- The statement. -/
theorem proved : Rows.CellsBackSaid := over
end cellsBackDone
end Go.Proofs.Ytdelbddgaekkaaa
