/- 'CellsTakes' returns true for every input: the row of this law, proved. No condition. -/
import Derived.Test.YtdelbddgaekkaaaRefT
import Derived.ProofKit
import Derived.OpenShut
import Derived.ShutString
import Derived.ChangeOld
import Derived.SizedLaws
namespace Go.Proofs.Ytdelbddgaekkaaa
open Go.RowKit
set_option linter.unusedVariables false
set_option linter.unusedSimpArgs false
/-- How far the two takers' memory is apart. -/
structure TakesRel (w wr : World) (g gx : Nat) (A At Ax : Option Addr) (n nx : Nat) : Prop where
  bel : Below w.heap.size w wr
  tb : ∀ ad, At = some ad → w.heap.size ≤ ad.block
  tx : 0 < nx → ∀ ad, At = some ad → ad.block ≠ gx
  same : SameBlock A Ax
  le : nx ≤ n

theorem rst_len (l : List UInt8) (bad : Bool) : ((rst l bad).getD []).length ≤ l.length := by
  cases bad
  · exact Nat.le_refl _
  · exact Nat.zero_le _

theorem quietD {P : Program} {f : FuncId} {args : Array Value} {w : World} {n : Nat} {v : Value} (h : Calls P f args (w.drewN n) fun e w' => e = .returned v ∧ w.drewN n = w') :
    Calls P f args (w.drewN n) fun e w'' => e = .returned v ∧ ∃ m, w'' = w.drewN m := h.mono fun _ _ ⟨he, hm⟩ => ⟨he, n, hm.symm⟩

theorem TakesRel.alloc {w wr : World} {g gx : Nat} {A At Ax : Option Addr} {n nx : Nat} (R : TakesRel w wr g gx A At Ax n nx) (hz : w.heap.size ≤ wr.heap.size) (o : Obj) : TakesRel w (wr.alloc o) g gx A At Ax n nx :=
  ⟨R.bel.alloc hz o, R.tb, R.tx, R.same, R.le⟩
theorem TakesRel.drew_ {w wr : World} {g gx : Nat} {A At Ax : Option Addr} {n nx : Nat} (R : TakesRel w wr g gx A At Ax n nx) : TakesRel w wr.drew g gx A At Ax n nx := ⟨R.bel.drew, R.tb, R.tx, R.same, R.le⟩
theorem TK.drew_ {t : TypeId} {w : World} {g : Nat} {A : Option Addr} {c : Nat} {l : List UInt8} {bad : Bool} (h : TK t w g A c l bad) : TK t w.drew g A c l bad := ⟨h.blk, h.rd, h.cap, h.apart⟩
theorem takesS {w : World} {g : Nat} {t : TypeId} {a b c : Value} {le mo : Int} (h : Blk w g t #[a, b, c, .int .i64 le, .int .i64 mo]) : w.cell? ⟨g, 3, none⟩ = some (.int .i64 le) ∧ w.cell? ⟨g, 4, none⟩ = some (.int .i64 mo) :=
  ⟨h.cell 3, h.cell 4⟩

/-- The document's taker behind the program's call. -/
theorem takes_mid {w W0 w4 : World} {g gx : Nat} {A At Ax : Option Addr} {cx : Nat} {lx l : List UInt8} {bad : Bool} (hr : RB w A l.length l) (hg : w.heap.size ≤ g) (hgx : g < gx) (hx : TK 54 W0 gx Ax cx lx bad)
    (R : TakesRel w W0 g gx A At Ax l.length lx.length) (k4 : Keep (fun k => k = g) W0 w4) : TK 54 w4 gx Ax cx lx bad :=
  hx.kept' k4 (by omega) fun hp ad had he => by
    obtain ⟨a0, h0, e0⟩ := R.same ad had
    have := hr.addr_lt h0 (by have := R.le; omega)
    omega

theorem takes_step {w W0 w4 w5 : World} {g gx c4 : Nat} {A At Ax A4 A5 : Option Addr} {lx l5 l : List UInt8} {bad5 : Bool} {st : Option (List UInt8)} (hg : w.heap.size ≤ g) (hgx : g < gx) (hz : w.heap.size ≤ W0.heap.size)
    (R : TakesRel w W0 g gx A At Ax l.length lx.length) (h4 : PT w4 g A4 c4 st) (k4 : Keep (fun k => k = g) W0 w4) (s4 : SameBlock At A4) (h5 : rst l5 bad5 = st) (k5 : Keep (fun k => k = gx) w4 w5) (s5 : SameBlock Ax A5) (n5 : l5.length ≤ lx.length) :
    PT w5 g A4 c4 (rst l5 bad5) ∧ TakesRel w w5 g gx A A4 A5 l.length l5.length ∧ Keep (fun k => g ≤ k) W0 w5 := by
  have htx : 0 < l5.length → ∀ ad, A4 = some ad → ad.block ≠ gx := fun hp ad had => by
    obtain ⟨a0, h0, e0⟩ := s4 ad had
    rw [e0]
    exact R.tx (by omega) a0 h0
  have k45 : Keep (fun k => g ≤ k) W0 w5 := (k4.mono (T := fun k => g ≤ k) fun i _ hi => by omega).trans k5 fun i _ hi => by omega
  refine ⟨?_, ⟨R.bel.trans (k45.below hz fun i hi hge => by omega), fun ad had => ?_, htx, R.same.trans s5, Nat.le_trans n5 R.le⟩, k45⟩
  · subst h5
    exact TK.kept' h4 k5 (by omega) fun hp ad had => htx (Nat.lt_of_lt_of_le hp (rst_len _ _)) ad had
  · obtain ⟨a0, h0, e0⟩ := s4 ad had
    rw [e0]
    exact R.tb a0 h0

set_option maxRecDepth 100000 in
set_option maxHeartbeats 6000000 in
theorem cellsTakes_walk {w : World} (A : Option Addr) (len cap : Nat) (l : List UInt8) (hr : RB w A len l) (hc : len ≤ cap) (hm : cap ≤ 9223372036854775807) (hl : cap ≤ 140737488351232)
    (A2 : Option Addr) (len2 cap2 : Nat) (f : Nat → OpV) (ho : OPS w A2 len2 f) (hc2 : len2 ≤ cap2) (hm2 : cap2 ≤ 9223372036854775807) :
    Calls Try.prog 7 #[.slice A len cap, .slice A2 len2 cap2] w fun e w' => e = .returned (.bool true) ∧ Below w.heap.size w w' := by
  have hln := hr.1
  go_enter Try.func7, Try.ntmps7
  go_wp2_with (at_builtin; refine wpApp rfl (.tmp 11) (.tmp 12) rfl w.heap.size _ [] rfl (OB.built w.heap.size w [] (Nat.le_refl _) (by simp [maxLen])) A len cap l rfl (hr.alloc _) (by simp; omega) (by simp) ?_; intro v1 w1 hg1; have hb1 := ((Below.refl w.heap.size w).alloc (Nat.le_refl _) (.cells #[] 5)).trans (hg1.below (OB.built w.heap.size w [] (Nat.le_refl _) (by simp [maxLen])) (by simp)); obtain ⟨A1, c1, hv1, hl1, hm1, hr1, had1⟩ := hg1.own.form; clear hg1; subst hv1)
  have hr1' : RB w1 A1 len l := by
    have := hr1
    rw [List.nil_append, hln] at this
    exact this
  have hz1 := hb1.size
  have hr0 := hr1'
  clear hr1 had1
  refine (take_any A1 len c1 l w1 hr1' (by omega)).mono ?_
  rintro e w2 ⟨g, At, ct, rfl, hg, ht, hb2, hAt⟩
  have hb2' := hb1.trans (hb2.mono hz1)
  have hz2 := hb2'.size
  have hr2 := hr1'.below hb2
  have hlt2 : 0 < l.length → ∀ ad, At = some ad → ad.block < w2.heap.size := fun hp ad had => RB.addr_lt ht.rd had hp
  have hglt2 : g < w2.heap.size := ht.blk.lt
  clear hb1 hb2 hr1'
  have htA := TK.kept ht ((Keep.refl (fun _ => False) w2).alloc (.cells #[.slice A len cap, .bool false] 54)) (fun h => h) fun _ _ h => h
  have hglt := ht.blk.lt
  have hbA := hb2'.alloc hz2 (.cells #[.slice A len cap, .bool false] 54)
  have hzA := hbA.size
  have hxA : TK 54 (w2.alloc (.cells #[.slice A len cap, .bool false] 54)) w2.heap.size A cap l false :=
    ⟨by rw [hln]; exact Blk.new _ _ _, by rw [hln]; exact hr.below hbA, by omega, fun hp ad had => by
      have := hr.addr_lt had (by omega)
      omega⟩
  go_wp2_with fail
  refine (lives_any _).mono ?_
  rintro e w3 ⟨rfl, hb3⟩
  have ht3 := TK.below htA hb3
  have hx3 := TK.below hxA hb3
  have hr3 := (hr2.alloc (.cells #[.slice A len cap, .bool false] 54)).below hb3
  have hb3' := hbA.trans (hb3.mono hzA)
  clear htA hxA hb3 hbA ht hr2
  go_wp2_with fail
  have hA1 : 0 < len → ∀ ad, A1 = some ad → ad.block < g := fun hp ad had => by
    have := hr0.addr_lt had hp
    omega
  have hg0 : w.heap.size ≤ g := by omega
  have hrL : RB w A l.length l := by rw [hln]; exact hr
  go_loopw [8] (fun i wr => ∃ k : Nat, k ≤ len2 ∧ i = .int .i64 (k : Int) ∧ ∃ At ct Ax cx lx bad, PT wr g At ct (rst lx bad) ∧ TK 54 wr w2.heap.size Ax cx lx bad ∧ TakesRel w wr g w2.heap.size A At Ax l.length lx.length ∧ RB wr A1 len l)
    (fun i _ => len2 - (intOf i).toNat)
  case atStart => exact ⟨0, Nat.zero_le _, rfl, At, ct, A, cap, l, false, ht3, hx3, ⟨hb3', fun ad had => by have := hAt ad had; omega, fun hp ad had => by have := hlt2 (by omega) ad had; omega, SameBlock.refl A, Nat.le_refl _⟩, hr3⟩
  case round =>
    obtain ⟨k, hk, rfl, Att, ctt, Ax, cx, lx, bad, htk, hxk, R, hrk⟩ := hrel
    clear ht3 hx3 hr3 hb3'
    have hbk := R.bel
    have hzk := hbk.size
    have hg := hg0
    have hgw := htk.blk.lt
    have hxw := hxk.blk.lt
    by_cases hlt : k < len2
    · obtain ⟨hok, hat⟩ := ho
      obtain ⟨b, off, rfl, hbl, hcells⟩ := hat (by omega)
      obtain ⟨c0, c1, c2, c3, c4⟩ := (hcells k hlt).below hbk hbl
      clear hat hcells hok
      generalize f k = o at *
      have hallK := (Keep.refl (fun _ => False) wr).alloc (.cells #[.int .i64 o.k, .int .i64 o.n, .string o.s, .int .i64 o.le, .int .i64 o.mo] 40)
      have htA := TK.kept htk hallK (fun h => h) fun _ _ h => h
      have hxA := TK.kept hxk hallK (fun h => h) fun _ _ h => h
      have hkA := hrk.kept hallK fun _ _ h => h
      have RA := R.alloc hzk (.cells #[.int .i64 o.k, .int .i64 o.n, .string o.s, .int .i64 o.le, .int .i64 o.mo] 40)
      have hzA := RA.bel.size
      have hBA : Blk (wr.alloc (.cells #[.int .i64 o.k, .int .i64 o.n, .string o.s, .int .i64 o.le, .int .i64 o.mo] 40)) wr.heap.size 40 #[.int .i64 o.k, .int .i64 o.n, .string o.s, .int .i64 o.le, .int .i64 o.mo] := Blk.new _ _ _
      have SA := takesS hBA.drew
      go_wp2_with fail
      · refine wp_region_held_drew (S := (fun w' => w'.cell? ⟨wr.heap.size, 3, none⟩ = some (.int .i64 o.le) ∧ w'.cell? ⟨wr.heap.size, 4, none⟩ = some (.int .i64 o.mo))) (by kernel_rfl) SA (fun hHeld => ?_)
        refine wpAnyH_take (i := 0) (oi := ?oi0) (v := ?v0) ?hi0 (by kernel_rfl) (by kernel_rfl) (by kernel_rfl) ?hq0 (Or.inl ⟨?hw0, ?hy0⟩) (by assumption) ?rest0
        case hi0 => (simp only [List.getElem?_toArray, List.getElem?_cons_succ, List.getElem?_cons_zero]; rfl)
        case hq0 => exact fun _ _ _ h => h
        case hw0 => rfl
        case hy0 => (intro w hSw; (try dsimp only at hSw); go_simp <;> with_reducible rfl)
        try simp only [Act.put, List.setIfInBounds_toArray, List.set_cons_zero, List.set_cons_succ]
        refine wpAnyH_take (i := 1) (oi := ?oi1) (v := ?v1) ?hi1 (by kernel_rfl) (by kernel_rfl) (by kernel_rfl) ?hq1 (Or.inl ⟨?hw1, ?hy1⟩) (by assumption) ?rest1
        case hi1 => (simp only [List.getElem?_toArray, List.getElem?_cons_succ, List.getElem?_cons_zero]; rfl)
        case hq1 => exact fun _ _ _ h => h
        case hw1 => rfl
        case hy1 => (intro w hSw; (try dsimp only at hSw); go_simp <;> with_reducible rfl)
        try simp only [Act.put, List.setIfInBounds_toArray, List.set_cons_zero, List.set_cons_succ]
        refine wpAnyH_take (i := 2) (oi := ?oi2) (v := ?v2) ?hi2 (by kernel_rfl) (by kernel_rfl) (by kernel_rfl) ?hq2 (Or.inl ⟨?hw2, ?hy2⟩) (by assumption) ?rest2
        case hi2 => (simp only [List.getElem?_toArray, List.getElem?_cons_succ, List.getElem?_cons_zero]; rfl)
        case hq2 => exact fun _ _ _ h => h
        case hw2 => rfl
        case hy2 => (intro w hSw; (try dsimp only at hSw); go_simp <;> with_reducible rfl)
        try simp only [Act.put, List.setIfInBounds_toArray, List.set_cons_zero, List.set_cons_succ]
        refine wpAnyH_take (i := 3) (oi := ?oi3) (v := ?v3) ?hi3 (by kernel_rfl) (by kernel_rfl) (by kernel_rfl) ?hq3 (Or.inl ⟨?hw3, ?hy3⟩) (by assumption) ?rest3
        case hi3 => (simp only [List.getElem?_toArray, List.getElem?_cons_succ, List.getElem?_cons_zero]; rfl)
        case hq3 => exact fun _ _ _ h => h
        case hw3 => rfl
        case hy3 => (intro w hSw; (try dsimp only at hSw); go_simp <;> with_reducible rfl)
        try simp only [Act.put, List.setIfInBounds_toArray, List.set_cons_zero, List.set_cons_succ]
        refine wpAnyH_take (i := 4) (oi := ?oi4) (v := ?v4) ?hi4 (by kernel_rfl) (by kernel_rfl) (by kernel_rfl) ?hq4 (Or.inl ⟨?hw4, ?hy4⟩) (by assumption) ?rest4
        case hi4 => (simp only [List.getElem?_toArray, List.getElem?_cons_succ, List.getElem?_cons_zero]; rfl)
        case hq4 => exact fun _ _ _ h => h
        case hw4 => rfl
        case hy4 => (intro w hSw; (try dsimp only at hSw); go_simp <;> with_reducible rfl)
        try simp only [Act.put, List.setIfInBounds_toArray, List.set_cons_zero, List.set_cons_succ]
        refine wpAnyH_take (i := 6) (oi := ?oi6) (v := ?v6) ?hi6 (by kernel_rfl) (by kernel_rfl) (by kernel_rfl) ?hq6 (Or.inl ⟨?hw6, ?hy6⟩) (by assumption) ?rest6
        case hi6 => (simp only [List.getElem?_toArray, List.getElem?_cons_succ, List.getElem?_cons_zero]; rfl)
        case hq6 => exact fun _ _ _ h => h
        case hw6 => rfl
        case hy6 => (intro w hSw; (try dsimp only at hSw); go_simp <;> with_reducible rfl)
        try simp only [Act.put, List.setIfInBounds_toArray, List.set_cons_zero, List.set_cons_succ]
        refine wpAnyH_take (i := 7) (oi := ?oi7) (v := ?v7) ?hi7 (by kernel_rfl) (by kernel_rfl) (by kernel_rfl) ?hq7 (Or.inl ⟨?hw7, ?hy7⟩) (by assumption) ?rest7
        case hi7 => (simp only [List.getElem?_toArray, List.getElem?_cons_succ, List.getElem?_cons_zero]; rfl)
        case hq7 => exact fun _ _ _ h => h
        case hw7 => rfl
        case hy7 => (intro w hSw; (try dsimp only at hSw); go_simp <;> with_reducible rfl)
        try simp only [Act.put, List.setIfInBounds_toArray, List.set_cons_zero, List.set_cons_succ]
        refine wpAnyH_take (i := 8) (oi := ?oi8) (v := ?v8) ?hi8 (by kernel_rfl) (by kernel_rfl) (by kernel_rfl) ?hq8 (Or.inl ⟨?hw8, ?hy8⟩) (by assumption) ?rest8
        case hi8 => (simp only [List.getElem?_toArray, List.getElem?_cons_succ, List.getElem?_cons_zero]; rfl)
        case hq8 => exact fun _ _ _ h => h
        case hw8 => rfl
        case hy8 => (intro w hSw; (try dsimp only at hSw); go_simp <;> with_reducible rfl)
        try simp only [Act.put, List.setIfInBounds_toArray, List.set_cons_zero, List.set_cons_succ]
        refine wpAnyH_take (i := 9) (oi := ?oi9) (v := ?v9) ?hi9 (by kernel_rfl) (by kernel_rfl) (by kernel_rfl) ?hq9 (Or.inl ⟨?hw9, ?hy9⟩) (by assumption) ?rest9
        case hi9 => (simp only [List.getElem?_toArray, List.getElem?_cons_succ, List.getElem?_cons_zero]; rfl)
        case hq9 => exact fun _ _ _ h => h
        case hw9 => rfl
        case hy9 => (intro w hSw; (try dsimp only at hSw); go_simp <;> with_reducible rfl)
        try simp only [Act.put, List.setIfInBounds_toArray, List.set_cons_zero, List.set_cons_succ]
        refine wpAnyH_take (i := 10) (oi := ?oi10) (v := ?v10) ?hi10 (by kernel_rfl) (by kernel_rfl) (by kernel_rfl) ?hq10 (Or.inl ⟨?hw10, ?hy10⟩) (by assumption) ?rest10
        case hi10 => (simp only [List.getElem?_toArray, List.getElem?_cons_succ, List.getElem?_cons_zero]; rfl)
        case hq10 => exact fun _ _ _ h => h
        case hw10 => rfl
        case hy10 => (intro w hSw; (try dsimp only at hSw); go_simp <;> with_reducible rfl)
        try simp only [Act.put, List.setIfInBounds_toArray, List.set_cons_zero, List.set_cons_succ]
        refine wpAnyH_ready (rs := [5]) (by kernel_rfl) (by simp) ?_
        refine AllReadyH.cons (o := ?o5) ?hi5 (fun K hK => ?st5) AllReadyH.nil
        case hi5 => (simp only [List.getElem?_toArray, List.getElem?_cons_succ, List.getElem?_cons_zero]; rfl)
        go_simp
        refine (tnum_any _ g Att ctt (rst lx bad) o.le o.mo htA.drew_).mono ?_
        rintro e w4 ⟨A4, c4, rfl, h4, k4, s4⟩
        have x4 := takes_mid hrL hg (Nat.lt_of_lt_of_le hglt2 (Nat.le_refl _)) hxA.drew_ RA.drew_ k4
        have B4 := hBA.drew.kept k4 (fun h => absurd h (show ¬ wr.heap.size = g by omega))
        have S4 := takesS B4
        go_wp2_with fail
        refine hK.out _ _ S4 (fun hHeld2 => ?_)
        clear hK K hHeld
        have hHeld := hHeld2
        clear hHeld2
        try simp only [Act.put, List.setIfInBounds_toArray, List.set_cons_zero, List.set_cons_succ]
        refine wpAnyH_ready (rs := [11]) (by kernel_rfl) (by simp) ?_
        refine AllReadyH.cons (o := ?o11) ?hi11 (fun K hK => ?st11) AllReadyH.nil
        case hi11 => (simp only [List.getElem?_toArray, List.getElem?_cons_succ, List.getElem?_cons_zero]; rfl)
        go_simp
        refine (rtnum_any w4 w2.heap.size Ax cx lx bad o.le o.mo x4).mono ?_
        rintro e w5 ⟨A5, c5, l5, bad5, rfl, h5, p5, k5, s5, n5⟩
        have R5 := takes_step hg hglt2 (by exact hzA) RA.drew_ h4 k4 s4 p5 k5 s5 n5
        have B5 := B4.kept k5 (fun h => absurd h (show ¬ wr.heap.size = w2.heap.size by omega))
        have S5 := takesS B5
        have own5 := hkA.drew.kept' R5.2.2 fun hp ad had hge => by have := hA1 hp ad had; have hge' : g ≤ ad.block := hge; omega
        clear h4 k4 s4 x4 p5 k5 s5 n5 B4 B5
        go_wp2_with fail
        refine hK.out _ _ S5 (fun hHeld2 => ?_)
        clear hK K hHeld
        have hHeld := hHeld2
        clear hHeld2
        try simp only [Act.put, List.setIfInBounds_toArray, List.set_cons_zero, List.set_cons_succ]
        refine wpAnyH_take (i := 12) (oi := ?oi12) (v := ?v12) ?hi12 (by kernel_rfl) (by kernel_rfl) (by kernel_rfl) ?hq12 (Or.inl ⟨?hw12, ?hy12⟩) (by assumption) ?rest12
        case hi12 => (simp only [List.getElem?_toArray, List.getElem?_cons_succ, List.getElem?_cons_zero]; rfl)
        case hq12 => exact fun _ _ _ h => h
        case hw12 => rfl
        case hy12 => (intro w hSw; (try dsimp only at hSw); go_simp <;> with_reducible rfl)
        try simp only [Act.put, List.setIfInBounds_toArray, List.set_cons_zero, List.set_cons_succ]
        refine wpAnyH_take (i := 13) (oi := ?oi13) (v := ?v13) ?hi13 (by kernel_rfl) (by kernel_rfl) (by kernel_rfl) ?hq13 (Or.inl ⟨?hw13, ?hy13⟩) (by assumption) ?rest13
        case hi13 => (simp only [List.getElem?_toArray, List.getElem?_cons_succ, List.getElem?_cons_zero]; rfl)
        case hq13 => exact fun _ _ _ h => h
        case hw13 => rfl
        case hy13 => (intro w hSw; (try dsimp only at hSw); go_simp <;> with_reducible rfl)
        try simp only [Act.put, List.setIfInBounds_toArray, List.set_cons_zero, List.set_cons_succ]
        refine wpAnyH_done (by kernel_rfl) ?_ _
        go_wp2_with fail
        have hpt5 := R5.1
        refine (tleft_any w5 g A4 c4 _ hpt5).mono ?_
        rintro e w6 ⟨rfl, rfl⟩
        go_wp2_with fail
        refine (rtleft_any w5 w2.heap.size A5 c5 l5 bad5 h5).mono ?_
        rintro e w6 ⟨rfl, rfl⟩
        go_wp2
        go_roundw
        case rel => exact ⟨k + 1, by omega, by go_num, A4, c4, A5, c5, l5, bad5, hpt5, h5, R5.2.1, own5⟩
        case measure => simp [intOf]; omega
      · have hsv : ∀ x, strV x = Value.string ⟨x.toArray⟩ := fun _ => rfl
        refine wp_region_held_drew (S := (fun w' => w'.cell? ⟨wr.heap.size, 3, none⟩ = some (.int .i64 o.le) ∧ w'.cell? ⟨wr.heap.size, 4, none⟩ = some (.int .i64 o.mo))) (by kernel_rfl) SA (fun hHeld => ?_)
        refine wpAnyH_take (i := 0) (oi := ?oi100) (v := ?v100) ?hi100 (by kernel_rfl) (by kernel_rfl) (by kernel_rfl) ?hq100 (Or.inl ⟨?hw100, ?hy100⟩) (by assumption) ?rest100
        case hi100 => (simp only [List.getElem?_toArray, List.getElem?_cons_succ, List.getElem?_cons_zero]; rfl)
        case hq100 => exact fun _ _ _ h => h
        case hw100 => rfl
        case hy100 => (intro w hSw; (try dsimp only at hSw); go_simp <;> with_reducible rfl)
        try simp only [Act.put, List.setIfInBounds_toArray, List.set_cons_zero, List.set_cons_succ]
        refine wpAnyH_take (i := 1) (oi := ?oi101) (v := ?v101) ?hi101 (by kernel_rfl) (by kernel_rfl) (by kernel_rfl) ?hq101 (Or.inl ⟨?hw101, ?hy101⟩) (by assumption) ?rest101
        case hi101 => (simp only [List.getElem?_toArray, List.getElem?_cons_succ, List.getElem?_cons_zero]; rfl)
        case hq101 => exact fun _ _ _ h => h
        case hw101 => rfl
        case hy101 => (intro w hSw; (try dsimp only at hSw); go_simp <;> with_reducible rfl)
        try simp only [Act.put, List.setIfInBounds_toArray, List.set_cons_zero, List.set_cons_succ]
        refine wpAnyH_take (i := 2) (oi := ?oi102) (v := ?v102) ?hi102 (by kernel_rfl) (by kernel_rfl) (by kernel_rfl) ?hq102 (Or.inl ⟨?hw102, ?hy102⟩) (by assumption) ?rest102
        case hi102 => (simp only [List.getElem?_toArray, List.getElem?_cons_succ, List.getElem?_cons_zero]; rfl)
        case hq102 => exact fun _ _ _ h => h
        case hw102 => rfl
        case hy102 => (intro w hSw; (try dsimp only at hSw); go_simp <;> with_reducible rfl)
        try simp only [Act.put, List.setIfInBounds_toArray, List.set_cons_zero, List.set_cons_succ]
        refine wpAnyH_take (i := 4) (oi := ?oi104) (v := ?v104) ?hi104 (by kernel_rfl) (by kernel_rfl) (by kernel_rfl) ?hq104 (Or.inl ⟨?hw104, ?hy104⟩) (by assumption) ?rest104
        case hi104 => (simp only [List.getElem?_toArray, List.getElem?_cons_succ, List.getElem?_cons_zero]; rfl)
        case hq104 => exact fun _ _ _ h => h
        case hw104 => rfl
        case hy104 => (intro w hSw; (try dsimp only at hSw); go_simp <;> with_reducible rfl)
        try simp only [Act.put, List.setIfInBounds_toArray, List.set_cons_zero, List.set_cons_succ]
        refine wpAnyH_take (i := 5) (oi := ?oi105) (v := ?v105) ?hi105 (by kernel_rfl) (by kernel_rfl) (by kernel_rfl) ?hq105 (Or.inl ⟨?hw105, ?hy105⟩) (by assumption) ?rest105
        case hi105 => (simp only [List.getElem?_toArray, List.getElem?_cons_succ, List.getElem?_cons_zero]; rfl)
        case hq105 => exact fun _ _ _ h => h
        case hw105 => rfl
        case hy105 => (intro w hSw; (try dsimp only at hSw); go_simp <;> with_reducible rfl)
        try simp only [Act.put, List.setIfInBounds_toArray, List.set_cons_zero, List.set_cons_succ]
        refine wpAnyH_take (i := 6) (oi := ?oi106) (v := ?v106) ?hi106 (by kernel_rfl) (by kernel_rfl) (by kernel_rfl) ?hq106 (Or.inl ⟨?hw106, ?hy106⟩) (by assumption) ?rest106
        case hi106 => (simp only [List.getElem?_toArray, List.getElem?_cons_succ, List.getElem?_cons_zero]; rfl)
        case hq106 => exact fun _ _ _ h => h
        case hw106 => rfl
        case hy106 => (intro w hSw; (try dsimp only at hSw); go_simp <;> with_reducible rfl)
        try simp only [Act.put, List.setIfInBounds_toArray, List.set_cons_zero, List.set_cons_succ]
        refine wpAnyH_ready (rs := [3]) (by kernel_rfl) (by simp) ?_
        refine AllReadyH.cons (o := ?o103) ?hi103 (fun K hK => ?st103) AllReadyH.nil
        case hi103 => (simp only [List.getElem?_toArray, List.getElem?_cons_succ, List.getElem?_cons_zero]; rfl)
        go_simp
        refine (ttext_any _ g Att ctt (rst lx bad) o.mo htA.drew_).mono ?_
        rintro e w4 ⟨A4, c4, rfl, h4, k4, s4⟩
        have x4 := takes_mid hrL hg (Nat.lt_of_lt_of_le hglt2 (Nat.le_refl _)) hxA.drew_ RA.drew_ k4
        have B4 := hBA.drew.kept k4 (fun h => absurd h (show ¬ wr.heap.size = g by omega))
        have S4 := takesS B4
        go_wp2_with fail
        refine hK.out _ _ S4 (fun hHeld2 => ?_)
        clear hK K hHeld
        have hHeld := hHeld2
        clear hHeld2
        try simp only [Act.put, List.setIfInBounds_toArray, List.set_cons_zero, List.set_cons_succ]
        refine wpAnyH_ready (rs := [7]) (by kernel_rfl) (by simp) ?_
        refine AllReadyH.cons (o := ?o107) ?hi107 (fun K hK => ?st107) AllReadyH.nil
        case hi107 => (simp only [List.getElem?_toArray, List.getElem?_cons_succ, List.getElem?_cons_zero]; rfl)
        go_simp
        refine (rttext_any w4 w2.heap.size Ax cx lx bad o.mo x4).mono ?_
        rintro e w5 ⟨A5, c5, l5, bad5, rfl, h5, p5, k5, s5, n5⟩
        have R5 := takes_step hg hglt2 (by exact hzA) RA.drew_ h4 k4 s4 p5 k5 s5 n5
        have B5 := B4.kept k5 (fun h => absurd h (show ¬ wr.heap.size = w2.heap.size by omega))
        have S5 := takesS B5
        have own5 := hkA.drew.kept' R5.2.2 fun hp ad had hge => by have := hA1 hp ad had; have hge' : g ≤ ad.block := hge; omega
        clear h4 k4 s4 x4 p5 k5 s5 n5 B4 B5
        go_wp2_with fail
        refine hK.out _ _ S5 (fun hHeld2 => ?_)
        clear hK K hHeld
        have hHeld := hHeld2
        clear hHeld2
        try simp only [Act.put, List.setIfInBounds_toArray, List.set_cons_zero, List.set_cons_succ]
        refine wpAnyH_take (i := 8) (oi := ?oi108) (v := ?v108) ?hi108 (by kernel_rfl) (by kernel_rfl) (by kernel_rfl) ?hq108 (Or.inl ⟨?hw108, ?hy108⟩) (by assumption) ?rest108
        case hi108 => (simp only [List.getElem?_toArray, List.getElem?_cons_succ, List.getElem?_cons_zero]; rfl)
        case hq108 => exact fun _ _ _ h => h
        case hw108 => rfl
        case hy108 => (intro w hSw; (try dsimp only at hSw); go_simp <;> with_reducible rfl)
        try simp only [Act.put, List.setIfInBounds_toArray, List.set_cons_zero, List.set_cons_succ]
        refine wpAnyH_take (i := 9) (oi := ?oi109) (v := ?v109) ?hi109 (by kernel_rfl) (by kernel_rfl) (by kernel_rfl) ?hq109 (Or.inl ⟨?hw109, ?hy109⟩) (by assumption) ?rest109
        case hi109 => (simp only [List.getElem?_toArray, List.getElem?_cons_succ, List.getElem?_cons_zero]; rfl)
        case hq109 => exact fun _ _ _ h => h
        case hw109 => rfl
        case hy109 => (intro w hSw; (try dsimp only at hSw); go_simp <;> with_reducible rfl)
        try simp only [Act.put, List.setIfInBounds_toArray, List.set_cons_zero, List.set_cons_succ]
        refine wpAnyH_done (by kernel_rfl) ?_ _
        go_wp2_with fail
        have hpt5 := R5.1
        refine (tleft_any w5 g A4 c4 _ hpt5).mono ?_
        rintro e w6 ⟨rfl, rfl⟩
        go_wp2_with fail
        refine (rtleft_any w5 w2.heap.size A5 c5 l5 bad5 h5).mono ?_
        rintro e w6 ⟨rfl, rfl⟩
        go_wp2
        go_roundw
        case rel => exact ⟨k + 1, by omega, by go_num, A4, c4, A5, c5, l5, bad5, hpt5, h5, R5.2.1, own5⟩
        case measure => simp [intOf]; omega
      · clear SA hBA
        refine (tflag_any _ g Att ctt (rst lx bad) htA).mono ?_
        rintro e w4 ⟨A4, c4, rfl, h4, k4, s4⟩
        have x4 := takes_mid hrL hg hglt2 hxA RA k4
        go_wp2_with fail
        refine (rtflag_any w4 w2.heap.size Ax cx lx bad x4).mono ?_
        rintro e w5 ⟨A5, c5, l5, bad5, rfl, h5, p5, k5, s5, n5⟩
        have R5 := takes_step hg hglt2 hzA RA h4 k4 s4 p5 k5 s5 n5
        have own5 := hkA.kept' R5.2.2 fun hp ad had hge => by have := hA1 hp ad had; have hge' : g ≤ ad.block := hge; omega
        clear h4 k4 s4 x4 p5 k5 s5 n5
        go_wp2_with fail
        have hpt5 := R5.1
        refine (tleft_any w5 g A4 c4 _ hpt5).mono ?_
        rintro e w6 ⟨rfl, rfl⟩
        go_wp2_with fail
        refine (rtleft_any w5 w2.heap.size A5 c5 l5 bad5 h5).mono ?_
        rintro e w6 ⟨rfl, rfl⟩
        go_wp2
        go_roundw
        case rel => exact ⟨k + 1, by omega, by go_num, A4, c4, A5, c5, l5, bad5, hpt5, h5, R5.2.1, own5⟩
        case measure => simp [intOf]; omega
      · refine (tleft_any _ g Att ctt _ htA).mono ?_
        rintro e w6 ⟨rfl, rfl⟩
        go_wp2_with fail
        refine (rtleft_any _ w2.heap.size Ax cx lx bad hxA).mono ?_
        rintro e w6 ⟨rfl, rfl⟩
        go_wp2
        go_roundw
        case rel => exact ⟨k + 1, by omega, by go_num, Att, ctt, Ax, cx, lx, bad, htA, hxA, RA, hkA⟩
        case measure => simp [intOf]; omega
    · clear ho
      have hx0 := hxk.blk.cell 0
      have hx1 := hxk.blk.cell 1
      simp at hx0 hx1
      have hs1 := fun q => run_str (wr.drewN q) A1 _ c1 _ (hrk.drewN q)
      have hs2 := fun q => run_str (wr.drewN q) A _ cap _ ((hr.below hbk).drewN q)
      cases bad with
      | true =>
        have hdn := fun q => quietD (tdone_any (wr.drewN q) g Att ctt (rst lx true) (TK.drewN htk q))
        have e0 : tdoneN (rst lx true) = 10 := rfl
        rw [e0] at hdn
        go_wp2_with fail
        go_quiet ((go_at_call 35; exact hdn _))
        go_wp2
        go_ret
        exact ⟨rfl, Below.drewN hbk _⟩
      | false =>
        cases lx with
        | nil =>
          have hdn := fun q => quietD (tdone_any (wr.drewN q) g Att ctt (rst [] false) (TK.drewN htk q))
          have e0 : tdoneN (rst [] false) = 0 := rfl
          rw [e0] at hdn
          simp at hx0
          go_wp2_with fail
          go_quiet ((go_at_call 35; exact hdn _))
          go_wp2
          go_ret
          exact ⟨rfl, Below.drewN hbk _⟩
        | cons x r =>
          have hdn := fun q => quietD (tdone_any (wr.drewN q) g Att ctt (rst (x :: r) false) (TK.drewN htk q))
          have e0 : tdoneN (rst (x :: r) false) = 10 := by simp [tdoneN, rst]
          rw [e0] at hdn
          obtain ⟨n, hn⟩ : ∃ n, n = (x :: r).length := ⟨_, rfl⟩
          have hn0 : ((n : Int) == 0) = false := by rw [hn, List.length_cons]; simp; omega
          rw [← hn] at hx0
          clear hn
          go_wp2_with fail
          go_quiet ((go_at_call 35; exact hdn _))
          go_wp2
          go_ret
          exact ⟨rfl, Below.drewN hbk _⟩

namespace cellsTakesDone
open Go.ChangeShapes Go.WideShapes Go.ChangeAt
set_option maxRecDepth 100000 in
theorem lifted (os : Os) (started : os.Started) (H : Type) (enc : TypeId × Value → H) :
    ReturnsInHanded {} Try.checked os 7 .any (Rows.cellsTakesSpec.pre6 enc Try.prog Try.f7 Rows.cellsTakesRow.domain false) (Rows.cellsTakesSpec.post enc Try.prog Try.f7 false true false false) := by
  refine returnsInHanded_of_change_sized (C := Try.checked) own started (by kernel_rfl) Try.func7
    (ChangeSpec.witness6 (enc := enc) (C := Try.checked) false ⟨#[], #[Value.slice none 0 0, Value.slice none 0 0], []⟩ 8 (by kernel_rfl) (by kernel_rfl) (by kernel_rfl) (by kernel_rfl)) ?_
  intro W base args ds gs before hval0 hW hcnd hsz0 _
  have hsz : (DataW.weightsEach Try.prog (Try.f7.params.toList ++ Rows.cellsTakesSpec.plain.varTypes Try.prog) (ds ++ gs)).all (· ≤ reachBytes) = true := hsz0
  clear hsz0
  have hval : ∀ (j : Nat) t v, Try.f7.params[j]? = some t → args[j]? = some v → Value.okWide Try.prog W .any base t v := hval0
  have hW' := hW
  obtain ⟨p, q, hA0, hV, rfl, hfz, hnd⟩ := hW
  have hA : DataW.TrodAll enc Try.prog W 0 (fun _ => true) true Try.f7.params.toList args.toList ds p := hA0
  rw [Try.params7] at hA hval hsz
  obtain ⟨v0, vs0, d0, ds0, p0, q0, hargs, rfl, rfl, h0, r0⟩ := trodAll_cons hA
  obtain ⟨v1, vs1, d1, ds1, p1, q1, rfl, rfl, rfl, h1, r1⟩ := trodAll_cons r0
  obtain ⟨rfl, rfl, rfl⟩ := trodAll_nil r1
  obtain rfl : args = #[v0, v1] := by cases args; simp_all
  obtain ⟨rfl, rfl⟩ := trodVars_none hV
  obtain ⟨a0, len0, cap0, rfl⟩ := okWide_slice Try.underlying22 (hval 0 22 v0 rfl rfl)
  have k0 := h0
  have lt0 : ∀ x ∈ p0, x.block < W.heap.size := by obtain ⟨m, hm⟩ := k0; exact DataW.trod_lt m _ _ _ hm
  obtain ⟨z0, hr0, hc0, hm0, hd0⟩ := bytes_open h0
  have hl0 : cap0 ≤ 140737488351232 := by
    rcases hd0 with ⟨_, h⟩ | ⟨es, sp, rfl, h⟩
    · omega
    · have := sized_slice hsz (j := 0) (t := 22) (e := 5) rfl rfl Try.underlying22
      rw [bytes_u8] at this
      simp only [reachBytes] at this
      omega
  obtain ⟨a1, len1, cap1, rfl⟩ := okWide_slice Try.underlying33 (hval 1 33 v1 rfl rfl)
  have k1 := h1
  have lt1 : ∀ x ∈ p1, x.block < W.heap.size := by obtain ⟨m, hm⟩ := k1; exact DataW.trod_lt m _ _ _ hm
  obtain ⟨f1, ho1, hc1, hm1⟩ := ops_open h1 hsz (j := 1) rfl rfl
  clear hA0 hval0
  refine (cellsTakes_walk (w := W) a0 len0 cap0 z0 hr0 hc0 hm0 hl0 a1 len1 cap1 f1 ho1 hc1 hm1).mono fun e W' ⟨he, bel⟩ => ?_
  subst he
  exact ⟨_, rfl, _, _, _, [], _, [], hW', trodAll_mk1 (shut_bool Try.underlying4 _), (trodAll_cons_mk (Below.trod laidOut (by kernel_rfl) (of_decide_eq_true (by kernel_rfl)) k0 bel lt0) (trodAll_cons_mk (Below.trod laidOut (by kernel_rfl) (of_decide_eq_true (by kernel_rfl)) k1 bel lt1) trodAll_mk0)), rfl, bel.frame _, fun h => by cases h⟩

theorem over : Rows.cellsTakesRow.holds Try.pinned (OpenSpec.ofChange Rows.cellsTakesSpec) :=
  OpenClaim.holds_of_wide 7 Try.f7 rfl rfl rfl rfl rfl rfl rfl ⟨rfl, rfl, rfl, rfl, rfl⟩ rfl rfl rfl rfl rfl (by kernel_rfl) Try.func7 (by kernel_rfl)
    (of_decide_eq_true (by kernel_rfl)) (by unfold Func.isWrapper; first | (rw [if_pos (by decide +kernel)]; kernel_rfl) | (rw [if_neg (by decide +kernel)]; exact ⟨rfl, rfl⟩))
    (fun os started H enc _ => lifted os started H enc)

/-- The statement. -/
theorem proved : Rows.CellsTakesSaid := over
end cellsTakesDone
end Go.Proofs.Ytdelbddgaekkaaa
