/- mail.Encode. No condition but that its items lie in memory. -/
import Derived.Test.YtpfkhalomnfcfaaMaM
namespace Go.Proofs.Ytpfkhalomnfcfaa
open Go.RowKit Go.Maps Go.Shelf
set_option linter.unusedVariables false
set_option linter.unusedSimpArgs false

/-- A maker beside a box of type t. -/
structure PM (t : TypeId) (base : Nat) (w : World) (g : Nat) (v : Value) (B : Nat) (cs : Array Value) (W : World) (v' : Value) (st : Option (List UInt8)) : Prop where
  mo : MK base W g v' st
  keep : Keep (MF g v) w W
  foot : ∀ i, MF g v' i → MF g v i ∨ w.heap.size ≤ i
  box : Blk W B t cs
  out : ¬ MF g v' B
section
variable {t : TypeId}
theorem PM.step {base : Nat} {w : World} {g : Nat} {v : Value} {B : Nat} {cs : Array Value} {W W' : World} {v' v2 : Value} {st st2 : Option (List UInt8)} (h : PM t base w g v B cs W v' st) (hm : MK base W' g v2 st2) (hk : Keep (MF g v') W W') (hf : ∀ i, MF g v2 i → MF g v' i ∨ W.heap.size ≤ i) : PM t base w g v B cs W' v2 st2 := by
  refine ⟨hm, h.keep.trans hk (fun i hi h2 => (h.foot i h2).elim id (fun h3 => by omega)), fun i hi => ?_, h.box.kept hk h.out, fun hb => ?_⟩
  · rcases hf i hi with h2 | h2
    · exact h.foot i h2
    · exact .inr (Nat.le_trans h.keep.size h2)
  · rcases hf B hb with h2 | h2
    · exact h.out h2
    · have := h.box.lt
      omega
theorem PM.first {w w2 : World} {B : Nat} {cs : Array Value} (hb : Blk w B t cs) (hm : MK w.heap.size w2 w.heap.size (.slice none 0 0) (some [])) (hx : Below w.heap.size w w2) : PM t w.heap.size w w.heap.size (.slice none 0 0) B cs w2 (.slice none 0 0) (some []) := by
  refine ⟨hm, (Keep.of_below hx).mono (fun i hi h => by omega), fun i hi => .inl hi, hb.kept (Keep.of_below hx) (fun h => by have := hb.lt; omega), fun h => ?_⟩
  have := foot_new h
  have := hb.lt
  omega
theorem PM.list {w W : World} {B : Nat} {cs : Array Value} {v' : Value} {st : Option (List UInt8)} {A : Option Addr} {q : Nat} {l : List It} (h : PM t w.heap.size w w.heap.size (.slice none 0 0) B cs W v' st) (hl : IL w A q l) : IL W A q l :=
  hl.kept h.keep (fun ad h1 h2 h3 => by have := hl.lt ad h1 h2; have := foot_new h3; omega)
theorem PM.bytes {w W : World} {B : Nat} {cs : Array Value} {v' : Value} {st : Option (List UInt8)} {A : Option Addr} {q : Nat} {l : List UInt8} (h : PM t w.heap.size w w.heap.size (.slice none 0 0) B cs W v' st) (hl : RB w A q l) : RB W A q l :=
  hl.kept' h.keep (fun hq ad h1 h3 => by
    obtain ⟨b, off, e, hb, _⟩ := hl.addr hq
    rw [h1] at e
    cases e
    have h5 : b = w.heap.size := foot_new h3
    omega)
theorem PM.away {w W : World} {B : Nat} {cs : Array Value} {v' : Value} {st : Option (List UInt8)} {A : Option Addr} {q : Nat} {l : List It} (h : PM t w.heap.size w w.heap.size (.slice none 0 0) B cs W v' st) (hl : IL w A q l) : ∀ ad, A = some ad → 0 < q → ¬ MF w.heap.size v' ad.block :=
  fun ad h1 h2 h3 => by
    have := hl.lt ad h1 h2
    rcases h.foot _ h3 with h4 | h4
    · have := foot_new h4
      omega
    · omega
theorem PM.bel {w W : World} {B : Nat} {cs : Array Value} {v' : Value} {st : Option (List UInt8)} (h : PM t w.heap.size w w.heap.size (.slice none 0 0) B cs W v' st) : Below w.heap.size w W :=
  h.keep.below (Nat.le_refl _) (fun i hi h2 => by have := foot_new h2; omega)
theorem PM.drew {base : Nat} {w : World} {g : Nat} {v : Value} {B : Nat} {cs : Array Value} {W : World} {v' : Value} {st : Option (List UInt8)} (h : PM t base w g v B cs W v' st) : PM t base w g v B cs W.drew v' st :=
  ⟨⟨h.mo.blk.drew, h.mo.ge, h.mo.own.drew, h.mo.short⟩, h.keep.drew, h.foot, h.box.drew, h.out⟩
end
theorem ans_fits {L : List UInt8} {x : MV} (h : OKM L x) (b : List UInt8) (hb : b.length ≤ 2000) : (match hasB L 121 with | true => put (put (put (put (some b) (numCell x.y.c)) (numCell x.y.m)) (numCell x.y.e)) (numCell x.y.n) | false => some b) = some (b ++ ansB L x.y) := by
  have h1 := numCell_len x.y.c
  have h2 := numCell_len x.y.m
  have h3 := numCell_len x.y.e
  have h4 := numCell_len x.y.n
  unfold ansB
  cases hasB L 121 with
  | false => simp
  | true =>
    dsimp only
    rw [put_fits _ _ (by omega), put_fits _ _ (by rw [List.length_append]; omega), put_fits _ _ (by simp only [List.length_append]; omega), put_fits _ _ (by simp only [List.length_append]; omega)]
    simp only [List.append_assoc]
theorem head_fits {L : List UInt8} {x : MV} (h : OKM L x) : put (putL (put (put (some []) (numCell x.k)) (numCell x.o)) x.l) (numCell (askB L x.a).length ++ askB L x.a) = some (numCell x.k ++ numCell x.o ++ encL x.l ++ (numCell (askB L x.a).length ++ askB L x.a)) := by
  have h1 := numCell_len x.k
  have h2 := numCell_len x.o
  have h3 := encL_len _ h.list
  have h4 := askB_len h
  have h5 := numCell_len ((askB L x.a).length : Int)
  rw [put_fits _ _ (by simp; omega), List.nil_append, put_fits _ _ (by omega), putL_fits _ _ (by simp only [List.length_append]; omega), put_fits _ _ (by simp only [List.length_append]; omega)]
theorem head_len {L : List UInt8} {x : MV} (h : OKM L x) : (numCell x.k ++ numCell x.o ++ encL x.l ++ (numCell (askB L x.a).length ++ askB L x.a)).length ≤ 2000 := by
  have h1 := numCell_len x.k
  have h2 := numCell_len x.o
  have h3 := encL_len _ h.list
  have h4 := askB_len h
  have h5 := numCell_len ((askB L x.a).length : Int)
  simp only [List.length_append]
  omega
theorem encKM_parts (L : List UInt8) (x : MV) : encKM L x = (numCell x.k ++ numCell x.o ++ encL x.l ++ (numCell (askB L x.a).length ++ askB L x.a)) ++ ansB L x.y := by
  unfold encKM
  simp only [List.append_assoc]

set_option maxRecDepth 100000 in
set_option maxHeartbeats 25600000 in
theorem menc_TT (x : MV) (A : Option Addr) (cap : Nat) (B : Option Addr) (capb : Nat) (w : World) (hl : IL w A x.l.length x.l) (hal : IL w B x.a.l.length x.a.l) (hn : x.l.length ≤ 9223372036854775807) (hn2 : x.a.l.length ≤ 9223372036854775807) (hx : mayM x = true) (H97 : hasB (hasM x.k) 97 = true) (H121 : hasB (hasM x.k) 121 = true) (hyn : -9223372036854775808 ≤ x.y.n ∧ x.y.n ≤ 9223372036854775807) :
    Calls Try.prog 8 #[x.v A cap B capb] w (EncPost true (encM x) 1 w) := by
  have hok : OKM (hasM x.k) x := OKM.of hx
  have hlist := hok.list
  have hord := hok.order
  have hkk := hok.k
  obtain ⟨S, hS⟩ : ∃ S, askB (hasM x.k) x.a = S := ⟨_, rfl⟩
  have hSl := askB_len hok
  have hfit := head_fits hok
  have hhl := head_len hok
  have hfit2 := ans_fits hok _ hhl
  obtain ⟨CD, hCD⟩ : ∃ c, encM x = c := ⟨_, rfl⟩
  rw [hCD]
  have hcode : encM x = _ := encKM_parts (hasM x.k) x
  rw [hCD] at hcode
  clear hCD
  rw [H121] at hfit2
  unfold ansB at hfit2 hcode
  rw [H121] at hfit2 hcode
  rw [hS] at hfit hSl hfit2 hcode
  have hask : mayA x.a = true := by have := hok.a; rw [H97] at this; exact this
  obtain ⟨⟨y1, y2⟩, ⟨y3, y4⟩, ⟨y5, y6⟩⟩ : (0 ≤ x.y.c ∧ x.y.c ≤ 63) ∧ (1 ≤ x.y.m ∧ x.y.m ≤ 4294967296) ∧ (0 ≤ x.y.e ∧ x.y.e ≤ 1000) := mayY_facts (by have := hok.y; rw [H121] at this; exact this)
  unfold askB at hS
  rw [H97] at hS
  obtain ⟨k, o, l, ⟨a1, a2, a3, a4, a5, a6, a7, ag, al⟩, ⟨yc, ym, ye, yn⟩⟩ := x
  dsimp only at hl hal hn hn2 H97 H121 hS hfit hfit2 hcode hlist hord hkk hyn hask y1 y2 y3 y4 y5 y6
  have hSI := mayL_SI hlist
  have hln := (mayL_okI hlist).1
  have hbx0 : Blk (w.alloc (.cells #[.int .i64 k, .int .i64 o, .slice A l.length cap, .int .i64 a1, .int .i64 a2, .int .i64 a3, .int .i64 a4, .int .i64 a5, .int .i64 a6, .int .i64 a7, .string ⟨ag.toArray⟩, .slice B al.length capb, .int .i64 yc, .int .i64 ym, .int .i64 ye, .int .i64 yn] 29)) w.heap.size 29 #[.int .i64 k, .int .i64 o, .slice A l.length cap, .int .i64 a1, .int .i64 a2, .int .i64 a3, .int .i64 a4, .int .i64 a5, .int .i64 a6, .int .i64 a7, .string ⟨ag.toArray⟩, .slice B al.length capb, .int .i64 yc, .int .i64 ym, .int .i64 ye, .int .i64 yn] := Blk.new _ _ _
  have hb0 := (Below.refl w.heap.size w).alloc (Nat.le_refl _) (.cells #[.int .i64 k, .int .i64 o, .slice A l.length cap, .int .i64 a1, .int .i64 a2, .int .i64 a3, .int .i64 a4, .int .i64 a5, .int .i64 a6, .int .i64 a7, .string ⟨ag.toArray⟩, .slice B al.length capb, .int .i64 yc, .int .i64 ym, .int .i64 ye, .int .i64 yn] 29)
  have hil0 := hl.alloc (.cells #[.int .i64 k, .int .i64 o, .slice A l.length cap, .int .i64 a1, .int .i64 a2, .int .i64 a3, .int .i64 a4, .int .i64 a5, .int .i64 a6, .int .i64 a7, .string ⟨ag.toArray⟩, .slice B al.length capb, .int .i64 yc, .int .i64 ym, .int .i64 ye, .int .i64 yn] 29)
  have hial0 := hal.alloc (.cells #[.int .i64 k, .int .i64 o, .slice A l.length cap, .int .i64 a1, .int .i64 a2, .int .i64 a3, .int .i64 a4, .int .i64 a5, .int .i64 a6, .int .i64 a7, .string ⟨ag.toArray⟩, .slice B al.length capb, .int .i64 yc, .int .i64 ym, .int .i64 ye, .int .i64 yn] 29)
  have key1 := mmay_any ⟨k, o, l, ⟨a1, a2, a3, a4, a5, a6, a7, ag, al⟩, ⟨yc, ym, ye, yn⟩⟩ A cap B capb _ hil0 hial0 hn hn2
  rw [hx] at key1
  unfold MV.v MV.cs at key1
  dsimp only at key1
  have hS00 := boxM hbx0
  clear hhl hok
  skip
  skip
  replace hcode := Lib.hid hcode
  unfold MV.v MV.cs
  dsimp only
  go_enter Try.func8, Try.ntmps8
  go_wp2_with fail
  refine key1.mono ?_
  rintro e w1 ⟨rfl, hx1⟩
  clear key1 hS00
  have hb1 := hb0.trans (hx1.mono hb0.size)
  have hbx1 := hbx0.kept (Keep.of_below hx1) (fun h => absurd hbx0.lt (Nat.not_lt.2 h))
  have hil1 := hil0.below hx1
  have hial1 := hial0.below hx1
  have hS01 := boxM hbx1
  clear hb0 hbx0 hil0 hial0 hx1
  have key2 := mhas1_any k 97 w1
  rw [H97] at key2
  go_wp2_with fail
  refine key2.mono ?_
  rintro e w' ⟨rfl, hww⟩
  subst w'
  clear key2
  have key3 := askencode_any ⟨a1, a2, a3, a4, a5, a6, a7, ag, al⟩ B capb w1 hial1 hn2
  rw [show mayA ⟨a1, a2, a3, a4, a5, a6, a7, ag, al⟩ = true from hask] at key3
  unfold AV.v at key3
  dsimp only at key3
  go_wp2_with fail
  refine key3.mono ?_
  rintro e w1a ⟨hx2, As, cs, rfl, s1, s2, hrs, s4⟩
  clear key3 hS01
  have hb := hb1.trans (hx2.mono hb1.size)
  have hbx := hbx1.kept (Keep.of_below hx2) (fun h => absurd hbx1.lt (Nat.not_lt.2 h))
  have hil := hil1.below hx2
  rw [hS] at hrs ⊢
  clear hb1 hbx1 hil1 hial1 hx2 s1 s2 s4
  have hbxd := hbx.drew
  have hild := hil.drew
  have hrsd := hrs.drew
  have hbd := Below.drew hb
  obtain ⟨wd, hwd⟩ : ∃ wd, w1a.drew = wd := ⟨_, rfl⟩
  rw [hwd] at hbxd hild hrsd hbd
  have hS0 := boxM hbxd
  have hcv0 := run_str wd As S.length cs S hrsd
  go_wp2_with fail
  refine wp_region_held_drew (S := (fun w' => (w'.cell? ⟨w.heap.size, 0, none⟩ = some (.int .i64 k) ∧ w'.cell? ⟨w.heap.size, 1, none⟩ = some (.int .i64 o) ∧ w'.cell? ⟨w.heap.size, 2, none⟩ = some (.slice A l.length cap) ∧ w'.cell? ⟨w.heap.size, 3, none⟩ = some (.int .i64 a1) ∧ w'.cell? ⟨w.heap.size, 4, none⟩ = some (.int .i64 a2) ∧ w'.cell? ⟨w.heap.size, 5, none⟩ = some (.int .i64 a3) ∧ w'.cell? ⟨w.heap.size, 6, none⟩ = some (.int .i64 a4) ∧ w'.cell? ⟨w.heap.size, 7, none⟩ = some (.int .i64 a5) ∧ w'.cell? ⟨w.heap.size, 8, none⟩ = some (.int .i64 a6) ∧ w'.cell? ⟨w.heap.size, 9, none⟩ = some (.int .i64 a7) ∧ w'.cell? ⟨w.heap.size, 10, none⟩ = some (.string ⟨ag.toArray⟩) ∧ w'.cell? ⟨w.heap.size, 11, none⟩ = some (.slice B al.length capb) ∧ w'.cell? ⟨w.heap.size, 12, none⟩ = some (.int .i64 yc) ∧ w'.cell? ⟨w.heap.size, 13, none⟩ = some (.int .i64 ym) ∧ w'.cell? ⟨w.heap.size, 14, none⟩ = some (.int .i64 ye) ∧ w'.cell? ⟨w.heap.size, 15, none⟩ = some (.int .i64 yn)) ∧ (convert 31 9 (.slice As S.length cs)).run Try.prog w' = .ok (.string ⟨(S).toArray⟩) w')) (by kernel_rfl) (by rw [hwd]; exact ⟨hS0, hcv0⟩) (fun hHeld => ?_)
  rw [hwd] at hHeld ⊢
  (refine tkI 1 (by (simp only [List.getElem?_toArray, List.getElem?_cons_succ, List.getElem?_cons_zero]; rfl)) (by kernel_rfl) (by kernel_rfl) (by kernel_rfl) (by exact fun _ _ _ h => h) (by rfl) (by (intro w hSw; (try dsimp only at hSw); go_simp <;> with_reducible rfl)) (by assumption) ?_; try simp only [Act.put, List.setIfInBounds_toArray, List.set_cons_zero, List.set_cons_succ])
  (refine tkI 2 (by (simp only [List.getElem?_toArray, List.getElem?_cons_succ, List.getElem?_cons_zero]; rfl)) (by kernel_rfl) (by kernel_rfl) (by kernel_rfl) (by exact fun _ _ _ h => h) (by rfl) (by (intro w hSw; (try dsimp only at hSw); go_simp <;> with_reducible rfl)) (by assumption) ?_; try simp only [Act.put, List.setIfInBounds_toArray, List.set_cons_zero, List.set_cons_succ])
  (refine tkI 4 (by (simp only [List.getElem?_toArray, List.getElem?_cons_succ, List.getElem?_cons_zero]; rfl)) (by kernel_rfl) (by kernel_rfl) (by kernel_rfl) (by exact fun _ _ _ h => h) (by rfl) (by (intro w hSw; (try dsimp only at hSw); go_simp <;> with_reducible rfl)) (by assumption) ?_; try simp only [Act.put, List.setIfInBounds_toArray, List.set_cons_zero, List.set_cons_succ])
  (refine tkI 5 (by (simp only [List.getElem?_toArray, List.getElem?_cons_succ, List.getElem?_cons_zero]; rfl)) (by kernel_rfl) (by kernel_rfl) (by kernel_rfl) (by exact fun _ _ _ h => h) (by rfl) (by (intro w hSw; (try dsimp only at hSw); go_simp <;> with_reducible rfl)) (by assumption) ?_; try simp only [Act.put, List.setIfInBounds_toArray, List.set_cons_zero, List.set_cons_succ])
  (refine tkI 7 (by (simp only [List.getElem?_toArray, List.getElem?_cons_succ, List.getElem?_cons_zero]; rfl)) (by kernel_rfl) (by kernel_rfl) (by kernel_rfl) (by exact fun _ _ _ h => h) (by rfl) (by (intro w hSw; (try dsimp only at hSw); go_simp <;> with_reducible rfl)) (by assumption) ?_; try simp only [Act.put, List.setIfInBounds_toArray, List.set_cons_zero, List.set_cons_succ])
  (refine tkI 8 (by (simp only [List.getElem?_toArray, List.getElem?_cons_succ, List.getElem?_cons_zero]; rfl)) (by kernel_rfl) (by kernel_rfl) (by kernel_rfl) (by exact fun _ _ _ h => h) (by rfl) (by (intro w hSw; (try dsimp only at hSw); go_simp <;> with_reducible rfl)) (by assumption) ?_; try simp only [Act.put, List.setIfInBounds_toArray, List.set_cons_zero, List.set_cons_succ])
  (refine tkI 10 (by (simp only [List.getElem?_toArray, List.getElem?_cons_succ, List.getElem?_cons_zero]; rfl)) (by kernel_rfl) (by kernel_rfl) (by kernel_rfl) (by exact fun _ _ _ h => h) (by rfl) (by (intro w hSw; (try dsimp only at hSw); go_simp <;> with_reducible rfl)) (by assumption) ?_; try simp only [Act.put, List.setIfInBounds_toArray, List.set_cons_zero, List.set_cons_succ])
  (refine tkI 11 (by (simp only [List.getElem?_toArray, List.getElem?_cons_succ, List.getElem?_cons_zero]; rfl)) (by kernel_rfl) (by kernel_rfl) (by kernel_rfl) (by exact fun _ _ _ h => h) (by rfl) (by (intro w hSw; (try dsimp only at hSw); go_simp <;> with_reducible rfl)) (by assumption) ?_; try simp only [Act.put, List.setIfInBounds_toArray, List.set_cons_zero, List.set_cons_succ])
  refine wpAnyH_ready (rs := [0]) (by kernel_rfl) (by simp) ?_
  refine AllReadyH.cons (by (simp only [List.getElem?_toArray, List.getElem?_cons_succ, List.getElem?_cons_zero]; rfl)) (fun K hK => ?_) AllReadyH.nil
  go_simp
  refine (new_any _).mono ?_
  rintro e w2 ⟨rfl, hm2, hx2⟩
  have hP2 := PM.first hbxd hm2 hx2
  have hS2 := boxM hP2.box
  have hcv2 := run_str w2 As S.length cs S (hP2.bytes hrsd)
  go_wp2_with fail
  refine hK.out _ _ ⟨hS2, hcv2⟩ (fun hHeld2 => ?_)
  clear hK K hHeld
  have hHeld := hHeld2
  clear hHeld2
  try simp only [Act.put, List.setIfInBounds_toArray, List.set_cons_zero, List.set_cons_succ]
  refine wpAnyH_ready (rs := [3]) (by kernel_rfl) (by simp) ?_
  refine AllReadyH.cons (by (simp only [List.getElem?_toArray, List.getElem?_cons_succ, List.getElem?_cons_zero]; rfl)) (fun K hK => ?_) AllReadyH.nil
  go_simp
  refine (mnum_any wd.heap.size wd.heap.size _ _ k _ hP2.mo (by omega) (by omega)).mono ?_
  rintro e w3 ⟨v3, rfl, hm3, hk3, hf3⟩
  have hP3 := hP2.step hm3 hk3 hf3
  have hS3 := boxM hP3.box
  have hcv3 := run_str w3 As S.length cs S (hP3.bytes hrsd)
  go_wp2_with fail
  refine hK.out _ _ ⟨hS3, hcv3⟩ (fun hHeld2 => ?_)
  clear hK K hHeld
  have hHeld := hHeld2
  clear hHeld2
  try simp only [Act.put, List.setIfInBounds_toArray, List.set_cons_zero, List.set_cons_succ]
  refine wpAnyH_ready (rs := [6]) (by kernel_rfl) (by simp) ?_
  refine AllReadyH.cons (by (simp only [List.getElem?_toArray, List.getElem?_cons_succ, List.getElem?_cons_zero]; rfl)) (fun K hK => ?_) AllReadyH.nil
  go_simp
  refine (mnum_any wd.heap.size wd.heap.size _ _ o _ hP3.mo (by omega) (by omega)).mono ?_
  rintro e w4 ⟨v4, rfl, hm4, hk4, hf4⟩
  have hP4 := hP3.step hm4 hk4 hf4
  have hS4 := boxM hP4.box
  have hcv4 := run_str w4 As S.length cs S (hP4.bytes hrsd)
  go_wp2_with fail
  refine hK.out _ _ ⟨hS4, hcv4⟩ (fun hHeld2 => ?_)
  clear hK K hHeld
  have hHeld := hHeld2
  clear hHeld2
  try simp only [Act.put, List.setIfInBounds_toArray, List.set_cons_zero, List.set_cons_succ]
  refine wpAnyH_ready (rs := [9]) (by kernel_rfl) (by simp) ?_
  refine AllReadyH.cons (by (simp only [List.getElem?_toArray, List.getElem?_cons_succ, List.getElem?_cons_zero]; rfl)) (fun K hK => ?_) AllReadyH.nil
  go_simp
  refine (iput_any wd.heap.size wd.heap.size _ _ A l.length cap l _ hP4.mo (hP4.list hild) hSI (by omega) (hP4.away hild)).mono ?_
  rintro e w5 ⟨v5, rfl, hm5, hk5, hf5⟩
  have hP5 := hP4.step hm5 hk5 hf5
  have hS5 := boxM hP5.box
  have hcv5 := run_str w5 As S.length cs S (hP5.bytes hrsd)
  go_wp2_with fail
  refine hK.out _ _ ⟨hS5, hcv5⟩ (fun hHeld2 => ?_)
  clear hK K hHeld
  have hHeld := hHeld2
  clear hHeld2
  try simp only [Act.put, List.setIfInBounds_toArray, List.set_cons_zero, List.set_cons_succ]
  refine wpAnyH_ready (rs := [12]) (by kernel_rfl) (by simp) ?_
  refine AllReadyH.cons (by (simp only [List.getElem?_toArray, List.getElem?_cons_succ, List.getElem?_cons_zero]; rfl)) (fun K hK => ?_) AllReadyH.nil
  go_simp
  refine (mtext_l wd.heap.size wd.heap.size _ _ S _ hP5.mo (by omega)).mono ?_
  rintro e w6 ⟨v6, rfl, hm6, hk6, hf6⟩
  rw [hfit] at hm6
  have hP6 := hP5.step hm6 hk6 hf6
  have hS6 := boxM hP6.box
  have hcv6 := run_str w6 As S.length cs S (hP6.bytes hrsd)
  go_wp2_with fail
  refine hK.out _ _ ⟨hS6, hcv6⟩ (fun hHeld2 => ?_)
  clear hK K hHeld
  have hHeld := hHeld2
  clear hHeld2
  try simp only [Act.put, List.setIfInBounds_toArray, List.set_cons_zero, List.set_cons_succ]
  iterate 1 (refine tkP (by rfl) (by (simp only [List.getElem?_toArray, List.getElem?_cons_succ, List.getElem?_cons_zero]; rfl)) (by kernel_rfl) (by kernel_rfl) (by kernel_rfl) (by exact fun _ _ _ h => h) (by rfl) (by (intro w hSw; (try dsimp only at hSw); go_simp <;> with_reducible rfl)) (by assumption) ?_; try simp only [Act.put, List.setIfInBounds_toArray, List.set_cons_zero, List.set_cons_succ])
  refine wpAnyH_done (by kernel_rfl) ?_ _
  have key7 := mhas1_any k 121 w6
  rw [H121] at key7
  go_wp2_with fail
  refine key7.mono ?_
  rintro e w' ⟨rfl, hww⟩
  subst w'
  have hP7 := hP6.drew
  obtain ⟨w7, hw7⟩ : ∃ w7, w6.drew = w7 := ⟨_, rfl⟩
  rw [hw7] at hP7
  have hS7 := boxM hP7.box
  go_wp2_with fail
  refine wp_region_held_drew (S := (fun w' => w'.cell? ⟨w.heap.size, 0, none⟩ = some (.int .i64 k) ∧ w'.cell? ⟨w.heap.size, 1, none⟩ = some (.int .i64 o) ∧ w'.cell? ⟨w.heap.size, 2, none⟩ = some (.slice A l.length cap) ∧ w'.cell? ⟨w.heap.size, 3, none⟩ = some (.int .i64 a1) ∧ w'.cell? ⟨w.heap.size, 4, none⟩ = some (.int .i64 a2) ∧ w'.cell? ⟨w.heap.size, 5, none⟩ = some (.int .i64 a3) ∧ w'.cell? ⟨w.heap.size, 6, none⟩ = some (.int .i64 a4) ∧ w'.cell? ⟨w.heap.size, 7, none⟩ = some (.int .i64 a5) ∧ w'.cell? ⟨w.heap.size, 8, none⟩ = some (.int .i64 a6) ∧ w'.cell? ⟨w.heap.size, 9, none⟩ = some (.int .i64 a7) ∧ w'.cell? ⟨w.heap.size, 10, none⟩ = some (.string ⟨ag.toArray⟩) ∧ w'.cell? ⟨w.heap.size, 11, none⟩ = some (.slice B al.length capb) ∧ w'.cell? ⟨w.heap.size, 12, none⟩ = some (.int .i64 yc) ∧ w'.cell? ⟨w.heap.size, 13, none⟩ = some (.int .i64 ym) ∧ w'.cell? ⟨w.heap.size, 14, none⟩ = some (.int .i64 ye) ∧ w'.cell? ⟨w.heap.size, 15, none⟩ = some (.int .i64 yn))) (by kernel_rfl) (by rw [hw7]; exact hS7) (fun hHeld => ?_)
  rw [hw7] at hHeld ⊢
  iterate 4 (refine tkP (by rfl) (by (simp only [List.getElem?_toArray, List.getElem?_cons_succ, List.getElem?_cons_zero]; rfl)) (by kernel_rfl) (by kernel_rfl) (by kernel_rfl) (by exact fun _ _ _ h => h) (by rfl) (by (intro w hSw; (try dsimp only at hSw); go_simp <;> with_reducible rfl)) (by assumption) ?_; try simp only [Act.put, List.setIfInBounds_toArray, List.set_cons_zero, List.set_cons_succ])
  (refine tkI 5 (by (simp only [List.getElem?_toArray, List.getElem?_cons_succ, List.getElem?_cons_zero]; rfl)) (by kernel_rfl) (by kernel_rfl) (by kernel_rfl) (by exact fun _ _ _ h => h) (by rfl) (by (intro w hSw; (try dsimp only at hSw); go_simp <;> with_reducible rfl)) (by assumption) ?_; try simp only [Act.put, List.setIfInBounds_toArray, List.set_cons_zero, List.set_cons_succ])
  (refine tkI 6 (by (simp only [List.getElem?_toArray, List.getElem?_cons_succ, List.getElem?_cons_zero]; rfl)) (by kernel_rfl) (by kernel_rfl) (by kernel_rfl) (by exact fun _ _ _ h => h) (by rfl) (by (intro w hSw; (try dsimp only at hSw); go_simp <;> with_reducible rfl)) (by assumption) ?_; try simp only [Act.put, List.setIfInBounds_toArray, List.set_cons_zero, List.set_cons_succ])
  (refine tkI 7 (by (simp only [List.getElem?_toArray, List.getElem?_cons_succ, List.getElem?_cons_zero]; rfl)) (by kernel_rfl) (by kernel_rfl) (by kernel_rfl) (by exact fun _ _ _ h => h) (by rfl) (by (intro w hSw; (try dsimp only at hSw); go_simp <;> with_reducible rfl)) (by assumption) ?_; try simp only [Act.put, List.setIfInBounds_toArray, List.set_cons_zero, List.set_cons_succ])
  (refine tkI 9 (by (simp only [List.getElem?_toArray, List.getElem?_cons_succ, List.getElem?_cons_zero]; rfl)) (by kernel_rfl) (by kernel_rfl) (by kernel_rfl) (by exact fun _ _ _ h => h) (by rfl) (by (intro w hSw; (try dsimp only at hSw); go_simp <;> with_reducible rfl)) (by assumption) ?_; try simp only [Act.put, List.setIfInBounds_toArray, List.set_cons_zero, List.set_cons_succ])
  (refine tkI 10 (by (simp only [List.getElem?_toArray, List.getElem?_cons_succ, List.getElem?_cons_zero]; rfl)) (by kernel_rfl) (by kernel_rfl) (by kernel_rfl) (by exact fun _ _ _ h => h) (by rfl) (by (intro w hSw; (try dsimp only at hSw); go_simp <;> with_reducible rfl)) (by assumption) ?_; try simp only [Act.put, List.setIfInBounds_toArray, List.set_cons_zero, List.set_cons_succ])
  (refine tkI 11 (by (simp only [List.getElem?_toArray, List.getElem?_cons_succ, List.getElem?_cons_zero]; rfl)) (by kernel_rfl) (by kernel_rfl) (by kernel_rfl) (by exact fun _ _ _ h => h) (by rfl) (by (intro w hSw; (try dsimp only at hSw); go_simp <;> with_reducible rfl)) (by assumption) ?_; try simp only [Act.put, List.setIfInBounds_toArray, List.set_cons_zero, List.set_cons_succ])
  (refine tkI 13 (by (simp only [List.getElem?_toArray, List.getElem?_cons_succ, List.getElem?_cons_zero]; rfl)) (by kernel_rfl) (by kernel_rfl) (by kernel_rfl) (by exact fun _ _ _ h => h) (by rfl) (by (intro w hSw; (try dsimp only at hSw); go_simp <;> with_reducible rfl)) (by assumption) ?_; try simp only [Act.put, List.setIfInBounds_toArray, List.set_cons_zero, List.set_cons_succ])
  (refine tkI 14 (by (simp only [List.getElem?_toArray, List.getElem?_cons_succ, List.getElem?_cons_zero]; rfl)) (by kernel_rfl) (by kernel_rfl) (by kernel_rfl) (by exact fun _ _ _ h => h) (by rfl) (by (intro w hSw; (try dsimp only at hSw); go_simp <;> with_reducible rfl)) (by assumption) ?_; try simp only [Act.put, List.setIfInBounds_toArray, List.set_cons_zero, List.set_cons_succ])
  (refine tkI 15 (by (simp only [List.getElem?_toArray, List.getElem?_cons_succ, List.getElem?_cons_zero]; rfl)) (by kernel_rfl) (by kernel_rfl) (by kernel_rfl) (by exact fun _ _ _ h => h) (by rfl) (by (intro w hSw; (try dsimp only at hSw); go_simp <;> with_reducible rfl)) (by assumption) ?_; try simp only [Act.put, List.setIfInBounds_toArray, List.set_cons_zero, List.set_cons_succ])
  refine wpAnyH_ready (rs := [4]) (by kernel_rfl) (by simp) ?_
  refine AllReadyH.cons (by (simp only [List.getElem?_toArray, List.getElem?_cons_succ, List.getElem?_cons_zero]; rfl)) (fun K hK => ?_) AllReadyH.nil
  go_simp
  refine (mnum_any wd.heap.size wd.heap.size _ _ yc _ hP7.mo (by omega) (by omega)).mono ?_
  rintro e w8 ⟨v8, rfl, hm8, hk8, hf8⟩
  have hP8 := hP7.step hm8 hk8 hf8
  have hS8 := boxM hP8.box
  go_wp2_with fail
  refine hK.out _ _ hS8 (fun hHeld2 => ?_)
  clear hK K hHeld
  have hHeld := hHeld2
  clear hHeld2
  try simp only [Act.put, List.setIfInBounds_toArray, List.set_cons_zero, List.set_cons_succ]
  refine wpAnyH_ready (rs := [8]) (by kernel_rfl) (by simp) ?_
  refine AllReadyH.cons (by (simp only [List.getElem?_toArray, List.getElem?_cons_succ, List.getElem?_cons_zero]; rfl)) (fun K hK => ?_) AllReadyH.nil
  go_simp
  refine (mnum_any wd.heap.size wd.heap.size _ _ ym _ hP8.mo (by omega) (by omega)).mono ?_
  rintro e w9 ⟨v9, rfl, hm9, hk9, hf9⟩
  have hP9 := hP8.step hm9 hk9 hf9
  have hS9 := boxM hP9.box
  go_wp2_with fail
  refine hK.out _ _ hS9 (fun hHeld2 => ?_)
  clear hK K hHeld
  have hHeld := hHeld2
  clear hHeld2
  try simp only [Act.put, List.setIfInBounds_toArray, List.set_cons_zero, List.set_cons_succ]
  refine wpAnyH_ready (rs := [12]) (by kernel_rfl) (by simp) ?_
  refine AllReadyH.cons (by (simp only [List.getElem?_toArray, List.getElem?_cons_succ, List.getElem?_cons_zero]; rfl)) (fun K hK => ?_) AllReadyH.nil
  go_simp
  refine (mnum_any wd.heap.size wd.heap.size _ _ ye _ hP9.mo (by omega) (by omega)).mono ?_
  rintro e w10 ⟨v10, rfl, hm10, hk10, hf10⟩
  have hP10 := hP9.step hm10 hk10 hf10
  have hS10 := boxM hP10.box
  go_wp2_with fail
  refine hK.out _ _ hS10 (fun hHeld2 => ?_)
  clear hK K hHeld
  have hHeld := hHeld2
  clear hHeld2
  try simp only [Act.put, List.setIfInBounds_toArray, List.set_cons_zero, List.set_cons_succ]
  refine wpAnyH_ready (rs := [16]) (by kernel_rfl) (by simp) ?_
  refine AllReadyH.cons (by (simp only [List.getElem?_toArray, List.getElem?_cons_succ, List.getElem?_cons_zero]; rfl)) (fun K hK => ?_) AllReadyH.nil
  go_simp
  refine (mnum_any wd.heap.size wd.heap.size _ _ yn _ hP10.mo (by omega) (by omega)).mono ?_
  rintro e w11 ⟨v11, rfl, hm11, hk11, hf11⟩
  have hP11 := hP10.step hm11 hk11 hf11
  have hS11 := boxM hP11.box
  go_wp2_with fail
  refine hK.out _ _ hS11 (fun hHeld2 => ?_)
  clear hK K hHeld
  have hHeld := hHeld2
  clear hHeld2
  try simp only [Act.put, List.setIfInBounds_toArray, List.set_cons_zero, List.set_cons_succ]
  refine wpAnyH_done (by kernel_rfl) ?_ _
  have hmo := hP11.mo
  rw [hfit2, ← hcode.out] at hmo
  go_wp2_with fail
  refine (mdone_any wd.heap.size wd.heap.size v11 _ _ hmo).mono ?_
  rintro e wz ⟨hxz, Az, cz, rfl, r1, r2, r3, r4⟩
  have hbz := (hbd.trans (hP11.bel.mono hbd.size)).trans (hxz.mono (hbd.trans (hP11.bel.mono hbd.size)).size)
  have hzz := (hbd.trans (hP11.bel.mono hbd.size)).size
  go_wp2
  go_ret2
  exact ⟨hbz, Az, cz, rfl, r1, r2, r3, fun ad had => ⟨by have := (r4 ad had).1; omega, (r4 ad had).2⟩⟩

set_option maxRecDepth 100000 in
set_option maxHeartbeats 25600000 in
theorem menc_TF (x : MV) (A : Option Addr) (cap : Nat) (B : Option Addr) (capb : Nat) (w : World) (hl : IL w A x.l.length x.l) (hal : IL w B x.a.l.length x.a.l) (hn : x.l.length ≤ 9223372036854775807) (hn2 : x.a.l.length ≤ 9223372036854775807) (hx : mayM x = true) (H97 : hasB (hasM x.k) 97 = true) (H121 : hasB (hasM x.k) 121 = false) (hyn : -9223372036854775808 ≤ x.y.n ∧ x.y.n ≤ 9223372036854775807) :
    Calls Try.prog 8 #[x.v A cap B capb] w (EncPost true (encM x) 1 w) := by
  have hok : OKM (hasM x.k) x := OKM.of hx
  have hlist := hok.list
  have hord := hok.order
  have hkk := hok.k
  obtain ⟨S, hS⟩ : ∃ S, askB (hasM x.k) x.a = S := ⟨_, rfl⟩
  have hSl := askB_len hok
  have hfit := head_fits hok
  have hhl := head_len hok
  have hfit2 := ans_fits hok _ hhl
  obtain ⟨CD, hCD⟩ : ∃ c, encM x = c := ⟨_, rfl⟩
  rw [hCD]
  have hcode : encM x = _ := encKM_parts (hasM x.k) x
  rw [hCD] at hcode
  clear hCD
  rw [H121] at hfit2
  unfold ansB at hfit2 hcode
  rw [H121] at hfit2 hcode
  rw [hS] at hfit hSl hfit2 hcode
  have hask : mayA x.a = true := by have := hok.a; rw [H97] at this; exact this
  unfold askB at hS
  rw [H97] at hS
  obtain ⟨k, o, l, ⟨a1, a2, a3, a4, a5, a6, a7, ag, al⟩, ⟨yc, ym, ye, yn⟩⟩ := x
  dsimp only at hl hal hn hn2 H97 H121 hS hfit hfit2 hcode hlist hord hkk hyn hask 
  have hSI := mayL_SI hlist
  have hln := (mayL_okI hlist).1
  have hbx0 : Blk (w.alloc (.cells #[.int .i64 k, .int .i64 o, .slice A l.length cap, .int .i64 a1, .int .i64 a2, .int .i64 a3, .int .i64 a4, .int .i64 a5, .int .i64 a6, .int .i64 a7, .string ⟨ag.toArray⟩, .slice B al.length capb, .int .i64 yc, .int .i64 ym, .int .i64 ye, .int .i64 yn] 29)) w.heap.size 29 #[.int .i64 k, .int .i64 o, .slice A l.length cap, .int .i64 a1, .int .i64 a2, .int .i64 a3, .int .i64 a4, .int .i64 a5, .int .i64 a6, .int .i64 a7, .string ⟨ag.toArray⟩, .slice B al.length capb, .int .i64 yc, .int .i64 ym, .int .i64 ye, .int .i64 yn] := Blk.new _ _ _
  have hb0 := (Below.refl w.heap.size w).alloc (Nat.le_refl _) (.cells #[.int .i64 k, .int .i64 o, .slice A l.length cap, .int .i64 a1, .int .i64 a2, .int .i64 a3, .int .i64 a4, .int .i64 a5, .int .i64 a6, .int .i64 a7, .string ⟨ag.toArray⟩, .slice B al.length capb, .int .i64 yc, .int .i64 ym, .int .i64 ye, .int .i64 yn] 29)
  have hil0 := hl.alloc (.cells #[.int .i64 k, .int .i64 o, .slice A l.length cap, .int .i64 a1, .int .i64 a2, .int .i64 a3, .int .i64 a4, .int .i64 a5, .int .i64 a6, .int .i64 a7, .string ⟨ag.toArray⟩, .slice B al.length capb, .int .i64 yc, .int .i64 ym, .int .i64 ye, .int .i64 yn] 29)
  have hial0 := hal.alloc (.cells #[.int .i64 k, .int .i64 o, .slice A l.length cap, .int .i64 a1, .int .i64 a2, .int .i64 a3, .int .i64 a4, .int .i64 a5, .int .i64 a6, .int .i64 a7, .string ⟨ag.toArray⟩, .slice B al.length capb, .int .i64 yc, .int .i64 ym, .int .i64 ye, .int .i64 yn] 29)
  have key1 := mmay_any ⟨k, o, l, ⟨a1, a2, a3, a4, a5, a6, a7, ag, al⟩, ⟨yc, ym, ye, yn⟩⟩ A cap B capb _ hil0 hial0 hn hn2
  rw [hx] at key1
  unfold MV.v MV.cs at key1
  dsimp only at key1
  have hS00 := boxM hbx0
  clear hhl hok
  skip
  rw [List.append_nil] at hcode
  replace hcode := Lib.hid hcode
  unfold MV.v MV.cs
  dsimp only
  go_enter Try.func8, Try.ntmps8
  go_wp2_with fail
  refine key1.mono ?_
  rintro e w1 ⟨rfl, hx1⟩
  clear key1 hS00
  have hb1 := hb0.trans (hx1.mono hb0.size)
  have hbx1 := hbx0.kept (Keep.of_below hx1) (fun h => absurd hbx0.lt (Nat.not_lt.2 h))
  have hil1 := hil0.below hx1
  have hial1 := hial0.below hx1
  have hS01 := boxM hbx1
  clear hb0 hbx0 hil0 hial0 hx1
  have key2 := mhas1_any k 97 w1
  rw [H97] at key2
  go_wp2_with fail
  refine key2.mono ?_
  rintro e w' ⟨rfl, hww⟩
  subst w'
  clear key2
  have key3 := askencode_any ⟨a1, a2, a3, a4, a5, a6, a7, ag, al⟩ B capb w1 hial1 hn2
  rw [show mayA ⟨a1, a2, a3, a4, a5, a6, a7, ag, al⟩ = true from hask] at key3
  unfold AV.v at key3
  dsimp only at key3
  go_wp2_with fail
  refine key3.mono ?_
  rintro e w1a ⟨hx2, As, cs, rfl, s1, s2, hrs, s4⟩
  clear key3 hS01
  have hb := hb1.trans (hx2.mono hb1.size)
  have hbx := hbx1.kept (Keep.of_below hx2) (fun h => absurd hbx1.lt (Nat.not_lt.2 h))
  have hil := hil1.below hx2
  rw [hS] at hrs ⊢
  clear hb1 hbx1 hil1 hial1 hx2 s1 s2 s4
  have hbxd := hbx.drew
  have hild := hil.drew
  have hrsd := hrs.drew
  have hbd := Below.drew hb
  obtain ⟨wd, hwd⟩ : ∃ wd, w1a.drew = wd := ⟨_, rfl⟩
  rw [hwd] at hbxd hild hrsd hbd
  have hS0 := boxM hbxd
  have hcv0 := run_str wd As S.length cs S hrsd
  go_wp2_with fail
  refine wp_region_held_drew (S := (fun w' => (w'.cell? ⟨w.heap.size, 0, none⟩ = some (.int .i64 k) ∧ w'.cell? ⟨w.heap.size, 1, none⟩ = some (.int .i64 o) ∧ w'.cell? ⟨w.heap.size, 2, none⟩ = some (.slice A l.length cap) ∧ w'.cell? ⟨w.heap.size, 3, none⟩ = some (.int .i64 a1) ∧ w'.cell? ⟨w.heap.size, 4, none⟩ = some (.int .i64 a2) ∧ w'.cell? ⟨w.heap.size, 5, none⟩ = some (.int .i64 a3) ∧ w'.cell? ⟨w.heap.size, 6, none⟩ = some (.int .i64 a4) ∧ w'.cell? ⟨w.heap.size, 7, none⟩ = some (.int .i64 a5) ∧ w'.cell? ⟨w.heap.size, 8, none⟩ = some (.int .i64 a6) ∧ w'.cell? ⟨w.heap.size, 9, none⟩ = some (.int .i64 a7) ∧ w'.cell? ⟨w.heap.size, 10, none⟩ = some (.string ⟨ag.toArray⟩) ∧ w'.cell? ⟨w.heap.size, 11, none⟩ = some (.slice B al.length capb) ∧ w'.cell? ⟨w.heap.size, 12, none⟩ = some (.int .i64 yc) ∧ w'.cell? ⟨w.heap.size, 13, none⟩ = some (.int .i64 ym) ∧ w'.cell? ⟨w.heap.size, 14, none⟩ = some (.int .i64 ye) ∧ w'.cell? ⟨w.heap.size, 15, none⟩ = some (.int .i64 yn)) ∧ (convert 31 9 (.slice As S.length cs)).run Try.prog w' = .ok (.string ⟨(S).toArray⟩) w')) (by kernel_rfl) (by rw [hwd]; exact ⟨hS0, hcv0⟩) (fun hHeld => ?_)
  rw [hwd] at hHeld ⊢
  (refine tkI 1 (by (simp only [List.getElem?_toArray, List.getElem?_cons_succ, List.getElem?_cons_zero]; rfl)) (by kernel_rfl) (by kernel_rfl) (by kernel_rfl) (by exact fun _ _ _ h => h) (by rfl) (by (intro w hSw; (try dsimp only at hSw); go_simp <;> with_reducible rfl)) (by assumption) ?_; try simp only [Act.put, List.setIfInBounds_toArray, List.set_cons_zero, List.set_cons_succ])
  (refine tkI 2 (by (simp only [List.getElem?_toArray, List.getElem?_cons_succ, List.getElem?_cons_zero]; rfl)) (by kernel_rfl) (by kernel_rfl) (by kernel_rfl) (by exact fun _ _ _ h => h) (by rfl) (by (intro w hSw; (try dsimp only at hSw); go_simp <;> with_reducible rfl)) (by assumption) ?_; try simp only [Act.put, List.setIfInBounds_toArray, List.set_cons_zero, List.set_cons_succ])
  (refine tkI 4 (by (simp only [List.getElem?_toArray, List.getElem?_cons_succ, List.getElem?_cons_zero]; rfl)) (by kernel_rfl) (by kernel_rfl) (by kernel_rfl) (by exact fun _ _ _ h => h) (by rfl) (by (intro w hSw; (try dsimp only at hSw); go_simp <;> with_reducible rfl)) (by assumption) ?_; try simp only [Act.put, List.setIfInBounds_toArray, List.set_cons_zero, List.set_cons_succ])
  (refine tkI 5 (by (simp only [List.getElem?_toArray, List.getElem?_cons_succ, List.getElem?_cons_zero]; rfl)) (by kernel_rfl) (by kernel_rfl) (by kernel_rfl) (by exact fun _ _ _ h => h) (by rfl) (by (intro w hSw; (try dsimp only at hSw); go_simp <;> with_reducible rfl)) (by assumption) ?_; try simp only [Act.put, List.setIfInBounds_toArray, List.set_cons_zero, List.set_cons_succ])
  (refine tkI 7 (by (simp only [List.getElem?_toArray, List.getElem?_cons_succ, List.getElem?_cons_zero]; rfl)) (by kernel_rfl) (by kernel_rfl) (by kernel_rfl) (by exact fun _ _ _ h => h) (by rfl) (by (intro w hSw; (try dsimp only at hSw); go_simp <;> with_reducible rfl)) (by assumption) ?_; try simp only [Act.put, List.setIfInBounds_toArray, List.set_cons_zero, List.set_cons_succ])
  (refine tkI 8 (by (simp only [List.getElem?_toArray, List.getElem?_cons_succ, List.getElem?_cons_zero]; rfl)) (by kernel_rfl) (by kernel_rfl) (by kernel_rfl) (by exact fun _ _ _ h => h) (by rfl) (by (intro w hSw; (try dsimp only at hSw); go_simp <;> with_reducible rfl)) (by assumption) ?_; try simp only [Act.put, List.setIfInBounds_toArray, List.set_cons_zero, List.set_cons_succ])
  (refine tkI 10 (by (simp only [List.getElem?_toArray, List.getElem?_cons_succ, List.getElem?_cons_zero]; rfl)) (by kernel_rfl) (by kernel_rfl) (by kernel_rfl) (by exact fun _ _ _ h => h) (by rfl) (by (intro w hSw; (try dsimp only at hSw); go_simp <;> with_reducible rfl)) (by assumption) ?_; try simp only [Act.put, List.setIfInBounds_toArray, List.set_cons_zero, List.set_cons_succ])
  (refine tkI 11 (by (simp only [List.getElem?_toArray, List.getElem?_cons_succ, List.getElem?_cons_zero]; rfl)) (by kernel_rfl) (by kernel_rfl) (by kernel_rfl) (by exact fun _ _ _ h => h) (by rfl) (by (intro w hSw; (try dsimp only at hSw); go_simp <;> with_reducible rfl)) (by assumption) ?_; try simp only [Act.put, List.setIfInBounds_toArray, List.set_cons_zero, List.set_cons_succ])
  refine wpAnyH_ready (rs := [0]) (by kernel_rfl) (by simp) ?_
  refine AllReadyH.cons (by (simp only [List.getElem?_toArray, List.getElem?_cons_succ, List.getElem?_cons_zero]; rfl)) (fun K hK => ?_) AllReadyH.nil
  go_simp
  refine (new_any _).mono ?_
  rintro e w2 ⟨rfl, hm2, hx2⟩
  have hP2 := PM.first hbxd hm2 hx2
  have hS2 := boxM hP2.box
  have hcv2 := run_str w2 As S.length cs S (hP2.bytes hrsd)
  go_wp2_with fail
  refine hK.out _ _ ⟨hS2, hcv2⟩ (fun hHeld2 => ?_)
  clear hK K hHeld
  have hHeld := hHeld2
  clear hHeld2
  try simp only [Act.put, List.setIfInBounds_toArray, List.set_cons_zero, List.set_cons_succ]
  refine wpAnyH_ready (rs := [3]) (by kernel_rfl) (by simp) ?_
  refine AllReadyH.cons (by (simp only [List.getElem?_toArray, List.getElem?_cons_succ, List.getElem?_cons_zero]; rfl)) (fun K hK => ?_) AllReadyH.nil
  go_simp
  refine (mnum_any wd.heap.size wd.heap.size _ _ k _ hP2.mo (by omega) (by omega)).mono ?_
  rintro e w3 ⟨v3, rfl, hm3, hk3, hf3⟩
  have hP3 := hP2.step hm3 hk3 hf3
  have hS3 := boxM hP3.box
  have hcv3 := run_str w3 As S.length cs S (hP3.bytes hrsd)
  go_wp2_with fail
  refine hK.out _ _ ⟨hS3, hcv3⟩ (fun hHeld2 => ?_)
  clear hK K hHeld
  have hHeld := hHeld2
  clear hHeld2
  try simp only [Act.put, List.setIfInBounds_toArray, List.set_cons_zero, List.set_cons_succ]
  refine wpAnyH_ready (rs := [6]) (by kernel_rfl) (by simp) ?_
  refine AllReadyH.cons (by (simp only [List.getElem?_toArray, List.getElem?_cons_succ, List.getElem?_cons_zero]; rfl)) (fun K hK => ?_) AllReadyH.nil
  go_simp
  refine (mnum_any wd.heap.size wd.heap.size _ _ o _ hP3.mo (by omega) (by omega)).mono ?_
  rintro e w4 ⟨v4, rfl, hm4, hk4, hf4⟩
  have hP4 := hP3.step hm4 hk4 hf4
  have hS4 := boxM hP4.box
  have hcv4 := run_str w4 As S.length cs S (hP4.bytes hrsd)
  go_wp2_with fail
  refine hK.out _ _ ⟨hS4, hcv4⟩ (fun hHeld2 => ?_)
  clear hK K hHeld
  have hHeld := hHeld2
  clear hHeld2
  try simp only [Act.put, List.setIfInBounds_toArray, List.set_cons_zero, List.set_cons_succ]
  refine wpAnyH_ready (rs := [9]) (by kernel_rfl) (by simp) ?_
  refine AllReadyH.cons (by (simp only [List.getElem?_toArray, List.getElem?_cons_succ, List.getElem?_cons_zero]; rfl)) (fun K hK => ?_) AllReadyH.nil
  go_simp
  refine (iput_any wd.heap.size wd.heap.size _ _ A l.length cap l _ hP4.mo (hP4.list hild) hSI (by omega) (hP4.away hild)).mono ?_
  rintro e w5 ⟨v5, rfl, hm5, hk5, hf5⟩
  have hP5 := hP4.step hm5 hk5 hf5
  have hS5 := boxM hP5.box
  have hcv5 := run_str w5 As S.length cs S (hP5.bytes hrsd)
  go_wp2_with fail
  refine hK.out _ _ ⟨hS5, hcv5⟩ (fun hHeld2 => ?_)
  clear hK K hHeld
  have hHeld := hHeld2
  clear hHeld2
  try simp only [Act.put, List.setIfInBounds_toArray, List.set_cons_zero, List.set_cons_succ]
  refine wpAnyH_ready (rs := [12]) (by kernel_rfl) (by simp) ?_
  refine AllReadyH.cons (by (simp only [List.getElem?_toArray, List.getElem?_cons_succ, List.getElem?_cons_zero]; rfl)) (fun K hK => ?_) AllReadyH.nil
  go_simp
  refine (mtext_l wd.heap.size wd.heap.size _ _ S _ hP5.mo (by omega)).mono ?_
  rintro e w6 ⟨v6, rfl, hm6, hk6, hf6⟩
  rw [hfit] at hm6
  have hP6 := hP5.step hm6 hk6 hf6
  have hS6 := boxM hP6.box
  have hcv6 := run_str w6 As S.length cs S (hP6.bytes hrsd)
  go_wp2_with fail
  refine hK.out _ _ ⟨hS6, hcv6⟩ (fun hHeld2 => ?_)
  clear hK K hHeld
  have hHeld := hHeld2
  clear hHeld2
  try simp only [Act.put, List.setIfInBounds_toArray, List.set_cons_zero, List.set_cons_succ]
  iterate 1 (refine tkP (by rfl) (by (simp only [List.getElem?_toArray, List.getElem?_cons_succ, List.getElem?_cons_zero]; rfl)) (by kernel_rfl) (by kernel_rfl) (by kernel_rfl) (by exact fun _ _ _ h => h) (by rfl) (by (intro w hSw; (try dsimp only at hSw); go_simp <;> with_reducible rfl)) (by assumption) ?_; try simp only [Act.put, List.setIfInBounds_toArray, List.set_cons_zero, List.set_cons_succ])
  refine wpAnyH_done (by kernel_rfl) ?_ _
  have key7 := mhas1_any k 121 w6
  rw [H121] at key7
  go_wp2_with fail
  refine key7.mono ?_
  rintro e w' ⟨rfl, hww⟩
  subst w'
  have hmo := hP6.mo
  rw [← hcode.out] at hmo
  go_wp2_with fail
  refine (mdone_any wd.heap.size wd.heap.size v6 _ _ hmo).mono ?_
  rintro e wz ⟨hxz, Az, cz, rfl, r1, r2, r3, r4⟩
  have hbz := (hbd.trans (hP6.bel.mono hbd.size)).trans (hxz.mono (hbd.trans (hP6.bel.mono hbd.size)).size)
  have hzz := (hbd.trans (hP6.bel.mono hbd.size)).size
  go_wp2
  go_ret2
  exact ⟨hbz, Az, cz, rfl, r1, r2, r3, fun ad had => ⟨by have := (r4 ad had).1; omega, (r4 ad had).2⟩⟩

set_option maxRecDepth 100000 in
set_option maxHeartbeats 25600000 in
theorem menc_FT (x : MV) (A : Option Addr) (cap : Nat) (B : Option Addr) (capb : Nat) (w : World) (hl : IL w A x.l.length x.l) (hal : IL w B x.a.l.length x.a.l) (hn : x.l.length ≤ 9223372036854775807) (hn2 : x.a.l.length ≤ 9223372036854775807) (hx : mayM x = true) (H97 : hasB (hasM x.k) 97 = false) (H121 : hasB (hasM x.k) 121 = true) (hyn : -9223372036854775808 ≤ x.y.n ∧ x.y.n ≤ 9223372036854775807) :
    Calls Try.prog 8 #[x.v A cap B capb] w (EncPost true (encM x) 1 w) := by
  have hok : OKM (hasM x.k) x := OKM.of hx
  have hlist := hok.list
  have hord := hok.order
  have hkk := hok.k
  obtain ⟨S, hS⟩ : ∃ S, askB (hasM x.k) x.a = S := ⟨_, rfl⟩
  have hSl := askB_len hok
  have hfit := head_fits hok
  have hhl := head_len hok
  have hfit2 := ans_fits hok _ hhl
  obtain ⟨CD, hCD⟩ : ∃ c, encM x = c := ⟨_, rfl⟩
  rw [hCD]
  have hcode : encM x = _ := encKM_parts (hasM x.k) x
  rw [hCD] at hcode
  clear hCD
  rw [H121] at hfit2
  unfold ansB at hfit2 hcode
  rw [H121] at hfit2 hcode
  rw [hS] at hfit hSl hfit2 hcode
  obtain ⟨⟨y1, y2⟩, ⟨y3, y4⟩, ⟨y5, y6⟩⟩ : (0 ≤ x.y.c ∧ x.y.c ≤ 63) ∧ (1 ≤ x.y.m ∧ x.y.m ≤ 4294967296) ∧ (0 ≤ x.y.e ∧ x.y.e ≤ 1000) := mayY_facts (by have := hok.y; rw [H121] at this; exact this)
  unfold askB at hS
  rw [H97] at hS
  obtain ⟨k, o, l, ⟨a1, a2, a3, a4, a5, a6, a7, ag, al⟩, ⟨yc, ym, ye, yn⟩⟩ := x
  dsimp only at hl hal hn hn2 H97 H121 hS hfit hfit2 hcode hlist hord hkk hyn y1 y2 y3 y4 y5 y6
  have hSI := mayL_SI hlist
  have hln := (mayL_okI hlist).1
  have hbx0 : Blk (w.alloc (.cells #[.int .i64 k, .int .i64 o, .slice A l.length cap, .int .i64 a1, .int .i64 a2, .int .i64 a3, .int .i64 a4, .int .i64 a5, .int .i64 a6, .int .i64 a7, .string ⟨ag.toArray⟩, .slice B al.length capb, .int .i64 yc, .int .i64 ym, .int .i64 ye, .int .i64 yn] 29)) w.heap.size 29 #[.int .i64 k, .int .i64 o, .slice A l.length cap, .int .i64 a1, .int .i64 a2, .int .i64 a3, .int .i64 a4, .int .i64 a5, .int .i64 a6, .int .i64 a7, .string ⟨ag.toArray⟩, .slice B al.length capb, .int .i64 yc, .int .i64 ym, .int .i64 ye, .int .i64 yn] := Blk.new _ _ _
  have hb0 := (Below.refl w.heap.size w).alloc (Nat.le_refl _) (.cells #[.int .i64 k, .int .i64 o, .slice A l.length cap, .int .i64 a1, .int .i64 a2, .int .i64 a3, .int .i64 a4, .int .i64 a5, .int .i64 a6, .int .i64 a7, .string ⟨ag.toArray⟩, .slice B al.length capb, .int .i64 yc, .int .i64 ym, .int .i64 ye, .int .i64 yn] 29)
  have hil0 := hl.alloc (.cells #[.int .i64 k, .int .i64 o, .slice A l.length cap, .int .i64 a1, .int .i64 a2, .int .i64 a3, .int .i64 a4, .int .i64 a5, .int .i64 a6, .int .i64 a7, .string ⟨ag.toArray⟩, .slice B al.length capb, .int .i64 yc, .int .i64 ym, .int .i64 ye, .int .i64 yn] 29)
  have hial0 := hal.alloc (.cells #[.int .i64 k, .int .i64 o, .slice A l.length cap, .int .i64 a1, .int .i64 a2, .int .i64 a3, .int .i64 a4, .int .i64 a5, .int .i64 a6, .int .i64 a7, .string ⟨ag.toArray⟩, .slice B al.length capb, .int .i64 yc, .int .i64 ym, .int .i64 ye, .int .i64 yn] 29)
  have key1 := mmay_any ⟨k, o, l, ⟨a1, a2, a3, a4, a5, a6, a7, ag, al⟩, ⟨yc, ym, ye, yn⟩⟩ A cap B capb _ hil0 hial0 hn hn2
  rw [hx] at key1
  unfold MV.v MV.cs at key1
  dsimp only at key1
  have hS00 := boxM hbx0
  clear hhl hok
  subst hS
  skip
  replace hcode := Lib.hid hcode
  unfold MV.v MV.cs
  dsimp only
  go_enter Try.func8, Try.ntmps8
  go_wp2_with fail
  refine key1.mono ?_
  rintro e w1 ⟨rfl, hx1⟩
  clear key1 hS00
  have hb1 := hb0.trans (hx1.mono hb0.size)
  have hbx1 := hbx0.kept (Keep.of_below hx1) (fun h => absurd hbx0.lt (Nat.not_lt.2 h))
  have hil1 := hil0.below hx1
  have hial1 := hial0.below hx1
  have hS01 := boxM hbx1
  clear hb0 hbx0 hil0 hial0 hx1
  have key2 := mhas1_any k 97 w1
  rw [H97] at key2
  go_wp2_with fail
  refine key2.mono ?_
  rintro e w' ⟨rfl, hww⟩
  subst w'
  clear key2
  obtain ⟨As, cs, hAs, hcs⟩ : ∃ (As : Option Addr) (cs : Nat), As = none ∧ cs = 0 := ⟨_, _, rfl, rfl⟩
  have hb := hb1
  have hbx := hbx1
  have hil := hil1
  have hrs : RB w1 As ([] : List UInt8).length [] := RB.nil _ _
  clear hb1 hbx1 hil1 hial1 hS01
  subst hAs hcs
  have hbxd := hbx.drew
  have hild := hil.drew
  have hrsd := hrs.drew
  have hbd := Below.drew hb
  obtain ⟨wd, hwd⟩ : ∃ wd, w1.drew = wd := ⟨_, rfl⟩
  rw [hwd] at hbxd hild hrsd hbd
  have hS0 := boxM hbxd
  have hcv0 := run_str wd none 0 0 [] hrsd
  go_wp2_with fail
  refine wp_region_held_drew (S := (fun w' => (w'.cell? ⟨w.heap.size, 0, none⟩ = some (.int .i64 k) ∧ w'.cell? ⟨w.heap.size, 1, none⟩ = some (.int .i64 o) ∧ w'.cell? ⟨w.heap.size, 2, none⟩ = some (.slice A l.length cap) ∧ w'.cell? ⟨w.heap.size, 3, none⟩ = some (.int .i64 a1) ∧ w'.cell? ⟨w.heap.size, 4, none⟩ = some (.int .i64 a2) ∧ w'.cell? ⟨w.heap.size, 5, none⟩ = some (.int .i64 a3) ∧ w'.cell? ⟨w.heap.size, 6, none⟩ = some (.int .i64 a4) ∧ w'.cell? ⟨w.heap.size, 7, none⟩ = some (.int .i64 a5) ∧ w'.cell? ⟨w.heap.size, 8, none⟩ = some (.int .i64 a6) ∧ w'.cell? ⟨w.heap.size, 9, none⟩ = some (.int .i64 a7) ∧ w'.cell? ⟨w.heap.size, 10, none⟩ = some (.string ⟨ag.toArray⟩) ∧ w'.cell? ⟨w.heap.size, 11, none⟩ = some (.slice B al.length capb) ∧ w'.cell? ⟨w.heap.size, 12, none⟩ = some (.int .i64 yc) ∧ w'.cell? ⟨w.heap.size, 13, none⟩ = some (.int .i64 ym) ∧ w'.cell? ⟨w.heap.size, 14, none⟩ = some (.int .i64 ye) ∧ w'.cell? ⟨w.heap.size, 15, none⟩ = some (.int .i64 yn)) ∧ (convert 31 9 (.slice none 0 0)).run Try.prog w' = .ok (.string ⟨([] : List UInt8).toArray⟩) w')) (by kernel_rfl) (by rw [hwd]; exact ⟨hS0, hcv0⟩) (fun hHeld => ?_)
  rw [hwd] at hHeld ⊢
  (refine tkI 1 (by (simp only [List.getElem?_toArray, List.getElem?_cons_succ, List.getElem?_cons_zero]; rfl)) (by kernel_rfl) (by kernel_rfl) (by kernel_rfl) (by exact fun _ _ _ h => h) (by rfl) (by (intro w hSw; (try dsimp only at hSw); go_simp <;> with_reducible rfl)) (by assumption) ?_; try simp only [Act.put, List.setIfInBounds_toArray, List.set_cons_zero, List.set_cons_succ])
  (refine tkI 2 (by (simp only [List.getElem?_toArray, List.getElem?_cons_succ, List.getElem?_cons_zero]; rfl)) (by kernel_rfl) (by kernel_rfl) (by kernel_rfl) (by exact fun _ _ _ h => h) (by rfl) (by (intro w hSw; (try dsimp only at hSw); go_simp <;> with_reducible rfl)) (by assumption) ?_; try simp only [Act.put, List.setIfInBounds_toArray, List.set_cons_zero, List.set_cons_succ])
  (refine tkI 4 (by (simp only [List.getElem?_toArray, List.getElem?_cons_succ, List.getElem?_cons_zero]; rfl)) (by kernel_rfl) (by kernel_rfl) (by kernel_rfl) (by exact fun _ _ _ h => h) (by rfl) (by (intro w hSw; (try dsimp only at hSw); go_simp <;> with_reducible rfl)) (by assumption) ?_; try simp only [Act.put, List.setIfInBounds_toArray, List.set_cons_zero, List.set_cons_succ])
  (refine tkI 5 (by (simp only [List.getElem?_toArray, List.getElem?_cons_succ, List.getElem?_cons_zero]; rfl)) (by kernel_rfl) (by kernel_rfl) (by kernel_rfl) (by exact fun _ _ _ h => h) (by rfl) (by (intro w hSw; (try dsimp only at hSw); go_simp <;> with_reducible rfl)) (by assumption) ?_; try simp only [Act.put, List.setIfInBounds_toArray, List.set_cons_zero, List.set_cons_succ])
  (refine tkI 7 (by (simp only [List.getElem?_toArray, List.getElem?_cons_succ, List.getElem?_cons_zero]; rfl)) (by kernel_rfl) (by kernel_rfl) (by kernel_rfl) (by exact fun _ _ _ h => h) (by rfl) (by (intro w hSw; (try dsimp only at hSw); go_simp <;> with_reducible rfl)) (by assumption) ?_; try simp only [Act.put, List.setIfInBounds_toArray, List.set_cons_zero, List.set_cons_succ])
  (refine tkI 8 (by (simp only [List.getElem?_toArray, List.getElem?_cons_succ, List.getElem?_cons_zero]; rfl)) (by kernel_rfl) (by kernel_rfl) (by kernel_rfl) (by exact fun _ _ _ h => h) (by rfl) (by (intro w hSw; (try dsimp only at hSw); go_simp <;> with_reducible rfl)) (by assumption) ?_; try simp only [Act.put, List.setIfInBounds_toArray, List.set_cons_zero, List.set_cons_succ])
  (refine tkI 10 (by (simp only [List.getElem?_toArray, List.getElem?_cons_succ, List.getElem?_cons_zero]; rfl)) (by kernel_rfl) (by kernel_rfl) (by kernel_rfl) (by exact fun _ _ _ h => h) (by rfl) (by (intro w hSw; (try dsimp only at hSw); go_simp <;> with_reducible rfl)) (by assumption) ?_; try simp only [Act.put, List.setIfInBounds_toArray, List.set_cons_zero, List.set_cons_succ])
  (refine tkI 11 (by (simp only [List.getElem?_toArray, List.getElem?_cons_succ, List.getElem?_cons_zero]; rfl)) (by kernel_rfl) (by kernel_rfl) (by kernel_rfl) (by exact fun _ _ _ h => h) (by rfl) (by (intro w hSw; (try dsimp only at hSw); go_simp <;> with_reducible rfl)) (by assumption) ?_; try simp only [Act.put, List.setIfInBounds_toArray, List.set_cons_zero, List.set_cons_succ])
  refine wpAnyH_ready (rs := [0]) (by kernel_rfl) (by simp) ?_
  refine AllReadyH.cons (by (simp only [List.getElem?_toArray, List.getElem?_cons_succ, List.getElem?_cons_zero]; rfl)) (fun K hK => ?_) AllReadyH.nil
  go_simp
  refine (new_any _).mono ?_
  rintro e w2 ⟨rfl, hm2, hx2⟩
  have hP2 := PM.first hbxd hm2 hx2
  have hS2 := boxM hP2.box
  have hcv2 := run_str w2 none 0 0 [] (hP2.bytes hrsd)
  go_wp2_with fail
  refine hK.out _ _ ⟨hS2, hcv2⟩ (fun hHeld2 => ?_)
  clear hK K hHeld
  have hHeld := hHeld2
  clear hHeld2
  try simp only [Act.put, List.setIfInBounds_toArray, List.set_cons_zero, List.set_cons_succ]
  refine wpAnyH_ready (rs := [3]) (by kernel_rfl) (by simp) ?_
  refine AllReadyH.cons (by (simp only [List.getElem?_toArray, List.getElem?_cons_succ, List.getElem?_cons_zero]; rfl)) (fun K hK => ?_) AllReadyH.nil
  go_simp
  refine (mnum_any wd.heap.size wd.heap.size _ _ k _ hP2.mo (by omega) (by omega)).mono ?_
  rintro e w3 ⟨v3, rfl, hm3, hk3, hf3⟩
  have hP3 := hP2.step hm3 hk3 hf3
  have hS3 := boxM hP3.box
  have hcv3 := run_str w3 none 0 0 [] (hP3.bytes hrsd)
  go_wp2_with fail
  refine hK.out _ _ ⟨hS3, hcv3⟩ (fun hHeld2 => ?_)
  clear hK K hHeld
  have hHeld := hHeld2
  clear hHeld2
  try simp only [Act.put, List.setIfInBounds_toArray, List.set_cons_zero, List.set_cons_succ]
  refine wpAnyH_ready (rs := [6]) (by kernel_rfl) (by simp) ?_
  refine AllReadyH.cons (by (simp only [List.getElem?_toArray, List.getElem?_cons_succ, List.getElem?_cons_zero]; rfl)) (fun K hK => ?_) AllReadyH.nil
  go_simp
  refine (mnum_any wd.heap.size wd.heap.size _ _ o _ hP3.mo (by omega) (by omega)).mono ?_
  rintro e w4 ⟨v4, rfl, hm4, hk4, hf4⟩
  have hP4 := hP3.step hm4 hk4 hf4
  have hS4 := boxM hP4.box
  have hcv4 := run_str w4 none 0 0 [] (hP4.bytes hrsd)
  go_wp2_with fail
  refine hK.out _ _ ⟨hS4, hcv4⟩ (fun hHeld2 => ?_)
  clear hK K hHeld
  have hHeld := hHeld2
  clear hHeld2
  try simp only [Act.put, List.setIfInBounds_toArray, List.set_cons_zero, List.set_cons_succ]
  refine wpAnyH_ready (rs := [9]) (by kernel_rfl) (by simp) ?_
  refine AllReadyH.cons (by (simp only [List.getElem?_toArray, List.getElem?_cons_succ, List.getElem?_cons_zero]; rfl)) (fun K hK => ?_) AllReadyH.nil
  go_simp
  refine (iput_any wd.heap.size wd.heap.size _ _ A l.length cap l _ hP4.mo (hP4.list hild) hSI (by omega) (hP4.away hild)).mono ?_
  rintro e w5 ⟨v5, rfl, hm5, hk5, hf5⟩
  have hP5 := hP4.step hm5 hk5 hf5
  have hS5 := boxM hP5.box
  have hcv5 := run_str w5 none 0 0 [] (hP5.bytes hrsd)
  go_wp2_with fail
  refine hK.out _ _ ⟨hS5, hcv5⟩ (fun hHeld2 => ?_)
  clear hK K hHeld
  have hHeld := hHeld2
  clear hHeld2
  try simp only [Act.put, List.setIfInBounds_toArray, List.set_cons_zero, List.set_cons_succ]
  refine wpAnyH_ready (rs := [12]) (by kernel_rfl) (by simp) ?_
  refine AllReadyH.cons (by (simp only [List.getElem?_toArray, List.getElem?_cons_succ, List.getElem?_cons_zero]; rfl)) (fun K hK => ?_) AllReadyH.nil
  go_simp
  refine (mtext_l wd.heap.size wd.heap.size _ _ [] _ hP5.mo (by omega)).mono ?_
  rintro e w6 ⟨v6, rfl, hm6, hk6, hf6⟩
  rw [hfit] at hm6
  have hP6 := hP5.step hm6 hk6 hf6
  have hS6 := boxM hP6.box
  have hcv6 := run_str w6 none 0 0 [] (hP6.bytes hrsd)
  go_wp2_with fail
  refine hK.out _ _ ⟨hS6, hcv6⟩ (fun hHeld2 => ?_)
  clear hK K hHeld
  have hHeld := hHeld2
  clear hHeld2
  try simp only [Act.put, List.setIfInBounds_toArray, List.set_cons_zero, List.set_cons_succ]
  iterate 1 (refine tkP (by rfl) (by (simp only [List.getElem?_toArray, List.getElem?_cons_succ, List.getElem?_cons_zero]; rfl)) (by kernel_rfl) (by kernel_rfl) (by kernel_rfl) (by exact fun _ _ _ h => h) (by rfl) (by (intro w hSw; (try dsimp only at hSw); go_simp <;> with_reducible rfl)) (by assumption) ?_; try simp only [Act.put, List.setIfInBounds_toArray, List.set_cons_zero, List.set_cons_succ])
  refine wpAnyH_done (by kernel_rfl) ?_ _
  have key7 := mhas1_any k 121 w6
  rw [H121] at key7
  go_wp2_with fail
  refine key7.mono ?_
  rintro e w' ⟨rfl, hww⟩
  subst w'
  have hP7 := hP6.drew
  obtain ⟨w7, hw7⟩ : ∃ w7, w6.drew = w7 := ⟨_, rfl⟩
  rw [hw7] at hP7
  have hS7 := boxM hP7.box
  go_wp2_with fail
  refine wp_region_held_drew (S := (fun w' => w'.cell? ⟨w.heap.size, 0, none⟩ = some (.int .i64 k) ∧ w'.cell? ⟨w.heap.size, 1, none⟩ = some (.int .i64 o) ∧ w'.cell? ⟨w.heap.size, 2, none⟩ = some (.slice A l.length cap) ∧ w'.cell? ⟨w.heap.size, 3, none⟩ = some (.int .i64 a1) ∧ w'.cell? ⟨w.heap.size, 4, none⟩ = some (.int .i64 a2) ∧ w'.cell? ⟨w.heap.size, 5, none⟩ = some (.int .i64 a3) ∧ w'.cell? ⟨w.heap.size, 6, none⟩ = some (.int .i64 a4) ∧ w'.cell? ⟨w.heap.size, 7, none⟩ = some (.int .i64 a5) ∧ w'.cell? ⟨w.heap.size, 8, none⟩ = some (.int .i64 a6) ∧ w'.cell? ⟨w.heap.size, 9, none⟩ = some (.int .i64 a7) ∧ w'.cell? ⟨w.heap.size, 10, none⟩ = some (.string ⟨ag.toArray⟩) ∧ w'.cell? ⟨w.heap.size, 11, none⟩ = some (.slice B al.length capb) ∧ w'.cell? ⟨w.heap.size, 12, none⟩ = some (.int .i64 yc) ∧ w'.cell? ⟨w.heap.size, 13, none⟩ = some (.int .i64 ym) ∧ w'.cell? ⟨w.heap.size, 14, none⟩ = some (.int .i64 ye) ∧ w'.cell? ⟨w.heap.size, 15, none⟩ = some (.int .i64 yn))) (by kernel_rfl) (by rw [hw7]; exact hS7) (fun hHeld => ?_)
  rw [hw7] at hHeld ⊢
  iterate 4 (refine tkP (by rfl) (by (simp only [List.getElem?_toArray, List.getElem?_cons_succ, List.getElem?_cons_zero]; rfl)) (by kernel_rfl) (by kernel_rfl) (by kernel_rfl) (by exact fun _ _ _ h => h) (by rfl) (by (intro w hSw; (try dsimp only at hSw); go_simp <;> with_reducible rfl)) (by assumption) ?_; try simp only [Act.put, List.setIfInBounds_toArray, List.set_cons_zero, List.set_cons_succ])
  (refine tkI 5 (by (simp only [List.getElem?_toArray, List.getElem?_cons_succ, List.getElem?_cons_zero]; rfl)) (by kernel_rfl) (by kernel_rfl) (by kernel_rfl) (by exact fun _ _ _ h => h) (by rfl) (by (intro w hSw; (try dsimp only at hSw); go_simp <;> with_reducible rfl)) (by assumption) ?_; try simp only [Act.put, List.setIfInBounds_toArray, List.set_cons_zero, List.set_cons_succ])
  (refine tkI 6 (by (simp only [List.getElem?_toArray, List.getElem?_cons_succ, List.getElem?_cons_zero]; rfl)) (by kernel_rfl) (by kernel_rfl) (by kernel_rfl) (by exact fun _ _ _ h => h) (by rfl) (by (intro w hSw; (try dsimp only at hSw); go_simp <;> with_reducible rfl)) (by assumption) ?_; try simp only [Act.put, List.setIfInBounds_toArray, List.set_cons_zero, List.set_cons_succ])
  (refine tkI 7 (by (simp only [List.getElem?_toArray, List.getElem?_cons_succ, List.getElem?_cons_zero]; rfl)) (by kernel_rfl) (by kernel_rfl) (by kernel_rfl) (by exact fun _ _ _ h => h) (by rfl) (by (intro w hSw; (try dsimp only at hSw); go_simp <;> with_reducible rfl)) (by assumption) ?_; try simp only [Act.put, List.setIfInBounds_toArray, List.set_cons_zero, List.set_cons_succ])
  (refine tkI 9 (by (simp only [List.getElem?_toArray, List.getElem?_cons_succ, List.getElem?_cons_zero]; rfl)) (by kernel_rfl) (by kernel_rfl) (by kernel_rfl) (by exact fun _ _ _ h => h) (by rfl) (by (intro w hSw; (try dsimp only at hSw); go_simp <;> with_reducible rfl)) (by assumption) ?_; try simp only [Act.put, List.setIfInBounds_toArray, List.set_cons_zero, List.set_cons_succ])
  (refine tkI 10 (by (simp only [List.getElem?_toArray, List.getElem?_cons_succ, List.getElem?_cons_zero]; rfl)) (by kernel_rfl) (by kernel_rfl) (by kernel_rfl) (by exact fun _ _ _ h => h) (by rfl) (by (intro w hSw; (try dsimp only at hSw); go_simp <;> with_reducible rfl)) (by assumption) ?_; try simp only [Act.put, List.setIfInBounds_toArray, List.set_cons_zero, List.set_cons_succ])
  (refine tkI 11 (by (simp only [List.getElem?_toArray, List.getElem?_cons_succ, List.getElem?_cons_zero]; rfl)) (by kernel_rfl) (by kernel_rfl) (by kernel_rfl) (by exact fun _ _ _ h => h) (by rfl) (by (intro w hSw; (try dsimp only at hSw); go_simp <;> with_reducible rfl)) (by assumption) ?_; try simp only [Act.put, List.setIfInBounds_toArray, List.set_cons_zero, List.set_cons_succ])
  (refine tkI 13 (by (simp only [List.getElem?_toArray, List.getElem?_cons_succ, List.getElem?_cons_zero]; rfl)) (by kernel_rfl) (by kernel_rfl) (by kernel_rfl) (by exact fun _ _ _ h => h) (by rfl) (by (intro w hSw; (try dsimp only at hSw); go_simp <;> with_reducible rfl)) (by assumption) ?_; try simp only [Act.put, List.setIfInBounds_toArray, List.set_cons_zero, List.set_cons_succ])
  (refine tkI 14 (by (simp only [List.getElem?_toArray, List.getElem?_cons_succ, List.getElem?_cons_zero]; rfl)) (by kernel_rfl) (by kernel_rfl) (by kernel_rfl) (by exact fun _ _ _ h => h) (by rfl) (by (intro w hSw; (try dsimp only at hSw); go_simp <;> with_reducible rfl)) (by assumption) ?_; try simp only [Act.put, List.setIfInBounds_toArray, List.set_cons_zero, List.set_cons_succ])
  (refine tkI 15 (by (simp only [List.getElem?_toArray, List.getElem?_cons_succ, List.getElem?_cons_zero]; rfl)) (by kernel_rfl) (by kernel_rfl) (by kernel_rfl) (by exact fun _ _ _ h => h) (by rfl) (by (intro w hSw; (try dsimp only at hSw); go_simp <;> with_reducible rfl)) (by assumption) ?_; try simp only [Act.put, List.setIfInBounds_toArray, List.set_cons_zero, List.set_cons_succ])
  refine wpAnyH_ready (rs := [4]) (by kernel_rfl) (by simp) ?_
  refine AllReadyH.cons (by (simp only [List.getElem?_toArray, List.getElem?_cons_succ, List.getElem?_cons_zero]; rfl)) (fun K hK => ?_) AllReadyH.nil
  go_simp
  refine (mnum_any wd.heap.size wd.heap.size _ _ yc _ hP7.mo (by omega) (by omega)).mono ?_
  rintro e w8 ⟨v8, rfl, hm8, hk8, hf8⟩
  have hP8 := hP7.step hm8 hk8 hf8
  have hS8 := boxM hP8.box
  go_wp2_with fail
  refine hK.out _ _ hS8 (fun hHeld2 => ?_)
  clear hK K hHeld
  have hHeld := hHeld2
  clear hHeld2
  try simp only [Act.put, List.setIfInBounds_toArray, List.set_cons_zero, List.set_cons_succ]
  refine wpAnyH_ready (rs := [8]) (by kernel_rfl) (by simp) ?_
  refine AllReadyH.cons (by (simp only [List.getElem?_toArray, List.getElem?_cons_succ, List.getElem?_cons_zero]; rfl)) (fun K hK => ?_) AllReadyH.nil
  go_simp
  refine (mnum_any wd.heap.size wd.heap.size _ _ ym _ hP8.mo (by omega) (by omega)).mono ?_
  rintro e w9 ⟨v9, rfl, hm9, hk9, hf9⟩
  have hP9 := hP8.step hm9 hk9 hf9
  have hS9 := boxM hP9.box
  go_wp2_with fail
  refine hK.out _ _ hS9 (fun hHeld2 => ?_)
  clear hK K hHeld
  have hHeld := hHeld2
  clear hHeld2
  try simp only [Act.put, List.setIfInBounds_toArray, List.set_cons_zero, List.set_cons_succ]
  refine wpAnyH_ready (rs := [12]) (by kernel_rfl) (by simp) ?_
  refine AllReadyH.cons (by (simp only [List.getElem?_toArray, List.getElem?_cons_succ, List.getElem?_cons_zero]; rfl)) (fun K hK => ?_) AllReadyH.nil
  go_simp
  refine (mnum_any wd.heap.size wd.heap.size _ _ ye _ hP9.mo (by omega) (by omega)).mono ?_
  rintro e w10 ⟨v10, rfl, hm10, hk10, hf10⟩
  have hP10 := hP9.step hm10 hk10 hf10
  have hS10 := boxM hP10.box
  go_wp2_with fail
  refine hK.out _ _ hS10 (fun hHeld2 => ?_)
  clear hK K hHeld
  have hHeld := hHeld2
  clear hHeld2
  try simp only [Act.put, List.setIfInBounds_toArray, List.set_cons_zero, List.set_cons_succ]
  refine wpAnyH_ready (rs := [16]) (by kernel_rfl) (by simp) ?_
  refine AllReadyH.cons (by (simp only [List.getElem?_toArray, List.getElem?_cons_succ, List.getElem?_cons_zero]; rfl)) (fun K hK => ?_) AllReadyH.nil
  go_simp
  refine (mnum_any wd.heap.size wd.heap.size _ _ yn _ hP10.mo (by omega) (by omega)).mono ?_
  rintro e w11 ⟨v11, rfl, hm11, hk11, hf11⟩
  have hP11 := hP10.step hm11 hk11 hf11
  have hS11 := boxM hP11.box
  go_wp2_with fail
  refine hK.out _ _ hS11 (fun hHeld2 => ?_)
  clear hK K hHeld
  have hHeld := hHeld2
  clear hHeld2
  try simp only [Act.put, List.setIfInBounds_toArray, List.set_cons_zero, List.set_cons_succ]
  refine wpAnyH_done (by kernel_rfl) ?_ _
  have hmo := hP11.mo
  rw [hfit2, ← hcode.out] at hmo
  go_wp2_with fail
  refine (mdone_any wd.heap.size wd.heap.size v11 _ _ hmo).mono ?_
  rintro e wz ⟨hxz, Az, cz, rfl, r1, r2, r3, r4⟩
  have hbz := (hbd.trans (hP11.bel.mono hbd.size)).trans (hxz.mono (hbd.trans (hP11.bel.mono hbd.size)).size)
  have hzz := (hbd.trans (hP11.bel.mono hbd.size)).size
  go_wp2
  go_ret2
  exact ⟨hbz, Az, cz, rfl, r1, r2, r3, fun ad had => ⟨by have := (r4 ad had).1; omega, (r4 ad had).2⟩⟩

set_option maxRecDepth 100000 in
set_option maxHeartbeats 25600000 in
theorem menc_FF (x : MV) (A : Option Addr) (cap : Nat) (B : Option Addr) (capb : Nat) (w : World) (hl : IL w A x.l.length x.l) (hal : IL w B x.a.l.length x.a.l) (hn : x.l.length ≤ 9223372036854775807) (hn2 : x.a.l.length ≤ 9223372036854775807) (hx : mayM x = true) (H97 : hasB (hasM x.k) 97 = false) (H121 : hasB (hasM x.k) 121 = false) (hyn : -9223372036854775808 ≤ x.y.n ∧ x.y.n ≤ 9223372036854775807) :
    Calls Try.prog 8 #[x.v A cap B capb] w (EncPost true (encM x) 1 w) := by
  have hok : OKM (hasM x.k) x := OKM.of hx
  have hlist := hok.list
  have hord := hok.order
  have hkk := hok.k
  obtain ⟨S, hS⟩ : ∃ S, askB (hasM x.k) x.a = S := ⟨_, rfl⟩
  have hSl := askB_len hok
  have hfit := head_fits hok
  have hhl := head_len hok
  have hfit2 := ans_fits hok _ hhl
  obtain ⟨CD, hCD⟩ : ∃ c, encM x = c := ⟨_, rfl⟩
  rw [hCD]
  have hcode : encM x = _ := encKM_parts (hasM x.k) x
  rw [hCD] at hcode
  clear hCD
  rw [H121] at hfit2
  unfold ansB at hfit2 hcode
  rw [H121] at hfit2 hcode
  rw [hS] at hfit hSl hfit2 hcode
  unfold askB at hS
  rw [H97] at hS
  obtain ⟨k, o, l, ⟨a1, a2, a3, a4, a5, a6, a7, ag, al⟩, ⟨yc, ym, ye, yn⟩⟩ := x
  dsimp only at hl hal hn hn2 H97 H121 hS hfit hfit2 hcode hlist hord hkk hyn 
  have hSI := mayL_SI hlist
  have hln := (mayL_okI hlist).1
  have hbx0 : Blk (w.alloc (.cells #[.int .i64 k, .int .i64 o, .slice A l.length cap, .int .i64 a1, .int .i64 a2, .int .i64 a3, .int .i64 a4, .int .i64 a5, .int .i64 a6, .int .i64 a7, .string ⟨ag.toArray⟩, .slice B al.length capb, .int .i64 yc, .int .i64 ym, .int .i64 ye, .int .i64 yn] 29)) w.heap.size 29 #[.int .i64 k, .int .i64 o, .slice A l.length cap, .int .i64 a1, .int .i64 a2, .int .i64 a3, .int .i64 a4, .int .i64 a5, .int .i64 a6, .int .i64 a7, .string ⟨ag.toArray⟩, .slice B al.length capb, .int .i64 yc, .int .i64 ym, .int .i64 ye, .int .i64 yn] := Blk.new _ _ _
  have hb0 := (Below.refl w.heap.size w).alloc (Nat.le_refl _) (.cells #[.int .i64 k, .int .i64 o, .slice A l.length cap, .int .i64 a1, .int .i64 a2, .int .i64 a3, .int .i64 a4, .int .i64 a5, .int .i64 a6, .int .i64 a7, .string ⟨ag.toArray⟩, .slice B al.length capb, .int .i64 yc, .int .i64 ym, .int .i64 ye, .int .i64 yn] 29)
  have hil0 := hl.alloc (.cells #[.int .i64 k, .int .i64 o, .slice A l.length cap, .int .i64 a1, .int .i64 a2, .int .i64 a3, .int .i64 a4, .int .i64 a5, .int .i64 a6, .int .i64 a7, .string ⟨ag.toArray⟩, .slice B al.length capb, .int .i64 yc, .int .i64 ym, .int .i64 ye, .int .i64 yn] 29)
  have hial0 := hal.alloc (.cells #[.int .i64 k, .int .i64 o, .slice A l.length cap, .int .i64 a1, .int .i64 a2, .int .i64 a3, .int .i64 a4, .int .i64 a5, .int .i64 a6, .int .i64 a7, .string ⟨ag.toArray⟩, .slice B al.length capb, .int .i64 yc, .int .i64 ym, .int .i64 ye, .int .i64 yn] 29)
  have key1 := mmay_any ⟨k, o, l, ⟨a1, a2, a3, a4, a5, a6, a7, ag, al⟩, ⟨yc, ym, ye, yn⟩⟩ A cap B capb _ hil0 hial0 hn hn2
  rw [hx] at key1
  unfold MV.v MV.cs at key1
  dsimp only at key1
  have hS00 := boxM hbx0
  clear hhl hok
  subst hS
  rw [List.append_nil] at hcode
  replace hcode := Lib.hid hcode
  unfold MV.v MV.cs
  dsimp only
  go_enter Try.func8, Try.ntmps8
  go_wp2_with fail
  refine key1.mono ?_
  rintro e w1 ⟨rfl, hx1⟩
  clear key1 hS00
  have hb1 := hb0.trans (hx1.mono hb0.size)
  have hbx1 := hbx0.kept (Keep.of_below hx1) (fun h => absurd hbx0.lt (Nat.not_lt.2 h))
  have hil1 := hil0.below hx1
  have hial1 := hial0.below hx1
  have hS01 := boxM hbx1
  clear hb0 hbx0 hil0 hial0 hx1
  have key2 := mhas1_any k 97 w1
  rw [H97] at key2
  go_wp2_with fail
  refine key2.mono ?_
  rintro e w' ⟨rfl, hww⟩
  subst w'
  clear key2
  obtain ⟨As, cs, hAs, hcs⟩ : ∃ (As : Option Addr) (cs : Nat), As = none ∧ cs = 0 := ⟨_, _, rfl, rfl⟩
  have hb := hb1
  have hbx := hbx1
  have hil := hil1
  have hrs : RB w1 As ([] : List UInt8).length [] := RB.nil _ _
  clear hb1 hbx1 hil1 hial1 hS01
  subst hAs hcs
  have hbxd := hbx.drew
  have hild := hil.drew
  have hrsd := hrs.drew
  have hbd := Below.drew hb
  obtain ⟨wd, hwd⟩ : ∃ wd, w1.drew = wd := ⟨_, rfl⟩
  rw [hwd] at hbxd hild hrsd hbd
  have hS0 := boxM hbxd
  have hcv0 := run_str wd none 0 0 [] hrsd
  go_wp2_with fail
  refine wp_region_held_drew (S := (fun w' => (w'.cell? ⟨w.heap.size, 0, none⟩ = some (.int .i64 k) ∧ w'.cell? ⟨w.heap.size, 1, none⟩ = some (.int .i64 o) ∧ w'.cell? ⟨w.heap.size, 2, none⟩ = some (.slice A l.length cap) ∧ w'.cell? ⟨w.heap.size, 3, none⟩ = some (.int .i64 a1) ∧ w'.cell? ⟨w.heap.size, 4, none⟩ = some (.int .i64 a2) ∧ w'.cell? ⟨w.heap.size, 5, none⟩ = some (.int .i64 a3) ∧ w'.cell? ⟨w.heap.size, 6, none⟩ = some (.int .i64 a4) ∧ w'.cell? ⟨w.heap.size, 7, none⟩ = some (.int .i64 a5) ∧ w'.cell? ⟨w.heap.size, 8, none⟩ = some (.int .i64 a6) ∧ w'.cell? ⟨w.heap.size, 9, none⟩ = some (.int .i64 a7) ∧ w'.cell? ⟨w.heap.size, 10, none⟩ = some (.string ⟨ag.toArray⟩) ∧ w'.cell? ⟨w.heap.size, 11, none⟩ = some (.slice B al.length capb) ∧ w'.cell? ⟨w.heap.size, 12, none⟩ = some (.int .i64 yc) ∧ w'.cell? ⟨w.heap.size, 13, none⟩ = some (.int .i64 ym) ∧ w'.cell? ⟨w.heap.size, 14, none⟩ = some (.int .i64 ye) ∧ w'.cell? ⟨w.heap.size, 15, none⟩ = some (.int .i64 yn)) ∧ (convert 31 9 (.slice none 0 0)).run Try.prog w' = .ok (.string ⟨([] : List UInt8).toArray⟩) w')) (by kernel_rfl) (by rw [hwd]; exact ⟨hS0, hcv0⟩) (fun hHeld => ?_)
  rw [hwd] at hHeld ⊢
  (refine tkI 1 (by (simp only [List.getElem?_toArray, List.getElem?_cons_succ, List.getElem?_cons_zero]; rfl)) (by kernel_rfl) (by kernel_rfl) (by kernel_rfl) (by exact fun _ _ _ h => h) (by rfl) (by (intro w hSw; (try dsimp only at hSw); go_simp <;> with_reducible rfl)) (by assumption) ?_; try simp only [Act.put, List.setIfInBounds_toArray, List.set_cons_zero, List.set_cons_succ])
  (refine tkI 2 (by (simp only [List.getElem?_toArray, List.getElem?_cons_succ, List.getElem?_cons_zero]; rfl)) (by kernel_rfl) (by kernel_rfl) (by kernel_rfl) (by exact fun _ _ _ h => h) (by rfl) (by (intro w hSw; (try dsimp only at hSw); go_simp <;> with_reducible rfl)) (by assumption) ?_; try simp only [Act.put, List.setIfInBounds_toArray, List.set_cons_zero, List.set_cons_succ])
  (refine tkI 4 (by (simp only [List.getElem?_toArray, List.getElem?_cons_succ, List.getElem?_cons_zero]; rfl)) (by kernel_rfl) (by kernel_rfl) (by kernel_rfl) (by exact fun _ _ _ h => h) (by rfl) (by (intro w hSw; (try dsimp only at hSw); go_simp <;> with_reducible rfl)) (by assumption) ?_; try simp only [Act.put, List.setIfInBounds_toArray, List.set_cons_zero, List.set_cons_succ])
  (refine tkI 5 (by (simp only [List.getElem?_toArray, List.getElem?_cons_succ, List.getElem?_cons_zero]; rfl)) (by kernel_rfl) (by kernel_rfl) (by kernel_rfl) (by exact fun _ _ _ h => h) (by rfl) (by (intro w hSw; (try dsimp only at hSw); go_simp <;> with_reducible rfl)) (by assumption) ?_; try simp only [Act.put, List.setIfInBounds_toArray, List.set_cons_zero, List.set_cons_succ])
  (refine tkI 7 (by (simp only [List.getElem?_toArray, List.getElem?_cons_succ, List.getElem?_cons_zero]; rfl)) (by kernel_rfl) (by kernel_rfl) (by kernel_rfl) (by exact fun _ _ _ h => h) (by rfl) (by (intro w hSw; (try dsimp only at hSw); go_simp <;> with_reducible rfl)) (by assumption) ?_; try simp only [Act.put, List.setIfInBounds_toArray, List.set_cons_zero, List.set_cons_succ])
  (refine tkI 8 (by (simp only [List.getElem?_toArray, List.getElem?_cons_succ, List.getElem?_cons_zero]; rfl)) (by kernel_rfl) (by kernel_rfl) (by kernel_rfl) (by exact fun _ _ _ h => h) (by rfl) (by (intro w hSw; (try dsimp only at hSw); go_simp <;> with_reducible rfl)) (by assumption) ?_; try simp only [Act.put, List.setIfInBounds_toArray, List.set_cons_zero, List.set_cons_succ])
  (refine tkI 10 (by (simp only [List.getElem?_toArray, List.getElem?_cons_succ, List.getElem?_cons_zero]; rfl)) (by kernel_rfl) (by kernel_rfl) (by kernel_rfl) (by exact fun _ _ _ h => h) (by rfl) (by (intro w hSw; (try dsimp only at hSw); go_simp <;> with_reducible rfl)) (by assumption) ?_; try simp only [Act.put, List.setIfInBounds_toArray, List.set_cons_zero, List.set_cons_succ])
  (refine tkI 11 (by (simp only [List.getElem?_toArray, List.getElem?_cons_succ, List.getElem?_cons_zero]; rfl)) (by kernel_rfl) (by kernel_rfl) (by kernel_rfl) (by exact fun _ _ _ h => h) (by rfl) (by (intro w hSw; (try dsimp only at hSw); go_simp <;> with_reducible rfl)) (by assumption) ?_; try simp only [Act.put, List.setIfInBounds_toArray, List.set_cons_zero, List.set_cons_succ])
  refine wpAnyH_ready (rs := [0]) (by kernel_rfl) (by simp) ?_
  refine AllReadyH.cons (by (simp only [List.getElem?_toArray, List.getElem?_cons_succ, List.getElem?_cons_zero]; rfl)) (fun K hK => ?_) AllReadyH.nil
  go_simp
  refine (new_any _).mono ?_
  rintro e w2 ⟨rfl, hm2, hx2⟩
  have hP2 := PM.first hbxd hm2 hx2
  have hS2 := boxM hP2.box
  have hcv2 := run_str w2 none 0 0 [] (hP2.bytes hrsd)
  go_wp2_with fail
  refine hK.out _ _ ⟨hS2, hcv2⟩ (fun hHeld2 => ?_)
  clear hK K hHeld
  have hHeld := hHeld2
  clear hHeld2
  try simp only [Act.put, List.setIfInBounds_toArray, List.set_cons_zero, List.set_cons_succ]
  refine wpAnyH_ready (rs := [3]) (by kernel_rfl) (by simp) ?_
  refine AllReadyH.cons (by (simp only [List.getElem?_toArray, List.getElem?_cons_succ, List.getElem?_cons_zero]; rfl)) (fun K hK => ?_) AllReadyH.nil
  go_simp
  refine (mnum_any wd.heap.size wd.heap.size _ _ k _ hP2.mo (by omega) (by omega)).mono ?_
  rintro e w3 ⟨v3, rfl, hm3, hk3, hf3⟩
  have hP3 := hP2.step hm3 hk3 hf3
  have hS3 := boxM hP3.box
  have hcv3 := run_str w3 none 0 0 [] (hP3.bytes hrsd)
  go_wp2_with fail
  refine hK.out _ _ ⟨hS3, hcv3⟩ (fun hHeld2 => ?_)
  clear hK K hHeld
  have hHeld := hHeld2
  clear hHeld2
  try simp only [Act.put, List.setIfInBounds_toArray, List.set_cons_zero, List.set_cons_succ]
  refine wpAnyH_ready (rs := [6]) (by kernel_rfl) (by simp) ?_
  refine AllReadyH.cons (by (simp only [List.getElem?_toArray, List.getElem?_cons_succ, List.getElem?_cons_zero]; rfl)) (fun K hK => ?_) AllReadyH.nil
  go_simp
  refine (mnum_any wd.heap.size wd.heap.size _ _ o _ hP3.mo (by omega) (by omega)).mono ?_
  rintro e w4 ⟨v4, rfl, hm4, hk4, hf4⟩
  have hP4 := hP3.step hm4 hk4 hf4
  have hS4 := boxM hP4.box
  have hcv4 := run_str w4 none 0 0 [] (hP4.bytes hrsd)
  go_wp2_with fail
  refine hK.out _ _ ⟨hS4, hcv4⟩ (fun hHeld2 => ?_)
  clear hK K hHeld
  have hHeld := hHeld2
  clear hHeld2
  try simp only [Act.put, List.setIfInBounds_toArray, List.set_cons_zero, List.set_cons_succ]
  refine wpAnyH_ready (rs := [9]) (by kernel_rfl) (by simp) ?_
  refine AllReadyH.cons (by (simp only [List.getElem?_toArray, List.getElem?_cons_succ, List.getElem?_cons_zero]; rfl)) (fun K hK => ?_) AllReadyH.nil
  go_simp
  refine (iput_any wd.heap.size wd.heap.size _ _ A l.length cap l _ hP4.mo (hP4.list hild) hSI (by omega) (hP4.away hild)).mono ?_
  rintro e w5 ⟨v5, rfl, hm5, hk5, hf5⟩
  have hP5 := hP4.step hm5 hk5 hf5
  have hS5 := boxM hP5.box
  have hcv5 := run_str w5 none 0 0 [] (hP5.bytes hrsd)
  go_wp2_with fail
  refine hK.out _ _ ⟨hS5, hcv5⟩ (fun hHeld2 => ?_)
  clear hK K hHeld
  have hHeld := hHeld2
  clear hHeld2
  try simp only [Act.put, List.setIfInBounds_toArray, List.set_cons_zero, List.set_cons_succ]
  refine wpAnyH_ready (rs := [12]) (by kernel_rfl) (by simp) ?_
  refine AllReadyH.cons (by (simp only [List.getElem?_toArray, List.getElem?_cons_succ, List.getElem?_cons_zero]; rfl)) (fun K hK => ?_) AllReadyH.nil
  go_simp
  refine (mtext_l wd.heap.size wd.heap.size _ _ [] _ hP5.mo (by omega)).mono ?_
  rintro e w6 ⟨v6, rfl, hm6, hk6, hf6⟩
  rw [hfit] at hm6
  have hP6 := hP5.step hm6 hk6 hf6
  have hS6 := boxM hP6.box
  have hcv6 := run_str w6 none 0 0 [] (hP6.bytes hrsd)
  go_wp2_with fail
  refine hK.out _ _ ⟨hS6, hcv6⟩ (fun hHeld2 => ?_)
  clear hK K hHeld
  have hHeld := hHeld2
  clear hHeld2
  try simp only [Act.put, List.setIfInBounds_toArray, List.set_cons_zero, List.set_cons_succ]
  iterate 1 (refine tkP (by rfl) (by (simp only [List.getElem?_toArray, List.getElem?_cons_succ, List.getElem?_cons_zero]; rfl)) (by kernel_rfl) (by kernel_rfl) (by kernel_rfl) (by exact fun _ _ _ h => h) (by rfl) (by (intro w hSw; (try dsimp only at hSw); go_simp <;> with_reducible rfl)) (by assumption) ?_; try simp only [Act.put, List.setIfInBounds_toArray, List.set_cons_zero, List.set_cons_succ])
  refine wpAnyH_done (by kernel_rfl) ?_ _
  have key7 := mhas1_any k 121 w6
  rw [H121] at key7
  go_wp2_with fail
  refine key7.mono ?_
  rintro e w' ⟨rfl, hww⟩
  subst w'
  have hmo := hP6.mo
  rw [← hcode.out] at hmo
  go_wp2_with fail
  refine (mdone_any wd.heap.size wd.heap.size v6 _ _ hmo).mono ?_
  rintro e wz ⟨hxz, Az, cz, rfl, r1, r2, r3, r4⟩
  have hbz := (hbd.trans (hP6.bel.mono hbd.size)).trans (hxz.mono (hbd.trans (hP6.bel.mono hbd.size)).size)
  have hzz := (hbd.trans (hP6.bel.mono hbd.size)).size
  go_wp2
  go_ret2
  exact ⟨hbz, Az, cz, rfl, r1, r2, r3, fun ad had => ⟨by have := (r4 ad had).1; omega, (r4 ad had).2⟩⟩
end Go.Proofs.Ytpfkhalomnfcfaa
