/- The contract of the statements' own check: it returns true and only makes memory. No condition. -/
import Derived.Test.YtebgoaiinjmbiaaTaker
namespace Go.Proofs.Ytebgoaiinjmbiaa
open Go.RowKit
set_option linter.unusedVariables false

/-- From w, where an object may write F, the world has come to w', where it may write F': old blocks or new ones. -/
structure Foot (F : Nat → Prop) (w : World) (F' : Nat → Prop) (w' : World) : Prop where
  keep : Keep F w w'
  grow : ∀ i, F' i → F i ∨ w.heap.size ≤ i
theorem Foot.trans {F F' F'' : Nat → Prop} {w w' w'' : World} (h : Foot F w F' w') (k : Foot F' w' F'' w'') : Foot F w F'' w'' :=
  ⟨h.keep.trans k.keep fun i hi hf => (h.grow i hf).elim id fun hn => absurd hn (by omega), fun i hi => (k.grow i hi).elim (h.grow i) fun hn => .inr (Nat.le_trans h.keep.size hn)⟩
theorem Foot.refl (F : Nat → Prop) (w : World) : Foot F w F w := ⟨Keep.refl _ _, fun _ h => .inl h⟩
theorem Foot.of_below {F : Nat → Prop} {w w' : World} (h : Below w.heap.size w w') : Foot F w F w' :=
  ⟨⟨h.os, h.tape, h.output, h.size, fun i hi _ => h.block i hi⟩, fun _ h => .inl h⟩
theorem Foot.below {F F' : Nat → Prop} {w w' : World} {B : Nat} (h : Foot F w F' w') (hB : B ≤ w.heap.size) (hf : ∀ i, F i → B ≤ i) : Below B w w' :=
  h.keep.below hB fun i hi hF => by have := hf i hF; omega

theorem MK.alloc_ {base : Nat} {w : World} {g : Nat} {v : Value} {st : Option (List UInt8)} (h : MK base w g v st) (o : Obj) : MK base (w.alloc o) g v st :=
  h.kept ((Keep.refl (fun _ => False) w).alloc o) fun _ _ => id

theorem RB.addr_lt {w : World} {A : Option Addr} {n : Nat} {l : List UInt8} (h : RB w A n l) {ad : Addr} (ha : A = some ad) (hn : 0 < n) : ad.block < w.heap.size := by
  obtain ⟨b, off, e, hb, _⟩ := h.addr hn
  rw [e] at ha
  cases ha
  exact hb

theorem RB.made (w : World) (cs : Array Value) (t : TypeId) (l : List UInt8) (h : cs = (l.map bv).toArray) : RB (w.alloc (.cells cs t)) (some ⟨w.heap.size, 0, none⟩) l.length l := by
  subst h
  refine ⟨rfl, fun _ => ⟨_, _, rfl, fun j y hy => ?_⟩⟩
  rw [World.cell?_alloc_at _ _ _ _ rfl]
  simp [hy]

def livesL : List UInt8 := [129, 128, 2, 97, 98, 1]
theorem lives_num : tnum (some livesL) 0 1000 = (128, some [2, 97, 98, 1]) := by decide +kernel
theorem lives_text : ttext (some [2, 97, 98, 1]) 9 = ([97, 98], some [1]) := by decide +kernel
theorem lives_flag : tnum (some [1]) 0 1 = (1, some []) := by decide +kernel
theorem lives_first : first [129, 5] = none := by decide +kernel
theorem lives_put : put (put (put (some []) (numCell (-129))) (numCell 1 ++ [120])) (numCell (flagN true)) = some [145, 128, 1, 120, 1] := by decide +kernel

set_option maxRecDepth 100000 in
set_option maxHeartbeats 1600000 in
theorem lives_any (w : World) : Calls Try.prog 8 #[] w fun e w' => e = .returned (.bool true) ∧ Below w.heap.size w w' := by
  go_enter Try.func8, Try.ntmps8
  go_wp2_with fail
  refine (new_any w).mono ?_
  rintro e w1 ⟨rfl, hm1, hb1⟩
  have hs1 := hb1.size
  go_wp2_with fail
  refine (take_any _ 6 6 livesL _ (RB.made w1 _ _ livesL rfl) (by omega)).mono ?_
  rintro e w2 ⟨g, A, c, rfl, hg, ht, hb2, hA⟩
  have hb2' := (hb1.alloc hs1 (.cells (livesL.map bv).toArray 5)).trans (hb2.mono (by simp; omega))
  have hm2 := (hm1.alloc_ (.cells (livesL.map bv).toArray 5)).kept (Keep.of_below hb2) fun i hi => by
    have := ((hm1.alloc_ (.cells (livesL.map bv).toArray 5)).foot i hi).2
    omega
  have hgm : w.heap.size < g := by
    have := hm1.blk.lt
    simp at hg
    omega
  clear hb2 hm1
  have hbs2 := hb2'.size
  go_wp2_with fail
  refine (mnum_any _ _ _ _ (-129) w2 hm2 (by omega) (by omega)).mono ?_
  rintro e w3 ⟨v3, rfl, hm3, hk3, hf3⟩
  go_wp2_with fail
  refine (mtext_any _ _ _ _ ⟨#[120]⟩ w3 hm3 (by decide)).mono ?_
  rintro e w4 ⟨v4, rfl, hm4, hk4, hf4⟩
  go_wp2_with fail
  refine (mflag_any _ _ _ _ true w4 hm4).mono ?_
  rintro e w5 ⟨v5, rfl, hm5, hk5, hf5⟩
  have hst : Hid (put (put (put (some []) (numCell (-129))) (numCell ((⟨#[120]⟩ : ByteArray).size : Int) ++ (⟨#[120]⟩ : ByteArray).data.toList)) (numCell (flagN true)) = some [145, 128, 1, 120, 1]) := Lib.hid lives_put
  rw [hst.out] at hm5
  have hft : Foot (MF w.heap.size (.slice none 0 0)) w2 (MF w.heap.size v5) w5 := (Foot.mk hk3 hf3).trans ((Foot.mk hk4 hf4).trans ⟨hk5, hf5⟩)
  clear hst hk3 hf3 hk4 hf4 hk5 hf5 hm2 hm3 hm4
  have hFg : ∀ i, MF w.heap.size (.slice none 0 0) i → i = w.heap.size := fun i hi => hi.elim id fun h => by cases h
  have hb5 : Below w.heap.size w w5 := hb2'.trans (hft.below hbs2 fun i hi => by rw [hFg i hi]; exact Nat.le_refl _)
  have ht5 := TK.kept ht hft.keep (fun hi => by have := hFg _ hi; omega) fun ad had hi => by
    have h1 := hFg _ hi
    have h2 := hA ad had
    simp at h2
    omega
  have hgl := ht5.blk.lt
  clear ht hft
  go_wp2_with fail
  refine (mdone_any _ _ _ _ w5 hm5).mono ?_
  rintro e w6 ⟨hb6, A6, c6, rfl, hl6, hc6, hr6, hA6⟩
  have ht6 := TK.kept ht5 (Keep.of_below hb6) (by omega) fun ad had => by
    have := ht5.rd.addr_lt had (by decide)
    omega
  have hb6' := hb5.trans (hb6.mono hb5.size)
  have hg6 := hb6'.size
  have hz6 := hb6.size
  clear hm5 hb5 hb6 ht5
  go_wp2_with fail
  refine (tnum_any w6 g A c (some livesL) 0 1000 ht6).mono ?_
  rintro e w7 ⟨A7, c7, rfl, ht7, hk7, hs7⟩
  rw [lives_num] at ht7 ⊢
  go_wp2_with fail
  refine (ttext_any w7 g A7 c7 _ 9 ht7).mono ?_
  rintro e w8 ⟨A8, c8, rfl, ht8, hk8, hs8⟩
  rw [lives_text] at ht8 ⊢
  rw [show strV ([97, 98], some [1]).1 = Value.string ⟨#[97, 98]⟩ from rfl]
  go_wp2_with fail
  refine (tflag_any w8 g A8 c8 _ ht8).mono ?_
  rintro e w9 ⟨A9, c9, rfl, ht9, hk9, hs9⟩
  rw [lives_flag] at ht9 ⊢
  have hk69 : Keep (fun k => k = g) w6 w9 := (hk7.trans hk8 fun _ _ h => h).trans hk9 fun _ _ h => h
  have hr9 := hr6.kept hk69 fun ad had he => by
    have := (hA6 ad had).1
    omega
  have hb9 : Below w.heap.size w w9 := hb6'.trans (hk69.below hg6 fun i hi he => by omega)
  have hz9 := hb9.size
  clear ht6 ht7 ht8 hk7 hk8 hk9 hr6
  go_wp2_with fail
  refine (first_any _ 2 2 [129, 5] _ (RB.made w9 #[.int .u8 129, .int .u8 5] _ [129, 5] (by rfl)) (by omega) (by omega)).mono ?_
  rintro e w10 ⟨rfl, rfl⟩
  rw [lives_first, firstV]
  have hb10 := hb9.alloc hz9 (.cells #[.int .u8 129, .int .u8 5] 5)
  have hr10 : RB _ A6 5 [145, 128, 1, 120, 1] := hr9.alloc (.cells #[.int .u8 129, .int .u8 5] 5)
  have hstr := run_str _ A6 5 c6 [145, 128, 1, 120, 1] hr10
  have ht10 : PT _ g A9 c9 (some []) := TK.kept ht9 ((Keep.refl (fun _ => False) w9).alloc (.cells #[.int .u8 129, .int .u8 5] 5)) (fun h => h) fun _ _ h => h
  go_wp2_with (go_at_call 25; refine (tdone_any _ g A9 c9 _ ht10).mono ?_; rintro e w11 ⟨rfl, rfl⟩; rw [show tdoneN (some []) = 0 from rfl])
  go_ret
  exact ⟨rfl, hb10⟩
end Go.Proofs.Ytebgoaiinjmbiaa
