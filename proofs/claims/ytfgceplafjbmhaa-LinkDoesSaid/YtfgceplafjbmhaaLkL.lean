/- lives of the statements on links. No condition. -/
import Derived.Test.YtfgceplafjbmhaaLkI
import Derived.Lib.SlBytesConst
namespace Go.Proofs.Ytfgceplafjbmhaa
open Go.RowKit
set_option linter.unusedVariables false
set_option linter.unusedSimpArgs false

theorem OB.formL {base N : Nat} {w : World} {v : Value} {l : List UInt8} (h : OB base w v l) (hn : l.length = N) : ∃ A cap, v = .slice A N cap ∧ N ≤ cap ∧ cap ≤ maxLen ∧ RB w A N l ∧ ∀ ad, A = some ad → base ≤ ad.block ∧ ad.block < w.heap.size ∧ v.ownBlock = some ad.block := by
  subst hn
  exact h.form
theorem ES.mono' {base b' : Nat} {w : World} {p : Nat} {sent mark : Int} {v : Value} {l : List Bd} (h : ES base w p sent mark v l) (hb : b' ≤ base) : ES b' w p sent mark v l := ⟨h.pc, h.own.mono hb, h.ne, Nat.le_trans hb h.bp⟩
theorem RB.madeF (w : World) (cs : Array Value) (t : TypeId) (fr : Nat × Nat) (l : List UInt8) (h : cs = (l.map bv).toArray) : RB (w.alloc (.cells cs t fr)) (some ⟨w.heap.size, 0, none⟩) l.length l := by
  subst h
  refine ⟨rfl, fun _ => ⟨_, _, rfl, fun j y hy => ?_⟩⟩
  rw [cell_of_row _ _ _ _ _ _ (heap_alloc_new w _)]
  simp [hy]
theorem BO.neb {base b' : Nat} {w : World} {v : Value} {l : List Bd} (h : BO base w v l) {x : Value} {c : List UInt8} (hx : OB b' w x c) {g : Nat} (hv : v.ownBlock = some g) : x.ownBlock ≠ some g := by
  rcases h.2 with ⟨rfl, _⟩ | ⟨g1, cap, cur, rfl, _, hgg, _⟩
  · simp [Value.ownBlock] at hv
  · have e : g1 = g := by simpa [Value.ownBlock] using hv
    subst e
    rcases hx.2 with ⟨rfl, _⟩ | ⟨g2, cap2, cur2, rfl, _, hg2, _⟩
    · simp [Value.ownBlock]
    · intro he
      have e : g2 = g1 := by simpa [Value.ownBlock] using he
      subst e
      rw [hgg] at hg2
      injection hg2 with h1
      injection h1 with _ h3
      exact absurd h3 (by decide)
/-- Send, with the numbers in plain form. -/
theorem send_to {base : Nat} {p : Nat} {sent mark : Int} {v : Value} {l : List Bd} (s' : Int) (l' : List Bd) (A : Option Addr) (n c : Nat) (text : List UInt8) (now : Int) (w : World) (hs' : sent + 1 = s') (hl' : l ++ [newB s' text now] = l') (h : n ≤ 2048) (hr : RB w A n text) (hal : ∀ ad, A = some ad → 0 < n → v.ownBlock ≠ some ad.block) (hE : ES base w p sent mark v l) (hl64 : l.length < 64) (hs0 : 0 ≤ sent) (hs1 : sent < 9223372036854775807) (hn0 : -9223372036854775808 ≤ now) (hn1 : now ≤ 9223372036854775807) :
    Calls Try.prog 13 #[.pointer (some ⟨p, 0, none⟩), .slice A n c, .int .i64 now] w fun e w' =>
      ∃ v' x, e = .returned (.tuple #[.agg #[.int .i64 s', .int .i64 mark, x], .int .i64 0]) ∧ ES base w' p s' mark v' l' ∧ OB w.heap.size w' x text ∧ Keep (fun k => k = p ∨ v.ownBlock = some k) w w' ∧ (v'.ownBlock = v.ownBlock ∨ ∃ n, v'.ownBlock = some n ∧ w.heap.size ≤ n) := by
  subst hs'
  subst hl'
  exact send_any A n c text now w h hr hal hE hl64 hs0 hs1 hn0 hn1
theorem keep_below {base : Nat} {w w' : World} {p : Nat} {v : Value} {sent mark : Int} {l : List Bd} (k : Keep (fun k => k = p ∨ v.ownBlock = some k) w w') (hE : ES base w p sent mark v l) (hb : base ≤ w.heap.size) : Below base w w' :=
  k.below hb fun i hi e => by
    rcases e with e | e
    · have := hE.bp; omega
    · have := (hE.own.lt i e).1; omega
def lvB1 : List Bd := [⟨1, [120], 1, 2⟩]
def lvB2 : List Bd := [⟨1, [120], 1, 2⟩, ⟨2, [121], 1, 2⟩]
def lvB3 : List Bd := [⟨2, [121], 1, 2⟩]
theorem lv_next : nextN 0 2 16 0 = 2 := by decide
theorem lv_b1 : ([] : List Bd) ++ [newB 1 [120] 0] = lvB1 := by rw [newB, lv_next]; rfl
theorem lv_b2 : lvB1 ++ [newB 2 [121] 0] = lvB2 := by rw [newB, lv_next]; rfl
theorem lv_on : onL 1 lvB2 = lvB3 := rfl
theorem lv_t1 : tickP 0 1 lvB3 = [] := rfl
theorem lv_m1 : lvB3.map (tickB 1) = lvB3 := rfl
theorem lv_t2 : (tickP 0 2 lvB3).length = 1 := rfl
theorem lv_ok : ∀ b ∈ lvB3, okB b := fun b hb => by
  simp [lvB3] at hb
  subst hb
  exact ⟨by simp, by simp, by simp, by simp, by simp⟩
set_option maxRecDepth 100000 in
set_option maxHeartbeats 6400000 in
theorem lives_any (w : World) : Calls Try.prog 12 #[] w fun e w' => e = .returned (.bool true) ∧ Below w.heap.size w w' := by
  have hcv := fun (w : World) (C : Array Value) (n c : Nat) => Lib.run_convert_bytes_const (P := Try.prog) w 30 5 C n c Try.underlying30 Try.underlying5
  go_enter Try.func12, Try.ntmps12
  go_wp2_with fail
  refine (lnew_any _).mono ?_
  rintro e w1 ⟨rfl, ha1, hb1⟩
  go_wp2_with fail
  refine (lnew_any _).mono ?_
  rintro e w2 ⟨rfl, hB2, hx2⟩
  have hb2 := hb1.trans (hx2.mono hb1.size)
  have ha2 := ha1.below hx2
  replace hB2 := hB2.mono' (b' := w.heap.size) hb1.size
  have hab : w.heap.size < w1.heap.size := ha1.pc.lt
  have hq : w1.heap.size < w2.heap.size := hB2.pc.lt
  obtain ⟨q, hqe⟩ : ∃ q, w1.heap.size = q := ⟨_, rfl⟩
  rw [hqe] at hB2 hab hq ⊢
  clear ha1 hb1 hx2 hqe
  have hr1 := RB.madeF w2 #[.int .u8 120] 5 (1, 2) [120] rfl
  have ha3 := ha2.alloc (.cells #[.int .u8 120] 5 (1, 2))
  have hB3 := hB2.alloc (.cells #[.int .u8 120] 5 (1, 2))
  have hb3 := hb2.alloc hb2.size (.cells #[.int .u8 120] 5 (1, 2))
  clear ha2 hB2
  go_wp2_with fail
  refine (send_to 1 lvB1 (some ⟨w2.heap.size, 0, none⟩) 1 1 [120] 0 _ rfl lv_b1 (by omega) hr1 (fun _ _ _ h => by cases h) ha3 (by simp) (by omega) (by omega) (by omega) (by omega)).mono ?_
  rintro e w4 ⟨va, x, rfl, ha4, hox, hk4, hva⟩
  have hx4 := keep_below hk4 ha3 hb3.size
  have hb4 := hb3.trans hx4
  have hB4 := hB3.kept hk4 (fun e => by rcases e with e | e; omega; cases e) (fun g hg => by cases hg)
  have hvq : va.ownBlock ≠ some q := fun e => by rcases hva with h | ⟨n, h, h2⟩; rw [e] at h; cases h; rw [e] at h; cases h; simp at h2; omega
  obtain ⟨Ax, cx, rfl, _, _, hrx, hax⟩ := hox.formL (N := 1) rfl
  have hvl4 := ha4.own.lt
  have hvt : va.ownBlock ≠ some w4.heap.size := fun e => by have := (hvl4 _ e).2; omega
  have hvx : ∀ ad, Ax = some ad → va.ownBlock ≠ some ad.block := fun ad h e => BO.neb ha4.own hox e (hax ad h).2.2
  have hax' : ∀ ad, Ax = some ad → w2.heap.size < ad.block ∧ ad.block < w4.heap.size := fun ad h => by have h1 := (hax ad h).1; have h2 := (hax ad h).2.1; simp at h1; omega
  have hw24 : w2.heap.size + 1 ≤ w4.heap.size := by have := hk4.size; simp at this; omega
  clear ha3 hB3 hb2 hb3 hk4 hx4 hva hox hax hr1
  have hp5 := Blk.new w4 32 #[.int .i64 1, .int .i64 0, .slice Ax 1 cx]
  have ha5 := ha4.alloc (.cells #[.int .i64 1, .int .i64 0, .slice Ax 1 cx] 32)
  have hB5 := hB4.alloc (.cells #[.int .i64 1, .int .i64 0, .slice Ax 1 cx] 32)
  have hb5 := hb4.alloc hb4.size (.cells #[.int .i64 1, .int .i64 0, .slice Ax 1 cx] 32)
  have hrx5 := hrx.alloc (.cells #[.int .i64 1, .int .i64 0, .slice Ax 1 cx] 32)
  clear ha4 hB4 hb4 hrx
  have hz45 : (w4.alloc (.cells #[.int .i64 1, .int .i64 0, .slice Ax 1 cx] 32)).heap.size = w4.heap.size + 1 := by simp
  have hvl5 := ha5.own.lt
  have hw5 := hb5.size
  have hcv5 := hcv (w4.alloc (.cells #[.int .i64 1, .int .i64 0, .slice Ax 1 cx] 32)) #[.int .u8 121] 1 1
  rw [hz45] at hcv5 hw5
  go_wp2_with fail
  clear hcv5 hcv
  generalize w4.alloc (.cells #[.int .i64 1, .int .i64 0, .slice Ax 1 cx] 32) = w5 at *
  have hr6 := RB.madeF w5 #[.int .u8 121] 5 (1, 2) [121] rfl
  rw [hz45] at hr6
  have ha6 := ha5.alloc (.cells #[.int .u8 121] 5 (1, 2))
  have hB6 := hB5.alloc (.cells #[.int .u8 121] 5 (1, 2))
  have hb6 := hb5.alloc hb5.size (.cells #[.int .u8 121] 5 (1, 2))
  have hp6 := hp5.alloc (.cells #[.int .u8 121] 5 (1, 2))
  have hrx6 := hrx5.alloc (.cells #[.int .u8 121] 5 (1, 2))
  clear ha5 hB5 hb5 hp5 hrx5
  have hz6 : w5.heap.size < (w5.alloc (.cells #[.int .u8 121] 5 (1, 2))).heap.size := by simp
  have hz6' : (w5.alloc (.cells #[.int .u8 121] 5 (1, 2))).heap.size = w4.heap.size + 1 + 1 := by simp [hz45]
  go_wp2_with fail
  refine (send_to 2 lvB2 (some ⟨w4.heap.size + 1, 0, none⟩) 1 1 [121] 0 _ rfl lv_b2 (by omega) hr6 (fun ad h _ e => by cases h; have := (hvl5 _ e).2; simp at this; omega) ha6 (by simp [lvB1]) (by omega) (by omega) (by omega) (by omega)).mono ?_
  rintro e w7 ⟨va2, y, rfl, ha7, hoy, hk7, hva2⟩
  have hx7 := keep_below hk7 ha6 hb6.size
  have hb7 := hb6.trans hx7
  have hB7 := hB6.kept hk7 (fun e => by rcases e with e | e; omega; exact hvq e) (fun g hg => by cases hg)
  have hvq2 : va2.ownBlock ≠ some q := fun e => by
    rcases hva2 with h | ⟨n, h, h2⟩
    · rw [e] at h; exact hvq h.symm
    · rw [e] at h; cases h; have h3 := hB6.pc.lt; omega
  have hp7 := hp6.kept hk7 (fun e => by
    rcases e with e | e
    · omega
    · exact hvt e)
  have hrx7 := hrx6.kept_ne hk7 (fun ad h1 h2 e => by
    have h3 := hax' ad h1
    rcases e with e | e
    · omega
    · exact hvx ad h1 e)
  obtain ⟨Ay, cy, rfl, _, _, hry, hay⟩ := hoy.formL (N := 1) rfl
  have hay' : ∀ ad, Ay = some ad → w4.heap.size + 2 ≤ ad.block ∧ ad.block < w7.heap.size := fun ad h => by have h1 := (hay ad h).1; have h2 := (hay ad h).2.1; omega
  have hz7 := hk7.size
  have hw7 : w4.heap.size + 2 ≤ w7.heap.size := by omega
  clear ha6 hB6 hb6 hp6 hrx6 hr6 hk7 hx7 hva2 hoy hay hz6 hz6' hvl5 hvx
  -- the packet of y
  have hp8 := hp7.alloc (.cells #[.int .i64 2, .int .i64 0, .slice Ay 1 cy] 32)
  have ha8 := ha7.alloc (.cells #[.int .i64 2, .int .i64 0, .slice Ay 1 cy] 32)
  have hB8 := hB7.alloc (.cells #[.int .i64 2, .int .i64 0, .slice Ay 1 cy] 32)
  have hb8 := hb7.alloc hb7.size (.cells #[.int .i64 2, .int .i64 0, .slice Ay 1 cy] 32)
  have hrx8 := hrx7.alloc (.cells #[.int .i64 2, .int .i64 0, .slice Ay 1 cy] 32)
  have hry8 := hry.alloc (.cells #[.int .i64 2, .int .i64 0, .slice Ay 1 cy] 32)
  have hz8 : (w7.alloc (.cells #[.int .i64 2, .int .i64 0, .slice Ay 1 cy] 32)).heap.size = w7.heap.size + 1 := by simp
  clear hp7 ha7 hB7 hb7 hrx7 hry
  go_wp2_with fail
  refine (on_other 2 0 Ay 1 cy [121] _ hry8 (fun _ _ _ h => by cases h) hB8 rfl (by omega) (by omega) (by omega) (by omega)).mono ?_
  rintro e w9 ⟨vb, _, rfl, rfl, hB9, hvb, hk9⟩
  have hk9 : Keep (fun k => k = q) _ w9 := hk9.mono (fun k _ e => by rcases e with e | e; exact e; cases e)
  have hx9 : Below w.heap.size _ w9 := hk9.below hb8.size (fun i hi e => by omega)
  have hb9 := hb8.trans hx9
  have ha9 := ha8.kept hk9 (by omega) (fun g hg e => hvq2 (by rw [hg, e]))
  have hp9 := hp8.kept hk9 (by omega)
  have hrx9 := hrx8.kept_ne hk9 (fun ad h1 h2 e => by have := hax' ad h1; omega)
  have hz9 := hk9.size
  rw [hz8] at hz9
  have hvb9 : vb.ownBlock = none := hvb
  clear hp8 ha8 hB8 hb8 hrx8 hry8 hk9 hx9 hz8 hvb
  have hp10 := hp9.alloc (.cells #[.int .i64 0, .int .i64 0, .slice none 0 0] 32)
  have ha10 := ha9.alloc (.cells #[.int .i64 0, .int .i64 0, .slice none 0 0] 32)
  have hB10 := hB9.alloc (.cells #[.int .i64 0, .int .i64 0, .slice none 0 0] 32)
  have hb10 := hb9.alloc hb9.size (.cells #[.int .i64 0, .int .i64 0, .slice none 0 0] 32)
  have hrx10 := hrx9.alloc (.cells #[.int .i64 0, .int .i64 0, .slice none 0 0] 32)
  have hz10 : (w9.alloc (.cells #[.int .i64 0, .int .i64 0, .slice none 0 0] 32)).heap.size = w9.heap.size + 1 := by simp
  have hp9' : w4.heap.size < w9.heap.size := by omega
  obtain ⟨d0, d1, d2⟩ := (⟨hp10.cell 0, hp10.cell 1, hp10.cell 2⟩ : _ ∧ _ ∧ _)
  obtain ⟨i0, i1, i2⟩ := (⟨hp9.cell 0, hp9.cell 1, hp9.cell 2⟩ : _ ∧ _ ∧ _)
  simp at d0 d1 d2 i0 i1 i2
  clear hp9 ha9 hB9 hb9 hrx9
  go_wp2_with fail
  refine (on_next 1 0 Ax 1 cx [120] _ hrx10 (fun ad h1 _ h => by rw [hvb9] at h; cases h) hB10 rfl (by omega) (by omega) (by omega)).mono ?_
  rintro e w11 ⟨vb2, _, rfl, ⟨d, rfl, hod⟩, hB11, hvb2, hk11⟩
  have hk11' : Keep (fun k => k = q) _ w11 := hk11.mono (fun k _ e => by rcases e with e | e; exact e; rw [hvb9] at e; cases e)
  have hx11 : Below w.heap.size _ w11 := hk11'.below hb10.size (fun i hi e => by omega)
  have hb11 := hb10.trans hx11
  have ha11 := ha10.kept hk11' (by omega) (fun g hg e => hvq2 (by rw [hg, e]))
  have hz11 := hk11'.size
  rw [hz10] at hz11
  have hvb11 : vb2.ownBlock = none := hvb2.trans hvb9
  obtain ⟨Ad, cd, rfl, _, _, hrd, had⟩ := hod.formL (N := 1) rfl
  have hvd0 : ∀ ad, Ad = some ad → va2.ownBlock ≠ some ad.block := fun ad h e => BO.neb ha11.own hod e (had ad h).2.2
  have had' : ∀ ad, Ad = some ad → w9.heap.size < ad.block := fun ad h => by have h1 := (had ad h).1; omega
  clear hp10 ha10 hB10 hb10 hrx10 hk11 hk11' hx11 hz10 hvb2 hod had d0 d1 d2 i0 i1 i2
  -- the ack
  have ha12 := ha11.alloc (.cells #[.int .i64 0, .int .i64 1, .slice none 0 0] 32)
  have hB12 := hB11.alloc (.cells #[.int .i64 0, .int .i64 1, .slice none 0 0] 32)
  have hb12 := hb11.alloc hb11.size (.cells #[.int .i64 0, .int .i64 1, .slice none 0 0] 32)
  have hrd12 := hrd.alloc (.cells #[.int .i64 0, .int .i64 1, .slice none 0 0] 32)
  have hz12 : (w11.alloc (.cells #[.int .i64 0, .int .i64 1, .slice none 0 0] 32)).heap.size = w11.heap.size + 1 := by simp
  have hva12 := ha12.own.lt
  have hvd := hvd0
  clear hvd0
  clear ha11 hB11 hb11 hrd
  go_wp2_with fail
  refine (on_zero 0 1 none 0 0 [] _ (RB.nil _ _) (fun _ h => by cases h) ha12 rfl (by omega) (by omega) rfl).mono ?_
  rintro e w13 ⟨va3, _, rfl, rfl, ha13, hva3, hk13⟩
  rw [lv_on] at ha13
  have hx13 := keep_below hk13 ha12 hb12.size
  have hb13 := hb12.trans hx13
  have hB13 := hB12.kept hk13 (fun e => by rcases e with e | e; omega; exact hvq2 e) (fun g hg => by rw [hvb11] at hg; cases hg)
  have hrd13 := hrd12.kept_ne hk13 (fun ad h1 h2 e => by
    have h3 := had' ad h1
    rcases e with e | e
    · omega
    · exact hvd ad h1 e)
  have hvq3 : va3.ownBlock ≠ some q := fun e => hvq2 (by rw [← hva3]; exact e)
  have hcd := run_str w13 Ad 1 cd [120] hrd13
  clear ha12 hB12 hb12 hrd12 hk13 hx13
  go_wp2_with fail
  refine (open_any ha13).mono ?_
  rintro e w' ⟨rfl, rfl⟩
  go_wp2_with fail
  refine (mark_any hB13).mono ?_
  rintro e w' ⟨rfl, rfl⟩
  go_wp2_with fail
  refine (tick_any 1 _ ha13 lv_ok (by simp [lvB3]) (by omega) (by omega)).mono ?_
  rintro e w14 ⟨lv, rfl, hpk, ha14, hk14⟩
  rw [lv_t1] at hpk
  rw [lv_m1] at ha14
  have hx14 : Below w.heap.size _ w14 := hk14.below hb13.size (fun i hi e => by have := (ha13.own.lt i e).1; omega)
  have hb14 := hb13.trans hx14
  obtain ⟨Al, cl, rfl, _⟩ := hpk.form
  clear hpk ha13 hB13 hk14 hx14 hb13 hcd hrd13
  go_wp2_with fail
  refine (tick_any 2 _ ha14 lv_ok (by simp [lvB3]) (by omega) (by omega)).mono ?_
  rintro e w15 ⟨lv, rfl, hpk, ha15, hk15⟩
  have hx15 : Below w.heap.size _ w15 := hk15.below hb14.size (fun i hi e => by have := (ha14.own.lt i e).1; omega)
  have hb15 := hb14.trans hx15
  obtain ⟨Al, cl, rfl, _⟩ := hpk.form
  rw [lv_t2]
  clear hpk ha14 ha15 hk15 hx15 hb14
  go_wp2
  go_ret
  exact ⟨rfl, hb15⟩
end Go.Proofs.Ytfgceplafjbmhaa
