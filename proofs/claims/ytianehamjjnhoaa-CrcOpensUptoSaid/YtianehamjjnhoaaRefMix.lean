/- The document's Mix is the program's. No condition. -/
import Derived.Test.YtianehamjjnhoaaMix
namespace Go.Proofs.Ytianehamjjnhoaa
open Go.RowKit
set_option linter.unusedVariables false
set_option linter.unusedSimpArgs false

/-- The bytes that the document's Mix goes over: so many zeros, and how many bytes there are. -/
def padded (l : List UInt8) (z : Nat) : List UInt8 := l ++ List.replicate z 0 ++ [UInt8.ofNat l.length]
theorem padded_len (l : List UInt8) (z : Nat) : (padded l z).length = l.length + z + 1 := by simp [padded]; omega
theorem lval_zeros (z : Nat) : lval (List.replicate z 0) = 0 := by
  induction z with
  | zero => rfl
  | succ z ih => rw [List.replicate_succ, lval, ih]; rfl
theorem padded_piece (l : List UInt8) (z k : Nat) (h : 8 * k + 8 ≤ l.length) : ((padded l z).drop (8 * k)).take 8 = (l.drop (8 * k)).take 8 := by
  unfold padded
  rw [List.append_assoc, List.drop_append_of_le_length (by omega), List.take_append_of_le_length (by rw [List.length_drop]; omega)]
theorem padded_st (v : V4) (l : List UInt8) (z : Nat) : ∀ k, 8 * k ≤ l.length → v.st (padded l z) k = v.st l k
  | 0, _ => rfl
  | k + 1, h => by
    unfold V4.st
    rw [padded_st v l z k (by omega), padded_piece l z k (by omega)]
theorem padded_last (l : List UInt8) (z : Nat) (h : (l.length + z) % 8 = 7) (hz : z ≤ 7) : lval (((padded l z).drop (8 * (l.length / 8))).take 8) = lastw l := by
  have hlen : ((padded l z).drop (8 * (l.length / 8))).length ≤ 8 := by rw [List.length_drop, padded_len]; omega
  rw [List.take_of_length_le hlen]
  unfold padded
  rw [List.append_assoc, List.drop_append_of_le_length (by omega), lval_append, lval_append, lval_zeros, List.length_drop, List.length_replicate]
  have h7 : 256 ^ (l.length - 8 * (l.length / 8)) * 256 ^ z = 72057594037927936 := by
    rw [← Nat.pow_add, show l.length - 8 * (l.length / 8) + z = 7 by omega]
  rw [Nat.zero_add, ← Nat.mul_assoc, h7]
  unfold lastw
  simp only [lval, UInt8.toNat_ofNat']
  omega
theorem padded_all (v : V4) (l : List UInt8) (z : Nat) (h : (l.length + z) % 8 = 7) (hz : z ≤ 7) : v.st (padded l z) (l.length / 8 + 1) = (v.st l (l.length / 8)).tk (lastw l) := by
  rw [V4.st, padded_st v l z _ (by omega), padded_last l z h hz]
theorem lval_step (l : List UInt8) (r : Nat) (x : UInt8) (hx : l[r]? = some x) : lval (l.drop r) = lval (l.drop (r + 1)) * 256 + x.toNat := by
  obtain ⟨hr, he⟩ := List.getElem?_eq_some_iff.1 hx
  rw [List.drop_eq_getElem_cons hr, lval, he]
  omega
theorem cells_lit (u : V4) : u.cells = #[.int .u64 (u.a : Int), .int .u64 (u.b : Int), .int .u64 (u.c : Int), .int .u64 (u.d : Int)] := rfl
theorem tk_def (v : V4) (m : Nat) : v.tk m = ⟨(V4.mk v.a v.b v.c (v.d ^^^ m)).rnd.rnd.a ^^^ m, (V4.mk v.a v.b v.c (v.d ^^^ m)).rnd.rnd.b, (V4.mk v.a v.b v.c (v.d ^^^ m)).rnd.rnd.c, (V4.mk v.a v.b v.c (v.d ^^^ m)).rnd.rnd.d⟩ := rfl
theorem out_def (v : V4) : v.out = v.fin4.a ^^^ v.fin4.b ^^^ v.fin4.c ^^^ v.fin4.d := rfl

theorem OB.formN {base N : Nat} {w : World} {v : Value} {l : List UInt8} (h : OB base w v l) (hn : l.length = N) : ∃ A cap, v = .slice A N cap ∧ N ≤ cap ∧ cap ≤ maxLen ∧ RB w A N l ∧ ∀ ad, A = some ad → base ≤ ad.block ∧ ad.block < w.heap.size ∧ v.ownBlock = some ad.block := by
  subst hn
  exact h.form
theorem WB.alloc_ {w : World} {g : Nat} {v : V4} {t : TypeId} (h : WB t w g v) (o : Obj) : WB t (w.alloc o) g v := ⟨h.ok, h.blk.alloc o⟩
theorem WB.store {w : World} {g : Nat} {u v : V4} {t : TypeId} (h : WB t w g u) (hv : v.Ok) : WB t ((((w.setCell ⟨g, 0, none⟩ (.int .u64 (v.a : Int))).setCell ⟨g, 1, none⟩ (.int .u64 (v.b : Int))).setCell ⟨g, 2, none⟩ (.int .u64 (v.c : Int))).setCell ⟨g, 3, none⟩ (.int .u64 (v.d : Int))) g v :=
  ⟨hv, blk_fill h.blk _ _ _ _⟩

set_option maxRecDepth 100000 in
set_option maxHeartbeats 3200000 in
theorem refMix_any (sl : Nat) (A : Option Addr) (n c : Nat) (l : List UInt8) (w : World) (hs : W64 sl) (hr : RB w A n l) (hn : n ≤ 140737488351232) :
    Calls Try.prog 25 #[.int .u64 (sl : Int), .slice A n c] w fun e w' => e = .returned (.int .u64 (mixOf sl l : Int)) ∧ Keep (fun _ => False) w w' := by
  have hx0 : bits .xor .u64 (sl : Int) 8317987319222330741 = ((sl ^^^ 8317987319222330741 : Nat) : Int) := xor64 hs (w64_lit (n := 8317987319222330741) (by decide))
  have hx1 : bits .xor .u64 (sl : Int) 7816392313619706465 = ((sl ^^^ 7816392313619706465 : Nat) : Int) := xor64 hs (w64_lit (n := 7816392313619706465) (by decide))
  have hx2 : bits .xor .u64 7021802355507858702 7237128888997146477 = 368457802846855779 := by kernel_rfl
  have hx3 : bits .xor .u64 7021802355507858702 8387220255154660723 = 1519701440043968637 := by kernel_rfl
  have HL := Lib.hid hr.1
  have hb0 : WB 71 (w.alloc (.cells (mixInit sl).cells 71)) w.heap.size (mixInit sl) := ⟨mixInit_ok hs, Blk.new _ _ _⟩
  have hk0 : Keep (fun _ => False) w (w.alloc (.cells (mixInit sl).cells 71)) := (Keep.refl _ _).alloc _
  have hz0 : w.heap.size + 1 ≤ (w.alloc (.cells (mixInit sl).cells 71)).heap.size := by simp
  have hE : OB (w.heap.size + 1) ((w.alloc (.cells (mixInit sl).cells 71)).alloc (.cells #[] 5)) (.slice (some ⟨w.heap.size + 1, 0, none⟩) 0 0) [] := by
    simpa using OB.built (w.heap.size + 1) (w.alloc (.cells (mixInit sl).cells 71)) [] hz0 (by simp [maxLen])
  have hb1 := hb0.alloc_ (.cells #[] 5)
  have hk1 := hk0.alloc (.cells #[] 5)
  have hz1 : w.heap.size + 1 ≤ ((w.alloc (.cells (mixInit sl).cells 71)).alloc (.cells #[] 5)).heap.size := by simp
  have hrb := hr.kept hk1 fun _ _ => id
  clear hb0 hk0 hz0
  go_enter Try.func25, Try.ntmps25
  go_wp2_with (at_builtin; refine wpApp rfl (.tmp 20) (.tmp 21) rfl (w.heap.size + 1) (.slice (some ⟨w.heap.size + 1, 0, none⟩) 0 0) [] rfl hE A n c l rfl hrb (by simp; omega) hz1 ?_; intro u2 w2 hg2)
  --START
  clear hx0 hx1 hx2 hx3 hE hrb
  have hk2 : Keep (fun _ => False) w w2 := hk1.trans hg2.keep (fun i hi h => by simp [Value.ownBlock] at h; omega)
  have hb2 := hb1.kept hg2.keep (by simp [Value.ownBlock])
  have ho2 := hg2.own
  have hs2 := Nat.le_trans hz1 hg2.keep.size
  clear hg2 hk1 hb1 hz1
  rw [List.nil_append] at ho2
  generalize hv : mixInit sl = v at hb2
  have HV := Lib.hid hv
  clear hv
  go_loopw [7] (fun u wr => ∃ z cc : Nat, ∃ A', z ≤ 7 ∧ u = .slice A' (n + z) cc ∧ OB (w.heap.size + 1) wr (.slice A' (n + z) cc) (l ++ List.replicate z 0) ∧ (n % 8 + z) ≤ 14 ∧ (n % 8 = 7 → z = 0) ∧ (n % 8 + z ≤ 7 ∨ n % 8 = 7) ∧ Keep (fun _ => False) w wr ∧ w.heap.size + 1 ≤ wr.heap.size ∧ WB 71 wr w.heap.size v)
    (fun u _ => match u with | .slice _ m _ => n + 8 - m | _ => 0)
  case atStart =>
    obtain ⟨A', cc, rfl, _, _, _, _⟩ := ho2.form
    rw [HL.out] at ho2 ⊢
    exact ⟨0, cc, A', by omega, rfl, by simpa using ho2, by omega, fun _ => rfl, by omega, hk2, hs2, hb2⟩
  case round =>
    obtain ⟨z, cc, A', hz, rfl, ho, hq1, hq2, hq3, hK, hS, hB⟩ := hrel
    by_cases h7 : (n + z) % 8 = 7
    · have ht : ((((n + z : Nat) : Int) % 8) == 7) = true := by simp; omega
      have ht2 : ((((n + z : Nat) : Int) % 8) != 7) = false := by simp; omega
      have hlen : (l ++ List.replicate z 0).length ≤ 140737488351232 + 7 := by have := HL.out; simp; omega
      have HN : Hid (((l ++ List.replicate z 0) ++ [UInt8.ofNat n]).length = n + z + 1) := Lib.hid (by have := HL.out; simp; omega)
      have HBY : Hid ((n : Int) % 256 = (((UInt8.ofNat n).toNat : Nat) : Int)) := Lib.hid (by simp)
      go_wp2_with (at_builtin; refine wpApp rfl (.tmp 30) (.tmp 34) rfl (w.heap.size + 1) (.slice A' (n + z) cc) (l ++ List.replicate z 0) rfl (ho.alloc _) _ 1 1 [UInt8.ofNat n] rfl (RB.one_ _ _ _ HBY.out _) (by omega) (by simp; omega) ?_; intro u4 w4 hg4; obtain ⟨A4, cc4, rfl, hl4, hm4, hr4, had4⟩ := hg4.own.formN HN.out)
      --SECOND
      have hK4 : Keep (fun _ => False) w w4 := (hK.alloc _).trans hg4.keep (fun i hi h => by have := (ho.lt i h).1; omega)
      have hB4 : WB 71 w4 w.heap.size v := (hB.alloc_ _).kept hg4.keep (fun h => by have := (ho.lt _ h).1; omega)
      have hpad : (l ++ List.replicate z 0) ++ [UInt8.ofNat n] = padded l z := by unfold padded; rw [HL.out]
      have hall : v.st (padded l z) ((n + z + 1) / 8) = (v.st l (l.length / 8)).tk (lastw l) := by
        rw [← padded_all v l z (by rw [HL.out]; exact h7) (by omega)]
        congr 1
        have := HL.out
        omega
      have hfar4 : ∀ ad, A4 = some ad → ¬ ad.block = w.heap.size := fun ad h => by have := (had4 ad h).1; omega
      rw [hpad] at hr4
      have HP := Lib.hid hall
      clear hall hpad had4 hg4 ht ht2 HBY HN hlen ho hB hK hS
      generalize hpp : padded l z = p at hr4 HP
      clear hpp
      obtain ⟨N, hN⟩ : ∃ N, N = n + z + 1 := ⟨_, rfl⟩
      rw [← hN] at hr4 hl4 HP ⊢
      have hN8 : N % 8 = 0 := by omega
      have hNm : N ≤ 140737488355328 := by omega
      clear hN
      --LOOP2
      go_loopw [8] (fun at_ wr2 => ∃ j a : Nat, a ≤ N ∧ Hid (a = 8 * j) ∧ at_ = .int .i64 (a : Int) ∧ Keep (fun _ => False) w wr2 ∧ Keep (fun k => k = w.heap.size) w4 wr2 ∧ WB 71 wr2 w.heap.size (v.st p j))
        (fun at_ _ => N - (intOf at_).toNat)
      case atStart => exact ⟨0, 0, by omega, Lib.hid rfl, rfl, hK4, Keep.refl _ _, hB4⟩
      case round =>
        obtain ⟨j, a, ha, HA, rfl, hK2, hK42, hB2⟩ := hrel
        obtain ⟨wo, hwo⟩ : ∃ wo : World, wo = wr := ⟨_, rfl⟩
        subst hwo
        by_cases hlt : a < N
        · have ha8 : a + 8 ≤ N := by have := HA.out; omega
          obtain ⟨b, off, rfl, _, hcell⟩ := hr4.place (by omega)
          have hfar : ¬ b = w.heap.size := hfar4 _ rfl
          go_wp2_with fail
          --INNER
          go_loop [9, 10] (fun m i => ∃ r : Nat, r ≤ 8 ∧ i = .int .i64 ((r : Int) - 1) ∧ ∃ V : Nat, V < 256 ^ (8 - r) ∧ Hid (V = lval (((p.drop a).take 8).drop r)) ∧ m = .int .u64 (V : Int)) (fun _ i => (intOf i + 1).toNat)
          case atStart => exact ⟨8, by omega, rfl, 0, by simp, Lib.hid (by rw [List.drop_eq_nil_of_le (by rw [List.length_take]; omega)]; rfl), rfl⟩
          case round =>
            obtain ⟨r, hr8, rfl, V, hV, HVV, rfl⟩ := hrel
            by_cases h0 : 0 < r
            · obtain ⟨q, rfl⟩ : ∃ q, r = q + 1 := ⟨r - 1, by omega⟩
              rw [show (((q + 1 : Nat) : Int) - 1) = (q : Int) by omega]
              obtain ⟨x, hx, hcx⟩ := hcell (a + q) (by omega)
              have hc2 := hK42.cell hcx hfar
              have hti : ((a : Int) + (q : Int)).toNat = a + q := by omega
              have hV7 : V < 256 ^ 7 := Nat.lt_of_lt_of_le hV (Nat.pow_le_pow_right (by decide) (by omega))
              have hxl := x.toNat_lt
              have hor := hor_byte V x hV7
              have HX : Hid (((p.drop a).take 8)[q]? = some x) := Lib.hid (by rw [List.getElem?_take, if_pos (by omega), List.getElem?_drop]; exact hx.out)
              have HV2 : Hid (V * 256 + x.toNat < 256 ^ (8 - q)) := Lib.hid (by
                rw [show 8 - q = 8 - (q + 1) + 1 by omega, Nat.pow_succ]
                omega)
              clear hcell hcx hx
              --BYTE
              go_wp2
              go_round
              case rel => exact ⟨q, by omega, by first | rfl | go_num, V * 256 + x.toNat, HV2.out, Lib.hid (by rw [lval_step _ _ _ HX.out, HVV.out]), by first | rw [hor] | go_num⟩
              case measure => simp [intOf] <;> omega
            · obtain rfl : r = 0 := by omega
              have hm : W64 V := Nat.lt_of_lt_of_le hV (by decide)
              have HS : Hid (v.st p (j + 1) = (v.st p j).tk V) := Lib.hid (by rw [V4.st, HVV.out, List.drop_zero, HA.out])
              clear hcell hV HVV
              generalize v.st p j = u at hB2 HS
              obtain ⟨c0, c1, c2, c3⟩ := hB2.cells
              obtain ⟨f0, f1, f2, f3⟩ := hB2.free
              have hval := xor64 hB2.ok.d hm
              have hb1 := hB2.set_d (hB2.ok.d.xor hm)
              have hk1 := (Keep.refl (fun k => k = w.heap.size) wo).put 3 (.int .u64 ((u.d ^^^ V : Nat) : Int))
              go_wp2_with fail
              --CALL1
              refine (refRound_any ⟨u.a, u.b, u.c, u.d ^^^ V⟩ _ hb1.ok).mono ?_
              rintro e w5 ⟨rfl, hk5⟩
              have hb5 := hb1.kept hk5 id
              have hk15 := hk1.trans hk5 (fun _ _ h => h.elim)
              clear hval c0 c1 c2 c3 f0 f1 f2 f3 hb1 hk1 hk5
              have hok2 := hb5.ok.rnd
              generalize hu2 : (V4.mk u.a u.b u.c (u.d ^^^ V)).rnd = u2 at hok2 ⊢
              have HU2 := Lib.hid hu2
              clear hu2
              go_wp2_with fail
              --CALL2
              refine (refRound_any u2 _ hok2).mono ?_
              rintro e w6 ⟨rfl, hk6⟩
              have hb6 := hb5.kept hk6 id
              have hk16 := hk15.trans hk6 (fun _ _ h => h.elim)
              have hok3 := hok2.rnd
              clear hb5 hk15 hk6 hok2
              generalize hu3 : u2.rnd = u3 at hok3 ⊢
              have HU3 := Lib.hid hu3
              clear hu3
              have hcl := cells_lit u3
              obtain ⟨c0, c1, c2, c3⟩ := hb6.cells
              obtain ⟨f0, f1, f2, f3⟩ := hb6.free
              have hval := xor64 hok3.a hm
              have hb7 := (hb6.store hok3).set_a (hok3.a.xor hm)
              have hk17 := ((((hk16.put 0 (.int .u64 (u3.a : Int))).put 1 (.int .u64 (u3.b : Int))).put 2 (.int .u64 (u3.c : Int))).put 3 (.int .u64 (u3.d : Int))).put 0 (.int .u64 ((u3.a ^^^ V : Nat) : Int))
              --STORE
              go_wp2_with fail
              go_roundw
              case rel => exact ⟨j + 1, a + 8, by omega, Lib.hid (by have := HA.out; omega), by go_num, hK2.trans hk17 (fun i hi h => by omega), hK42.trans hk17 (fun _ _ h => h), by rw [HS.out, tk_def, HU2.out, HU3.out]; exact hb7⟩
              case measure => simp [intOf]; omega
        · --LAST
          obtain rfl : a = N := by omega
          have hj : j = a / 8 := by have := HA.out; omega
          subst hj
          generalize v.st p (a / 8) = u at hB2 HP
          have HO : Hid (mixOf sl l = u.out) := Lib.hid (by unfold mixOf; rw [HV.out, ← HP.out])
          obtain ⟨c0, c1, c2, c3⟩ := hB2.cells
          obtain ⟨f0, f1, f2, f3⟩ := hB2.free
          have hval : bits .xor .u64 (u.c : Int) 255 = ((u.c ^^^ 255 : Nat) : Int) := xor64 hB2.ok.c w64_255
          have hb1 := hB2.set_c (hB2.ok.c.xor w64_255)
          have hk1 := (Keep.refl (fun k => k = w.heap.size) wo).put 2 (.int .u64 ((u.c ^^^ 255 : Nat) : Int))
          go_wp2_with fail
          refine (refRound_any ⟨u.a, u.b, u.c ^^^ 255, u.d⟩ _ hb1.ok).mono ?_
          rintro e w5 ⟨rfl, hk5⟩
          have hb5 := hb1.kept hk5 id
          have hk15 := hk1.trans hk5 (fun _ _ h => h.elim)
          clear hval c0 c1 c2 c3 f0 f1 f2 f3 hb1 hk1 hk5
          have hok2 := hb5.ok.rnd
          generalize hu2 : (V4.mk u.a u.b (u.c ^^^ 255) u.d).rnd = u2 at hok2 ⊢
          have HU2 := Lib.hid hu2
          clear hu2
          go_wp2_with fail
          refine (refRound_any u2 _ hok2).mono ?_
          rintro e w6 ⟨rfl, hk6⟩
          have hb6 := hb5.kept hk6 id
          have hk16 := hk15.trans hk6 (fun _ _ h => h.elim)
          have hok3 := hok2.rnd
          clear hb5 hk15 hk6 hok2
          generalize hu3 : u2.rnd = u3 at hok3 ⊢
          have HU3 := Lib.hid hu3
          clear hu3
          go_wp2_with fail
          refine (refRound_any u3 _ hok3).mono ?_
          rintro e w7 ⟨rfl, hk7⟩
          have hb7 := hb6.kept hk7 id
          have hk17 := hk16.trans hk7 (fun _ _ h => h.elim)
          have hok4 := hok3.rnd
          clear hb6 hk16 hk7 hok3
          generalize hu4 : u3.rnd = u4 at hok4 ⊢
          have HU4 := Lib.hid hu4
          clear hu4
          go_wp2_with fail
          refine (refRound_any u4 _ hok4).mono ?_
          rintro e w8 ⟨rfl, hk8⟩
          have hb8 := hb7.kept hk8 id
          have hk18 := hk17.trans hk8 (fun _ _ h => h.elim)
          have hok5 := hok4.rnd
          clear hb7 hk17 hk8 hok4
          generalize hu5 : u4.rnd = u5 at hok5 ⊢
          have HU5 := Lib.hid hu5
          clear hu5
          have hcl := cells_lit u5
          obtain ⟨c0, c1, c2, c3⟩ := hb8.cells
          obtain ⟨f0, f1, f2, f3⟩ := hb8.free
          have x1 := xor64 hok5.a hok5.b
          have x2 := xor64 (hok5.a.xor hok5.b) hok5.c
          have x3 := xor64 ((hok5.a.xor hok5.b).xor hok5.c) hok5.d
          have hk19 := (((hk18.put 0 (.int .u64 (u5.a : Int))).put 1 (.int .u64 (u5.b : Int))).put 2 (.int .u64 (u5.c : Int))).put 3 (.int .u64 (u5.d : Int))
          have HR : Hid (mixOf sl l = u5.a ^^^ u5.b ^^^ u5.c ^^^ u5.d) := Lib.hid (by
            rw [HO.out, out_def, V4.fin4, HU2.out, HU3.out, HU4.out, HU5.out])
          --FIN
          go_wp2_with fail
          go_ret
          exact ⟨by rw [HR.out]; rfl, hK2.trans hk19 (fun i hi h => by omega)⟩
    · have ht : ((((n + z : Nat) : Int) % 8) == 7) = false := by simp; omega
      have ht2 : ((((n + z : Nat) : Int) % 8) != 7) = true := by simp; omega
      have hlen : (l ++ List.replicate z 0).length ≤ 140737488351232 + 7 := by have := HL.out; simp; omega
      have HN : Hid (((l ++ List.replicate z 0) ++ [(0 : UInt8)]).length = n + (z + 1)) := Lib.hid (by have := HL.out; simp; omega)
      --MORE
      go_wp2_with (at_builtin; refine wpApp rfl (.tmp 27) (.tmp 28) rfl (w.heap.size + 1) (.slice A' (n + z) cc) (l ++ List.replicate z 0) rfl (ho.alloc _) _ 1 1 [0] rfl (RB.one_ _ 0 0 rfl _) (by omega) (by simp; omega) ?_; intro u3 w3 hg3; obtain ⟨A3, cc3, rfl, _, _, _, _⟩ := hg3.own.formN HN.out)
      have hK3 : Keep (fun _ => False) w w3 := (hK.alloc _).trans hg3.keep (fun i hi h => by have := (ho.lt i h).1; omega)
      have hB3 : WB 71 w3 w.heap.size v := (hB.alloc_ _).kept hg3.keep (fun h => by have := (ho.lt _ h).1; omega)
      have ho3 := hg3.own
      have hS3 := Nat.le_trans (show w.heap.size + 1 ≤ _ by simp; omega) hg3.keep.size
      rw [List.append_assoc, ← List.replicate_succ'] at ho3
      clear hg3
      go_roundw
      case rel => exact ⟨z + 1, cc3, A3, by omega, rfl, ho3, by omega, by omega, by omega, hK3, hS3, hB3⟩
      case measure => simp; omega
end Go.Proofs.Ytianehamjjnhoaa
