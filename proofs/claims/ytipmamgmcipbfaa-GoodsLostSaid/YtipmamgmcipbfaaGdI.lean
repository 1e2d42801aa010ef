/- All; entrepotlaw18.lives answers true. No condition. -/
import Derived.Test.YtipmamgmcipbfaaGdH
namespace Go.Proofs.Ytipmamgmcipbfaa
open Go.RowKit Go.Maps Go.Shelf Go.Sort
set_option linter.unusedVariables false
set_option linter.unusedSimpArgs false
attribute [local go_sem] Oper.semAt_some

def allK (l : List Sk) : Bool := !((sortU (knownL l)).map (totOf l)).any unkept
theorem gall_any (A : Option Addr) (n c : Nat) (l : List Sk) (w : World) (hv : VL w A n (l.map Sk.v)) (hs : ∀ x ∈ l, SP w x) (hks : ∀ x ∈ l, x.ks.Nodup ∧ x.ks.length ≤ 64 ∧ ∀ g ∈ x.ks, g.length ≤ maxLen) (hn : n ≤ 1000) :
    Calls Try.prog 17 #[.slice A n c] w fun e w' => e = .returned (.bool (allK l)) ∧ RowKit.Below w.heap.size w w' := by
  have key := gtotals_any A n c l w hv hs hks hn
  unfold allK
  generalize (sortU (knownL l)).map (totOf l) = ts at key ⊢
  obtain ⟨tb, htb⟩ : ∃ tb, ts.any unkept = tb := ⟨_, rfl⟩
  have key2 := fun (W : World) (v : Value) (h : TO w.heap.size W v ts) => has_kept h
  rw [htb] at key2 ⊢
  clear htb
  go_enter Try.func17, Try.ntmps17
  go_wp2_with fail
  refine key.mono ?_
  rintro e w1 ⟨v, rfl, hT, hb1⟩
  go_wp2_with fail
  refine (key2 w1 v hT).mono ?_
  rintro e w2 ⟨rfl, hb2⟩
  go_wp2
  go_ret
  exact ⟨rfl, hb1.trans (hb2.mono hb1.size)⟩
theorem func_neS (d : Nat) (fn : Fn) (first cap : Array Value) (W : World) : (Op.equalIn (d + 1) 41 (.func fn first cap) .nilFunc).run Try.prog W = .ok false W := by
  simp [Op.equalIn, run_underlying Try.underlying41]
theorem func_ne_nilS (fn : Fn) (first cap : Array Value) (W : World) : (binOp .neq 41 (.func fn first cap) .nilFunc).run Try.prog W = .ok (.bool true) W := by
  have h := func_neS 9999 fn first cap W
  simp only [binOp]
  simp [Op.equal, Op.maxDepth, h]
theorem func_eq_nilS (fn : Fn) (first cap : Array Value) (W : World) : (binOp .eql 41 (.func fn first cap) .nilFunc).run Try.prog W = .ok (.bool false) W := by
  have h := func_neS 9999 fn first cap W
  simp only [binOp]
  simp [Op.equal, Op.maxDepth, h]
def l5 : List It := [([97], 5)]
def l2 : List It := [([97], 2)]
def f0 : List UInt8 → Row := fun _ => row0
def f1 : List UInt8 → Row := doF f0 [] 1 l5
def k1 : List (List UInt8) := doK f0 [] 1 l5
def f2 : List UInt8 → Row := doF f1 k1 10 l2
def k2 : List (List UInt8) := doK f1 k1 10 l2
theorem l5_len : ∀ x ∈ l5, x.1.length ≤ maxLen := fun x hx => by simp [l5] at hx; subst hx; simp [maxLen]
theorem l2_len : ∀ x ∈ l2, x.1.length ≤ maxLen := fun x hx => by simp [l2] at hx; subst hx; simp [maxLen]
theorem k_one : k1 = [[97]] ∧ k2 = [[97]] := by constructor <;> decide +kernel
theorem e_one : doE f0 [] 1 l5 = 0 := by decide +kernel
theorem e_two : doE f1 k1 10 l2 = 0 := by decide +kernel
def skA (p : Nat) : Sk := ⟨.pointer (some ⟨p, 0, none⟩), f2, k2⟩
def skB (p : Nat) : Sk := ⟨.pointer (some ⟨p, 0, none⟩), f0, []⟩
theorem kn_one (p q : Nat) : knownL [skA p, skB q] = [[97]] := by
  have h1 : sortU k2 = [[97]] := by rw [k_one.2]; unfold sortU; simp
  have h2 : sortU ([] : List (List UInt8)) = [] := by unfold sortU; simp
  show (sortU []).foldl addS ((sortU k2).foldl addS []) = [[97]]
  rw [h1, h2]
  rfl
theorem row_ints (r : Row) (x0 x1 x2 x3 x4 x5 x6 x7 x8 x9 x10 : Int) (h : [r.fr, r.he, r.pi, r.sa, r.re, r.rt, r.cn, r.cm, r.sh, r.sc, r.se] = [x0, x1, x2, x3, x4, x5, x6, x7, x8, x9, x10]) : r = ⟨x0, x1, x2, x3, x4, x5, x6, x7, x8, x9, x10⟩ := by
  obtain ⟨_, _, _, _, _, _, _, _, _, _, _⟩ := r
  simp_all
theorem sum_two : sumR [f2 [97], f0 [97]] = ⟨3, 0, 0, 0, 5, 0, 0, 0, 0, 0, 2⟩ := row_ints _ _ _ _ _ _ _ _ _ _ _ _ (by decide +kernel)
theorem sum_one : sumR [f2 [97]] = ⟨3, 0, 0, 0, 5, 0, 0, 0, 0, 0, 2⟩ := row_ints _ _ _ _ _ _ _ _ _ _ _ _ (by decide +kernel)
theorem tot_one (p q : Nat) : totOf [skA p, skB q] [97] = ⟨[97], ⟨3, 0, 0, 0, 5, 0, 0, 0, 0, 0, 2⟩, 2⟩ := by
  have h1 : (whoL [skA p, skB q] [97]).map (fun x => x.f [97]) = [f2 [97]] := by
    unfold whoL
    have : ([97] : List UInt8) ∈ k2 := by rw [k_one.2]; simp
    simp [skA, skB, this]
  unfold totOf
  rw [h1, sum_one]
  show (⟨[97], ⟨3, 0, 0, 0, 5, 0, 0, 0, 0, 0, 2⟩, wrap64 ((2 : Int) - 0)⟩ : GT) = _
  rw [show wrap64 ((2 : Int) - 0) = 2 by decide +kernel]
theorem all_one (p q : Nat) : allK [skA p, skB q] = true := by
  have h : sortU [([97] : List UInt8)] = [[97]] := by unfold sortU; simp
  unfold allK
  rw [kn_one, h, List.map_cons, List.map_nil, tot_one]
  decide +kernel
set_option maxRecDepth 100000 in
set_option maxHeartbeats 6400000 in
theorem lives_any (w : World) : Calls Try.prog 9 #[] w fun e w' => e = .returned (.bool true) ∧ RowKit.Below w.heap.size w w' := by
  have hnn := func_ne_nilS
  go_enter Try.func9, Try.ntmps9
  go_wp2_with fail
  refine (snew_any _).mono ?_
  rintro e w1 ⟨p, b, rfl, hS, hpw, hbw, hb⟩
  go_wp2_with fail
  refine (snew_any _).mono ?_
  rintro e w2 ⟨q, d, rfl, hT, hqw, hdw, hb2⟩
  have hlt := hS.lt
  have hz2 := hb2.size
  replace hS := hS.below hb2
  replace hb := hb.trans (hb2.mono hb.size)
  have hltT := hT.lt
  clear hb2
  have hS3 := (hS.alloc (.cells #[.pointer (some ⟨p, 0, none⟩), .pointer (some ⟨q, 0, none⟩)] 48))
  have hT3 := (hT.alloc (.cells #[.pointer (some ⟨p, 0, none⟩), .pointer (some ⟨q, 0, none⟩)] 48))
  have hb3 := hb.alloc hb.size (.cells #[.pointer (some ⟨p, 0, none⟩), .pointer (some ⟨q, 0, none⟩)] 48)
  have hB3 := Blk.new w2 48 #[.pointer (some ⟨p, 0, none⟩), .pointer (some ⟨q, 0, none⟩)]
  obtain ⟨lb, hlb⟩ : ∃ lb, w2.heap.size = lb := ⟨_, rfl⟩
  rw [hlb] at hB3
  go_upto_region 5 with fail
  obtain ⟨w3, hw3⟩ : ∃ w3, w2.alloc (.cells #[.pointer (some ⟨p, 0, none⟩), .pointer (some ⟨q, 0, none⟩)] 48) = w3 := ⟨_, rfl⟩
  have hz3 : w3.heap.size = w2.heap.size + 1 := by rw [← hw3]; simp
  rw [hw3] at hS3 hT3 hb3 hB3 ⊢
  clear hw3 hS hT hb
  have hlbS : ¬ lb = b ∧ ¬ lb = p ∧ ¬ lb = d ∧ ¬ lb = q := by omega
  have hdb : ¬ d = b ∧ ¬ q = b := by omega
  clear hlb hz3 hltT hlt hz2
  -- five are received
  have hil := IL.one w3 [97] 5 68
  have hSa := hS3.alloc (.cells #[.string ⟨#[97]⟩, .int .i64 5] 68)
  have hTa := hT3.alloc (.cells #[.string ⟨#[97]⟩, .int .i64 5] 68)
  have hBa := hB3.alloc (.cells #[.string ⟨#[97]⟩, .int .i64 5] 68)
  have hba := hb3.alloc hb3.size (.cells #[.string ⟨#[97]⟩, .int .i64 5] 68)
  have c1 := do_u 1 (some ⟨w3.heap.size, 0, none⟩) 1 1 l5 _ hSa hil (by decide) l5_len (by decide) (by decide)
  rw [show doF (fun _ => row0) [] 1 l5 = f1 from rfl, show doK (fun _ => row0) [] 1 l5 = k1 from rfl] at c1
  go_wp2_with fail
  refine c1.mono ?_
  rintro e w4 ⟨rfl, ⟨N4, hN4, hS4⟩, hk4⟩
  have hb4 := hba.trans (hk4.below (B := w.heap.size) hba.size (fun i hi e => by omega))
  have hT4 := hTa.kept hk4 hdb.2 hdb.1
  have hB4 := hBa.kept hk4 hlbS.1
  clear c1 hSa hTa hBa hba hk4 hil hS3 hT3 hb3 hB3
  -- two are sent
  have hil := IL.one w4 [97] 2 68
  have hSa := hS4.alloc (.cells #[.string ⟨#[97]⟩, .int .i64 2] 68)
  have hTa := hT4.alloc (.cells #[.string ⟨#[97]⟩, .int .i64 2] 68)
  have hBa := hB4.alloc (.cells #[.string ⟨#[97]⟩, .int .i64 2] 68)
  have hba := hb4.alloc hb4.size (.cells #[.string ⟨#[97]⟩, .int .i64 2] 68)
  have c2 := do_u 10 (some ⟨w4.heap.size, 0, none⟩) 1 1 l2 _ hSa hil (by decide) l2_len (by omega) (by rw [k_one.1]; decide)
  rw [show doF f1 k1 10 l2 = f2 from rfl, show doK f1 k1 10 l2 = k2 from rfl] at c2
  go_wp2_with fail
  refine c2.mono ?_
  rintro e w5 ⟨rfl, ⟨N5, hN5, hS5⟩, hk5⟩
  have hb5 := hba.trans (hk5.below (B := w.heap.size) hba.size (fun i hi e => by omega))
  have hT5 := hTa.kept hk5 hdb.2 hdb.1
  have hB5 := hBa.kept hk5 hlbS.1
  clear c2 hSa hTa hBa hba hk5 hil hS4 hT4 hb4 hB4
  have hsp : ∀ W, RowKit.Below w5.heap.size w5 W → ∀ x ∈ [skA p, skB q], SP W x := fun W hb x hx => by
    simp at hx
    rcases hx with rfl | rfl
    · exact .inr ⟨p, b, N5, rfl, hS5.below hb⟩
    · exact .inr ⟨q, d, 0, rfl, hT5.below hb⟩
  have hvl : ∀ W, RowKit.Below w5.heap.size w5 W → VL W (some ⟨lb, 0, none⟩) 2 ([skA p, skB q].map Sk.v) := fun W hb => by
    have h := hB5.kept (Keep.of_below hb) (by have := hB5.lt; omega)
    refine ⟨rfl, fun j x hx => ⟨lb, 0, rfl, ?_⟩⟩
    have h2 := h.cell j
    rw [Nat.zero_add, h2]
    match j, hx with
    | 0, hx => simpa [skA, skB] using hx
    | 1, hx => simpa [skA, skB] using hx
    | j + 2, hx => simp [skA, skB] at hx
  have hks : ∀ x ∈ [skA p, skB q], x.ks.Nodup ∧ x.ks.length ≤ 64 ∧ ∀ g ∈ x.ks, g.length ≤ maxLen := fun x hx => by
    simp at hx
    rcases hx with rfl | rfl
    · show k2.Nodup ∧ k2.length ≤ 64 ∧ ∀ g ∈ k2, g.length ≤ maxLen
      rw [k_one.2]
      refine ⟨by simp, by decide, fun g hg => by simp at hg; subst hg; simp [maxLen]⟩
    · exact ⟨List.nodup_nil, by simp [skB], fun g hg => by simp [skB] at hg⟩
  have c3 := gtotal_any (some ⟨lb, 0, none⟩) 2 2 [skA p, skB q] [97] (by simp [maxLen]) w5 (hvl w5 (RowKit.Below.refl _ _)) (hsp w5 (RowKit.Below.refl _ _)) (by decide)
  rw [show [skA p, skB q].map (fun x => x.f [97]) = [f2 [97], f0 [97]] from rfl, sum_two] at c3
  clear hS5 hT5 hB5
  unfold totV at c3
  go_wp2_with fail
  refine c3.mono ?_
  rintro e w6 ⟨rfl, hx6⟩
  clear c3
  rw [show wrap64 ((2 : Int) - 0) = 2 by decide +kernel]
  have hb6 := hb5.trans (hx6.mono hb5.size)
  have hBt := Blk.new w6 33 #[.string ⟨#[97]⟩, .int .i64 3, .int .i64 0, .int .i64 0, .int .i64 0, .int .i64 5, .int .i64 0, .int .i64 0, .int .i64 0, .int .i64 0, .int .i64 0, .int .i64 2, .int .i64 2]
  have hx7 := hx6.alloc hx6.size (.cells #[.string ⟨#[97]⟩, .int .i64 3, .int .i64 0, .int .i64 0, .int .i64 0, .int .i64 5, .int .i64 0, .int .i64 0, .int .i64 0, .int .i64 0, .int .i64 0, .int .i64 2, .int .i64 2] 33)
  have hb7 := hb6.alloc hb6.size (.cells #[.string ⟨#[97]⟩, .int .i64 3, .int .i64 0, .int .i64 0, .int .i64 0, .int .i64 5, .int .i64 0, .int .i64 0, .int .i64 0, .int .i64 0, .int .i64 0, .int .i64 2, .int .i64 2] 33)
  go_upto_region 8 with fail
  obtain ⟨w7, hw7⟩ : ∃ w7, w6.alloc (.cells #[.string ⟨#[97]⟩, .int .i64 3, .int .i64 0, .int .i64 0, .int .i64 0, .int .i64 5, .int .i64 0, .int .i64 0, .int .i64 0, .int .i64 0, .int .i64 0, .int .i64 2, .int .i64 2] 33) = w7 := ⟨_, rfl⟩
  rw [hw7] at hBt hx7 hb7 ⊢
  clear hw7 hx6 hb6
  have m1 := hBt.cell 1
  have m12 := hBt.cell 12
  simp only [List.getElem?_toArray, List.getElem?_cons_succ, List.getElem?_cons_zero] at m1 m12
  have c4 := gkept_any [97] ⟨3, 0, 0, 0, 5, 0, 0, 0, 0, 0, 2⟩ 2 w7
  rw [show keptB ⟨3, 0, 0, 0, 5, 0, 0, 0, 0, 0, 2⟩ 2 = true by decide +kernel] at c4
  unfold totV at c4
  go_wp2_with (refine wpLoadM 33 (by rfl) (.tmp 4) rfl rfl hBt _ Try.underlying33 rfl (by rw [tot_info]; rfl) ?_)
  refine c4.mono ?_
  rintro e w8 ⟨rfl, hx8⟩
  have hx9 := hx7.trans (hx8.mono hx7.size)
  have hb9 := hb7.trans (hx8.mono hb7.size)
  have c5 := gall_any (some ⟨lb, 0, none⟩) 2 2 [skA p, skB q] w8 (hvl w8 hx9) (hsp w8 hx9) hks (by decide)
  rw [all_one] at c5
  clear c4 hx7 hb7 hx8 hBt m1 m12
  go_wp2_with fail
  refine c5.mono ?_
  rintro e w10 ⟨rfl, hx10⟩
  have hx11 := hx9.trans (hx10.mono hx9.size)
  have hb11 := hb9.trans (hx10.mono hb9.size)
  have c6 := gtotals_any (some ⟨lb, 0, none⟩) 2 2 [skA p, skB q] w10 (hvl w10 hx11) (hsp w10 hx11) hks (by decide)
  clear c5 hx9 hb9 hx10
  go_wp2_with fail
  refine c6.mono ?_
  rintro e w12 ⟨v12, rfl, hT12, hx12⟩
  obtain ⟨A12, cap12, rfl, -⟩ := hT12.form
  rw [List.length_map, sortU_len, kn_one]
  have hx13 := hx11.trans (hx12.mono hx11.size)
  have hb13 := hb11.trans (hx12.mono hb11.size)
  have c7 := gds_any (some ⟨lb, 0, none⟩) 2 2 _ w12 (hvl w12 hx13) (fun u hu => by simp [skA, skB] at hu; rcases hu with rfl | rfl <;> rfl) (by decide)
  clear c6 hx11 hb11 hx12 hT12
  go_wp2_with fail
  refine c7.mono ?_
  rintro e w14 ⟨B14, A14, c14, rfl, -, -, hx14⟩
  have hb15 := hb13.trans (hx14.mono hb13.size)
  have hn14 := hnn (.func 37) #[] #[.pointer (some ⟨B14, 0, none⟩)] w14
  have c8 := glevel_any 1 0 0 0 2 0 0 0 w14
  rw [show wrap64 ((1 : Int) + 2) = 3 by decide +kernel, show wrap64 ((0 : Int) + 0) = 0 by decide +kernel] at c8
  clear c7 hx13 hb13 hx14
  go_wp2_with fail
  refine c8.mono ?_
  rintro e w16 ⟨rfl, hx16⟩
  have hb17 := hb15.trans (hx16.mono hb15.size)
  have c9 := gkept_any [] row0 (-1) w16
  rw [show keptB row0 (-1) = false by decide +kernel] at c9
  unfold totV row0 at c9
  have hfl : (Instr.field 29 (.agg #[.int .i64 3, .int .i64 0, .int .i64 0, .int .i64 0]) 0).run Try.prog w16 = .ok (.int .i64 3) w16 := by kernel_rfl
  have hbd : (Instr.build 33 #[(3, .int .i64 (-1))]).run Try.prog w16 = .ok (.agg #[.string ⟨#[]⟩, .int .i64 0, .int .i64 0, .int .i64 0, .int .i64 0, .int .i64 0, .int .i64 0, .int .i64 0, .int .i64 0, .int .i64 0, .int .i64 0, .int .i64 0, .int .i64 (-1)]) w16 := by kernel_rfl
  clear c8 hb15 hx16 hn14
  go_wp2_with fail
  refine c9.mono ?_
  rintro e w18 ⟨rfl, hx18⟩
  go_wp2
  go_ret
  exact ⟨rfl, hb17.trans (hx18.mono hb17.size)⟩
end Go.Proofs.Ytipmamgmcipbfaa
