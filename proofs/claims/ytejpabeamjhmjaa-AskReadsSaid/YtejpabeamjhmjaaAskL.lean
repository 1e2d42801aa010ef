/- ask.Order; what was encoded is decoded; what must come of every program. No condition but that the items lie in memory. -/
import Derived.Test.YtejpabeamjhmjaaAskD
namespace Go.Proofs.Ytejpabeamjhmjaa
open Go.RowKit Go.Maps Go.Shelf
set_option linter.unusedVariables false
set_option linter.unusedSimpArgs false

theorem encA_flat (x : AV) : encA x = numCell x.c ++ (numCell x.m ++ (numCell x.k ++ (numCell x.o ++ (numCell x.r ++ (numCell x.t ++ (numCell x.n ++ (numCell x.g.length ++ x.g ++ encL x.l))))))) := by
  unfold encA bodyA
  simp only [List.append_assoc]
theorem decA_enc {x : AV} (h : mayA x = true) : decA (encA x) = some x := by
  obtain ⟨f1, f2, f3, f4, f5, f6, f7, f8, f9⟩ := mayA_facts h
  have T : Taken (encA x) x (some []) (some (numCell x.m ++ (numCell x.k ++ (numCell x.o ++ (numCell x.r ++ (numCell x.t ++ (numCell x.n ++ (numCell x.g.length ++ x.g ++ encL x.l)))))))) (some (numCell x.k ++ (numCell x.o ++ (numCell x.r ++ (numCell x.t ++ (numCell x.n ++ (numCell x.g.length ++ x.g ++ encL x.l))))))) (some (numCell x.o ++ (numCell x.r ++ (numCell x.t ++ (numCell x.n ++ (numCell x.g.length ++ x.g ++ encL x.l)))))) (some (numCell x.r ++ (numCell x.t ++ (numCell x.n ++ (numCell x.g.length ++ x.g ++ encL x.l))))) (some (numCell x.t ++ (numCell x.n ++ (numCell x.g.length ++ x.g ++ encL x.l)))) (some (numCell x.n ++ (numCell x.g.length ++ x.g ++ encL x.l))) (some (numCell x.g.length ++ x.g ++ encL x.l)) (some (encL x.l)) := by
    refine ⟨?_, ?_, ?_, ?_, ?_, ?_, ?_, ?_, ?_⟩
    · rw [encA_flat]
      exact take_num x.c _ (by omega) (by omega) _ _ (by omega) (by omega)
    · exact take_num x.m _ (by omega) (by omega) _ _ (by omega) (by omega)
    · exact take_num x.k _ (by omega) (by omega) _ _ (by omega) (by omega)
    · exact take_num x.o _ (by omega) (by omega) _ _ (by omega) (by omega)
    · exact take_num x.r _ (by omega) (by omega) _ _ (by omega) (by omega)
    · exact take_num x.t _ (by omega) (by omega) _ _ (by omega) (by omega)
    · exact take_num x.n _ (by omega) (by omega) _ _ (by omega) (by omega)
    · exact take_text x.g _ 16 (by omega) (by omega)
    · have := takeL_enc x.l f9 []
      rw [List.append_nil] at this
      exact this
  rw [T.dec, if_pos rfl, if_pos h]

/-- The number of the order that a request makes. -/
def orderN (x : AV) : Int := match decide (x.k = 1) && mayA x with
  | true => 64 * x.m + x.c
  | false => 0
set_option maxHeartbeats 800000 in
theorem order_any (x : AV) (A : Option Addr) (cap : Nat) (w : World) (hl : IL w A x.l.length x.l) (hn : x.l.length ≤ 9223372036854775807) :
    Calls Try.prog 43 #[x.v A cap] w fun e w' => e = .returned (.int .i64 (orderN x)) ∧ Below w.heap.size w w' := by
  have hbx0 : Blk (w.alloc (.cells (x.cs A cap) 53)) w.heap.size 53 (x.cs A cap) := Blk.new _ _ _
  have hb1 := (Below.refl w.heap.size w).alloc (Nat.le_refl _) (.cells (x.cs A cap) 53)
  have key := askmay_any x A cap _ (hl.alloc (.cells (x.cs A cap) 53)) hn
  by_cases hk : x.k = 1
  case neg =>
    have hO : orderN x = 0 := by unfold orderN; rw [decide_eq_false hk]; rfl
    rw [hO]
    obtain ⟨c, m, k, o, r, t, n, g, l⟩ := x
    dsimp only at hk
    have hkb : (k == 1) = false := beq_eq_false_iff_ne.2 hk
    unfold AV.v
    unfold AV.cs at hb1
    dsimp only at hb1 ⊢
    go_enter Try.func43, Try.ntmps43
    go_wp2
    go_ret
    exact ⟨rfl, hb1⟩
  cases hm : mayA x with
  | false =>
    have hO : orderN x = 0 := by unfold orderN; rw [hm, Bool.and_false]
    rw [hO]
    rw [hm] at key
    obtain ⟨c, m, k, o, r, t, n, g, l⟩ := x
    dsimp only at hk
    subst hk
    unfold AV.v at key
    unfold AV.cs at key hb1
    unfold AV.v
    dsimp only at key hb1 ⊢
    go_enter Try.func43, Try.ntmps43
    go_wp2_with fail
    refine key.mono ?_
    rintro e w1 ⟨rfl, hx1⟩
    have hb2 := hb1.trans (hx1.mono hb1.size)
    go_wp2
    go_ret
    exact ⟨rfl, hb2⟩
  | true =>
    have hO : orderN x = 64 * x.m + x.c := by unfold orderN; rw [hm, decide_eq_true hk]; rfl
    rw [hO]
    rw [hm] at key
    obtain ⟨f1, f2, f3, _⟩ := mayA_facts hm
    obtain ⟨c, m, k, o, r, t, n, g, l⟩ := x
    dsimp only at hk f2 f3
    subst hk
    unfold AV.v at key
    unfold AV.cs at key hb1 hbx0
    unfold AV.v
    dsimp only at key hb1 hbx0 ⊢
    have hw1 : wrap64 (64 * m) = 64 * m := by unfold wrap64; omega
    have hw2 : wrap64 (64 * m + c) = 64 * m + c := by unfold wrap64; omega
    go_enter Try.func43, Try.ntmps43
    go_wp2_with fail
    refine key.mono ?_
    rintro e w1 ⟨rfl, hx1⟩
    have hb2 := hb1.trans (hx1.mono hb1.size)
    have hS := boxS (c := c) (m := m) (k := 1) (o := o) (r := r) (t := t) (n := n) (g := g) (l := l) (A := A) (cap := cap) (hbx0.kept (Keep.of_below hx1) (fun h => absurd hbx0.lt (Nat.not_lt.2 h)))
    go_wp2
    go_ret
    refine ⟨?_, hb2⟩
    simp [hw1, hw2]

/-- The request that every program must know. -/
def aL : AV := ⟨3, 2, 1, 0, 0, 0, 1, [], [([97], 5)]⟩
theorem aL_may : mayA aL = true := by decide +kernel
theorem x0_may : mayA x0 = false := by decide +kernel
theorem aL_len : (encA aL).length = (bodyA aL).length + 2 := by decide +kernel
theorem aL_order : orderN aL = 131 := by decide +kernel
set_option maxRecDepth 100000 in
set_option maxHeartbeats 6400000 in
theorem alives_any (w : World) : Calls Try.prog 33 #[] w fun e w' => e = .returned (.bool true) ∧ Below w.heap.size w w' := by
  have hil0 : IL ((w.alloc (.cells #[.string ⟨#[97]⟩, .int .i64 5] 28)).alloc (.cells #[.int .i64 3, .int .i64 2, .int .i64 1, .int .i64 0, .int .i64 0, .int .i64 0, .int .i64 1, .string ⟨#[]⟩, .slice (some ⟨w.heap.size, 0, none⟩) 1 1] 53)) (some ⟨w.heap.size, 0, none⟩) aL.l.length aL.l := (IL.one w [97] 5 _).alloc _
  have hba0 : Blk ((w.alloc (.cells #[.string ⟨#[97]⟩, .int .i64 5] 28)).alloc (.cells #[.int .i64 3, .int .i64 2, .int .i64 1, .int .i64 0, .int .i64 0, .int .i64 0, .int .i64 1, .string ⟨#[]⟩, .slice (some ⟨w.heap.size, 0, none⟩) 1 1] 53)) (w.heap.size + 1) 53 (AV.cs aL (some ⟨w.heap.size, 0, none⟩) 1) := by
    have := Blk.new (w.alloc (.cells #[.string ⟨#[97]⟩, .int .i64 5] 28)) 53 (AV.cs aL (some ⟨w.heap.size, 0, none⟩) 1)
    rw [World.size_alloc] at this
    exact this
  have hb0 : Below w.heap.size w ((w.alloc (.cells #[.string ⟨#[97]⟩, .int .i64 5] 28)).alloc (.cells #[.int .i64 3, .int .i64 2, .int .i64 1, .int .i64 0, .int .i64 0, .int .i64 0, .int .i64 1, .string ⟨#[]⟩, .slice (some ⟨w.heap.size, 0, none⟩) 1 1] 53)) := ((Below.refl w.heap.size w).alloc (Nat.le_refl _) _).alloc (by simp) _
  have hsame : sameA aL aL = true := (sameA_iff aL aL).2 rfl
  have hdec := decA_enc aL_may
  obtain ⟨cd, hcd⟩ : ∃ cd, encA aL = cd := ⟨_, rfl⟩
  have key1 := askencode_any aL (some ⟨w.heap.size, 0, none⟩) 1 _ hil0 (by decide)
  rw [aL_may, hcd] at key1
  have hlen := aL_len
  have hlen2 := encA_len aL_may
  rw [hcd] at hdec hlen hlen2
  obtain ⟨N, hN⟩ : ∃ N, cd.length = N := ⟨_, rfl⟩
  obtain ⟨M, hM⟩ : ∃ M, (bodyA aL).length = M := ⟨_, rfl⟩
  rw [hM, hN] at hlen
  rw [hN] at hlen2
  subst hlen
  clear hcd
  go_enter Try.func33, Try.ntmps33
  go_wp2_with fail
  refine key1.mono ?_
  rintro e w1 ⟨hx1, A1, c1, rfl, q1, q2, hr1, q4⟩
  have hb1 := hb0.trans (hx1.mono hb0.size)
  have hba1 := hba0.kept (Keep.of_below hx1) (fun h => absurd hba0.lt (Nat.not_lt.2 h))
  have hil1 := hil0.below hx1
  rw [hN] at hr1 q1
  rw [hN]
  clear key1 hba0 hil0
  go_wp2_with fail
  refine (askdecode_any A1 (M + 2) c1 cd w1 hr1 (by omega)).mono ?_
  rintro e w2 ⟨hx2, h2⟩
  rw [hdec] at h2
  obtain ⟨A2, cap2, rfl, hil2⟩ := h2
  have hb2 := hb1.trans (hx2.mono hb1.size)
  have hba2 := hba1.kept (Keep.of_below hx2) (fun h => absurd hba1.lt (Nat.not_lt.2 h))
  have hila2 := hil1.below hx2
  have hbx3 := Blk.new w2 53 (AV.cs aL A2 cap2)
  have hba3 := hba2.alloc (.cells (AV.cs aL A2 cap2) 53)
  have hilx3 := hil2.alloc (.cells (AV.cs aL A2 cap2) 53)
  have hila3 := hila2.alloc (.cells (AV.cs aL A2 cap2) 53)
  have hb3 := hb2.alloc hb2.size (.cells (AV.cs aL A2 cap2) 53)
  have hSa3 := boxS (c := 3) (m := 2) (k := 1) (o := 0) (r := 0) (t := 0) (n := 1) (g := []) (l := [([97], 5)]) (A := some ⟨w.heap.size, 0, none⟩) (cap := 1) hba3
  have hSx3 := boxS (c := 3) (m := 2) (k := 1) (o := 0) (r := 0) (t := 0) (n := 1) (g := []) (l := [([97], 5)]) (A := A2) (cap := cap2) hbx3
  have hSa2 := boxS (c := 3) (m := 2) (k := 1) (o := 0) (r := 0) (t := 0) (n := 1) (g := []) (l := [([97], 5)]) (A := some ⟨w.heap.size, 0, none⟩) (cap := 1) hba2
  have hlt2 := hba2.lt
  have hne2 : w.heap.size + 1 ≠ w2.heap.size := by omega
  clear hba1 hil1 hba2 hila2 hil2 hSa3 hSx3
  unfold AV.v
  unfold aL
  dsimp only
  have hw1 : wrap64 (((M + 2 : Nat) : Int) - 2) = (M : Int) := by unfold wrap64; omega
  have hw2 : wrap64 (M : Int) = (M : Int) := by unfold wrap64; omega
  have key := rsame_any aL aL A2 (some ⟨w.heap.size, 0, none⟩) cap2 1 (w2.alloc (.cells (AV.cs aL A2 cap2) 53)) hilx3 hila3 (by decide)
  rw [hsame] at key
  unfold AV.v aL at key
  unfold AV.cs at key
  dsimp only at key
  go_wp2_with fail
  refine key.mono ?_
  rintro e w4 ⟨rfl, hx4⟩
  have hb4 := hb3.trans (hx4.mono hb3.size)
  have hba4 := hba3.kept (Keep.of_below hx4) (fun h => absurd hba3.lt (Nat.not_lt.2 h))
  have hbx4 := hbx3.kept (Keep.of_below hx4) (fun h => absurd hbx3.lt (Nat.not_lt.2 h))
  have hila4 := hila3.below hx4
  have hilx4 := hilx3.below hx4
  have hSa4 := boxS (c := 3) (m := 2) (k := 1) (o := 0) (r := 0) (t := 0) (n := 1) (g := []) (l := [([97], 5)]) (A := some ⟨w.heap.size, 0, none⟩) (cap := 1) hba4
  have hSx4 := boxS (c := 3) (m := 2) (k := 1) (o := 0) (r := 0) (t := 0) (n := 1) (g := []) (l := [([97], 5)]) (A := A2) (cap := cap2) hbx4
  clear key hba3 hbx3 hila3 hilx3 hSa2 hx4
  have key := asksame_any aL aL A2 (some ⟨w.heap.size, 0, none⟩) cap2 1 w4 hilx4 hila4 (by decide)
  rw [hsame] at key
  unfold AV.v aL at key
  dsimp only at key
  go_wp2_with fail
  refine key.mono ?_
  rintro e w5 ⟨rfl, hx5⟩
  have hb5 := hb4.trans (hx5.mono hb4.size)
  have hba5 := hba4.kept (Keep.of_below hx5) (fun h => absurd hba4.lt (Nat.not_lt.2 h))
  have hbx5 := hbx4.kept (Keep.of_below hx5) (fun h => absurd hbx4.lt (Nat.not_lt.2 h))
  have hila5 := hila4.below hx5
  have hilx5 := hilx4.below hx5
  have hSa5 := boxS (c := 3) (m := 2) (k := 1) (o := 0) (r := 0) (t := 0) (n := 1) (g := []) (l := [([97], 5)]) (A := some ⟨w.heap.size, 0, none⟩) (cap := 1) hba5
  have hSx5 := boxS (c := 3) (m := 2) (k := 1) (o := 0) (r := 0) (t := 0) (n := 1) (g := []) (l := [([97], 5)]) (A := A2) (cap := cap2) hbx5
  clear key hba4 hbx4 hila4 hilx4 hSa4 hSx4 hx5
  have key := order_any aL (some ⟨w.heap.size, 0, none⟩) 1 w5 hila5 (by decide)
  rw [aL_order] at key
  unfold AV.v aL at key
  dsimp only at key
  go_wp2_with fail
  refine key.mono ?_
  rintro e w6 ⟨rfl, hx6⟩
  have hb6 := hb5.trans (hx6.mono hb5.size)
  have hba6 := hba5.kept (Keep.of_below hx6) (fun h => absurd hba5.lt (Nat.not_lt.2 h))
  have hbx6 := hbx5.kept (Keep.of_below hx6) (fun h => absurd hbx5.lt (Nat.not_lt.2 h))
  have hila6 := hila5.below hx6
  have hilx6 := hilx5.below hx6
  have hSa6 := boxS (c := 3) (m := 2) (k := 1) (o := 0) (r := 0) (t := 0) (n := 1) (g := []) (l := [([97], 5)]) (A := some ⟨w.heap.size, 0, none⟩) (cap := 1) hba6
  have hSx6 := boxS (c := 3) (m := 2) (k := 1) (o := 0) (r := 0) (t := 0) (n := 1) (g := []) (l := [([97], 5)]) (A := A2) (cap := cap2) hbx6
  clear key hba5 hbx5 hila5 hilx5 hSa5 hSx5 hx6
  go_wp2_with fail
  refine (owner_any 131 w6).mono ?_
  rintro e w' ⟨rfl, rfl⟩
  rw [show ownerN 131 = 3 from rfl]
  go_wp2_with fail
  refine (home_any 5 3 w' (by decide)).mono ?_
  rintro e w'' ⟨rfl, rfl⟩
  rw [show homeN 5 3 = 2 from rfl]
  go_wp2_with fail
  refine (has_any 10 w'').mono ?_
  rintro e w7 ⟨rfl, rfl⟩
  rw [show hasL 10 = [114, 116, 105] from rfl]
  have key := askmay_any x0 none 0 w7 (IL.nil _ _) (by decide)
  rw [x0_may] at key
  unfold AV.v x0 at key
  dsimp only at key
  go_wp2_with fail
  refine key.mono ?_
  rintro e w8 ⟨rfl, hx8⟩
  have hb8 := hb6.trans (hx8.mono hb6.size)
  have hba8 := hba6.kept (Keep.of_below hx8) (fun h => absurd hba6.lt (Nat.not_lt.2 h))
  have hbx8 := hbx6.kept (Keep.of_below hx8) (fun h => absurd hbx6.lt (Nat.not_lt.2 h))
  have hila8 := hila6.below hx8
  have hilx8 := hilx6.below hx8
  have hSa8 := boxS (c := 3) (m := 2) (k := 1) (o := 0) (r := 0) (t := 0) (n := 1) (g := []) (l := [([97], 5)]) (A := some ⟨w.heap.size, 0, none⟩) (cap := 1) hba8
  have hSx8 := boxS (c := 3) (m := 2) (k := 1) (o := 0) (r := 0) (t := 0) (n := 1) (g := []) (l := [([97], 5)]) (A := A2) (cap := cap2) hbx8
  clear key hba6 hbx6 hila6 hilx6 hSa6 hSx6 hx8
  have key := askbody_any aL (some ⟨w.heap.size, 0, none⟩) 1 w8 hila8 (by decide)
  rw [aL_may] at key
  unfold AV.v at key
  rw [show aL.c = 3 from rfl, show aL.m = 2 from rfl, show aL.k = 1 from rfl, show aL.o = 0 from rfl, show aL.r = 0 from rfl, show aL.t = 0 from rfl, show aL.n = 1 from rfl, show aL.g = [] from rfl, show aL.l.length = 1 from rfl] at key
  go_wp2_with fail
  refine key.mono ?_
  rintro e w9 ⟨hx9, A9, c9, rfl, q91, q92, hr9, q94⟩
  have hb9 := hb8.trans (hx9.mono hb8.size)
  rw [hM]
  clear key
  go_wp2
  go_ret
  exact ⟨by simp [hw1, hw2], hb9⟩
end Go.Proofs.Ytejpabeamjhmjaa
