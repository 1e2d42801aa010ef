/- The document's On. No condition but that the end lies in memory. -/
import Derived.Test.YtfgceplafjbmhaaLqR
import Derived.Test.YtfgceplafjbmhaaLqN
import Derived.Test.YtfgceplafjbmhaaLkR
namespace Go.Proofs.Ytfgceplafjbmhaa
open Go.RowKit
set_option linter.unusedVariables false
set_option linter.unusedSimpArgs false

theorem wp_appB {w : World} {o : Oper} {a : Act} {K : Act → World → Prop} {Q : Exit → Act → World → Prop} (s x : Operand) (ho : o.op = .call { callee := .builtin .append, args := #[s, x], argTypes := #[30, 30] })
    (base : Nat) (v : Value) (l : List UInt8) (hs : a.eval s = v) (hown : OB base w v l) (A : Option Addr) (m c : Nat) (news : List UInt8) (hx : a.eval x = .slice A m c) (hr : RB w A m news)
    (hn : l.length + m ≤ 140737488355328) (hbase : base ≤ w.heap.size)
    (h : ∀ v' w', Grew base w v w' v' (l ++ news) → K (a.put o.dst v') w') : o.wp Try.prog a w K Q := by
  obtain ⟨v', w', hrun, h2⟩ := run_app w base o.type v l hown A m c news hr hn hbase hr.none_zero
  unfold Oper.wp execOp
  simp only [ho, resolve, invoke, builtin, Sem.run_bind, Sem.run_pure, Result.andThen_ok, List.map_toArray, List.map_cons, List.map_nil, hs, hx, hrun]
  exact h v' w' h2
def keptI (a : Int) (xs : List Iv) : List Iv := xs.filter fun x => decide (a < x.seq)
theorem keptI_map (a : Int) (xs : List Iv) : (keptI a xs).map Iv.b = onL a (xs.map Iv.b) := by
  unfold keptI onL
  rw [List.filter_map]
  congr 1
  apply List.filter_congr
  intro x _
  show decide (a < x.seq) = !decide (x.seq ≤ a)
  rw [← decide_not]
  exact decide_eq_decide.2 (by omega)
theorem keptI_yes {a : Int} {xs : List Iv} {k : Nat} {x : Iv} (hx : xs[k]? = some x) (h : a < x.seq) : keptI a (xs.take (k + 1)) = keptI a (xs.take k) ++ [x] := by
  unfold keptI
  rw [List.take_add_one, hx, List.filter_append]
  simp [h]
theorem keptI_no {a : Int} {xs : List Iv} {k : Nat} {x : Iv} (hx : xs[k]? = some x) (h : ¬ a < x.seq) : keptI a (xs.take (k + 1)) = keptI a (xs.take k) := by
  unfold keptI
  rw [List.take_add_one, hx, List.filter_append]
  simp [h]
theorem keptI_le (a : Int) (xs : List Iv) : (keptI a xs).length ≤ xs.length := List.length_filter_le _ _
/-- What the document's On answers of a packet that may be. -/
def ROnPost (F : Nat → Prop) (w : World) (q : Nat) (l : List Bd) (sent mark : Int) (s a : Int) (body : List UInt8) (e : Ending) (w' : World) : Prop :=
  Keep (fun k => k = q) w w' ∧
  ((s = 0 ∧ e = .returned (.tuple #[.slice none 0 0, .bool false, PKV 0 0 none 0 0]) ∧ QN (fun k => F k ∨ w.heap.size ≤ k) w' q (onL a l) sent mark) ∨
   (s = mark + 1 ∧ ∃ x, e = .returned (.tuple #[x, .bool true, PKV 0 (mark + 1) none 0 0]) ∧ OB w.heap.size w' x body ∧ QN (fun k => F k ∨ w.heap.size ≤ k) w' q (onL a l) sent (mark + 1)) ∨
   (s ≠ 0 ∧ s ≠ mark + 1 ∧ e = .returned (.tuple #[.slice none 0 0, .bool false, PKV 0 mark none 0 0]) ∧ QN (fun k => F k ∨ w.heap.size ≤ k) w' q (onL a l) sent mark))
set_option maxRecDepth 100000 in
set_option maxHeartbeats 3200000 in
theorem ron_any {F : Nat → Prop} {w : World} {q : Nat} {l : List Bd} {sent mark : Int} (s a : Int) (A : Option Addr) (n c : Nat) (body : List UInt8) (hr : RB w A n body) (hal : 0 < n → ∀ ad, A = some ad → ad.block ≠ q) (h : QN F w q l sent mark) (hl : l.length ≤ 1048576) (hm : mayPn s a n = true) (hk0 : 0 ≤ mark) (hk1 : mark < 9223372036854775807) :
    Calls Try.prog 19 #[.pointer (some ⟨q, 0, none⟩), PKV s a A n c] w (ROnPost F w q l sent mark s a body) := by
  have hn : n ≤ 9223372036854775807 := by have := (mayPn_iff s a n).1 hm; omega
  have hn2 : n ≤ 2048 := by have := (mayPn_iff s a n).1 hm; omega
  have hmay := fun W => rmay_any s a A n c W hn
  rw [hm] at hmay
  obtain ⟨v, xs, hE, rfl⟩ := h
  rw [List.length_map] at hl
  obtain ⟨B, cap, rfl, hfm⟩ := hE.own.form
  clear hfm
  obtain ⟨N, hN⟩ : ∃ N, xs.length = N := ⟨_, rfl⟩
  rw [hN] at hE hl
  replace hE := hE.mono (G := fun k => F k ∧ k < w.heap.size) fun k hk e => ⟨e, hk⟩
  have hq1 := ((Blk.new w 32 #[.int .i64 s, .int .i64 a, .slice A n c]).alloc (.cells #[.int .i64 0, .int .i64 0, .slice none 0 0] 32)).alloc (.cells #[.int .i64 s, .int .i64 a, .slice A n c] 32)
  have hz1 := Blk.new (w.alloc (.cells #[.int .i64 s, .int .i64 a, .slice A n c] 32)) 32 #[.int .i64 0, .int .i64 0, .slice none 0 0]
  rw [World.size_alloc] at hz1
  replace hz1 := hz1.alloc (.cells #[.int .i64 s, .int .i64 a, .slice A n c] 32)
  have hb1 := (((Below.refl w.heap.size w).alloc (Nat.le_refl _) (.cells #[.int .i64 s, .int .i64 a, .slice A n c] 32)).alloc (by simp) (.cells #[.int .i64 0, .int .i64 0, .slice none 0 0] 32)).alloc (by simp; omega) (.cells #[.int .i64 s, .int .i64 a, .slice A n c] 32)
  have hsz1 : (((w.alloc (.cells #[.int .i64 s, .int .i64 a, .slice A n c] 32)).alloc (.cells #[.int .i64 0, .int .i64 0, .slice none 0 0] 32)).alloc (.cells #[.int .i64 s, .int .i64 a, .slice A n c] 32)).heap.size = w.heap.size + 3 := by simp
  have hqw := hE.pc.lt
  go_enter Try.func19, Try.ntmps19
  go_wp2_with fail
  refine (hmay _).mono ?_
  rintro e w' ⟨rfl, rfl⟩
  clear hmay
  obtain ⟨W1, hW1⟩ : ∃ W, ((w.alloc (.cells #[.int .i64 s, .int .i64 a, .slice A n c] 32)).alloc (.cells #[.int .i64 0, .int .i64 0, .slice none 0 0] 32)).alloc (.cells #[.int .i64 s, .int .i64 a, .slice A n c] 32) = W := ⟨_, rfl⟩
  rw [hW1] at hq1 hz1 hb1 hsz1 ⊢
  have hE1 := hE.below hb1
  have hr1 := hr.below hb1
  obtain ⟨bp, hbp⟩ : ∃ b, w.heap.size = b := ⟨_, rfl⟩
  rw [hbp] at hq1 hz1
  obtain ⟨K, hK⟩ : ∃ K, W1.heap.size = K := ⟨_, rfl⟩
  have hbpK : bp < K := by omega
  have hbrK : bp + 1 < K := by omega
  have hqb : q < bp := by omega
  obtain ⟨h0, h1, h2⟩ := hE1.fields
  go_wp2
  go_loopw [7, 8] (fun lv i wr => ∃ k : Nat, i = .int .i64 (k : Int) ∧ k ≤ N ∧ IO K wr lv (keptI a (xs.take k)) ∧ Below K W1 wr) (fun _ i _ => N - (intOf i).toNat)
  case atStart => exact ⟨0, by go_num, by omega, IO.nil _ _, hK ▸ Below.refl _ _⟩
  case round =>
    obtain ⟨k, rfl, hk, hO, hb⟩ := hrel
    have hbW : Below W1.heap.size W1 wr := hK ▸ hb
    have hE2 := hE1.below hbW
    have hq2 := hq1.kept (Keep.of_below hbW) (by omega)
    have hz2 := hz1.kept (Keep.of_below hbW) (by omega)
    have hsz2 : K ≤ wr.heap.size := by have := hb.size; omega
    obtain ⟨e0, e1, e2⟩ := hE2.fields
    have b0 := hq2.cell 0
    have b1 := hq2.cell 1
    simp at b0 b1
    by_cases hlt : k < N
    · as_aux_lemma =>
      have hlz : (k : Int) < (N : Int) := by omega
      have hk0' : (0 : Int) ≤ (k : Int) := by omega
      obtain ⟨g, x, rfl, hx, c0, c1, c2, c3⟩ := hE2.own.place hlt
      obtain ⟨xq, ⟨xA, xn, xc, xt⟩, xtr, xd⟩ := x
      dsimp only [Sl.v] at c0 c1 c2 c3
      by_cases hax : a < xq
      · have hgt : decide (a < xq) = true := decide_eq_true hax
        have hky := keptI_yes hx hax
        have hkl := keptI_le a (xs.take k)
        rw [List.length_take] at hkl
        have hO6 := hO.drew.alloc (.cells #[.int .i64 xq, .slice xA xn xc, .int .i64 xtr, .int .i64 xd] 86)
        have hn6 := Blk.new wr.drew 86 #[.int .i64 xq, .slice xA xn xc, .int .i64 xtr, .int .i64 xd]
        have hc6 : ∀ j u, (Iv.cs ⟨xq, ⟨xA, xn, xc, xt⟩, xtr, xd⟩)[j]? = some u → (wr.drew.alloc (.cells #[.int .i64 xq, .slice xA xn xc, .int .i64 xtr, .int .i64 xd] 86)).cell? ((⟨wr.drew.heap.size, 0, none⟩ : Addr).add j) = some u := fun j u hu => by rw [Addr.add_lit, Nat.zero_add, hn6.cell]; simpa [Iv.cs, Sl.v] using hu
        have hb6 := hb.drew.alloc (by have := hb.size; show K ≤ wr.heap.size; omega) (.cells #[.int .i64 xq, .slice xA xn xc, .int .i64 xtr, .int .i64 xd] 86)
        have hK6 : K ≤ (wr.drew.alloc (.cells #[.int .i64 xq, .slice xA xn xc, .int .i64 xtr, .int .i64 xd] 86)).heap.size := by simp; omega
        go_wp2
        go_region
        go_wp2_with (at_builtin; go_loud (refine wpAppIO rfl (.tmp 33) (.tmp 41) rfl K u7 (keptI a (xs.take k)) rfl hO6 ⟨wr.drew.heap.size, 0, none⟩ rfl ⟨xq, ⟨xA, xn, xc, xt⟩, xtr, xd⟩ hc6 (by omega) hK6 ?_; intro v7 w7 hO7 hK7 e7))
        have hb7 := hb6.trans (hK7.below (B := K) hK6 (fun i hi e => by have := (hO6.lt i e).1; omega))
        rw [← hky] at hO7
        go_wp2
        go_roundw
        case measure => simp [intOf]; omega
        case rel => exact ⟨k + 1, by go_num, by omega, hO7, hb7⟩
      · have hgt : decide (a < xq) = false := decide_eq_false hax
        have hkn := keptI_no hx hax
        have hO7 := hO.drew
        rw [← hkn] at hO7
        have hb7 := hb.drew
        go_wp2
        go_region
        go_wp2
        go_roundw
        case measure => simp [intOf]; omega
        case rel => exact ⟨k + 1, by go_num, by omega, hO7, hb7⟩
    · have hlz : ¬ (k : Int) < (N : Int) := by omega
      have hkn : k = N := by omega
      rw [show xs.take k = xs from List.take_of_length_le (by omega)] at hO
      obtain ⟨A7, c7, rfl, hx7⟩ := hO.form
      clear hx7
      obtain ⟨N7, hN7⟩ : ∃ N7, (keptI a xs).length = N7 := ⟨_, rfl⟩
      rw [hN7] at hO ⊢
      have f0 := hE2.pc.frozen 0
      have hql := hE2.pc.lt
      have kq : Keep (fun k => k = q) wr (wr.setCell ⟨q, 0, none⟩ (.slice A7 N7 c7)) := (Keep.refl (fun k => k = q) wr).setCell (p := ⟨q, 0, none⟩) (fun _ => rfl) _
      have hpc3 := hE2.pc.set_ 0 (.slice A7 N7 c7)
      simp at hpc3
      have hne : ∀ g, (Value.slice A7 N7 c7).ownBlock = some g → g ≠ q := fun g hg e => by have := (hO.lt g hg).1; omega
      have hE3 : QE (fun k => (F k ∧ k < w.heap.size) ∨ K ≤ k) (wr.setCell ⟨q, 0, none⟩ (.slice A7 N7 c7)) q (.slice A7 N7 c7) (keptI a xs) sent mark :=
        ⟨hpc3, (hO.mono (Nat.zero_le _)).kept kq (fun g hg e => hne g hg e), fun e => hne q e rfl, .inl hE2.fp, fun g hg => .inr (hO.lt g hg).1,
          fun x hx => ((hE2.bod x (List.mem_filter.1 hx).1).kept kq (fun g _ h1 h2 => h1 h2)).mono fun k _ e => .inl e⟩
      have hq3 := hq2.kept kq (by omega)
      have hz3 := hz2.kept kq (by omega)
      have hkw : Keep (fun k => k = q) w (wr.setCell ⟨q, 0, none⟩ (.slice A7 N7 c7)) := (Keep.of_below' (hb1.trans (hbW.mono hb1.size))).trans kq (fun i hi e => e)
      have hr3 := (hr1.below hbW).kept' kq (fun hp ad e e2 => hal hp ad e e2)
      have hap : ∀ g, ((F g ∧ g < w.heap.size) ∨ K ≤ g) → ¬ g = (bp + 1) := fun g hg e => by rcases hg with hg | hg <;> omega
      have hFF : ∀ k, ((F k ∧ k < w.heap.size) ∨ K ≤ k) → F k ∨ w.heap.size ≤ k := fun k e => by
        rcases e with e | e
        · exact .inl e.1
        · right; omega
      have hqbr : q ≠ (bp + 1) := by omega
      have hqbp : q ≠ bp := by omega
      have z0 := hz2.cell 0
      have z1 := hz2.cell 1
      have z2 := hz2.cell 2
      have zf := fun i => hz2.frozen i
      have hzl := hz2.lt
      simp at z0 z1 z2
      clear hE hE1 hq1 hz1 hW1 hsz1 h0 h1 h2 hlt hlz hbpK hbrK hK hbW hb hb1 hr hr1
      by_cases hs : s = 0
      · as_aux_lemma =>
        have hs0 : (s == 0) = true := by rw [hs]; rfl
        go_wp2_with fail
        have zE := fill3 hz3 (.int .i64 0) (.int .i64 0) (.slice none 0 0)
        have kE := keep3 (wr.setCell ⟨q, 0, none⟩ (.slice A7 N7 c7)) (bp + 1) (.int .i64 0) (.int .i64 0) (.slice none 0 0)
        generalize (((wr.setCell ⟨q, 0, none⟩ (.slice A7 N7 c7)).setCell ⟨bp + 1, 0, none⟩ (.int .i64 0)).setCell ⟨bp + 1, 1, none⟩ (.int .i64 0)).setCell ⟨bp + 1, 2, none⟩ (.slice none 0 0) = WE at zE kE ⊢
        have hEE := hE3.kept kE hap
        have hkE := hkw.trans (kE.mono (T := fun k => k = (bp + 1)) (fun _ _ e => e)) (fun i hi e => by omega)
        obtain ⟨y0, y1, y2⟩ := (⟨zE.cell 0, zE.cell 1, zE.cell 2⟩ : _ ∧ _ ∧ _)
        simp at y0 y1 y2
        refine bodyPost_ret (v := .tuple #[.slice none 0 0, .bool false, PKV 0 0 none 0 0]) (by simp [results, Try.results19, go_sem, y0, y1, y2]) rfl ?_
        exact ⟨hkE, .inl ⟨hs, rfl, _, _, hEE.mono fun k _ e => hFF k e, keptI_map a xs⟩⟩
      have hs0 : (s == 0) = false := beq_eq_false_iff_ne.2 hs
      have hmk : mark + 1 ≤ 9223372036854775807 := by omega
      by_cases hs1 : s = mark + 1
      · as_aux_lemma =>
        have hs2 : (s == mark + 1) = true := by rw [hs1]; exact beq_self_eq_true _
        go_wp2_with fail
        obtain ⟨w3, hw3⟩ : ∃ W, wr.setCell ⟨q, 0, none⟩ (.slice A7 N7 c7) = W := ⟨_, rfl⟩
        rw [hw3] at hE3 hq3 hz3 hkw hr3 ⊢
        clear hw3 z0 z1 z2 zf hzl f0 hql hE2 e0 e1 e2 b0 b1 hO hne kq hpc3 hq2 hz2 hsz2
        have b3 := hq3.cell 0
        simp at b3
        have m3 := hE3.fields.2.2
        go_region
        replace hE3 := hE3.drew
        replace hq3 := hq3.drew
        replace hz3 := hz3.drew
        replace hkw := hkw.drew
        replace hr3 : RB w3.drew A n body := hr3.below (Below.refl w3.heap.size w3).drew
        clear b3 m3
        obtain ⟨w5, hw5⟩ : ∃ W, w3.drew = W := ⟨_, rfl⟩
        rw [hw5] at hE3 hq3 hz3 hkw hr3 ⊢
        clear hw5
        have b3 := hq3.cell 0
        simp at b3
        have m3 := hE3.fields.2.2
        have f2 := hE3.pc.frozen 2
        have hql := hE3.pc.lt
        go_wp2_with fail
        have k2 : Keep (fun k => k = q) w5 (w5.setCell ⟨q, 2, none⟩ (.int .i64 (mark + 1))) := (Keep.refl (fun k => k = q) w5).setCell (p := ⟨q, 2, none⟩) (fun _ => rfl) _
        have hp4 := hE3.pc.set_ 2 (.int .i64 (mark + 1))
        simp at hp4
        have hE4 : QE (fun k => (F k ∧ k < w.heap.size) ∨ K ≤ k) (w5.setCell ⟨q, 2, none⟩ (.int .i64 (mark + 1))) q (.slice A7 N7 c7) (keptI a xs) sent (mark + 1) :=
          ⟨hp4, hE3.own.kept k2 (fun g hg e => hE3.ne (by rw [hg, e])), hE3.ne, hE3.fp, hE3.fv, fun x hx => (hE3.bod x hx).kept k2 (fun g _ h1 h2 => h1 h2)⟩
        have hq4 := hq3.kept k2 (by omega)
        have hz4 := hz3.kept k2 (by omega)
        have hk4 := hkw.trans k2 (fun i hi e => e)
        have hr4 := hr3.kept' k2 (fun hp ad e e2 => hal hp ad e e2)
        obtain ⟨w4, hw4⟩ : ∃ W, w5.setCell ⟨q, 2, none⟩ (.int .i64 (mark + 1)) = W := ⟨_, rfl⟩
        rw [hw4] at hE4 hq4 hz4 hk4 hr4 ⊢
        clear hw4 k2 hp4 hE3 hq3 hz3 hkw hr3 f2 hql b3 m3
        have b4 := hq4.cell 2
        simp at b4
        have m4 := hE4.fields.2.2
        have hS : ∀ W, Below w4.heap.size w4 W → W.cell? ⟨bp, 2, none⟩ = some (.slice A n c) ∧ W.cell? ⟨q, 2, none⟩ = some (.int .i64 (mark + 1)) := fun W hb => ⟨(hb.cell (World.block_lt_of_cell? _ _ b4)).trans b4, (hb.cell (World.block_lt_of_cell? _ _ m4)).trans m4⟩
        refine wp_region_held_drew (S := (fun W => W.cell? ⟨bp, 2, none⟩ = some (.slice A n c) ∧ W.cell? ⟨q, 2, none⟩ = some (.int .i64 (mark + 1)))) (by kernel_rfl) (hS _ (Below.refl w4.heap.size w4).drew) (fun hHeld => ?_)
        refine wpAnyH_take (i := 1) (oi := ?oi1n) (v := ?v1n) ?hi1n (by kernel_rfl) (by kernel_rfl) (by kernel_rfl) ?hq1n (Or.inl ⟨?hw1n, ?hy1n⟩) (by assumption) ?rest1n
        case hi1n => (simp only [List.getElem?_toArray, List.getElem?_cons_succ, List.getElem?_cons_zero]; rfl)
        case hq1n => exact fun _ _ _ h => h
        case hw1n => rfl
        case hy1n => (intro w hSw; (try dsimp only at hSw); go_simp <;> with_reducible rfl)
        try simp only [Act.put, List.setIfInBounds_toArray, List.set_cons_zero, List.set_cons_succ]
        refine wpAnyH_take (i := 2) (oi := ?oi2n) (v := ?v2n) ?hi2n (by kernel_rfl) (by kernel_rfl) (by kernel_rfl) ?hq2n (Or.inl ⟨?hw2n, ?hy2n⟩) (by assumption) ?rest2n
        case hi2n => (simp only [List.getElem?_toArray, List.getElem?_cons_succ, List.getElem?_cons_zero]; rfl)
        case hq2n => exact fun _ _ _ h => h
        case hw2n => rfl
        case hy2n => (intro w hSw; (try dsimp only at hSw); go_simp <;> with_reducible rfl)
        try simp only [Act.put, List.setIfInBounds_toArray, List.set_cons_zero, List.set_cons_succ]
        refine wpAnyH_take (i := 4) (oi := ?oi4n) (v := ?v4n) ?hi4n (by kernel_rfl) (by kernel_rfl) (by kernel_rfl) ?hq4n (Or.inl ⟨?hw4n, ?hy4n⟩) (by assumption) ?rest4n
        case hi4n => (simp only [List.getElem?_toArray, List.getElem?_cons_succ, List.getElem?_cons_zero]; rfl)
        case hq4n => exact fun _ _ _ h => h
        case hw4n => rfl
        case hy4n => (intro w hSw; (try dsimp only at hSw); go_simp <;> with_reducible rfl)
        try simp only [Act.put, List.setIfInBounds_toArray, List.set_cons_zero, List.set_cons_succ]
        refine wpAnyH_take (i := 5) (oi := ?oi5n) (v := ?v5n) ?hi5n (by kernel_rfl) (by kernel_rfl) (by kernel_rfl) ?hq5n (Or.inl ⟨?hw5n, ?hy5n⟩) (by assumption) ?rest5n
        case hi5n => (simp only [List.getElem?_toArray, List.getElem?_cons_succ, List.getElem?_cons_zero]; rfl)
        case hq5n => exact fun _ _ _ h => h
        case hw5n => rfl
        case hy5n => (intro w hSw; (try dsimp only at hSw); go_simp <;> with_reducible rfl)
        try simp only [Act.put, List.setIfInBounds_toArray, List.set_cons_zero, List.set_cons_succ]
        refine wpAnyH_take (i := 6) (oi := ?oi6n) (v := ?v6n) ?hi6n (by kernel_rfl) (by kernel_rfl) (by kernel_rfl) ?hq6n (Or.inl ⟨?hw6n, ?hy6n⟩) (by assumption) ?rest6n
        case hi6n => (simp only [List.getElem?_toArray, List.getElem?_cons_succ, List.getElem?_cons_zero]; rfl)
        case hq6n => exact fun _ _ _ h => h
        case hw6n => rfl
        case hy6n => (intro w hSw; (try dsimp only at hSw); go_simp <;> with_reducible rfl)
        try simp only [Act.put, List.setIfInBounds_toArray, List.set_cons_zero, List.set_cons_succ]
        refine wpAnyH_take (i := 7) (oi := ?oi7n) (v := ?v7n) ?hi7n (by kernel_rfl) (by kernel_rfl) (by kernel_rfl) ?hq7n (Or.inl ⟨?hw7n, ?hy7n⟩) (by assumption) ?rest7n
        case hi7n => (simp only [List.getElem?_toArray, List.getElem?_cons_succ, List.getElem?_cons_zero]; rfl)
        case hq7n => exact fun _ _ _ h => h
        case hw7n => rfl
        case hy7n => (intro w hSw; (try dsimp only at hSw); go_simp <;> with_reducible rfl)
        try simp only [Act.put, List.setIfInBounds_toArray, List.set_cons_zero, List.set_cons_succ]
        refine wpAnyH_take (i := 8) (oi := ?oi8n) (v := ?v8n) ?hi8n (by kernel_rfl) (by kernel_rfl) (by kernel_rfl) ?hq8n (Or.inl ⟨?hw8n, ?hy8n⟩) (by assumption) ?rest8n
        case hi8n => (simp only [List.getElem?_toArray, List.getElem?_cons_succ, List.getElem?_cons_zero]; rfl)
        case hq8n => exact fun _ _ _ h => h
        case hw8n => rfl
        case hy8n => (intro w hSw; (try dsimp only at hSw); go_simp <;> with_reducible rfl)
        try simp only [Act.put, List.setIfInBounds_toArray, List.set_cons_zero, List.set_cons_succ]
        refine wpAnyH_ready (rs := [0]) (by kernel_rfl) (by simp) ?_
        refine AllReadyH.cons (o := ?o0n) ?hi0n (fun K hK => ?st0n) AllReadyH.nil
        case hi0n => (simp only [List.getElem?_toArray, List.getElem?_cons_succ, List.getElem?_cons_zero]; rfl)
        go_simp
        have ho5 : OB w4.heap.size (w4.drew.alloc (.cells #[] 5)) (.slice (some ⟨w4.heap.size, 0, none⟩) 0 0) [] := OB.built w4.heap.size w4.drew [] (Nat.le_refl _) (by simp [maxLen])
        have hal5 := (Below.refl w4.heap.size w4).drew.alloc (Nat.le_refl _) (.cells #[] 5)
        have s5 := hS _ hal5
        refine hK.out _ _ s5 (fun hHeld2 => ?_)
        clear hK K hHeld
        have hHeld := hHeld2
        clear hHeld2
        try simp only [Act.put, List.setIfInBounds_toArray, List.set_cons_zero, List.set_cons_succ]
        refine wpAnyH_ready (rs := [3]) (by kernel_rfl) (by simp) ?_
        refine AllReadyH.cons (o := ?o3n) ?hi3n (fun K hK => ?st3n) AllReadyH.nil
        case hi3n => (simp only [List.getElem?_toArray, List.getElem?_cons_succ, List.getElem?_cons_zero]; rfl)
        rw [if_pos (by rfl)]
        refine wp_appB (.tmp 66) (.tmp 68) rfl w4.heap.size (.slice (some ⟨w4.heap.size, 0, none⟩) 0 0) [] rfl ho5 A n c body rfl (hr4.below hal5) (by simp; omega) hal5.size ?_
        intro v6 w6 hg6
        have hb6 : Below w4.heap.size w4 w6 := hal5.trans (hg6.below ho5 hal5.size)
        have ho6 := hg6.own
        rw [List.nil_append] at ho6
        clear hg6
        obtain ⟨A6, c6, rfl, hx6⟩ := ho6.form
        clear hx6
        have hE6 := hE4.below hb6
        have hz6 := hz4.kept (Keep.of_below hb6) (Nat.not_le.2 hz4.lt)
        have hk6 := hk4.trans (Keep.of_below' (S := fun k => k = q) hb6) (fun i hi e => e)
        have s6 := hS _ hb6
        have zd0 := hz6.cell 0
        have zd1 := hz6.cell 1
        have zd2 := hz6.cell 2
        have zdf := fun i => hz6.frozen i
        have zdl := hz6.lt
        simp at zd0 zd1 zd2
        refine hK.out _ _ s6 (fun hHeld2 => ?_)
        clear hK K hHeld
        have hHeld := hHeld2
        clear hHeld2
        try simp only [Act.put, List.setIfInBounds_toArray, List.set_cons_zero, List.set_cons_succ]
        refine wpAnyH_take (i := 9) (oi := ?oi9n) (v := ?v9n) ?hi9n (by kernel_rfl) (by kernel_rfl) (by kernel_rfl) ?hq9n (Or.inl ⟨?hw9n, ?hy9n⟩) (by assumption) ?rest9n
        case hi9n => (simp only [List.getElem?_toArray, List.getElem?_cons_succ, List.getElem?_cons_zero]; rfl)
        case hq9n => exact fun _ _ _ h => h
        case hw9n => rfl
        case hy9n => (intro w hSw; (try dsimp only at hSw); go_simp <;> with_reducible rfl)
        try simp only [Act.put, List.setIfInBounds_toArray, List.set_cons_zero, List.set_cons_succ]
        refine wpAnyH_take (i := 10) (oi := ?oi10n) (v := ?v10n) ?hi10n (by kernel_rfl) (by kernel_rfl) (by kernel_rfl) ?hq10n (Or.inl ⟨?hw10n, ?hy10n⟩) (by assumption) ?rest10n
        case hi10n => (simp only [List.getElem?_toArray, List.getElem?_cons_succ, List.getElem?_cons_zero]; rfl)
        case hq10n => exact fun _ _ _ h => h
        case hw10n => rfl
        case hy10n => (intro w hSw; (try dsimp only at hSw); go_simp <;> with_reducible rfl)
        try simp only [Act.put, List.setIfInBounds_toArray, List.set_cons_zero, List.set_cons_succ]
        refine wpAnyH_ready (rs := [11]) (by kernel_rfl) (by simp) ?_
        refine AllReadyH.cons (o := ?o11n) ?hi11n (fun K hK => ?st11n) AllReadyH.nil
        case hi11n => (simp only [List.getElem?_toArray, List.getElem?_cons_succ, List.getElem?_cons_zero]; rfl)
        go_simp
        have zE := fill3 hz6 (.int .i64 0) (.int .i64 (mark + 1)) (.slice none 0 0)
        have kE := keep3 w6 (bp + 1) (.int .i64 0) (.int .i64 (mark + 1)) (.slice none 0 0)
        generalize ((w6.setCell ⟨bp + 1, 0, none⟩ (.int .i64 0)).setCell ⟨bp + 1, 1, none⟩ (.int .i64 (mark + 1))).setCell ⟨bp + 1, 2, none⟩ (.slice none 0 0) = WE at zE kE ⊢
        have hEE := hE6.kept kE hap
        have hkE := hk6.trans (kE.mono (T := fun k => k = (bp + 1)) (fun _ _ e => e)) (fun i hi e => by omega)
        have sE := And.intro (kE.cell s6.1 (fun e => by dsimp only at e; omega)) (kE.cell s6.2 (fun e => by dsimp only at e; omega))
        have hoE := ho6.kept kE (fun g hg e => by have h1 := (ho6.lt g hg).1; have h2 := hz4.lt; omega)
        refine hK.out _ _ sE (fun hHeld2 => ?_)
        clear hK K hHeld
        have hHeld := hHeld2
        clear hHeld2
        try simp only [Act.put, List.setIfInBounds_toArray, List.set_cons_zero, List.set_cons_succ]
        refine wpAnyH_done (by kernel_rfl) ?_ _
        go_wp2
        obtain ⟨y0, y1, y2⟩ := (⟨zE.cell 0, zE.cell 1, zE.cell 2⟩ : _ ∧ _ ∧ _)
        simp at y0 y1 y2
        refine bodyPost_ret (v := .tuple #[.slice A6 body.length c6, .bool true, PKV 0 (mark + 1) none 0 0]) (by simp [results, Try.results19, go_sem, y0, y1, y2]) rfl ?_
        exact ⟨hkE, .inr (.inl ⟨hs1, _, rfl, hoE.mono (by have h1 := hk4.size; exact h1), _, _, hEE.mono fun k _ e => hFF k e, keptI_map a xs⟩)⟩
      · as_aux_lemma =>
        have hs2 : (s == mark + 1) = false := beq_eq_false_iff_ne.2 hs1
        go_wp2_with fail
        obtain ⟨w3, hw3⟩ : ∃ W, wr.setCell ⟨q, 0, none⟩ (.slice A7 N7 c7) = W := ⟨_, rfl⟩
        rw [hw3] at hE3 hq3 hz3 hkw hr3 ⊢
        clear hw3 z0 z1 z2 zf hzl f0 hql hE2 e0 e1 e2 b0 b1 hO hne kq hpc3 hq2 hz2 hsz2
        have b3 := hq3.cell 0
        simp at b3
        have m3 := hE3.fields.2.2
        go_region
        have hE4 := hE3.drew
        have hz4 := hz3.drew
        have hk4 := hkw.drew
        obtain ⟨w4, hw4⟩ : ∃ W, w3.drew = W := ⟨_, rfl⟩
        rw [hw4] at hE4 hz4 hk4 ⊢
        clear hw4 hE3 hq3 hz3 hkw hr3 b3 m3
        have m4 := hE4.drew.fields.2.2
        have zd0 := hz4.cell 0
        have zd1 := hz4.cell 1
        have zd2 := hz4.cell 2
        have zdf := fun i => hz4.frozen i
        have zdl := hz4.lt
        simp at zd0 zd1 zd2
        go_wp2
        refine wp_region_held_drew (S := (fun W => W.cell? ⟨q, 2, none⟩ = some (.int .i64 mark))) (by kernel_rfl) m4 (fun hHeld => ?_)
        refine wpAnyH_take (i := 0) (oi := ?oi0o) (v := ?v0o) ?hi0o (by kernel_rfl) (by kernel_rfl) (by kernel_rfl) ?hq0o (Or.inl ⟨?hw0o, ?hy0o⟩) (by assumption) ?rest0o
        case hi0o => (simp only [List.getElem?_toArray, List.getElem?_cons_succ, List.getElem?_cons_zero]; rfl)
        case hq0o => exact fun _ _ _ h => h
        case hw0o => rfl
        case hy0o => (intro w hSw; (try dsimp only at hSw); go_simp <;> with_reducible rfl)
        try simp only [Act.put, List.setIfInBounds_toArray, List.set_cons_zero, List.set_cons_succ]
        refine wpAnyH_take (i := 1) (oi := ?oi1o) (v := ?v1o) ?hi1o (by kernel_rfl) (by kernel_rfl) (by kernel_rfl) ?hq1o (Or.inl ⟨?hw1o, ?hy1o⟩) (by assumption) ?rest1o
        case hi1o => (simp only [List.getElem?_toArray, List.getElem?_cons_succ, List.getElem?_cons_zero]; rfl)
        case hq1o => exact fun _ _ _ h => h
        case hw1o => rfl
        case hy1o => (intro w hSw; (try dsimp only at hSw); go_simp <;> with_reducible rfl)
        try simp only [Act.put, List.setIfInBounds_toArray, List.set_cons_zero, List.set_cons_succ]
        refine wpAnyH_take (i := 2) (oi := ?oi2o) (v := ?v2o) ?hi2o (by kernel_rfl) (by kernel_rfl) (by kernel_rfl) ?hq2o (Or.inl ⟨?hw2o, ?hy2o⟩) (by assumption) ?rest2o
        case hi2o => (simp only [List.getElem?_toArray, List.getElem?_cons_succ, List.getElem?_cons_zero]; rfl)
        case hq2o => exact fun _ _ _ h => h
        case hw2o => rfl
        case hy2o => (intro w hSw; (try dsimp only at hSw); go_simp <;> with_reducible rfl)
        try simp only [Act.put, List.setIfInBounds_toArray, List.set_cons_zero, List.set_cons_succ]
        refine wpAnyH_take (i := 3) (oi := ?oi3o) (v := ?v3o) ?hi3o (by kernel_rfl) (by kernel_rfl) (by kernel_rfl) ?hq3o (Or.inl ⟨?hw3o, ?hy3o⟩) (by assumption) ?rest3o
        case hi3o => (simp only [List.getElem?_toArray, List.getElem?_cons_succ, List.getElem?_cons_zero]; rfl)
        case hq3o => exact fun _ _ _ h => h
        case hw3o => rfl
        case hy3o => (intro w hSw; (try dsimp only at hSw); go_simp <;> with_reducible rfl)
        try simp only [Act.put, List.setIfInBounds_toArray, List.set_cons_zero, List.set_cons_succ]
        refine wpAnyH_take (i := 4) (oi := ?oi4o) (v := ?v4o) ?hi4o (by kernel_rfl) (by kernel_rfl) (by kernel_rfl) ?hq4o (Or.inl ⟨?hw4o, ?hy4o⟩) (by assumption) ?rest4o
        case hi4o => (simp only [List.getElem?_toArray, List.getElem?_cons_succ, List.getElem?_cons_zero]; rfl)
        case hq4o => exact fun _ _ _ h => h
        case hw4o => rfl
        case hy4o => (intro w hSw; (try dsimp only at hSw); go_simp <;> with_reducible rfl)
        try simp only [Act.put, List.setIfInBounds_toArray, List.set_cons_zero, List.set_cons_succ]
        refine wpAnyH_take (i := 5) (oi := ?oi5o) (v := ?v5o) ?hi5o (by kernel_rfl) (by kernel_rfl) (by kernel_rfl) ?hq5o (Or.inl ⟨?hw5o, ?hy5o⟩) (by assumption) ?rest5o
        case hi5o => (simp only [List.getElem?_toArray, List.getElem?_cons_succ, List.getElem?_cons_zero]; rfl)
        case hq5o => exact fun _ _ _ h => h
        case hw5o => rfl
        case hy5o => (intro w hSw; (try dsimp only at hSw); go_simp <;> with_reducible rfl)
        try simp only [Act.put, List.setIfInBounds_toArray, List.set_cons_zero, List.set_cons_succ]
        refine wpAnyH_take (i := 6) (oi := ?oi6o) (v := ?v6o) ?hi6o (by kernel_rfl) (by kernel_rfl) (by kernel_rfl) ?hq6o (Or.inl ⟨?hw6o, ?hy6o⟩) (by assumption) ?rest6o
        case hi6o => (simp only [List.getElem?_toArray, List.getElem?_cons_succ, List.getElem?_cons_zero]; rfl)
        case hq6o => exact fun _ _ _ h => h
        case hw6o => rfl
        case hy6o => (intro w hSw; (try dsimp only at hSw); go_simp <;> with_reducible rfl)
        try simp only [Act.put, List.setIfInBounds_toArray, List.set_cons_zero, List.set_cons_succ]
        refine wpAnyH_ready (rs := [7]) (by kernel_rfl) (by simp) ?_
        refine AllReadyH.cons (o := ?o7o) ?hi7o (fun K hK => ?st7o) AllReadyH.nil
        case hi7o => (simp only [List.getElem?_toArray, List.getElem?_cons_succ, List.getElem?_cons_zero]; rfl)
        go_simp
        have zE := fill3 hz4 (.int .i64 0) (.int .i64 mark) (.slice none 0 0)
        have kE := keep3 w4 (bp + 1) (.int .i64 0) (.int .i64 mark) (.slice none 0 0)
        generalize ((w4.setCell ⟨bp + 1, 0, none⟩ (.int .i64 0)).setCell ⟨bp + 1, 1, none⟩ (.int .i64 mark)).setCell ⟨bp + 1, 2, none⟩ (.slice none 0 0) = WE at zE kE ⊢
        have hEE := hE4.kept kE hap
        have hkE := hk4.trans (kE.mono (T := fun k => k = (bp + 1)) (fun _ _ e => e)) (fun i hi e => by omega)
        have mE := hEE.fields.2.2
        refine hK.out _ _ mE (fun hHeld2 => ?_)
        clear hK K hHeld
        have hHeld := hHeld2
        clear hHeld2
        try simp only [Act.put, List.setIfInBounds_toArray, List.set_cons_zero, List.set_cons_succ]
        refine wpAnyH_done (by kernel_rfl) ?_ _
        go_wp2
        obtain ⟨y0, y1, y2⟩ := (⟨zE.cell 0, zE.cell 1, zE.cell 2⟩ : _ ∧ _ ∧ _)
        simp at y0 y1 y2
        refine bodyPost_ret (v := .tuple #[.slice none 0 0, .bool false, PKV 0 mark none 0 0]) (by simp [results, Try.results19, go_sem, y0, y1, y2]) rfl ?_
        exact ⟨hkE.drew, .inr (.inr ⟨hs, hs1, rfl, _, _, hEE.drew.mono fun k _ e => hFF k e, keptI_map a xs⟩)⟩
end Go.Proofs.Ytfgceplafjbmhaa
