/- Totals: a slice that owns them, one more, whether one is not kept; the clone of a list of stocks; Goods. No condition but that they lie in memory. -/
import Derived.Test.YtipmamgmcipbfaaGdF
namespace Go.Proofs.Ytipmamgmcipbfaa
open Go.RowKit Go.Maps Go.Shelf Go.Sort
set_option linter.unusedVariables false
set_option linter.unusedSimpArgs false

structure GT where
  g : List UInt8
  r : Row
  y : Int
def GT.cs (x : GT) : List Value := [.string ⟨x.g.toArray⟩, .int .i64 x.r.fr, .int .i64 x.r.he, .int .i64 x.r.pi, .int .i64 x.r.sa, .int .i64 x.r.re, .int .i64 x.r.rt, .int .i64 x.r.cn, .int .i64 x.r.cm, .int .i64 x.r.sh, .int .i64 x.r.sc, .int .i64 x.r.se, .int .i64 x.y]
theorem GT.cs_len (x : GT) : x.cs.length = 13 := rfl
theorem GT.cs_one (x : GT) : ∀ u ∈ x.cs, u.oneCell' = true := by
  intro u hu
  simp [GT.cs] at hu
  rcases hu with rfl | rfl | rfl | rfl | rfl | rfl | rfl | rfl | rfl | rfl | rfl | rfl | rfl <;> rfl
theorem totz_info : (Try.prog.info? 33).map (fun i => (i.zero, i.size, i.bytes)) = some (some (.agg #[.string ⟨#[]⟩, .int .i64 0, .int .i64 0, .int .i64 0, .int .i64 0, .int .i64 0, .int .i64 0, .int .i64 0, .int .i64 0, .int .i64 0, .int .i64 0, .int .i64 0, .int .i64 0]), 13, 112) := by kernel_rfl
/-- The value v owns the rows l. -/
def TO (base : Nat) (w : World) (v : Value) (l : List GT) : Prop := w.ownsRow base 33 13 v l.length (l.flatMap GT.cs)
theorem tots_len (l : List GT) : (l.flatMap GT.cs).length = l.length * 13 := by
  induction l with
  | nil => rfl
  | cons x l ih => rw [List.flatMap_cons, List.length_append, ih, List.length_cons, GT.cs_len]; omega
theorem tots_get : ∀ (l : List GT) (j : Nat) (x : GT) (i : Nat) (c : Value), l[j]? = some x → x.cs[i]? = some c → (l.flatMap GT.cs)[j * 13 + i]? = some c
  | [], j, x, i, c, h, _ => by simp at h
  | y :: l, 0, x, i, c, h, h' => by
    simp at h
    subst h
    have hi := (List.getElem?_eq_some_iff.1 h').1
    rw [List.flatMap_cons, List.getElem?_append_left (by omega), show 0 * 13 + i = i by omega]
    exact h'
  | y :: l, j + 1, x, i, c, h, h' => by
    have := tots_get l j x i c (by simpa using h) h'
    rw [List.flatMap_cons, show (j + 1) * 13 + i = y.cs.length + (j * 13 + i) by rw [GT.cs_len]; omega, List.getElem?_append_right (by omega)]
    simpa using this
section
variable {base : Nat} {w w' : World} {v : Value} {l : List GT}
theorem TO.nil (base : Nat) (w : World) : TO base w (.slice none 0 0) [] := World.ownsRow_nil _ _ _ _
theorem TO.form (h : TO base w v l) : ∃ A cap, v = .slice A l.length cap ∧ l.length ≤ cap ∧ cap ≤ maxLen ∧ ∀ (j : Nat) (x : GT), l[j]? = some x → ∃ b, A = some ⟨b, 0, none⟩ ∧ ∀ i c, x.cs[i]? = some c → w.cell? ⟨b, j * 13 + i, none⟩ = some c := by
  rcases h.2 with ⟨rfl, h0⟩ | ⟨g, cap, cur, rfl, hb, hh, hl, hm, hs, ht⟩
  · have : l = [] := List.eq_nil_of_length_eq_zero h0
    subst this
    exact ⟨none, 0, rfl, Nat.le_refl _, by simp [maxLen], fun j x hx => by simp at hx⟩
  · refine ⟨_, cap, rfl, hl, hm, fun j x hx => ⟨g, rfl, fun i c hc => ?_⟩⟩
    have hj := World.ownsRow.cells h (g := g) rfl _ _ (tots_get l j x i c hx hc)
    rw [Addr.add_lit, Nat.zero_add] at hj
    exact hj
theorem TO.kept {S : Nat → Prop} (h : TO base w v l) (k : Keep S w w') (hs : ∀ g, v.ownBlock = some g → ¬ S g) : TO base w' v l := by
  refine ⟨h.1, ?_⟩
  rcases h.2 with hn | ⟨g, cap, cur, rfl, hb, hgg, rest⟩
  · exact .inl hn
  · refine .inr ⟨g, cap, cur, rfl, hb, ?_, rest⟩
    rw [k.block g (Array.getElem?_eq_some_iff.1 hgg).1 (hs g rfl)]
    exact hgg
theorem TO.lt (h : TO base w v l) : ∀ k, v.ownBlock = some k → base ≤ k ∧ k < w.heap.size := World.ownsRow.lt h
theorem TO.alloc (h : TO base w v l) (o : Obj) : TO base (w.alloc o) v l := h.kept ((Keep.refl (fun _ => False) w).alloc o) fun _ _ => id
theorem TO.drew (h : TO base w v l) : TO base w.drew v l := h
theorem TO.below (h : TO base w v l) (k : Below w.heap.size w w') : TO base w' v l := h.kept (Keep.of_below k) fun g hg => by have := (h.lt g hg).2; omega
theorem TO.mono {b' : Nat} (h : TO base w v l) (hb : b' ≤ base) : TO b' w v l := by
  refine ⟨h.1, ?_⟩
  rcases h.2 with hn | ⟨g, cap, cur, hv, hbb, rest⟩
  · exact .inl hn
  · exact .inr ⟨g, cap, cur, hv, by omega, rest⟩
theorem TO.blk (h : TO base w v l) : ∀ g, v.ownBlock = some g → ∃ o : Obj, w.heap[g]? = some o ∧ o.isCells = true := by
  intro g hg
  rcases h.2 with ⟨rfl, _⟩ | ⟨g', cap, cur, rfl, _, hgg, _⟩
  · simp [Value.ownBlock] at hg
  · simp [Value.ownBlock] at hg
    subst hg
    exact ⟨_, hgg, rfl⟩
end
theorem run_appT (w : World) (base : Nat) (ty : TypeId) (v : Value) (l : List GT) (hown : TO base w v l) (ad : Addr) (x : GT) (hc : ∀ j u, x.cs[j]? = some u → w.cell? (ad.add j) = some u)
    (hn : (l.length + 1) * 112 ≤ 140737488355328) (hbase : base ≤ w.heap.size) :
    ∃ v' w', (Builtin.append_ #[38, 38] ty #[v, .slice (some ad) 1 1]).run Try.prog w = .ok v' w' ∧ TO base w' v' (l ++ [x]) ∧ Keep (fun k => v.ownBlock = some k) w w' ∧ (v'.ownBlock = v.ownBlock ∨ v'.ownBlock = some w.heap.size) := by
  obtain ⟨i, hi, hz, hs, hb⟩ := info_parts totz_info
  obtain ⟨v', w', hrun, h2, h3, _, h5⟩ := run_append_own_at (P := Try.prog) w base 38 ty 33 i (.agg #[.string ⟨#[]⟩, .int .i64 0, .int .i64 0, .int .i64 0, .int .i64 0, .int .i64 0, .int .i64 0, .int .i64 0, .int .i64 0, .int .i64 0, .int .i64 0, .int .i64 0, .int .i64 0]) 13 112 Try.underlying38 hi hz hs hb rfl (by decide) v l.length (l.flatMap GT.cs) hown ad 1 1 x.cs
    (by rw [GT.cs_len]) hc x.cs_one (by simp only [maxLen]; omega) (by omega) hbase
  refine ⟨v', w', hrun, ?_, Keep.of_grown h3, h5⟩
  show w'.ownsRow base 33 13 v' (l ++ [x]).length ((l ++ [x]).flatMap GT.cs)
  rw [List.length_append, List.flatMap_append]
  simpa using h2
theorem wp_appT {w : World} {o : Oper} {a : Act} {K : Act → World → Prop} {Q : Exit → Act → World → Prop} (s x : Operand) (ho : o.op = .call { callee := .builtin .append, args := #[s, x], argTypes := #[38, 38] })
    (base : Nat) (v : Value) (l : List GT) (hs : a.eval s = v) (hown : TO base w v l) (ad : Addr) (r : GT) (hx : a.eval x = .slice (some ad) 1 1) (hc : ∀ j u, r.cs[j]? = some u → w.cell? (ad.add j) = some u)
    (hn : (l.length + 1) * 112 ≤ 140737488355328) (hbase : base ≤ w.heap.size)
    (h : ∀ v' w', TO base w' v' (l ++ [r]) → Keep (fun k => v.ownBlock = some k) w w' → (v'.ownBlock = v.ownBlock ∨ v'.ownBlock = some w.heap.size) → K (a.put o.dst v') w') : o.wp Try.prog a w K Q := by
  obtain ⟨v', w', hrun, h2, h3, h4⟩ := run_appT w base o.type v l hown ad r hc hn hbase
  unfold Oper.wp execOp
  simp only [ho, resolve, invoke, builtin, Sem.run_bind, Sem.run_pure, Result.andThen_ok, List.map_toArray, List.map_cons, List.map_nil, hs, hx, hrun]
  exact h v' w' h2 h3 h4
theorem TO.row {base : Nat} {W W' : World} {v : Value} {l : List GT} {row : Option Nat} {n : Nat} (h : TO base W v l) (hg : W.grownBy W' row) (hr : ∀ r, row = some r → n ≤ r ∧ ∃ o : Obj, W.heap[r]? = some o ∧ o.isCells = false) : TO base W' v l :=
  h.kept (Keep.of_grown hg) fun g hgb => by
    obtain ⟨o, h1, h2⟩ := h.blk g hgb
    exact row_not hr h1 h2
theorem TO.putD {base D : Nat} {W : World} {v : Value} {l : List GT} (h : TO base W v l) (hD : W.heap[D]? = some (.deferred (some []))) : TO base (W.putObj D (.deferred none)) v l :=
  h.kept (Keep.of_grown (grownBy_putObj' W D _)) fun g hgb e => by
    obtain ⟨o, h1, h2⟩ := h.blk g hgb
    cases e
    rw [hD] at h1
    cases h1
    cases h2
theorem anyT_step {l : List GT} {p : GT → Bool} {k : Nat} {x : GT} (h : ∀ y ∈ l.take k, p y = false) (hx : l[k]? = some x) (hp : p x = false) : ∀ y ∈ l.take (k + 1), p y = false := by
  intro y hy
  rw [List.take_add_one, hx] at hy
  rcases List.mem_append.1 hy with m | m
  · exact h y m
  · simp at m
    rw [m]
    exact hp
theorem anyT_found {l : List GT} {p : GT → Bool} {k : Nat} {x : GT} (hx : l[k]? = some x) (hp : p x = true) : l.any p = true := List.any_eq_true.2 ⟨x, List.mem_of_getElem? hx, hp⟩
theorem anyT_end {l : List GT} {p : GT → Bool} {k : Nat} (h : ∀ y ∈ l.take k, p y = false) (hk : l.length ≤ k) : l.any p = false := by
  rw [List.take_of_length_le hk] at h
  cases e : l.any p with
  | false => rfl
  | true =>
    obtain ⟨y, hy, hp⟩ := List.any_eq_true.1 e
    rw [h y hy] at hp
    cases hp
def unkept (x : GT) : Bool := !keptB x.r x.y
set_option maxRecDepth 100000 in
set_option maxHeartbeats 1600000 in
theorem hg_kept (x : GT) (W : World) : Calls Try.prog 39 #[.agg x.cs.toArray] W fun e w' => e = .returned (.bool (unkept x)) ∧ Below W.heap.size W w' := by
  obtain ⟨x0, ⟨x1, x2, x3, x4, x5, x6, x7, x8, x9, x10, x11⟩, x12⟩ := x
  have hk := fun W => gkept_any x0 ⟨x1, x2, x3, x4, x5, x6, x7, x8, x9, x10, x11⟩ x12 W
  unfold unkept
  generalize keptB (⟨x1, x2, x3, x4, x5, x6, x7, x8, x9, x10, x11⟩ : Row) x12 = kb at hk ⊢
  unfold totV at hk
  show Calls Try.prog 39 #[.agg #[.string ⟨x0.toArray⟩, .int .i64 x1, .int .i64 x2, .int .i64 x3, .int .i64 x4, .int .i64 x5, .int .i64 x6, .int .i64 x7, .int .i64 x8, .int .i64 x9, .int .i64 x10, .int .i64 x11, .int .i64 x12]] W _
  have hB := Blk.new W 33 #[.string ⟨x0.toArray⟩, .int .i64 x1, .int .i64 x2, .int .i64 x3, .int .i64 x4, .int .i64 x5, .int .i64 x6, .int .i64 x7, .int .i64 x8, .int .i64 x9, .int .i64 x10, .int .i64 x11, .int .i64 x12]
  have hb0 := (Below.refl W.heap.size W).alloc (Nat.le_refl _) (.cells #[.string ⟨x0.toArray⟩, .int .i64 x1, .int .i64 x2, .int .i64 x3, .int .i64 x4, .int .i64 x5, .int .i64 x6, .int .i64 x7, .int .i64 x8, .int .i64 x9, .int .i64 x10, .int .i64 x11, .int .i64 x12] 33)
  go_enter Try.func39, Try.ntmps39
  go_wp2_with (first | (refine wpLoadM 33 (by rfl) (.tmp 1) rfl rfl hB _ Try.underlying33 rfl (by rw [tot_info]; rfl) ?_) | (go_at_call 15; refine (hk _).mono ?_; rintro e w' ⟨rfl, hb2⟩))
  go_ret
  exact ⟨rfl, hb0.trans (hb2.mono hb0.size)⟩
set_option maxRecDepth 100000 in
set_option maxHeartbeats 1600000 in
theorem idx_kept {base : Nat} {v : Value} {l : List GT} {w : World} (h : TO base w v l) :
    Calls Try.prog 57 #[v, .func (.func 39) #[] #[]] w fun e w' => ∃ j : Int, e = .returned (.int .i64 j) ∧ decide (0 ≤ j) = l.any unkept ∧ Below w.heap.size w w' := by
  obtain ⟨A, cap, rfl, h1, h2, _⟩ := h.form
  have hmx : l.length ≤ 9223372036854775807 := by simp only [maxLen] at h2; omega
  obtain ⟨N, hN⟩ : ∃ N, l.length = N := ⟨_, rfl⟩
  have hpl : ∀ (W : World), Below w.heap.size w W → ∀ (j : Nat) (x : GT), l[j]? = some x → ∃ b, A = some ⟨b, 0, none⟩ ∧ ∀ i c, x.cs[i]? = some c → W.cell? ⟨b, j * 13 + i, none⟩ = some c := fun W hb => by
    obtain ⟨A', cap', e, _, _, hp⟩ := (h.below hb).form
    cases e
    exact hp
  rw [hN] at hmx ⊢
  replace hN := Lib.hid hN
  clear h h1 h2
  go_enter Try.func57, Try.ntmps57
  go_wp2
  go_loopw [8] (fun i wr => ∃ k : Nat, i = .int .i64 (k : Int) ∧ k ≤ N ∧ Below w.heap.size w wr ∧ Hid (∀ y ∈ l.take k, unkept y = false)) (fun i _ => N - (intOf i).toNat)
  case atStart => exact ⟨0, by go_num, by omega, Below.refl _ _, Lib.hid (fun y hy => by simp at hy)⟩
  case round =>
    obtain ⟨k, rfl, hk, hb, hf⟩ := hrel
    by_cases hlt : k < N
    · have hlz : (k : Int) < (N : Int) := by omega
      have hlk : k < l.length := by rw [hN.out]; exact hlt
      obtain ⟨x, hx⟩ : ∃ x, l[k]? = some x := ⟨_, List.getElem?_eq_getElem hlk⟩
      obtain ⟨b, rfl, hc⟩ := hpl wr hb k x hx
      have hon := hg_kept x wr
      have hbz := hb.size
      cases hpx : unkept x with
      | true =>
        rw [hpx] at hon
        have HX := Lib.hid (anyT_found hx hpx)
        clear hx hpx hf hpl hlk
        obtain ⟨x0, ⟨x1, x2, x3, x4, x5, x6, x7, x8, x9, x10, x11⟩, x12⟩ := x
        have y0 := hc 0 _ rfl
        have y1 := hc 1 _ rfl
        have y2 := hc 2 _ rfl
        have y3 := hc 3 _ rfl
        have y4 := hc 4 _ rfl
        have y5 := hc 5 _ rfl
        have y6 := hc 6 _ rfl
        have y7 := hc 7 _ rfl
        have y8 := hc 8 _ rfl
        have y9 := hc 9 _ rfl
        have y10 := hc 10 _ rfl
        have y11 := hc 11 _ rfl
        have y12 := hc 12 _ rfl
        simp only [Nat.add_zero] at y0
        clear hc
        change Calls _ _ #[.agg #[.string ⟨x0.toArray⟩, .int .i64 x1, .int .i64 x2, .int .i64 x3, .int .i64 x4, .int .i64 x5, .int .i64 x6, .int .i64 x7, .int .i64 x8, .int .i64 x9, .int .i64 x10, .int .i64 x11, .int .i64 x12]] _ _ at hon
        go_wp2_with fail
        refine hon.mono ?_
        rintro e w' ⟨rfl, hb2⟩
        clear hon
        go_wp2
        go_ret
        exact ⟨_, rfl, by rw [HX.out]; exact decide_eq_true (by omega), hb.trans (hb2.mono hbz)⟩
      | false =>
        rw [hpx] at hon
        have hf2 := Lib.hid (anyT_step hf.out hx hpx)
        clear hx hpx hf hlk
        obtain ⟨x0, ⟨x1, x2, x3, x4, x5, x6, x7, x8, x9, x10, x11⟩, x12⟩ := x
        have y0 := hc 0 _ rfl
        have y1 := hc 1 _ rfl
        have y2 := hc 2 _ rfl
        have y3 := hc 3 _ rfl
        have y4 := hc 4 _ rfl
        have y5 := hc 5 _ rfl
        have y6 := hc 6 _ rfl
        have y7 := hc 7 _ rfl
        have y8 := hc 8 _ rfl
        have y9 := hc 9 _ rfl
        have y10 := hc 10 _ rfl
        have y11 := hc 11 _ rfl
        have y12 := hc 12 _ rfl
        simp only [Nat.add_zero] at y0
        clear hc
        change Calls _ _ #[.agg #[.string ⟨x0.toArray⟩, .int .i64 x1, .int .i64 x2, .int .i64 x3, .int .i64 x4, .int .i64 x5, .int .i64 x6, .int .i64 x7, .int .i64 x8, .int .i64 x9, .int .i64 x10, .int .i64 x11, .int .i64 x12]] _ _ at hon
        go_wp2_with fail
        refine hon.mono ?_
        rintro e w' ⟨rfl, hb2⟩
        clear hon
        go_wp2
        go_roundw
        case measure => simp [intOf]; omega
        case rel => exact ⟨k + 1, by go_num, by omega, hb.trans (hb2.mono hbz), hf2⟩
    · have hkn : k = N := by omega
      have hlz : ¬ (k : Int) < (N : Int) := by omega
      have hf2 := Lib.hid (anyT_end hf.out (by rw [hN.out]; omega))
      clear hf hkn hpl
      go_wp2
      go_ret
      exact ⟨_, rfl, by rw [hf2.out]; rfl, hb⟩
theorem has_kept {base : Nat} {v : Value} {l : List GT} {w : World} (h : TO base w v l) :
    Calls Try.prog 38 #[v, .func (.func 39) #[] #[]] w fun e w' => e = .returned (.bool (l.any unkept)) ∧ Below w.heap.size w w' := by
  have key := idx_kept h
  obtain ⟨A, cap, rfl, h1, h2, _⟩ := h.form
  go_enter Try.func38, Try.ntmps38
  go_wp2_with fail
  refine key.mono ?_
  rintro e w' ⟨j, rfl, hj, hb⟩
  clear key
  go_wp2
  go_ret
  exact ⟨by rw [← hj]; rfl, hb⟩
theorem VL.none_zero {w : World} {A : Option Addr} {n : Nat} {l : List Value} (h : VL w A n l) (ha : A = none) : n = 0 := by
  rcases Nat.eq_zero_or_pos n with h0 | h0
  · exact h0
  · obtain ⟨b, off, x, e, _⟩ := h.place h0
    rw [ha] at e
    cases e
theorem run_appPs (w : World) (base : Nat) (ty : TypeId) (v : Value) (l : List Value) (hown : PO base w v l) (A : Option Addr) (m c : Nat) (news : List Value) (hr : VL w A m news) (h1 : ∀ u ∈ news, u.oneCell' = true) (ad : Addr) (hA : A = some ad)
    (hn : (l.length + m) * 8 ≤ 140737488355328) (hbase : base ≤ w.heap.size) :
    ∃ v' w', (Builtin.append_ #[23, 23] ty #[v, .slice A m c]).run Try.prog w = .ok v' w' ∧ PO base w' v' (l ++ news) ∧ Keep (fun k => v.ownBlock = some k) w w' ∧ (v'.ownBlock = v.ownBlock ∨ v'.ownBlock = some w.heap.size) := by
  obtain ⟨i, hi, hz, hs, hb⟩ := info_parts ptr_info
  subst hA
  obtain ⟨v', w', hrun, h2, h3, _, h5⟩ := run_append_own_at (P := Try.prog) w base 23 ty 48 i (.pointer none) 1 8 Try.underlying23 hi hz hs hb rfl (by decide) v l.length l hown ad m c news
    (by rw [hr.len]; simp) (fun j u hu => by
      obtain ⟨b, off, he, h2⟩ := hr.at_ j u hu
      cases he
      rw [Addr.add_lit]
      exact h2) h1 (by simp only [maxLen]; omega) (by omega) hbase
  refine ⟨v', w', hrun, ?_, Keep.of_grown h3, h5⟩
  show w'.ownsRow base 48 1 v' (l ++ news).length (l ++ news)
  rw [List.length_append, hr.len]
  exact h2
theorem wpAppPs {w : World} {ops : Array Oper} {rest : List Oper} {o : Oper} {a : Act} {Q : Exit → Act → World → Prop} (hgd : o.guard = none) (s x : Operand) (ho : o.op = .call { callee := .builtin .append, args := #[s, x], argTypes := #[23, 23] })
    (base : Nat) (v : Value) (l : List Value) (hs : a.eval s = v) (hown : PO base w v l) (A : Option Addr) (m c : Nat) (news : List Value) (hx : a.eval x = .slice A m c) (hr : VL w A m news) (h1 : ∀ u ∈ news, u.oneCell' = true) (ad : Addr) (hA : A = some ad)
    (hn : (l.length + m) * 8 ≤ 140737488355328) (hbase : base ≤ w.heap.size)
    (h : ∀ v' w', PO base w' v' (l ++ news) → Keep (fun k => v.ownBlock = some k) w w' → (v'.ownBlock = v.ownBlock ∨ v'.ownBlock = some w.heap.size) → wpList Try.prog ops Q rest (a.put o.dst v') w') : wpList Try.prog ops Q (o :: rest) a w := by
  refine wpList_plain hgd fun K hK => ?_
  obtain ⟨v', w', hrun, h2, h3, h4⟩ := run_appPs w base o.type v l hown A m c news hr h1 ad hA hn hbase
  unfold Oper.wp execOp
  simp only [ho, resolve, invoke, builtin, Sem.run_bind, Sem.run_pure, Result.andThen_ok, List.map_toArray, List.map_cons, List.map_nil, hs, hx, hrun]
  exact hK _ _ (h v' w' h2 h3 h4)
theorem PO.made (base : Nat) (w : World) (hb : base ≤ w.heap.size) : PO base (w.alloc (.cells #[] 48)) (.slice (some ⟨w.heap.size, 0, none⟩) 0 0) [] :=
  ⟨rfl, .inr ⟨w.heap.size, 0, #[], rfl, hb, heap_alloc_new w _, Nat.le_refl _, by simp [maxLen], rfl, rfl⟩⟩
set_option maxRecDepth 100000 in
set_option maxHeartbeats 1600000 in
theorem pclone_any (A : Option Addr) (n c : Nat) (l : List Value) (w : World) (hl : VL w A n l) (h1 : ∀ u ∈ l, u.oneCell' = true) (hn : n * 8 ≤ 140737488355328) :
    Calls Try.prog 36 #[.slice A n c] w fun e w' => ∃ v, e = .returned v ∧ PO w.heap.size w' v l ∧ Below w.heap.size w w' := by
  have hq := fun w => Lib.run_eql_slice_nil (P := Try.prog) w _ _ A n c 0 0 Try.underlying23
  have hlen := hl.len
  cases A with
  | none =>
    have h0 := hl.none_zero rfl
    subst h0
    obtain rfl : l = [] := List.eq_nil_of_length_eq_zero hlen
    go_enter Try.func36, Try.ntmps36
    go_wp2
    go_ret
    exact ⟨_, rfl, PO.nil _ _, Below.refl _ _⟩
  | some ad =>
    go_enter Try.func36, Try.ntmps36
    go_wp2_with (at_builtin; refine wpAppPs rfl _ _ rfl w.heap.size _ [] rfl (PO.made _ _ (Nat.le_refl _)) (some ad) n c l rfl (hl.below ((Below.refl _ w).alloc (Nat.le_refl _) _)) h1 ad rfl (by simp; omega) (by simp) ?_; rintro v' w3 hO3 hk3 hl3)
    go_ret
    rw [List.nil_append] at hO3
    refine ⟨_, rfl, hO3, ((Below.refl w.heap.size w).alloc (Nat.le_refl _) _).trans (hk3.below (by simp) (own_lt rfl))⟩
set_option maxRecDepth 100000 in
set_option maxHeartbeats 1600000 in
theorem gds_any (A : Option Addr) (n c : Nat) (l : List Value) (w : World) (hl : VL w A n l) (h1 : ∀ u ∈ l, u.oneCell' = true) (hn : n * 8 ≤ 140737488355328) :
    Calls Try.prog 14 #[.slice A n c] w fun e w' => ∃ B A' c', e = .returned (.func (.func 37) #[] #[.pointer (some ⟨B, 0, none⟩)]) ∧ CL w' B (.slice A' n c') ∧ VL w' A' n l ∧ Below w.heap.size w w' := by
  have hb0 := (Below.refl w.heap.size w).alloc (Nat.le_refl _) (.cells #[.slice A n c] 23)
  have hC0 := CL.new w (.slice A n c) 23
  have hc := pclone_any A n c l _ (hl.below hb0) h1 hn
  have hln := hl.len
  go_enter Try.func14, Try.ntmps14
  have hCa := hC0.at_
  go_wp2_with fail
  refine hc.mono ?_
  rintro e w1 ⟨v, rfl, hO, hb1⟩
  obtain ⟨A', c', rfl, -, -, hV⟩ := hO.form
  rw [hln] at hO hV ⊢
  have hC1 := hC0.below hb1
  have hCb := hC1.at_
  have hCf := hC1.fz
  have hbw := hb0.trans (hb1.mono hb0.size)
  have hC2 := hC1.set_ (.slice A' n c')
  have hlow : ∀ ad, A' = some ad → ¬ ad.block = w.heap.size := fun ad e h => by
    subst e
    have := (hO.lt ad.block rfl).1
    simp at this
    omega
  have hk := (Keep.refl (fun k => k = w.heap.size) w1).setCell (p := ⟨w.heap.size, 0, none⟩) (fun _ => rfl) (.slice A' n c')
  have hV2 := hV.kept hk hlow
  have hb2 := hbw.trans (hk.below (B := w.heap.size) hbw.size (fun i hi e => by omega))
  clear hO
  go_wp2
  go_ret
  exact ⟨_, A', c', rfl, hC2, hV2, hb2⟩
end Go.Proofs.Ytipmamgmcipbfaa
