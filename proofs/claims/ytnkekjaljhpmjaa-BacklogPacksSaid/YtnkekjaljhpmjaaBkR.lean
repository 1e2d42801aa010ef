/- Going over a backlog: a law of the loop; a nil one. No condition but that the body leaves rows of orders as they are. -/
import Derived.Test.YtnkekjaljhpmjaaBkC
import Derived.Test.YtnkekjaljhpmjaaSeq
namespace Go.Proofs.Ytnkekjaljhpmjaa
open Go.RowKit Go.Shelf
set_option linter.unusedVariables false
set_option linter.unusedSimpArgs false
attribute [local go_sem] Oper.semAt_some

theorem grown_below {w w' : World} (h : RowKit.Below w.heap.size w w') : w.grownBy w' none := ⟨h.os, h.tape, h.output, h.size, fun k hk _ => h.block k hk⟩
theorem bel_putD {n₀ D : Nat} {w W : World} (h : RowKit.Below n₀ w W) (hn : n₀ ≤ D) (hD : W.heap[D]? = some (.deferred (some []))) : RowKit.Below n₀ w (W.putObj D (.deferred none)) :=
  h.trans ((RowKit.Below.refl n₀ W).grown (grownBy_putObj' W D _) (by have := (Array.getElem?_eq_some_iff.1 hD).1; omega) (fun k e => by cases e; omega))
/-- Rows of orders lie as they lay. -/
structure KT (w w' : World) : Prop where
  size : w.heap.size ≤ w'.heap.size
  rows : ∀ (k : Nat) (cs : Array Value), w.heap[k]? = some (.cells cs 60 (0, 0)) → w'.heap[k]? = some (.cells cs 60 (0, 0))
theorem KT.refl (w : World) : KT w w := ⟨Nat.le_refl _, fun _ _ h => h⟩
theorem KT.trans {a b c : World} (h : KT a b) (k : KT b c) : KT a c := ⟨Nat.le_trans h.size k.size, fun i cs hi => k.rows i cs (h.rows i cs hi)⟩
theorem KT.put (W : World) (l : Nat) (o o' : Obj) (h : W.heap[l]? = some o) (ho : o.isCells = false) : KT W (W.putObj l o') :=
  ⟨by simp [World.putObj], fun k cs hk => by
    have hne : ¬ some l = some k := fun e => by cases e; rw [hk] at h; cases h; cases ho
    rw [(grownBy_putObj' W l o').block k (Array.getElem?_eq_some_iff.1 hk).1 (fun e => hne e.symm)]
    exact hk⟩
theorem KT.below {n₀ : Nat} {w w' : World} (h : RowKit.Below w.heap.size w w') : KT w w' := ⟨h.size, fun k cs hk => (h.block k (Array.getElem?_eq_some_iff.1 hk).1).trans hk⟩
/-- All but what is in S, where no row of orders is in S. -/
theorem KT.keep {S : Nat → Prop} {w w' : World} (h : Keep S w w') (hs : ∀ k cs, S k → w.heap[k]? ≠ some (.cells cs 60 (0, 0))) : KT w w' :=
  ⟨h.size, fun k cs hk => (h.block k (Array.getElem?_eq_some_iff.1 hk).1 fun hS => hs k cs hS hk).trans hk⟩
theorem WO.kt {base : Nat} {w w' : World} {v : Value} {l : List Wt} (h : WO base w v l) (k : KT w w') : WO base w' v l := by
  refine ⟨h.1, ?_⟩
  rcases h.2 with hn | ⟨g, cap, cur, rfl, hb, hgg, rest⟩
  · exact .inl hn
  · exact .inr ⟨g, cap, cur, rfl, hb, k.rows g cur hgg, rest⟩
abbrev OfW (l : List Wt) := { t : Wt // t ∈ l }
theorem attachW (l : List Wt) (k : Nat) (hk : k < l.length) : ∃ x : OfW l, l[k]? = some x.1 ∧ l.attach.take (k + 1) = l.attach.take k ++ [x] := by
  have hk' : k < l.attach.length := by simpa using hk
  refine ⟨l.attach[k], by simp [List.getElem?_eq_getElem hk], ?_⟩
  rw [List.take_add_one, List.getElem?_eq_getElem hk']
  rfl
set_option maxRecDepth 100000 in
set_option maxHeartbeats 1600000 in
theorem biter_in {F : Nat → Prop} (p : Nat) (o : Int) (x : List Wt) (l' B : Nat) (J Jx : List (OfW x) → World → Prop) (W : World) (hJ : AbidesFrom W.heap.size J)
    (hY : ∀ pre u W1, J pre W1 → pre.length < x.length → YieldAt Fence.wide 7 Try.prog l' #[.int .i64 u.1.k, .bool u.1.r] W1 fun e W' => (e = .returned (.bool true) ∧ J (pre ++ [u]) W' ∧ KT W1 W') ∨ (e = .returned (.bool false) ∧ Jx (pre ++ [u]) W'))
    (hc : W.cell? ⟨B, 0, none⟩ = some (.pointer (some ⟨p, 0, none⟩))) (hT : BK F W p x o) (hN : x.length ≤ 1048576) (h0 : J [] W) :
    CallsIn Fence.wide 8 Try.prog 37 #[.func (.yield l') #[] #[], .pointer (some ⟨B, 0, none⟩)] W fun e W' => (∃ v, e = .returned v) ∧ ((∃ xs, xs = x.attach ∧ J xs W') ∨ (∃ pre, pre <+: x.attach ∧ Jx pre W')) := by
  refine callsIn_of_wp Try.func37 rfl trivial ?_ rfl
  simp only [Try.ntmps37, List.size_toArray, List.length_cons, List.length_nil, Nat.reduceAdd, Nat.reduceSub, Array.replicate_succ, Array.replicate_zero, List.push_toArray, List.append_toArray, List.nil_append, List.cons_append]
  obtain ⟨v, hV⟩ := hT
  have hal := ball_any hV
  have hO0 := hV.own
  obtain ⟨A0, c0, rfl, _⟩ := hO0.form
  have hso := clone_any A0 x.length c0 x W hO0 hN
  clear hV hO0
  gi_wp2_with (first | (refine ⟨trivial, ?_⟩; gi_at_call 33; refine (callsIn_wide.2 hal).mono ?_; rintro e w1 ⟨rfl, hww⟩; subst w1) | (refine ⟨trivial, ?_⟩; gi_at_call 38; refine (callsIn_wide.2 hso).mono ?_; rintro e w2 ⟨A, cap, rfl, hO, hb⟩))
  have hJ2 := hJ _ _ _ none h0 (grown_below hb) (fun r e => by cases e)
  obtain ⟨n, hn⟩ : ∃ n, x.length = n := ⟨_, rfl⟩
  rw [hn] at hO hN ⊢
  have hnm : n ≤ 9223372036854775807 := by omega
  have hz2 := hb.size
  clear hso hal h0 hc hb
  gi_loopw [9] (fun i wr => ∃ k : Nat, i = .int .i64 (k : Int) ∧ k ≤ n ∧ J (x.attach.take k) wr ∧ WO W.heap.size wr (.slice A n cap) x ∧ W.heap.size ≤ wr.heap.size) (fun i _ => n - (intOf i).toNat)
  case atStart => exact ⟨0, by go_num, by omega, by simpa using hJ2, hO, hz2⟩
  case round =>
    obtain ⟨k, rfl, hk, hJs, hOr, hzr⟩ := hrel
    clear hJ2 hO
    by_cases hlt : k < n
    · have hlz : (k : Int) < (n : Int) := by omega
      have hk0 : (0 : Int) ≤ (k : Int) := by omega
      obtain ⟨u, hu, ht⟩ := attachW x k (by omega)
      obtain ⟨g, t, rfl, hx', c0, c1⟩ := hOr.place hlt
      rw [hu] at hx'
      cases hx'
      obtain ⟨fn, tmps, assign, body, hy, hR⟩ := hY _ u (wr.alloc (.cells #[.int .i64 u.1.k, .bool u.1.r] 60)) (hJ _ _ _ none hJs (World.grownBy_alloc wr _ none) (fun r e => by cases e)) (by simp; omega)
      have hO3 := hOr.alloc (.cells #[.int .i64 u.1.k, .bool u.1.r] 60)
      have hz3 : (wr.alloc (.cells #[.int .i64 u.1.k, .bool u.1.r] 60)).heap.size = wr.heap.size + 1 := by simp
      clear hu
      obtain ⟨⟨kk, ka⟩, hm⟩ := u
      dsimp only at hy c0 c1 hO3 hz3
      gi_wp2
      refine hR.mono ?_
      rintro e W3 (⟨rfl, hJ3, hk3⟩ | ⟨rfl, hJx3⟩)
      · have hO4 := hO3.kt hk3
        have hz4 := hk3.size
        clear hO3 hOr hJs
        gi_wp2
        go_roundw
        case rel => exact ⟨k + 1, by go_num, by omega, by rw [ht]; exact hJ3, hO4, by omega⟩
        case measure => simp [intOf]; omega
      · gi_wp2
        refine bodyPost_ret (results_none rfl _ _ _) rfl ?_
        exact ⟨⟨_, rfl⟩, .inr ⟨_, by rw [← ht]; exact List.take_prefix _ _, hJx3⟩⟩
    · have hlz : ¬ (k : Int) < (n : Int) := by omega
      have hkn : k = n := by omega
      rw [List.take_of_length_le (by simp; omega)] at hJs
      clear hkn
      gi_wp2
      go_end0
      exact ⟨⟨_, rfl⟩, .inl hJs⟩
theorem unattachW {l : List Wt} (pre : List (OfW l)) (x : OfW l) : (pre ++ [x]).map Subtype.val = pre.map Subtype.val ++ [x.1] := by simp
/-- 'for order, ready := range b.All()'. -/
theorem range_backlog {g : Operand} {ps : Array Tmp} {assign body : Code} {Q : Exit → Act → World → Prop} {a : Act} {w : World} {F : Nat → Prop} (p : Nat) (o : Int) (x : List Wt) (B : Nat)
    (hg : a.eval g = .func (.func 37) #[] #[.pointer (some ⟨B, 0, none⟩)]) (hps : ps.size = 2)
    (hc : w.cell? ⟨B, 0, none⟩ = some (.pointer (some ⟨p, 0, none⟩))) (hT : BK F w p x o) (hN : x.length ≤ 1048576)
    (I : List Wt → World → Prop) (Ix : Code → List Wt → World → Prop) (hI : OwnFrom w.heap.size I) (hIx : ∀ c, OwnFrom w.heap.size (Ix c)) (h0 : I [] w)
    (hround : ∃ a₁ : Wt → Act, (∀ (l' : Nat) (u : Wt) (W : World) (K : Act → World → Prop), u ∈ x → K (a₁ u) W →
      assign.wpIn (Fence.wide.inRound l') 7 Try.prog (Exit.then K (fun _ _ _ => False)) { tmps := (ps.zip #[.int .i64 u.k, .bool u.r]).foldl (fun t (p, v) => t.setIfInBounds p v) a.tmps, defers := [] } W) ∧
      (∀ (l' : Nat) (pre : List Wt) (u : Wt) (W : World), u ∈ x → w.heap.size ≤ W.heap.size → I pre W → pre.length < x.length → body.wpIn (Fence.wide.inRound l') 7 Try.prog (ownPostG w.heap.size KT I Ix (pre ++ [u]) W) (a₁ u) W))
    (hdone : ∀ (D : Nat) (W : World), w.heap.size ≤ D → I x W → W.heap[D]? = some (.deferred (some [])) → Q .normal { a with defers := { target := .collected D, args := #[] } :: a.defers } W)
    (hstop : ∀ (D : Nat) (c : Code) (pre : List Wt) (W : World), w.heap.size ≤ D → pre <+: x → Ix c pre W → W.heap[D]? = some (.deferred (some [])) → c.wpIn Fence.wide 9 Try.prog Q { a with defers := { target := .collected D, args := #[] } :: a.defers } W) :
    (Code.rangeFunc g ps assign body).wpIn Fence.wide 9 Try.prog Q a w := by
  obtain ⟨a₁, hassign, hbody⟩ := hround
  have hBw : B < w.heap.size := World.block_lt_of_cell? _ _ hc
  refine wpIn_rangeFunc_ownG (α := OfW x) (n := 9) (w0 := w) (encs := fun u => #[.int .i64 u.1.k, .bool u.1.r]) (Kp := KT) (S := fun xs => xs = x.attach) (Sp := fun pre => pre <+: x.attach) (N := x.length) rfl (by omega) hg trivial
    (enters_of Try.func37 (by kernel_rfl) rfl)
    (fun l' J Jx W hW hJ _ hY h0 => biter_in (F := F) p o x l' B J Jx W hJ hY ((hW.cell (p := ⟨B, 0, none⟩) hBw).trans hc) (hT.below hW) hN h0)
    (fun h k => h.trans k) (fun W l o o' _ h ho _ => KT.put W l o o' h ho) (RowKit.Below.refl _ _) (fun _ => hps.symm)
    (fun pre W => I (pre.map Subtype.val) W ∧ w.heap.size ≤ W.heap.size) (fun c pre W => Ix c (pre.map Subtype.val) W) (fun s W W' row h hg hr => ⟨hI _ W W' row h.1 hg hr, Nat.le_trans h.2 hg.size⟩) (fun c s W W' row h => hIx c _ W W' row h) ⟨h0, Nat.le_refl _⟩ (fun u => a₁ u.1)
    (fun l' u W K hK => hassign l' u.1 W K u.2 hK) (fun l' pre u W hi hlen => ?_) (fun D xs W hD hS hi hk => ?_) (fun D c pre W hD hS hi hk => ?_)
  · refine wpIn_mono (hbody l' _ u.1 W u.2 hi.2 hi.1 (by simpa using hlen)) ?_
    rw [← unattachW]
    intro e a W' h
    cases e with
    | normal => exact ⟨h.1, h.2.1, h.2.2, Nat.le_trans hi.2 h.2.1.size⟩
    | _ => exact h
  · subst hS
    refine hdone D W hD ?_ hk
    have hi := hi.1
    rwa [List.attach_map_subtype_val] at hi
  · refine hstop D c _ W hD ?_ hi hk
    have := hS.map Subtype.val
    rwa [List.attach_map_subtype_val] at this
set_option maxRecDepth 100000 in
set_option maxHeartbeats 1600000 in
theorem biter_nil_goes (B : Nat) (w : World) (hB : B < w.heap.size) (hc : w.cell? ⟨B, 0, none⟩ = some (.pointer none)) :
    SeqStopsK (α := Empty) Fence.wide 8 Try.prog 37 #[.pointer (some ⟨B, 0, none⟩)] (fun x => x.elim) (RowKit.Below w.heap.size) (fun _ => True) (fun _ => False) 0 w := fun l J Jx W hW hJ _ hY h0 => by
  have hc' := (hW.cell (p := ⟨B, 0, none⟩) hB).trans hc
  have hal := ball_nil W
  have hso := clone_any none 0 0 [] W (WO.nil _ _) (by omega)
  refine callsIn_of_wp Try.func37 rfl trivial ?_ rfl
  simp only [Try.ntmps37, List.size_toArray, List.length_cons, List.length_nil, Nat.reduceAdd, Nat.reduceSub, Array.replicate_succ, Array.replicate_zero, List.push_toArray, List.append_toArray, List.nil_append, List.cons_append]
  gi_wp2_with (first | (refine ⟨trivial, ?_⟩; gi_at_call 33; refine (callsIn_wide.2 hal).mono ?_; rintro e w1 ⟨rfl, hww⟩; subst w1) | (refine ⟨trivial, ?_⟩; gi_at_call 38; refine (callsIn_wide.2 hso).mono ?_; rintro e w2 ⟨A, cap, rfl, hO, hb⟩))
  have hJ2 := hJ _ _ _ none h0 (grown_below hb) (fun r e => by cases e)
  clear hso hal h0 hc hc' hb
  gi_loopw [9] (fun i wr => i = .int .i64 0 ∧ J [] wr) (fun i _ => 0)
  case atStart => exact ⟨rfl, hJ2⟩
  case round =>
    obtain ⟨rfl, hJs⟩ := hrel
    gi_wp2
    go_end0
    exact ⟨⟨_, rfl⟩, .inl ⟨[], trivial, hJs⟩⟩

end Go.Proofs.Ytnkekjaljhpmjaa
