/- Going over timers: a law of the loop. No condition but that the body leaves rows of timers as they are. -/
import Derived.Test.YtiinlcfggjcmoaaTmR
namespace Go.Proofs.Ytiinlcfggjcmoaa
open Go.RowKit Go.Maps Go.Sort Go.Shelf
set_option linter.unusedVariables false
set_option linter.unusedSimpArgs false
attribute [local go_sem] Oper.semAt_some

theorem iall_make (q : Option Addr) (w : World) : Calls Try.prog 23 #[.pointer q] w fun e w' => e = .returned (.func (.func 26) #[] #[.pointer (some ⟨w.heap.size, 0, none⟩)]) ∧ w' = w.alloc (.cells #[.pointer q] 28) := by
  go_enter Try.func23, Try.ntmps23
  go_wp2
  go_ret
  exact ⟨rfl, rfl⟩
set_option maxRecDepth 100000 in
set_option maxHeartbeats 1600000 in
theorem sorted_nil (w : World) : Calls Try.prog 27 #[.pointer none] w fun e w' => e = .returned (.slice none 0 0) ∧ RowKit.Below w.heap.size w w' := by
  have hr := run_range_nil w
  have hn := run_next_nil w w.heap.size rfl
  go_enter Try.func27, Try.ntmps27
  go_wp2_with fail
  refine (tall_nil _).mono ?_
  rintro e w' ⟨rfl, hww⟩
  subst w'
  go_wp2
  refine wp_loop_rounds 2 ?_
  rw [rounds_succ]
  go_wp2_with fail
  refine (sortT_any (base := 0) (TO.nil _ _) OrdT.nil (List.Perm.refl _) (by omega)).mono ?_
  rintro e w2 ⟨rfl, _, hK⟩
  have hb : RowKit.Below w.heap.size w w2 := ((RowKit.Below.refl w.heap.size w).alloc (Nat.le_refl _) _).trans (hK.below (by simp) (fun k _ e => by cases e))
  go_wp2
  go_ret
  exact ⟨rfl, hb⟩
/-- Rows of timers lie as they lay. -/
structure KT (w w' : World) : Prop where
  size : w.heap.size ≤ w'.heap.size
  rows : ∀ (k : Nat) (cs : Array Value), w.heap[k]? = some (.cells cs 56 (0, 0)) → w'.heap[k]? = some (.cells cs 56 (0, 0))
theorem KT.refl (w : World) : KT w w := ⟨Nat.le_refl _, fun _ _ h => h⟩
theorem KT.trans {a b c : World} (h : KT a b) (k : KT b c) : KT a c := ⟨Nat.le_trans h.size k.size, fun i cs hi => k.rows i cs (h.rows i cs hi)⟩
theorem KT.put (W : World) (l : Nat) (o o' : Obj) (h : W.heap[l]? = some o) (ho : o.isCells = false) : KT W (W.putObj l o') :=
  ⟨by simp [World.putObj], fun k cs hk => by
    have hne : ¬ some l = some k := fun e => by cases e; rw [hk] at h; cases h; cases ho
    rw [(grownBy_putObj' W l o').block k (Array.getElem?_eq_some_iff.1 hk).1 (fun e => hne e.symm)]
    exact hk⟩
theorem KT.below {n₀ : Nat} {w w' : World} (h : RowKit.Below w.heap.size w w') : KT w w' := ⟨h.size, fun k cs hk => (h.block k (Array.getElem?_eq_some_iff.1 hk).1).trans hk⟩
/-- All but what is in S, where no row of timers is in S. -/
theorem KT.keep {S : Nat → Prop} {w w' : World} (h : Keep S w w') (hs : ∀ k cs, S k → w.heap[k]? ≠ some (.cells cs 56 (0, 0))) : KT w w' :=
  ⟨h.size, fun k cs hk => (h.block k (Array.getElem?_eq_some_iff.1 hk).1 fun hS => hs k cs hS hk).trans hk⟩
theorem TO.kt {base : Nat} {w w' : World} {v : Value} {l : List Tm} (h : TO base w v l) (k : KT w w') : TO base w' v l := by
  refine ⟨h.1, ?_⟩
  rcases h.2 with hn | ⟨g, cap, cur, rfl, hb, hgg, rest⟩
  · exact .inl hn
  · exact .inr ⟨g, cap, cur, rfl, hb, k.rows g cur hgg, rest⟩
theorem TO.place {base : Nat} {w : World} {A : Option Addr} {n c : Nat} {l : List Tm} (h : TO base w (.slice A n c) l) {k : Nat} (hk : k < n) : ∃ g t, A = some ⟨g, 0, none⟩ ∧ l[k]? = some t ∧ w.cell? ⟨g, k * 2, none⟩ = some (.int .i64 t.1) ∧ w.cell? ⟨g, k * 2 + 1, none⟩ = some (.int .i64 t.2) := by
  obtain ⟨B, cap, e, _, _, _, _, h3⟩ := h.form
  injection e with e1 e2 e3
  have hl : k < l.length := by omega
  obtain ⟨g, rfl, hc⟩ := h3 k _ (List.getElem?_eq_getElem hl)
  exact ⟨g, l[k], e1, List.getElem?_eq_getElem hl, hc 0 _ rfl, hc 1 _ rfl⟩
abbrev OfT (l : List Tm) := { t : Tm // t ∈ l }
theorem attachT (l : List Tm) (k : Nat) (hk : k < l.length) : ∃ x : OfT l, l[k]? = some x.1 ∧ l.attach.take (k + 1) = l.attach.take k ++ [x] := by
  have hk' : k < l.attach.length := by simpa using hk
  refine ⟨l.attach[k], by simp [List.getElem?_eq_getElem hk], ?_⟩
  rw [List.take_add_one, List.getElem?_eq_getElem hk']
  rfl
set_option maxRecDepth 100000 in
set_option maxHeartbeats 1600000 in
theorem titer_in (p b N : Nat) (x : List Tm) (l' B : Nat) (J Jx : List (OfT x) → World → Prop) (W : World) (hJ : AbidesFrom W.heap.size J)
    (hY : ∀ pre u W1, J pre W1 → pre.length < x.length → YieldAt Fence.wide 7 Try.prog l' #[.int .i64 u.1.1, .int .i64 u.1.2] W1 fun e W' => (e = .returned (.bool true) ∧ J (pre ++ [u]) W' ∧ KT W1 W') ∨ (e = .returned (.bool false) ∧ Jx (pre ++ [u]) W'))
    (hc : W.cell? ⟨B, 0, none⟩ = some (.pointer (some ⟨p, 0, none⟩))) (hT : TM W p b N x) (hN : N ≤ 1048576) (h0 : J [] W) :
    CallsIn Fence.wide 8 Try.prog 26 #[.func (.yield l') #[] #[], .pointer (some ⟨B, 0, none⟩)] W fun e W' => (∃ v, e = .returned v) ∧ ((∃ xs, xs = x.attach ∧ J xs W') ∨ (∃ pre, pre <+: x.attach ∧ Jx pre W')) := by
  refine callsIn_of_wp Try.func26 rfl trivial ?_ rfl
  simp only [Try.ntmps26, List.size_toArray, List.length_cons, List.length_nil, Nat.reduceAdd, Nat.reduceSub, Array.replicate_succ, Array.replicate_zero, List.push_toArray, List.append_toArray, List.nil_append, List.cons_append]
  have hso := sorted_any hT hN
  gi_wp2_with (refine ⟨trivial, ?_⟩; gi_at_call 27; refine (callsIn_wide.2 hso).mono ?_; rintro e w2 ⟨v, rfl, hO, hb⟩; obtain ⟨A, cap, rfl, hcl, hcm, _⟩ := hO.form)
  have hJ2 := hJ _ _ _ none h0 (grown_below hb) (fun r e => by cases e)
  obtain ⟨n, hn⟩ : ∃ n, x.length = n := ⟨_, rfl⟩
  rw [hn] at hO hcl ⊢
  have hnm : n ≤ 9223372036854775807 := by have := hT.size; omega
  have hz2 := hb.size
  clear hso h0 hc hb
  gi_loopw [8] (fun i wr => ∃ k : Nat, i = .int .i64 (k : Int) ∧ k ≤ n ∧ J (x.attach.take k) wr ∧ TO W.heap.size wr (.slice A n cap) x ∧ W.heap.size ≤ wr.heap.size) (fun i _ => n - (intOf i).toNat)
  case atStart => exact ⟨0, by go_num, by omega, by simpa using hJ2, hO, hz2⟩
  case round =>
    obtain ⟨k, rfl, hk, hJs, hOr, hzr⟩ := hrel
    clear hJ2 hO
    by_cases hlt : k < n
    · have hlz : (k : Int) < (n : Int) := by omega
      have hk0 : (0 : Int) ≤ (k : Int) := by omega
      obtain ⟨u, hu, ht⟩ := attachT x k (by omega)
      obtain ⟨g, t, rfl, hx', c0, c1⟩ := hOr.place hlt
      rw [hu] at hx'
      cases hx'
      obtain ⟨fn, tmps, assign, body, hy, hR⟩ := hY _ u (wr.alloc (.cells #[.int .i64 u.1.1, .int .i64 u.1.2] 56)) (hJ _ _ _ none hJs (World.grownBy_alloc wr _ none) (fun r e => by cases e)) (by simp; omega)
      have hO3 := hOr.alloc (.cells #[.int .i64 u.1.1, .int .i64 u.1.2] 56)
      have hz3 : (wr.alloc (.cells #[.int .i64 u.1.1, .int .i64 u.1.2] 56)).heap.size = wr.heap.size + 1 := by simp
      clear hu
      obtain ⟨⟨kk, ka⟩, hm⟩ := u
      dsimp only at hy c0 c1 hO3 hz3
      gi_wp2
      refine hR.mono ?_
      rintro e W3 (⟨rfl, hJ3, hk3⟩ | ⟨rfl, hJx3⟩)
      · have hO4 := hO3.kt hk3
        have hz4 := hk3.size
        clear hO3 hOr hJs
        gi_wp2
        go_roundw
        case rel => exact ⟨k + 1, by go_num, by omega, by rw [ht]; exact hJ3, hO4, by omega⟩
        case measure => simp [intOf]; omega
      · gi_wp2
        refine bodyPost_ret (results_none rfl _ _ _) rfl ?_
        exact ⟨⟨_, rfl⟩, .inr ⟨_, by rw [← ht]; exact List.take_prefix _ _, hJx3⟩⟩
    · have hlz : ¬ (k : Int) < (n : Int) := by omega
      have hkn : k = n := by omega
      rw [List.take_of_length_le (by simp; omega)] at hJs
      clear hkn
      gi_wp2
      go_end0
      exact ⟨⟨_, rfl⟩, .inl hJs⟩
theorem unattachT {l : List Tm} (pre : List (OfT l)) (x : OfT l) : (pre ++ [x]).map Subtype.val = pre.map Subtype.val ++ [x.1] := by simp
/-- 'for key, at := range t.All()'. -/
theorem range_timers {g : Operand} {ps : Array Tmp} {assign body : Code} {Q : Exit → Act → World → Prop} {a : Act} {w : World} (p b N : Nat) (x : List Tm) (B : Nat)
    (hg : a.eval g = .func (.func 26) #[] #[.pointer (some ⟨B, 0, none⟩)]) (hps : ps.size = 2)
    (hc : w.cell? ⟨B, 0, none⟩ = some (.pointer (some ⟨p, 0, none⟩))) (hT : TM w p b N x) (hN : N ≤ 1048576)
    (I : List Tm → World → Prop) (Ix : Code → List Tm → World → Prop) (hI : OwnFrom w.heap.size I) (hIx : ∀ c, OwnFrom w.heap.size (Ix c)) (h0 : I [] w)
    (hround : ∃ a₁ : Tm → Act, (∀ (l' : Nat) (u : Tm) (W : World) (K : Act → World → Prop), u ∈ x → K (a₁ u) W →
      assign.wpIn (Fence.wide.inRound l') 7 Try.prog (Exit.then K (fun _ _ _ => False)) { tmps := (ps.zip #[.int .i64 u.1, .int .i64 u.2]).foldl (fun t (p, v) => t.setIfInBounds p v) a.tmps, defers := [] } W) ∧
      (∀ (l' : Nat) (pre : List Tm) (u : Tm) (W : World), u ∈ x → w.heap.size ≤ W.heap.size → I pre W → pre.length < x.length → body.wpIn (Fence.wide.inRound l') 7 Try.prog (ownPostG w.heap.size KT I Ix (pre ++ [u]) W) (a₁ u) W))
    (hdone : ∀ (D : Nat) (W : World), w.heap.size ≤ D → I x W → W.heap[D]? = some (.deferred (some [])) → Q .normal { a with defers := { target := .collected D, args := #[] } :: a.defers } W)
    (hstop : ∀ (D : Nat) (c : Code) (pre : List Tm) (W : World), w.heap.size ≤ D → pre <+: x → Ix c pre W → W.heap[D]? = some (.deferred (some [])) → c.wpIn Fence.wide 9 Try.prog Q { a with defers := { target := .collected D, args := #[] } :: a.defers } W) :
    (Code.rangeFunc g ps assign body).wpIn Fence.wide 9 Try.prog Q a w := by
  obtain ⟨a₁, hassign, hbody⟩ := hround
  have hBw : B < w.heap.size := World.block_lt_of_cell? _ _ hc
  refine wpIn_rangeFunc_ownG (α := OfT x) (n := 9) (w0 := w) (encs := fun u => #[.int .i64 u.1.1, .int .i64 u.1.2]) (Kp := KT) (S := fun xs => xs = x.attach) (Sp := fun pre => pre <+: x.attach) (N := x.length) rfl (by omega) hg trivial
    (enters_of Try.func26 (by kernel_rfl) rfl)
    (fun l' J Jx W hW hJ _ hY h0 => titer_in p b N x l' B J Jx W hJ hY ((hW.cell (p := ⟨B, 0, none⟩) hBw).trans hc) (hT.below hW) hN h0)
    (fun h k => h.trans k) (fun W l o o' _ h ho _ => KT.put W l o o' h ho) (RowKit.Below.refl _ _) (fun _ => hps.symm)
    (fun pre W => I (pre.map Subtype.val) W ∧ w.heap.size ≤ W.heap.size) (fun c pre W => Ix c (pre.map Subtype.val) W) (fun s W W' row h hg hr => ⟨hI _ W W' row h.1 hg hr, Nat.le_trans h.2 hg.size⟩) (fun c s W W' row h => hIx c _ W W' row h) ⟨h0, Nat.le_refl _⟩ (fun u => a₁ u.1)
    (fun l' u W K hK => hassign l' u.1 W K u.2 hK) (fun l' pre u W hi hlen => ?_) (fun D xs W hD hS hi hk => ?_) (fun D c pre W hD hS hi hk => ?_)
  · refine wpIn_mono (hbody l' _ u.1 W u.2 hi.2 hi.1 (by simpa using hlen)) ?_
    rw [← unattachT]
    intro e a W' h
    cases e with
    | normal => exact ⟨h.1, h.2.1, h.2.2, Nat.le_trans hi.2 h.2.1.size⟩
    | _ => exact h
  · subst hS
    refine hdone D W hD ?_ hk
    have hi := hi.1
    rwa [List.attach_map_subtype_val] at hi
  · refine hstop D c _ W hD ?_ hi hk
    have := hS.map Subtype.val
    rwa [List.attach_map_subtype_val] at this
end Go.Proofs.Ytiinlcfggjcmoaa
