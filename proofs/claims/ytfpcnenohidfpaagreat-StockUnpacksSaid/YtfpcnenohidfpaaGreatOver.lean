/- over: going over a list's items, as a law of the loop. No condition but that the list lies where the body doesn't write. -/
import Derived.Test.YtfpcnenohidfpaaGreatIt
import Derived.Sort.Walk0
import Derived.Laws.StructEq
namespace Go.Proofs.YtfpcnenohidfpaaGreat
open Go.RowKit Go.Maps Go.Shelf
set_option linter.unusedVariables false
set_option linter.unusedSimpArgs false
attribute [local go_sem] Oper.semAt_some

theorem over_make (A : Option Addr) (n c : Nat) (w : World) : Calls Tryz.prog 66 #[.slice A n c] w fun e w' => e = .returned (.func (.func 78) #[] #[.pointer (some ⟨w.heap.size, 0, none⟩)]) ∧ w' = w.alloc (.cells #[.slice A n c] 67) := by
  go_enter Tryz.func66, Tryz.ntmps66
  go_wp2
  go_ret
  exact ⟨rfl, rfl⟩

/-- One of the list's items. -/
abbrev Of1 (l : List It) := { x : It // x ∈ l }
theorem attach_take (l : List It) (k : Nat) (hk : k < l.length) : ∃ x : Of1 l, l[k]? = some x.1 ∧ l.attach.take (k + 1) = l.attach.take k ++ [x] := by
  have hk' : k < l.attach.length := by simpa using hk
  refine ⟨l.attach[k], by simp [List.getElem?_eq_getElem hk], ?_⟩
  rw [List.take_add_one, List.getElem?_eq_getElem hk']
  rfl

set_option maxRecDepth 100000 in
set_option maxHeartbeats 1600000 in
theorem over1_in (A : Option Addr) (n c : Nat) (l : List It) (l' B n₀ : Nat) (S : Nat → Prop) (J Jx : List (Of1 l) → World → Prop) (W : World) (hJ : AbidesFrom W.heap.size J)
    (hY : ∀ pre x W1, J pre W1 → pre.length < n → YieldAt Fence.wide 7 Tryz.prog l' #[.string ⟨x.1.1.toArray⟩, .int .i64 x.1.2] W1 fun e W' => (e = .returned (.bool true) ∧ J (pre ++ [x]) W' ∧ KX n₀ S W1 W') ∨ (e = .returned (.bool false) ∧ Jx (pre ++ [x]) W'))
    (hc : W.cell? ⟨B, 0, none⟩ = some (.slice A n c)) (hl : IL W A n l) (hA : ∀ ad, A = some ad → 0 < n → ad.block < n₀ ∧ ¬ S ad.block) (hn0 : n₀ ≤ W.heap.size) (hn : n ≤ 9223372036854775807) (h0 : J [] W) :
    CallsIn Fence.wide 8 Tryz.prog 78 #[.func (.yield l') #[] #[], .pointer (some ⟨B, 0, none⟩)] W fun e W' => (∃ v, e = .returned v) ∧ ((∃ xs, xs = l.attach ∧ J xs W') ∨ (∃ pre, pre <+: l.attach ∧ Jx pre W')) := by
  refine callsIn_of_wp Tryz.func78 rfl trivial ?_ rfl
  simp only [Tryz.ntmps78, List.size_toArray, List.length_cons, List.length_nil, Nat.reduceAdd, Nat.reduceSub, Array.replicate_succ, Array.replicate_zero, List.push_toArray, List.append_toArray, List.nil_append, List.cons_append]
  gi_wp2
  gi_loopw [7] (fun i wr => ∃ k : Nat, i = .int .i64 (k : Int) ∧ k ≤ n ∧ J (l.attach.take k) wr ∧ KX n₀ S W wr) (fun i _ => n - (intOf i).toNat)
  case atStart => exact ⟨0, by go_num, by omega, by simpa using h0, KX.refl _ _ _⟩
  case round =>
    obtain ⟨k, rfl, hk, hJs, hK⟩ := hrel
    by_cases hlt : k < n
    · have hlz : (k : Int) < (n : Int) := by omega
      have hz := hK.size
      obtain ⟨x, hx, ht⟩ := attach_take l k (by rw [hl.len]; exact hlt)
      obtain ⟨b, off, x', rfl, hx', c0, c1⟩ := (hl.kx hK hA).place hlt
      rw [hx] at hx'
      cases hx'
      obtain ⟨fn, tmps, assign, body, hy, hR⟩ := hY _ x (wr.alloc (.cells #[.string ⟨x.1.1.toArray⟩, .int .i64 x.1.2] 66)) (hJ _ _ _ none hJs (World.grownBy_alloc wr _ none) (fun r e => by cases e)) (by simp [hl.len]; omega)
      obtain ⟨⟨s, q⟩, hm⟩ := x
      dsimp only at hy c0 c1
      gi_wp2
      refine hR.mono ?_
      rintro e W3 (⟨rfl, hJ3, hk3⟩ | ⟨rfl, hJx3⟩)
      · gi_wp2
        go_roundw
        case rel => exact ⟨k + 1, by go_num, by omega, by rw [ht]; exact hJ3, hK.trans ((KX.of_below ((Below.refl n₀ wr).alloc (by omega) _)).trans hk3)⟩
        case measure => simp [intOf]; omega
      · gi_wp2
        refine bodyPost_ret (results_none rfl _ _ _) rfl ?_
        exact ⟨⟨_, rfl⟩, .inr ⟨_, by rw [← ht]; exact List.take_prefix _ _, hJx3⟩⟩
    · have hlz : ¬ (k : Int) < (n : Int) := by omega
      have hkn : k = n := by omega
      rw [List.take_of_length_le (by simp [hl.len]; omega)] at hJs
      gi_wp2
      go_end0
      exact ⟨⟨_, rfl⟩, .inl hJs⟩

theorem unattach_snoc {l : List It} (pre : List (Of1 l)) (x : Of1 l) : (pre ++ [x]).map Subtype.val = pre.map Subtype.val ++ [x.1] := by simp

/-- 'for good, n := range over(l)'. -/
theorem range_over {g : Operand} {ps : Array Tmp} {assign body : Code} {Q : Exit → Act → World → Prop} {a : Act} {w : World} (A : Option Addr) (n c : Nat) (l : List It) (B : Nat) (S : Nat → Prop)
    (hg : a.eval g = .func (.func 78) #[] #[.pointer (some ⟨B, 0, none⟩)]) (hps : ps.size = 2)
    (hc : w.cell? ⟨B, 0, none⟩ = some (.slice A n c)) (hl : IL w A n l) (hA : ∀ ad, A = some ad → 0 < n → ¬ S ad.block) (hn : n ≤ 9223372036854775807)
    (I : List It → World → Prop) (Ix : Code → List It → World → Prop) (hI : OwnFrom w.heap.size I) (hIx : ∀ c, OwnFrom w.heap.size (Ix c)) (h0 : I [] w) (a₁ : It → Act)
    (hassign : ∀ (l' : Nat) (x : It) (W : World) (K : Act → World → Prop), x ∈ l → K (a₁ x) W →
      assign.wpIn (Fence.wide.inRound l') 7 Tryz.prog (Exit.then K (fun _ _ _ => False)) { tmps := (ps.zip #[.string ⟨x.1.toArray⟩, .int .i64 x.2]).foldl (fun t (p, v) => t.setIfInBounds p v) a.tmps, defers := [] } W)
    (hbody : ∀ (l' : Nat) (pre : List It) (x : It) (W : World), x ∈ l → w.heap.size ≤ W.heap.size → I pre W → pre.length < n → body.wpIn (Fence.wide.inRound l') 7 Tryz.prog (ownPostG w.heap.size (KX w.heap.size S) I Ix (pre ++ [x]) W) (a₁ x) W)
    (hdone : ∀ (D : Nat) (W : World), w.heap.size ≤ D → I l W → W.heap[D]? = some (.deferred (some [])) → Q .normal { a with defers := { target := .collected D, args := #[] } :: a.defers } W)
    (hstop : ∀ (D : Nat) (c : Code) (pre : List It) (W : World), w.heap.size ≤ D → pre <+: l → Ix c pre W → W.heap[D]? = some (.deferred (some [])) → c.wpIn Fence.wide 9 Tryz.prog Q { a with defers := { target := .collected D, args := #[] } :: a.defers } W) :
    (Code.rangeFunc g ps assign body).wpIn Fence.wide 9 Tryz.prog Q a w := by
  have hz : ∀ ad, A = some ad → 0 < n → ad.block < w.heap.size := fun ad h h' => hl.lt ad h h'
  have hBw : B < w.heap.size := World.block_lt_of_cell? _ _ hc
  refine wpIn_rangeFunc_ownG (α := Of1 l) (n := 9) (w0 := w) (encs := fun x => #[.string ⟨x.1.1.toArray⟩, .int .i64 x.1.2]) (Kp := KX w.heap.size S) (S := fun xs => xs = l.attach) (Sp := fun pre => pre <+: l.attach) (N := n) rfl (by omega) hg trivial
    (enters_of Tryz.func78 (by kernel_rfl) rfl)
    (fun l' J Jx W hW hJ _ hY h0 => over1_in A n c l l' B w.heap.size S J Jx W hJ hY ((hW.cell (p := ⟨B, 0, none⟩) hBw).trans hc) (hl.below hW) (fun ad h h' => ⟨hz ad h h', hA ad h h'⟩) hW.size hn h0)
    (fun h k => h.trans k) (KX.put (Nat.le_refl _)) (Below.refl _ _) (fun _ => hps.symm)
    (fun pre W => I (pre.map Subtype.val) W ∧ w.heap.size ≤ W.heap.size) (fun c pre W => Ix c (pre.map Subtype.val) W) (fun s W W' row h hg hr => ⟨hI _ W W' row h.1 hg hr, Nat.le_trans h.2 hg.size⟩) (fun c s W W' row h => hIx c _ W W' row h) ⟨h0, Nat.le_refl _⟩ (fun x => a₁ x.1)
    (fun l' x W K hK => hassign l' x.1 W K x.2 hK) (fun l' pre x W hi hlen => ?_) (fun D xs W hD hS hi hk => ?_) (fun D c pre W hD hS hi hk => ?_)
  · refine wpIn_mono (hbody l' _ x.1 W x.2 hi.2 hi.1 (by simpa using hlen)) ?_
    rw [← unattach_snoc]
    intro e a W' h
    cases e with
    | normal => exact ⟨h.1, h.2.1, h.2.2, Nat.le_trans hi.2 h.2.1.size⟩
    | _ => exact h
  · subst hS
    refine hdone D W hD ?_ hk
    have hi := hi.1
    rwa [List.attach_map_subtype_val] at hi
  · refine hstop D c _ W hD ?_ hi hk
    have := hS.map Subtype.val
    rwa [List.attach_map_subtype_val] at this

/-- .. where what the assignment to the loop's variables makes is found by the walk itself. -/
theorem range_over' {g : Operand} {ps : Array Tmp} {assign body : Code} {Q : Exit → Act → World → Prop} {a : Act} {w : World} (A : Option Addr) (n c : Nat) (l : List It) (B : Nat) (S : Nat → Prop)
    (hg : a.eval g = .func (.func 78) #[] #[.pointer (some ⟨B, 0, none⟩)]) (hps : ps.size = 2)
    (hc : w.cell? ⟨B, 0, none⟩ = some (.slice A n c)) (hl : IL w A n l) (hA : ∀ ad, A = some ad → 0 < n → ¬ S ad.block) (hn : n ≤ 9223372036854775807)
    (I : List It → World → Prop) (Ix : Code → List It → World → Prop) (hI : OwnFrom w.heap.size I) (hIx : ∀ c, OwnFrom w.heap.size (Ix c)) (h0 : I [] w)
    (hround : ∃ a₁ : It → Act, (∀ (l' : Nat) (x : It) (W : World) (K : Act → World → Prop), x ∈ l → K (a₁ x) W →
      assign.wpIn (Fence.wide.inRound l') 7 Tryz.prog (Exit.then K (fun _ _ _ => False)) { tmps := (ps.zip #[.string ⟨x.1.toArray⟩, .int .i64 x.2]).foldl (fun t (p, v) => t.setIfInBounds p v) a.tmps, defers := [] } W) ∧
      (∀ (l' : Nat) (pre : List It) (x : It) (W : World), x ∈ l → w.heap.size ≤ W.heap.size → I pre W → pre.length < n → body.wpIn (Fence.wide.inRound l') 7 Tryz.prog (ownPostG w.heap.size (KX w.heap.size S) I Ix (pre ++ [x]) W) (a₁ x) W))
    (hdone : ∀ (D : Nat) (W : World), w.heap.size ≤ D → I l W → W.heap[D]? = some (.deferred (some [])) → Q .normal { a with defers := { target := .collected D, args := #[] } :: a.defers } W)
    (hstop : ∀ (D : Nat) (c : Code) (pre : List It) (W : World), w.heap.size ≤ D → pre <+: l → Ix c pre W → W.heap[D]? = some (.deferred (some [])) → c.wpIn Fence.wide 9 Tryz.prog Q { a with defers := { target := .collected D, args := #[] } :: a.defers } W) :
    (Code.rangeFunc g ps assign body).wpIn Fence.wide 9 Tryz.prog Q a w := by
  obtain ⟨a₁, h1, h2⟩ := hround
  exact range_over A n c l B S hg hps hc hl hA hn I Ix hI hIx h0 a₁ h1 h2 hdone hstop

theorem cell_new_a (W : World) (v : Value) (t : TypeId) : (W.alloc (.cells #[v] t)).cell? ⟨W.heap.size, 0, none⟩ = some v ∧ (W.alloc (.cells #[v] t)).frozen? ⟨W.heap.size, 0, none⟩ = false :=
  ⟨(Blk.new W t #[v]).cell 0, (Blk.new W t #[v]).frozen 0⟩
theorem cell_old {W : World} {p : Addr} {v : Value} (o : Obj) (h : W.cell? p = some v) : (W.alloc o).cell? p = some v := (World.cell?_of_block (Below.heap_alloc W o p.block (World.block_lt_of_cell? _ _ h))).trans h
theorem frozen_old {W : World} {p : Addr} {v : Value} (o : Obj) (h : W.cell? p = some v) (hf : W.frozen? p = false) : (W.alloc o).frozen? p = false := (World.frozen?_of_block (Below.heap_alloc W o p.block (World.block_lt_of_cell? _ _ h))).trans hf
/-- One cell: what it holds; it may be written. -/
structure CL (W : World) (b : Nat) (v : Value) : Prop where
  at_ : W.cell? ⟨b, 0, none⟩ = some v
  fz : W.frozen? ⟨b, 0, none⟩ = false
theorem CL.new (W : World) (v : Value) (t : TypeId) : CL (W.alloc (.cells #[v] t)) W.heap.size v := ⟨(cell_new_a W v t).1, (cell_new_a W v t).2⟩
theorem CL.alloc {W : World} {b : Nat} {v : Value} (h : CL W b v) (o : Obj) : CL (W.alloc o) b v := ⟨cell_old o h.at_, frozen_old o h.at_ h.fz⟩
theorem CL.lt {W : World} {b : Nat} {v : Value} (h : CL W b v) : b < W.heap.size := World.block_lt_of_cell? _ _ h.at_
theorem CL.below {W W' : World} {b : Nat} {v : Value} (h : CL W b v) (k : Below W.heap.size W W') : CL W' b v := ⟨(k.cell (p := ⟨b, 0, none⟩) h.lt).trans h.at_, (k.frozen (p := ⟨b, 0, none⟩) h.lt).trans h.fz⟩
theorem CL.kept {S : Nat → Prop} {W W' : World} {b : Nat} {v : Value} (h : CL W b v) (k : Keep S W W') (hs : ¬ S b) : CL W' b v :=
  ⟨k.cell (p := ⟨b, 0, none⟩) h.at_ hs, (World.frozen?_of_block (k.block b h.lt hs)).trans h.fz⟩
theorem CL.row {W W' : World} {b : Nat} {v : Value} {row : Option Nat} {n : Nat} (h : CL W b v) (hg : W.grownBy W' row) (hr : ∀ r, row = some r → n ≤ r ∧ ∃ o : Obj, W.heap[r]? = some o ∧ o.isCells = false) : CL W' b v :=
  h.kept (Keep.of_grown hg) (row_not_cell hr h.at_)
theorem CL.set_ {W : World} {b : Nat} {v : Value} (h : CL W b v) (u : Value) : CL (W.setCell ⟨b, 0, none⟩ u) b u := ⟨World.cell?_setCell_same' _ _ _ (by rw [h.at_]; rfl), by rw [World.frozen?_setCell]; exact h.fz⟩
theorem CL.other {W : World} {b c : Nat} {v : Value} (h : CL W b v) (hne : b ≠ c) (i : Nat) (u : Value) : CL (W.setCell ⟨c, i, none⟩ u) b v := ⟨(cell_set_other (by exact hne) u).trans h.at_, by rw [World.frozen?_setCell]; exact h.fz⟩
theorem CL.drew {W : World} {b : Nat} {v : Value} (h : CL W b v) : CL W.drew b v := ⟨h.at_, h.fz⟩
theorem CL.drewN {W : World} {b : Nat} {v : Value} (h : CL W b v) (k : Nat) : CL (W.drewN k) b v := ⟨h.at_, h.fz⟩
theorem CL.iter {W : World} {b : Nat} {v : Value} (h : CL W b v) (D : Nat) (o o' : Obj) (hD : W.heap[D]? = some o) (ho : o.isCells = false) : CL (W.putObj D o') b v :=
  h.kept (Keep.of_grown (grownBy_putObj' W D o')) (by intro e; cases e; obtain ⟨x, h1, h2⟩ := cells_of_cell h.at_; rw [hD] at h1; cases h1; rw [ho] at h2; cases h2)
theorem below_row {n₀ B : Nat} {w A A' : World} {row : Option Nat} (h : Below n₀ w A) (hg : A.grownBy A' row) (hn : n₀ ≤ A.heap.size) (hB : n₀ ≤ B) (hr : ∀ r, row = some r → B ≤ r ∧ ∃ o : Obj, A.heap[r]? = some o ∧ o.isCells = false) : Below n₀ w A' :=
  h.grown hg hn fun k e => Nat.le_trans hB (hr k e).1
theorem below_putD {n₀ D : Nat} {w W : World} (h : Below n₀ w W) (hn : n₀ ≤ D) (hD : W.heap[D]? = some (.deferred (some []))) : Below n₀ w (W.putObj D (.deferred none)) :=
  h.trans ((Below.refl n₀ W).grown (grownBy_putObj' W D _) (by have := (Array.getElem?_eq_some_iff.1 hD).1; omega) (fun k e => by cases e; omega))
theorem str_toList (l : List UInt8) : ByteArray.toList ⟨l.toArray⟩ = l := by rw [ByteArray.toList_eq]
theorem str_le (a b : List UInt8) : (Op.bytesLess (ByteArray.toList ⟨a.toArray⟩) (ByteArray.toList ⟨b.toArray⟩) || ByteArray.toList ⟨a.toArray⟩ == ByteArray.toList ⟨b.toArray⟩) = decide (a ≤ b) := by
  rw [str_toList, str_toList, bytesLess_eq]
  by_cases h : a = b
  · subst h
    simp
  · by_cases h2 : a < b
    · simp [h2, List.le_of_lt h2]
    · have h3 : ¬ a ≤ b := fun h4 => h (List.le_antisymm h4 (List.not_lt.1 h2))
      simp [h, h2, h3]
theorem str_lt (a b : List UInt8) : Op.bytesLess (ByteArray.toList ⟨a.toArray⟩) (ByteArray.toList ⟨b.toArray⟩) = decide (a < b) := by rw [str_toList, str_toList, bytesLess_eq]
theorem str_eq (a b : List UInt8) : ((⟨a.toArray⟩ : ByteArray) == ⟨b.toArray⟩) = decide (a = b) := by
  rw [beq_toListBytes, str_toList, str_toList]
  by_cases h : a = b <;> simp [h]
theorem run_str_leq (t : TypeId) (a b : List UInt8) (c : Bool) (hc : decide (a ≤ b) = c) (W : World) : (binOp .leq t (.string ⟨a.toArray⟩) (.string ⟨b.toArray⟩)).run Tryz.prog W = .ok (.bool c) W := by
  have h := str_le a b
  rw [hc, str_toList, str_toList] at h
  simp [binOp, Op.stringOp, h]
theorem run_str_geq (t : TypeId) (a b : List UInt8) (c : Bool) (hc : decide (b ≤ a) = c) (W : World) : (binOp .geq t (.string ⟨a.toArray⟩) (.string ⟨b.toArray⟩)).run Tryz.prog W = .ok (.bool c) W := by
  have h := str_lt a b
  rw [str_toList, str_toList] at h
  have e : (!decide (a < b)) = c := by
    rw [← hc]
    by_cases h1 : a < b
    · have h2 : ¬ b ≤ a := fun h2 => List.not_lt.2 h2 h1
      simp [h1, h2]
    · have h2 : b ≤ a := List.not_lt.1 h1
      simp [h1, h2]
  simp [binOp, Op.stringOp, h, ← e]
/-- The end of a function whose loop laid a block for deferred calls: nothing is deferred. -/
theorem take_def {P : Program} {W : World} {D : Nat} (h : W.heap[D]? = some (.deferred (some []))) : ∃ o, W.heap[D]? = some o ∧ o.isCells = false := ⟨_, h, rfl⟩
end Go.Proofs.YtfpcnenohidfpaaGreat
