/- All of a table: lists of byte slices that a call owns. No condition. -/
import Derived.Test.YtianehamjjnhoaaCLives
namespace Go.Proofs.Ytianehamjjnhoaa
open Go.RowKit
set_option linter.unusedVariables false
set_option linter.unusedSimpArgs false

theorem bb_info : (Try.prog.info? 23).map (fun i => (i.zero, i.size, i.bytes)) = some (some (.slice none 0 0), 1, 24) := by kernel_rfl

/-- The value v owns a row of the slices vs. -/
def VB (base : Nat) (w : World) (v : Value) (vs : List Value) : Prop := w.ownsRow base 23 1 v vs.length vs
/-- The value v owns a row of slices that own the lists ls. -/
def LB (base : Nat) (w : World) (v : Value) (ls : List (List UInt8)) : Prop :=
  ∃ vs : List Value, VB base w v vs ∧ vs.length = ls.length ∧ ∀ (i : Nat) (l : List UInt8), ls[i]? = some l → ∃ x, vs[i]? = some x ∧ OB base w x l
section
variable {base : Nat} {w w' : World} {v : Value} {vs : List Value} {ls : List (List UInt8)}
theorem VB.kept {S : Nat → Prop} (h : VB base w v vs) (k : Keep S w w') (hs : ∀ g, v.ownBlock = some g → ¬ S g) : VB base w' v vs := by
  refine ⟨h.1, ?_⟩
  rcases h.2 with hn | ⟨g, cap, cur, rfl, hb, hgg, rest⟩
  · exact .inl hn
  · refine .inr ⟨g, cap, cur, rfl, hb, ?_, rest⟩
    rw [k.block g (Array.getElem?_eq_some_iff.1 hgg).1 (hs g rfl)]
    exact hgg
theorem VB.lt (h : VB base w v vs) : ∀ k, v.ownBlock = some k → base ≤ k ∧ k < w.heap.size := World.ownsRow.lt h
theorem VB.ne (h : VB base w v vs) {x : Value} {l : List UInt8} (hx : OB base w x l) {g : Nat} (hv : v.ownBlock = some g) : x.ownBlock ≠ some g := by
  rcases h.2 with ⟨rfl, _⟩ | ⟨g1, cap, cur, rfl, _, hgg, _⟩
  · simp [Value.ownBlock] at hv
  · have e : g1 = g := by simpa [Value.ownBlock] using hv
    subst e
    rcases hx.2 with ⟨rfl, _⟩ | ⟨g2, cap2, cur2, rfl, _, hg2, _⟩
    · simp [Value.ownBlock]
    · intro he
      have e : g2 = g1 := by simpa [Value.ownBlock] using he
      subst e
      rw [hgg] at hg2
      injection hg2 with h1
      injection h1 with _ h3
      exact absurd h3 (by decide)
theorem LB.nil (base : Nat) (w : World) : LB base w (.slice none 0 0) [] := ⟨[], World.ownsRow_nil _ _ _ _, rfl, fun i l h => by simp at h⟩
theorem LB.kept {S : Nat → Prop} (h : LB base w v ls) (k : Keep S w w') (hs : ∀ g, base ≤ g → g < w.heap.size → ¬ S g) : LB base w' v ls := by
  obtain ⟨vs, hv, hl, he⟩ := h
  refine ⟨vs, hv.kept k fun g hg => hs g (hv.lt g hg).1 (hv.lt g hg).2, hl, fun i l hi => ?_⟩
  obtain ⟨x, hx, ho⟩ := he i l hi
  exact ⟨x, hx, ho.kept k fun g hg => hs g (ho.lt g hg).1 (ho.lt g hg).2⟩
theorem LB.lt (h : LB base w v ls) : ∀ k, v.ownBlock = some k → base ≤ k ∧ k < w.heap.size := by
  obtain ⟨vs, hv, _⟩ := h
  exact hv.lt
theorem LB.alloc_ (h : LB base w v ls) (o : Obj) : LB base (w.alloc o) v ls := h.kept ((Keep.refl (fun _ => False) w).alloc o) fun _ _ _ h => h
theorem LB.form (h : LB base w v ls) : ∃ A cap, v = .slice A ls.length cap ∧ ls.length ≤ cap ∧ ∀ (i : Nat) (l : List UInt8), ls[i]? = some l → ∃ b off x, A = some ⟨b, off, none⟩ ∧ w.cell? ⟨b, off + i, none⟩ = some x ∧ OB base w x l := by
  obtain ⟨vs, hv, hl, he⟩ := h
  rcases hv.2 with ⟨rfl, h0⟩ | ⟨g, cap, cur, rfl, hb, hh, hlc, hm, hs, ht⟩
  · have : ls = [] := List.eq_nil_of_length_eq_zero (by omega)
    subst this
    exact ⟨none, 0, rfl, Nat.le_refl _, fun i l h => by simp at h⟩
  · refine ⟨some ⟨g, 0, none⟩, cap, by rw [hl], by omega, fun i l hi => ?_⟩
    obtain ⟨x, hx, ho⟩ := he i l hi
    have hj := World.ownsRow.cells hv (g := g) rfl i x hx
    rw [Addr.add_lit] at hj
    exact ⟨g, 0, x, rfl, hj, ho⟩
end

/-- append(v, x): x a slice that owns its bytes. -/
theorem run_app_one (w : World) (base : Nat) (ty : TypeId) (v x : Value) (l : List UInt8) (ls : List (List UInt8)) (hown : LB base w v ls) (ad : Addr) (hc : w.cell? ad = some x) (ho : OB base w x l) (hx1 : x.oneCell' = true)
    (hn : ls.length < 1099511627776) (hbase : base ≤ w.heap.size) :
    ∃ v' w', (Builtin.append_ #[42, 42] ty #[v, .slice (some ad) 1 1]).run Try.prog w = .ok v' w' ∧ LB base w' v' (ls ++ [l]) ∧ Keep (fun k => v.ownBlock = some k) w w' := by
  obtain ⟨i, hi, hz, hs, hb⟩ := info_parts bb_info
  obtain ⟨vs, hv, hl, he⟩ := hown
  obtain ⟨v', w', hrun, h2, h3, _, h5⟩ := run_append_own_at (P := Try.prog) w base 42 ty 23 i (.slice none 0 0) 1 24 Try.underlying42 hi hz hs hb rfl (by decide) v vs.length vs hv ad 1 1 [x]
    rfl (fun j u hu => by
      match j, hu with
      | 0, hu =>
        simp at hu
        subst hu
        simpa [Addr.add] using hc) (by simpa using hx1) (by simp only [maxLen]; omega) (by omega) hbase
  have hk := Keep.of_grown h3
  refine ⟨v', w', hrun, ⟨vs ++ [x], ?_, by simp [hl], fun j u hu => ?_⟩, hk⟩
  · show w'.ownsRow base 23 1 v' (vs ++ [x]).length (vs ++ [x])
    rw [List.length_append]
    exact h2
  · by_cases hj : j < ls.length
    · rw [List.getElem?_append_left hj] at hu
      obtain ⟨y, hy, hoy⟩ := he j u hu
      exact ⟨y, by rw [List.getElem?_append_left (by omega)]; exact hy, hoy.kept hk fun g hg hv2 => hv.ne hoy hv2 hg⟩
    · rw [List.getElem?_append_right (by omega)] at hu
      have : j = ls.length := by
        have := (List.getElem?_eq_some_iff.1 hu).1
        simp at this
        omega
      subst this
      simp at hu
      subst hu
      exact ⟨x, by rw [← hl]; simp, ho.kept hk fun g hg hv2 => hv.ne ho hv2 hg⟩

section
variable {w : World} {ops : Array Oper} {rest : List Oper} {o : Oper} {a : Act} {Q : Exit → Act → World → Prop}
theorem wpAppOne (hgd : o.guard = none) (s x : Operand) (ho : o.op = .call { callee := .builtin .append, args := #[s, x], argTypes := #[42, 42] })
    (base : Nat) (v y : Value) (l : List UInt8) (ls : List (List UInt8)) (hs : a.eval s = v) (hown : LB base w v ls) (ad : Addr) (hx : a.eval x = .slice (some ad) 1 1) (hc : w.cell? ad = some y) (hoy : OB base w y l) (hy1 : y.oneCell' = true)
    (hn : ls.length < 1099511627776) (hbase : base ≤ w.heap.size)
    (h : ∀ v' w', LB base w' v' (ls ++ [l]) → Keep (fun k => v.ownBlock = some k) w w' → wpList Try.prog ops Q rest (a.put o.dst v') w') : wpList Try.prog ops Q (o :: rest) a w := by
  refine wpList_plain hgd fun K hK => ?_
  obtain ⟨v', w', hrun, h2, h3⟩ := run_app_one w base o.type v y l ls hown ad hc hoy hy1 hn hbase
  unfold Oper.wp execOp
  simp only [ho, resolve, invoke, builtin, Sem.run_bind, Sem.run_pure, Result.andThen_ok, List.map_toArray, List.map_cons, List.map_nil, hs, hx, hrun]
  exact hK _ _ (h v' w' h2 h3)
end
theorem OB.one_cell {base : Nat} {w : World} {v : Value} {l : List UInt8} (h : OB base w v l) : v.oneCell' = true := by
  obtain ⟨A, cap, rfl, _⟩ := h.form
  rfl

/-- The frames with which bytes begin, one after the other. -/
def allF : Nat → Nat → List UInt8 → List (List UInt8) × Nat × Nat
  | 0, sl, _ => ([], sl, 0)
  | f + 1, sl, l =>
    match opn sl l with
    | none => ([], sl, 0)
    | some b => (b :: (allF f (mixOf sl b) (l.drop (16 + b.length))).1, (allF f (mixOf sl b) (l.drop (16 + b.length))).2.1, 16 + b.length + (allF f (mixOf sl b) (l.drop (16 + b.length))).2.2)
def allOf (sl : Nat) (l : List UInt8) : List (List UInt8) × Nat × Nat := allF (l.length + 1) sl l
theorem allF_none {f sl : Nat} {l : List UInt8} (h : opn sl l = none) : allF f sl l = ([], sl, 0) := by
  cases f with
  | zero => rfl
  | succ f => rw [allF, h]
theorem opn_len {sl : Nat} {l b : List UInt8} (h : opn sl l = some b) : 16 + b.length ≤ l.length := by
  unfold opn at h
  by_cases h1 : l.length < 16
  · rw [if_pos h1] at h; cases h
  rw [if_neg h1] at h
  by_cases h2 : hval (l.take 4) < 1
  · rw [if_pos h2] at h; cases h
  rw [if_neg h2] at h
  by_cases h3 : 65537 < hval (l.take 4)
  · rw [if_pos h3] at h; cases h
  rw [if_neg h3] at h
  by_cases h4 : l.length - 16 < hval (l.take 4) - 1
  · rw [if_pos h4] at h; cases h
  rw [if_neg h4] at h
  by_cases h5 : sumOn 0 (bodyOf l) ≠ hval ((l.drop 4).take 4)
  · rw [if_pos h5] at h; cases h
  rw [if_neg h5] at h
  by_cases h6 : mixOf sl (bodyOf l) ≠ hval ((l.drop 8).take 8)
  · rw [if_pos h6] at h; cases h
  rw [if_neg h6] at h
  injection h with h
  subst h
  unfold bodyOf
  rw [List.length_take, List.length_drop]
  omega

theorem allF_some {f sl : Nat} {l b : List UInt8} (h : opn sl l = some b) : allF (f + 1) sl l = (b :: (allF f (mixOf sl b) (l.drop (16 + b.length))).1, (allF f (mixOf sl b) (l.drop (16 + b.length))).2.1, 16 + b.length + (allF f (mixOf sl b) (l.drop (16 + b.length))).2.2) := by
  rw [allF, h]

/-- So far: the frames ls are found, s2 and u are where one goes on. -/
def Far (sl : Nat) (l : List UInt8) (k : Nat) (ls : List (List UInt8)) (s2 u : Nat) : Prop :=
  ls.length = k ∧ 16 * k ≤ u ∧ u ≤ l.length ∧ W64 s2 ∧
    allOf sl l = (ls ++ (allF (l.length + 1 - k) s2 (l.drop u)).1, (allF (l.length + 1 - k) s2 (l.drop u)).2.1, u + (allF (l.length + 1 - k) s2 (l.drop u)).2.2)
theorem Far.start {sl : Nat} (l : List UInt8) (h : W64 sl) : Far sl l 0 [] sl 0 := ⟨rfl, by omega, by omega, h, by simp [allOf]⟩
theorem Far.done {sl k s2 u : Nat} {l : List UInt8} {ls : List (List UInt8)} (h : Far sl l k ls s2 u) (ho : opn s2 (l.drop u) = none) : allOf sl l = (ls, s2, u) := by
  rw [h.2.2.2.2, allF_none ho]
  simp
theorem Far.more {sl k s2 u : Nat} {l b : List UInt8} {ls : List (List UInt8)} (h : Far sl l k ls s2 u) (ho : opn s2 (l.drop u) = some b) : Far sl l (k + 1) (ls ++ [b]) (mixOf s2 b) (u + (16 + b.length)) := by
  obtain ⟨h1, h2, h3, h4, h5⟩ := h
  have hl := opn_len ho
  rw [List.length_drop] at hl
  refine ⟨by simp [h1], by omega, by omega, mixOf_ok _ _ h4, ?_⟩
  rw [h5, show l.length + 1 - k = (l.length + 1 - (k + 1)) + 1 by omega, allF_some ho, List.drop_drop]
  simp [Nat.add_assoc]

def AllPost (g sl : Nat) (l : List UInt8) (w : World) (e : Ending) (w' : World) : Prop :=
  ∃ v : Value, e = .returned (.tuple #[v, .int .u64 ((allOf sl l).2.1 : Int), .int .i64 ((allOf sl l).2.2 : Int)]) ∧ LB w.heap.size w' v (allOf sl l).1 ∧ Keep (fun i => i = g) w w' ∧ TT w' g

set_option maxRecDepth 100000 in
set_option maxHeartbeats 3200000 in
theorem all_any (g sl : Nat) (A : Option Addr) (n c : Nat) (l : List UInt8) (w : World) (hs : W64 sl) (ht : TT w g) (hr : RB w A n l) (hnc : n ≤ c) (hn : n ≤ 1099511627776) (hc : c ≤ 9223372036854775807) (hA : 0 < n → ∀ ad, A = some ad → ¬ ad.block = g) :
    Calls Try.prog 22 #[.pointer (some ⟨g, 0, none⟩), .int .u64 (sl : Int), .slice A n c] w (AllPost g sl l w) := by
  have HL := Lib.hid hr.1
  have hgl := ht.lt
  go_enter Try.func22, Try.ntmps22
  go_wp2_with fail
  refine (ready_any g w ht).mono ?_
  rintro e w1 ⟨rfl, hk1, f, ht1'⟩
  have ht1 := TT.of_tb ht1'
  clear ht1'
  go_wp2_with fail
  --LOOP
  go_loopw [1, 9, 10] (fun sv lv uv wr => ∃ k s2 u : Nat, ∃ ls : List (List UInt8), Hid (Far sl l k ls s2 u) ∧ k ≤ 1099511627776 ∧ u ≤ n ∧ W64 s2 ∧ sv = .int .u64 (s2 : Int) ∧ uv = .int .i64 (u : Int) ∧ LB w.heap.size wr lv ls ∧ Keep (fun i => i = g) w wr ∧ TT wr g)
    (fun _ _ uv _ => n + 1 - (intOf uv).toNat)
  case atStart => exact ⟨0, sl, 0, [], Lib.hid (Far.start l hs), by omega, by omega, hs, rfl, rfl, LB.nil _ _, hk1, ht1⟩
  case round =>
    obtain ⟨k, s2, u, ls, HF, hk, hu, hs2, rfl, rfl, hL, hK, hT⟩ := hrel
    have hx := fun W : World => run_from W A n c (u : Int) (by omega) (by omega)
    simp only [Int.toNat_natCast] at hx
    have hru := (hr.keptN hK hA).sub u hu hnc
    have hAu : 0 < n - u → ∀ ad, subA A c u = some ad → ¬ ad.block = g := fun hp ad h => by
      obtain ⟨a0, h0, e0⟩ := subA_block h
      rw [e0]
      exact hA (by omega) a0 h0
    have hop := open_any g s2 (subA A c u) (n - u) (c - u) (l.drop u) wr hs2 hT hru (by omega) (by omega) hAu
    go_wp2_with fail
    --OPEN
    refine hop.mono ?_
    rintro e w3 ⟨v3, m3, k3, rfl, hk3, ht3, hp3⟩
    clear hop hx
    have hK3 := hK.trans hk3 (fun _ _ h => h)
    have hL3 := hL.kept hk3 (fun i hi hl h => by omega)
    cases ho : opn s2 (l.drop u) with
    | none =>
      rw [ho] at hp3
      obtain ⟨rfl, rfl, rfl⟩ := hp3
      have HD : Hid (allOf sl l = (ls, s2, u)) := Lib.hid (HF.out.done ho)
      clear ho
      go_wp2_with fail
      --NONE
      go_ret3
      exact ⟨u9, by rw [HD.out]; rfl, by rw [HD.out]; exact hL3, hK3, ht3⟩
    | some b =>
      rw [ho] at hp3
      obtain ⟨ho3, rfl, rfl⟩ := hp3
      have HM : Hid (Far sl l (k + 1) (ls ++ [b]) (mixOf s2 b) (u + (16 + b.length))) := Lib.hid (HF.out.more ho)
      have hbl : u + (16 + b.length) ≤ n := by have := HM.out.2.2.1; have := HL.out; omega
      have hkk : k + 1 ≤ n := by have := HM.out.2.1; omega
      have hlk : ls.length = k := HF.out.1
      clear ho
      have hlt : ls.length < 1099511627776 := by omega
      obtain ⟨A3, c3, rfl, hl3, hm3, hr3, had3⟩ := ho3.formN (N := b.length) rfl
      have HB := Lib.hid hlk
      clear hlk
      have ho3' := ho3.mono (base' := w.heap.size) hK.size
      have hoc := ho3'.one_cell
      go_wp2_with (at_builtin; refine wpAppOne rfl (.tmp 31) (.tmp 33) rfl w.heap.size u9 (.slice A3 b.length c3) b ls rfl (hL3.alloc_ _) ⟨w3.heap.size, 0, none⟩ rfl (by go_simp) (ho3'.alloc _) hoc hlt (by simp; have := hK3.size; omega) ?_; intro v4 w4 hL4 hk4)
      --MORE
      have hK4 := (hK3.alloc (.cells #[.slice A3 b.length c3] 23)).trans hk4 (fun i hi h => by have := (hL3.lt i h).1; omega)
      have ht4 : TT w4 g := (ht3.alloc (.cells #[.slice A3 b.length c3] 23)).kept hk4 (fun h => by have := (hL3.lt g h).1; omega)
      have hs4 := HM.out.2.2.2.1
      go_roundw
      case rel => exact ⟨k + 1, mixOf s2 b, u + (16 + b.length), ls ++ [b], HM, by omega, hbl, hs4, rfl, by go_num, hL4, hK4, ht4⟩
      case measure => simp [intOf]; omega
end Go.Proofs.Ytianehamjjnhoaa
