/- The document's Split. No condition but a bound on what is split. -/
import Derived.Test.YtebgoaiinjmbiaaJoin
import Derived.IntWalk
namespace Go.Proofs.Ytebgoaiinjmbiaa
open Go.RowKit
set_option linter.unusedVariables false
set_option linter.unusedSimpArgs false

theorem run_app_v (w : World) (base : Nat) (ty : TypeId) (v x : Value) (vs : List Value) (hv : VB base w v vs) (ad : Addr) (hc : w.cell? ad = some x) (hx1 : x.oneCell' = true)
    (hn : vs.length < 1099511627776) (hbase : base ≤ w.heap.size) :
    ∃ v' w', (Builtin.append_ #[22, 22] ty #[v, .slice (some ad) 1 1]).run Try.prog w = .ok v' w' ∧ VB base w' v' (vs ++ [x]) ∧ Keep (fun k => v.ownBlock = some k) w w' := by
  obtain ⟨i, hi, hz, hs, hb⟩ := info_parts bb_info
  obtain ⟨v', w', hrun, h2, h3, _, h5⟩ := run_append_own_at (P := Try.prog) w base 22 ty 23 i (.slice none 0 0) 1 24 Try.underlying22 hi hz hs hb rfl (by decide) v vs.length vs hv ad 1 1 [x]
    rfl (fun j u hu => by
      match j, hu with
      | 0, hu =>
        simp at hu
        subst hu
        simpa [Addr.add] using hc) (by simpa using hx1) (by simp only [maxLen]; omega) (by omega) hbase
  refine ⟨v', w', hrun, ?_, Keep.of_grown h3⟩
  show w'.ownsRow base 23 1 v' (vs ++ [x]).length (vs ++ [x])
  rw [List.length_append]
  exact h2
theorem wpAppV {w : World} {ops : Array Oper} {rest : List Oper} {o : Oper} {a : Act} {Q : Exit → Act → World → Prop} (hgd : o.guard = none) (s x : Operand) (ho : o.op = .call { callee := .builtin .append, args := #[s, x], argTypes := #[22, 22] })
    (base : Nat) (v y : Value) (vs : List Value) (hs : a.eval s = v) (hown : VB base w v vs) (ad : Addr) (hx : a.eval x = .slice (some ad) 1 1) (hc : w.cell? ad = some y) (hy1 : y.oneCell' = true)
    (hn : vs.length < 1099511627776) (hbase : base ≤ w.heap.size)
    (h : ∀ v' w', VB base w' v' (vs ++ [y]) → Keep (fun k => v.ownBlock = some k) w w' → wpList Try.prog ops Q rest (a.put o.dst v') w') : wpList Try.prog ops Q (o :: rest) a w := by
  refine wpList_plain hgd fun K hK => ?_
  obtain ⟨v', w', hrun, h2, h3⟩ := run_app_v w base o.type v y vs hown ad hc hy1 hn hbase
  unfold Oper.wp execOp
  simp only [ho, resolve, invoke, builtin, Sem.run_bind, Sem.run_pure, Result.andThen_ok, List.map_toArray, List.map_cons, List.map_nil, hs, hx, hrun]
  exact hK _ _ (h v' w' h2 h3)
theorem VB.alloc_ {base : Nat} {w : World} {v : Value} {vs : List Value} (h : VB base w v vs) (o : Obj) : VB base (w.alloc o) v vs := h.kept ((Keep.refl (fun _ => False) w).alloc o) fun _ _ h => h

/-- The slices vs read, in the world w0, as the lists ls. -/
def RV (w0 : World) (vs : List Value) (ls : List (List UInt8)) : Prop :=
  vs.length = ls.length ∧ ∀ (i : Nat) (l : List UInt8), ls[i]? = some l → ∃ Ax nx cx, vs[i]? = some (.slice Ax nx cx) ∧ RB w0 Ax nx l ∧ nx ≤ cx ∧ cx ≤ 9223372036854775807
theorem RV.snoc {w0 : World} {vs : List Value} {ls : List (List UInt8)} (h : RV w0 vs ls) {A : Option Addr} {n c : Nat} {l : List UInt8} (hr : RB w0 A n l) (hn : n ≤ c) (hc : c ≤ 9223372036854775807) : RV w0 (vs ++ [.slice A n c]) (ls ++ [l]) := by
  refine ⟨by simp [h.1], fun i u hu => ?_⟩
  by_cases hi : i < ls.length
  · rw [List.getElem?_append_left hi] at hu
    obtain ⟨Ax, nx, cx, h1, h2⟩ := h.2 i u hu
    exact ⟨Ax, nx, cx, by rw [List.getElem?_append_left (by rw [h.1]; exact hi)]; exact h1, h2⟩
  · rw [List.getElem?_append_right (by omega)] at hu
    have : i = ls.length := by
      have := (List.getElem?_eq_some_iff.1 hu).1
      simp at this
      omega
    subst this
    simp at hu
    subst hu
    exact ⟨A, n, c, by rw [← h.1]; simp, hr, hn, hc⟩
theorem RR.of_rv {base : Nat} {w0 w : World} {v : Value} {vs : List Value} {ls : List (List UInt8)} (hv : VB base w v vs) (h : RV w0 vs ls) (hb : Below w0.heap.size w0 w) : ∃ A c, v = .slice A ls.length c ∧ RR w A ls.length ls := by
  rcases hv.2 with ⟨rfl, h0⟩ | ⟨g, cap, cur, rfl, _, hh, hlc, hm, hs, ht⟩
  · have : ls = [] := List.eq_nil_of_length_eq_zero (by have := h.1; omega)
    subst this
    exact ⟨none, 0, rfl, rfl, fun i l h => by simp at h⟩
  · refine ⟨some ⟨g, 0, none⟩, cap, by rw [h.1], rfl, fun i l hi => ?_⟩
    obtain ⟨Ax, nx, cx, h1, h2, h3, h4⟩ := h.2 i l hi
    have hj := World.ownsRow.cells hv (g := g) rfl i _ h1
    rw [Addr.add_lit] at hj
    exact ⟨g, 0, Ax, nx, cx, rfl, hj, h2.below hb, h3, h4⟩

def RefSplitPost (l : List UInt8) (w : World) (e : Ending) (w' : World) : Prop :=
  ∃ (v : Value) (k : Bool), e = .returned (.tuple #[v, .bool k]) ∧ Below w.heap.size w w' ∧
    match splOf l with
    | none => v = .slice none 0 0 ∧ k = false
    | some ls => (∃ A c, v = .slice A ls.length c ∧ RR w' A ls.length ls) ∧ k = true

set_option maxRecDepth 100000 in
set_option maxHeartbeats 3200000 in
theorem refSplit_any (A : Option Addr) (n c : Nat) (l : List UInt8) (w : World) (hr : RB w A n l) (hnc : n ≤ c) (hn : n ≤ 1073741824) (hc : c ≤ 9223372036854775807) :
    Calls Try.prog 10 #[.slice A n c] w (RefSplitPost l w) := by
  have HL := Lib.hid hr.1
  go_enter Try.func10, Try.ntmps10
  go_wp2_with fail
  --LOOP
  go_loopw [0, 4] (fun b lv wr => ∃ u n' c' : Nat, ∃ A' ls vs, b = .slice A' n' c' ∧ n' ≤ c' ∧ c' ≤ 9223372036854775807 ∧ u + n' = n ∧ RB w A' n' (l.drop u) ∧ Hid (FarS l ls u) ∧ VB w.heap.size wr lv vs ∧ RV w vs ls ∧ Below w.heap.size w wr)
    (fun b _ _ => match b with | .slice _ q _ => q | _ => 0)
  case atStart => exact ⟨0, n, c, A, [], [], rfl, hnc, hc, by omega, by simpa using hr, Lib.hid (FarS.start l), World.ownsRow_nil _ _ _ _, ⟨rfl, fun i l h => by simp at h⟩, Below.refl _ _⟩
  case round =>
    obtain ⟨u, n', c', A', ls, vs, rfl, hnc', hc', hun, hr', HF, hV, hRV, hB⟩ := hrel
    by_cases h0 : 0 < n'
    · have hul : u < l.length := by rw [HL.out]; omega
      have hrl := hr'.1
      have hft := refFirst_any A' n' c' (l.drop u) wr (hr'.below hB) hnc' hc'
      cases hf : first (l.drop u) with
      | none =>
        have HN : Hid (splOf l = none) := Lib.hid (HF.out.none_ hul (ft_none hf))
        rw [hf, refFirstV] at hft
        clear hf
        go_wp2_with fail
        refine hft.mono ?_
        rintro e w2 ⟨rfl, hb2⟩
        have hB2 := hB.trans (hb2.mono hB.size)
        clear hft
        go_wp2_with fail
        go_ret2
        exact ⟨_, _, rfl, hB2, by rw [HN.out]; exact ⟨rfl, rfl⟩⟩
      | some p =>
        obtain ⟨z, k⟩ := p
        obtain ⟨hk1, hk2, _, hz1, hz2⟩ := first_some hf
        rw [hrl] at hk2
        have he := ft_some hf
        rw [hrl] at he
        rw [hf, refFirstV] at hft
        have dk : ((k : Int) == 0) = false := by simp; omega
        have p3 := IntWalk.i64_in ((n' : Int) - (k : Int)) ⟨by omega, by omega⟩
        clear hf
        by_cases hbad : z < 0 ∨ (n' : Int) - k < z
        · have HN : Hid (splOf l = none) := Lib.hid (HF.out.none_ hul (by rw [he, if_pos hbad]))
          clear he
          by_cases hneg : z < 0
          · go_wp2_with fail
            refine hft.mono ?_
            rintro e w2 ⟨rfl, hb2⟩
            have hB2 := hB.trans (hb2.mono hB.size)
            clear hft
            go_wp2_with fail
            go_ret2
            exact ⟨_, _, rfl, hB2, by rw [HN.out]; exact ⟨rfl, rfl⟩⟩
          · have hbig : (n' : Int) - k < z := by omega
            clear hbad
            go_wp2_with fail
            refine hft.mono ?_
            rintro e w2 ⟨rfl, hb2⟩
            have hB2 := hB.trans (hb2.mono hB.size)
            clear hft
            go_wp2_with fail
            go_ret2
            exact ⟨_, _, rfl, hB2, by rw [HN.out]; exact ⟨rfl, rfl⟩⟩
        · obtain ⟨m, rfl⟩ := Int.eq_ofNat_of_zero_le (show 0 ≤ z by omega)
          rw [if_neg hbad, Int.toNat_natCast] at he
          have HM := Lib.hid (HF.out.more hul he)
          have hle : k + m ≤ n' := by omega
          have hlsn : ls.length ≤ n := by have := HF.out.1; omega
          have hvn : vs.length ≤ n := by rw [hRV.1]; exact hlsn
          have hrt := (hr'.sub k (by omega) hnc').take m (by omega)
          have hrest := hr'.sub (k + m) (by omega) hnc'
          rw [List.drop_drop] at hrest
          have d1 : decide ((m : Int) < 0) = false := by simp
          have d2 : decide ((n' : Int) - (k : Int) < (m : Int)) = false := by simp; omega
          have p1 := IntWalk.i64_in ((k : Int) + (m : Int)) ⟨by omega, by omega⟩
          have e1 : ((k : Int) + (m : Int)).toNat = k + m := by omega
          have hx1 := fun W : World => run_win W A' n' c' (k : Int) ((k : Int) + (m : Int)) (by omega) (by omega) (by omega)
          have hx2 := fun W : World => run_from W A' n' c' ((k : Int) + (m : Int)) (by omega) (by omega)
          rw [e1] at hx1 hx2
          simp only [Int.toNat_natCast, Nat.add_sub_cancel_left] at hx1
          clear he hbad e1
          go_wp2_with fail
          refine hft.mono ?_
          rintro e w2 ⟨rfl, hb2⟩
          have hB2 := hB.trans (hb2.mono hB.size)
          have hV2 := hV.kept (Keep.of_below hb2) (fun g hg h => by have := (hV.lt g hg).2; omega)
          clear hft
          go_wp2_with (at_builtin; refine wpAppV rfl (.tmp 29) (.tmp 36) rfl w.heap.size u4 (.slice (subA A' c' k) m (c' - k)) vs rfl (hV2.alloc_ _) ⟨w2.heap.size, 0, none⟩ rfl (by go_simp) rfl (by omega) (by simp; have := hB2.size; omega) ?_; intro v4 w4 hV4 hk4)
          --MORE
          have hB4 : Below w.heap.size w w4 := Keep.past (hB2.alloc hB2.size (.cells #[.slice (subA A' c' k) m (c' - k)] 23)) hk4 (fun i hi h => by have := (hV2.lt i h).1; omega)
          have hRV4 := hRV.snoc hrt (c := c' - k) (by omega) (by omega)
          go_roundw
          case rel => exact ⟨u + (k + m), n' - (k + m), c' - (k + m), _, _, _, rfl, by omega, by omega, by omega, hrest, HM, hV4, hRV4, hB4⟩
          case measure => simp; omega
    · obtain rfl : n' = 0 := by omega
      obtain rfl : u = n := by omega
      have HD : Hid (splOf l = some ls) := Lib.hid (by have := HF.out; rw [← HL.out] at this; exact this.done)
      have hfin := RR.of_rv hV hRV hB
      go_wp2_with fail
      go_ret2
      exact ⟨u4, _, rfl, hB, by rw [HD.out]; exact ⟨hfin, rfl⟩⟩
end Go.Proofs.Ytebgoaiinjmbiaa
