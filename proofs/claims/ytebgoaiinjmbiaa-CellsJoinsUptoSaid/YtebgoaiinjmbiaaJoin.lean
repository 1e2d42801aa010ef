/- Join, Split, and the document's Split. No condition but bounds on what is joined. -/
import Derived.Test.YtebgoaiinjmbiaaRows2
import Derived.Deep.Matrix
namespace Go.Proofs.Ytebgoaiinjmbiaa
open Go.RowKit
set_option linter.unusedVariables false
set_option linter.unusedSimpArgs false

/-- The slice value with address A reads as the lists ls. -/
def RR (w : World) (A : Option Addr) (n : Nat) (ls : List (List UInt8)) : Prop :=
  ls.length = n ∧ ∀ (i : Nat) (l : List UInt8), ls[i]? = some l → ∃ b off Ai ni ci, A = some ⟨b, off, none⟩ ∧ w.cell? ⟨b, off + i, none⟩ = some (.slice Ai ni ci) ∧ RB w Ai ni l ∧ ni ≤ ci ∧ ci ≤ 9223372036854775807
theorem RR.below {w w' : World} {A : Option Addr} {n : Nat} {ls : List (List UInt8)} (h : RR w A n ls) (hb : Below w.heap.size w w') : RR w' A n ls := by
  refine ⟨h.1, fun i l hi => ?_⟩
  obtain ⟨b, off, Ai, ni, ci, h1, h2, h3, h4, h5⟩ := h.2 i l hi
  exact ⟨b, off, Ai, ni, ci, h1, (hb.cell (World.block_lt_of_cell? _ _ h2)).trans h2, h3.below hb, h4, h5⟩

theorem cells_bb : Try.prog.cellsOf 23 = 1 := by kernel_rfl
theorem cells_u8 : Try.prog.cellsOf 5 = 1 := by kernel_rfl
open Go.ChangeShapes Go.WideShapes in
theorem rows_open {H : Type} {enc : TypeId × Value → H} {W : World} {a : Option Addr} {len cap : Nat} {d : DataW H} {p : List MemPlace}
    (h : DataW.Trod enc Try.prog W 0 (fun _ => true) true 22 (.slice a len cap) d p) :
    ∃ ls, RR W a len ls ∧ len ≤ cap ∧ cap ≤ 9223372036854775807 := by
  obtain ⟨fuel, hf⟩ := h
  rcases Go.Deep.open_int_rows Try.underlying22 Try.underlying23 Try.underlying5 cells_bb cells_u8 hf with ⟨hcs, hx⟩ | ⟨x, l, c, A, L, C, Z, hcs, _, hl, hm, hx, hr⟩
  · simp [Value.cells] at hcs
    obtain ⟨rfl, rfl, rfl⟩ := hcs
    exact ⟨[], ⟨rfl, fun i l h => by simp at h⟩, Nat.le_refl _, by omega⟩
  · simp [Value.cells] at hcs
    obtain ⟨rfl, rfl, rfl⟩ := hcs
    refine ⟨(List.range len).map fun i => toBytes ((Z i).take (L i)), ⟨by simp, fun i l hi => ?_⟩, hl, by unfold maxLen at hm; omega⟩
    have hil : i < len := by
      have := (List.getElem?_eq_some_iff.1 hi).1
      simpa using this
    rw [List.getElem?_map, List.getElem?_range hil] at hi
    simp at hi
    subst hi
    obtain ⟨hc, hlc, hcm, hzl, hwz, hnone, hat⟩ := hr i (by omega)
    obtain ⟨b, off, spot⟩ := x
    have hspot : spot = none := by
      have := World.cell?_spot (hr 0 (by omega)).1
      simpa [Addr.add] using this
    subst hspot
    rw [Addr.add_lit] at hc
    refine ⟨b, off, A i, L i, C i, rfl, hc, ⟨by simp [toBytes, hzl]; omega, fun hn => ?_⟩, hlc, by unfold maxLen at hcm; omega⟩
    cases hA : A i with
    | none => have := hnone hA; omega
    | some a' =>
      obtain ⟨hb0, hcells⟩ := hat a' hA
      obtain ⟨b', off', spot'⟩ := a'
      have hspot' : spot' = none := by
        have := World.cell?_spot (hcells 0 (by omega))
        simpa [Addr.add] using this
      subst hspot'
      refine ⟨b', off', rfl, fun j y hy => ?_⟩
      have hj : j < L i := by
        have := (List.getElem?_eq_some_iff.1 hy).1
        simp [toBytes] at this
        omega
      have hcj := hcells j (by omega)
      rw [Addr.add_lit] at hcj
      rw [hcj]
      have hw := wf_u8 (hwz ((Z i).getD j 0) (by simp [List.getD, List.getElem?_eq_getElem (show j < (Z i).length by omega)]))
      rw [toBytes, List.getElem?_map, List.getElem?_take_of_lt hj, List.getElem?_eq_getElem (by omega)] at hy
      simp only [List.getD, List.getElem?_eq_getElem (show j < (Z i).length by omega), Option.getD_some] at hw ⊢
      simp at hy
      subst hy
      unfold bv
      congr 2
      simp
      omega

theorem RR.of_lb {base n : Nat} {w : World} {A : Option Addr} {c : Nat} {ls : List (List UInt8)} (h : LB base w (.slice A n c) ls) : RR w A n ls := by
  obtain ⟨A', c', hv, _, he⟩ := h.form
  simp only [Value.slice.injEq] at hv
  obtain ⟨rfl, hn, rfl⟩ := hv
  refine ⟨hn.symm, fun i l hi => ?_⟩
  obtain ⟨b, off, x, hA, hc, ho⟩ := he i l hi
  obtain ⟨Ax, cx, rfl, h1, h2, h3, _⟩ := ho.formN (N := l.length) rfl
  exact ⟨b, off, Ax, l.length, cx, hA, hc, h3, h1, by unfold maxLen at h2; exact h2⟩

/-- Texts' cells. -/
def joinL (ls : List (List UInt8)) : List UInt8 := ls.flatMap fun t => numCell t.length ++ t
theorem joinL_snoc (ls : List (List UInt8)) (t : List UInt8) : joinL (ls ++ [t]) = joinL ls ++ (numCell t.length ++ t) := by simp [joinL]
theorem joinL_take (ls : List (List UInt8)) (k : Nat) : (joinL (ls.take k)).length ≤ (joinL ls).length := by
  conv => rhs; rw [← List.take_append_drop k ls]
  unfold joinL
  rw [List.flatMap_append, List.length_append]
  omega
theorem take_more {ls : List (List UInt8)} {k : Nat} {b : List UInt8} (h : ls[k]? = some b) : ls.take (k + 1) = ls.take k ++ [b] := by
  rw [List.take_add_one, h]
  rfl

set_option maxRecDepth 100000 in
set_option maxHeartbeats 3200000 in
theorem join_any (A : Option Addr) (n c : Nat) (ls : List (List UInt8)) (w : World) (hr : RR w A n ls) (hn : n ≤ 9223372036854775807) (hj : (joinL ls).length ≤ 35184372088832) :
    Calls Try.prog 6 #[.slice A n c] w fun e w' => ∃ v', e = .returned v' ∧ OB w.heap.size w' v' (joinL ls) ∧ Below w.heap.size w w' := by
  have HL := Lib.hid hr.1
  go_enter Try.func6, Try.ntmps6
  go_wp2_with fail
  --LOOP
  go_loopw [3, 8] (fun u iv wr => ∃ k : Nat, k ≤ n ∧ iv = .int .i64 (k : Int) ∧ OB w.heap.size wr u (joinL (ls.take k)) ∧ Below w.heap.size w wr)
    (fun _ iv _ => n - (intOf iv).toNat)
  case atStart => exact ⟨0, by omega, rfl, by simpa [joinL] using OB.nil _ _, Below.refl _ _⟩
  case round =>
    obtain ⟨k, hk, rfl, ho, hB⟩ := hrel
    by_cases hlt : k < n
    · obtain ⟨t, ht⟩ : ∃ t, ls[k]? = some t := ⟨_, List.getElem?_eq_getElem (by rw [HL.out]; exact hlt)⟩
      obtain ⟨b, off, Ai, ni, ci, rfl, hcl, hrt, hnci, hcci⟩ := (hr.below hB).2 k t ht
      obtain ⟨b0, off0, Ai0, ni0, ci0, hA0, hcl0, hrt0, _, _⟩ := hr.2 k t ht
      have hsame : Ai = Ai0 ∧ ni = ni0 := by
        cases hA0
        have := hB.cell (World.block_lt_of_cell? _ _ hcl0)
        rw [hcl0] at this
        rw [hcl] at this
        injection this with this
        injection this with h1 h2 h3
        exact ⟨h1, h2⟩
      obtain ⟨rfl, rfl⟩ := hsame
      have HT := Lib.hid (take_more ht)
      have HTL := Lib.hid hrt.1
      have hlen : (joinL (ls.take k)).length + 1 + ni ≤ 35184372088832 := by
        have h1 := joinL_take ls (k + 1)
        have h2 := (numCell_len (t.length : Int)).1
        rw [HT.out, joinL_snoc, List.length_append, List.length_append, HTL.out] at h1
        rw [HTL.out] at h2
        omega
      clear ht hA0 hcl0
      go_wp2_with fail
      --PUT
      refine (putNum_any w.heap.size u3 _ (ni : Int) wr ho hB.size (by omega) (by omega) (by omega)).mono ?_
      rintro e w3 ⟨v3, rfl, hg3⟩
      have ho3 := hg3.own
      have hB3 := Keep.past hB hg3.keep (fun i hi h => by have := (ho.lt i h).1; omega)
      have hz3 := hB3.size
      have hrt3 := hrt0.below hB3
      have h9 := (numCell_len (ni : Int)).2
      have hl3 : (joinL (ls.take k) ++ numCell (ni : Int)).length + ni ≤ 140737488355328 := by rw [List.length_append]; omega
      clear hg3 hcl
      go_wp2_with (at_builtin; refine wpApp rfl (.tmp 15) (.tmp 16) rfl w.heap.size v3 _ rfl ho3 Ai ni ci t rfl hrt3 hl3 hz3 ?_; intro v4 w4 hg4)
      have ho4 : OB w.heap.size w4 v4 (joinL (ls.take (k + 1))) := by
        have := hg4.own
        rw [HT.out, joinL_snoc, HTL.out]
        rwa [List.append_assoc] at this
      have hB4 := Keep.past hB3 hg4.keep (fun i hi h => by have := (ho3.lt i h).1; omega)
      go_roundw
      case rel => exact ⟨k + 1, by omega, by go_num, ho4, hB4⟩
      case measure => simp [intOf]; omega
    · obtain rfl : k = n := by omega
      have HT : Hid (ls.take k = ls) := Lib.hid (List.take_of_length_le (by rw [HL.out]; omega))
      go_wp2_with fail
      go_ret
      exact ⟨u3, rfl, by rw [← HT.out]; exact ho, hB⟩

/-- What bytes are as texts. -/
def splF : Nat → List UInt8 → Option (List (List UInt8))
  | 0, l => if l = [] then some [] else none
  | f + 1, l => if l = [] then some [] else
    match ft l with
    | none => none
    | some (k, m) => (splF f (l.drop (k + m))).map fun r => ((l.drop k).take m) :: r
def splOf (l : List UInt8) : Option (List (List UInt8)) := splF l.length l
theorem splF_nil (f : Nat) : splF f [] = some [] := by cases f <;> rfl
theorem splF_none {f : Nat} {l : List UInt8} (h0 : l ≠ []) (h : ft l = none) : splF f l = none := by
  cases f with
  | zero => rw [splF, if_neg h0]
  | succ f => rw [splF, if_neg h0, h]
theorem splF_some {f : Nat} {l : List UInt8} {k m : Nat} (h0 : l ≠ []) (h : ft l = some (k, m)) : splF (f + 1) l = (splF f (l.drop (k + m))).map fun r => ((l.drop k).take m) :: r := by
  rw [splF, if_neg h0, h]
theorem ft_pos {l : List UInt8} {k m : Nat} (h : ft l = some (k, m)) : 1 ≤ k := by
  unfold ft at h
  cases hf : first l with
  | none => rw [hf] at h; cases h
  | some p =>
    obtain ⟨z, q⟩ := p
    rw [hf] at h
    simp only at h
    split at h
    · cases h
    · injection h with h
      injection h with h1 h2
      have := (first_some hf).1
      omega
/-- So far. -/
def FarS (l : List UInt8) (ls : List (List UInt8)) (u : Nat) : Prop :=
  ls.length ≤ u ∧ u ≤ l.length ∧ ∃ f, l.length - u ≤ f ∧ splOf l = (splF f (l.drop u)).map fun r => ls ++ r
theorem FarS.start (l : List UInt8) : FarS l [] 0 := ⟨Nat.le_refl _, Nat.zero_le _, l.length, by omega, by simp [splOf]⟩
theorem FarS.done {l : List UInt8} {ls : List (List UInt8)} (h : FarS l ls l.length) : splOf l = some ls := by
  obtain ⟨_, _, f, _, e⟩ := h
  rw [e, List.drop_length, splF_nil]
  simp
theorem FarS.none_ {l : List UInt8} {ls : List (List UInt8)} {u : Nat} (h : FarS l ls u) (h0 : u < l.length) (hf : ft (l.drop u) = none) : splOf l = none := by
  obtain ⟨_, _, f, _, e⟩ := h
  rw [e, splF_none (by intro hd; have := congrArg List.length hd; simp at this; omega) hf]
  rfl
theorem FarS.more {l : List UInt8} {ls : List (List UInt8)} {u k m : Nat} (h : FarS l ls u) (h0 : u < l.length) (hf : ft (l.drop u) = some (k, m)) :
    FarS l (ls ++ [((l.drop u).drop k).take m]) (u + (k + m)) := by
  obtain ⟨h1, h2, f, h3, e⟩ := h
  have hk := ft_pos hf
  have hle := ft_le hf
  rw [List.length_drop] at hle
  obtain ⟨f', rfl⟩ : ∃ f', f = f' + 1 := ⟨f - 1, by omega⟩
  refine ⟨by simp; omega, by omega, f', by omega, ?_⟩
  rw [e, splF_some (by intro hd; have := congrArg List.length hd; simp at this; omega) hf, Option.map_map, show (l.drop u).drop (k + m) = l.drop (u + (k + m)) from List.drop_drop]
  generalize splF f' (l.drop (u + (k + m))) = z
  cases z with
  | none => rfl
  | some r => simp

def SplitPost (l : List UInt8) (w : World) (e : Ending) (w' : World) : Prop :=
  ∃ (v : Value) (z : Int), e = .returned (.tuple #[v, .int .i64 z]) ∧ Keep (fun _ => False) w w' ∧
    match splOf l with
    | none => v = .slice none 0 0 ∧ z = 10
    | some ls => LB w.heap.size w' v ls ∧ z = 0

set_option maxRecDepth 100000 in
set_option maxHeartbeats 3200000 in
theorem split_any (A : Option Addr) (n c : Nat) (l : List UInt8) (w : World) (hr : RB w A n l) (hnc : n ≤ c) (hn : n ≤ 1073741824) (hc : c ≤ 9223372036854775807) :
    Calls Try.prog 7 #[.slice A n c] w (SplitPost l w) := by
  have HL := Lib.hid hr.1
  go_enter Try.func7, Try.ntmps7
  go_wp2_with fail
  --LOOP
  go_loopw [0, 4] (fun b lv wr => ∃ u n' c' : Nat, ∃ A' ls, b = .slice A' n' c' ∧ n' ≤ c' ∧ c' ≤ 9223372036854775807 ∧ u + n' = n ∧ RB w A' n' (l.drop u) ∧ Hid (FarS l ls u) ∧ LB w.heap.size wr lv ls ∧ Keep (fun _ => False) w wr)
    (fun b _ _ => match b with | .slice _ q _ => q | _ => 0)
  case atStart => exact ⟨0, n, c, A, [], rfl, hnc, hc, by omega, by simpa using hr, Lib.hid (FarS.start l), LB.nil _ _, Keep.refl _ _⟩
  case round =>
    obtain ⟨u, n', c', A', ls, rfl, hnc', hc', hun, hr', HF, hL, hKp⟩ := hrel
    by_cases h0 : 0 < n'
    · have hul : u < l.length := by rw [HL.out]; omega
      have hft := firstText_any A' n' c' (l.drop u) wr (hr'.kept hKp fun _ _ => id) hnc' hc'
      go_wp2_with fail
      --FT
      refine hft.mono ?_
      rintro e w2 ⟨rfl, q, rfl⟩
      clear hft
      have hK2 := hKp.drewN q
      have hL2 : LB w.heap.size (wr.drewN q) u4 ls := hL.kept ((Keep.refl (fun _ => False) wr).drewN q) (fun _ _ _ h => h)
      cases hf : ft (l.drop u) with
      | none =>
        have HN : Hid (splOf l = none) := Lib.hid (HF.out.none_ hul hf)
        rw [ftV]
        clear hf
        go_wp2_with fail
        go_ret2
        exact ⟨_, _, rfl, hK2, by rw [HN.out]; exact ⟨rfl, rfl⟩⟩
      | some p =>
        obtain ⟨k, m⟩ := p
        have HM := Lib.hid (HF.out.more hul hf)
        have hle := ft_le hf
        have hk := ft_pos hf
        rw [List.length_drop, HL.out] at hle
        have hlsn : ls.length ≤ n := by have := HF.out.1; omega
        have hrt := (hr'.sub k (by omega) hnc').take m (by omega)
        have hrest := hr'.sub (k + m) (by omega) hnc'
        rw [List.drop_drop] at hrest
        rw [ftV]
        clear hf
        generalize hgen : wr.drewN q = w2 at hK2 hL2 ⊢
        clear hgen
        have hfr := fresh_any (subA A' c' k) m (c' - k) _ w2 (hrt.kept hK2 fun _ _ => id) (by omega)
        have HPL : Hid ((((l.drop u).drop k).take m).length = m) := Lib.hid hrt.1
        go_wp2_with fail
        --FRESH
        refine hfr.mono ?_
        rintro e w3 ⟨v3, rfl, hg3⟩
        clear hfr
        obtain ⟨A3, c3, rfl, _, _, _, _⟩ := hg3.own.formN (N := m) HPL.out
        have hK3 : Keep (fun _ => False) w w3 := hK2.trans hg3.keep (fun i hi h => by simp [Value.ownBlock] at h)
        have hL3 : LB w.heap.size w3 u4 ls := hL2.kept hg3.keep (fun _ _ _ h => by simp [Value.ownBlock] at h)
        have ho3 := hg3.own.mono (base' := w.heap.size) hK2.size
        have hoc := ho3.one_cell
        clear hg3
        go_wp2_with (at_builtin; refine wpAppOne rfl (.tmp 19) (.tmp 22) rfl w.heap.size u4 (.slice A3 m c3) _ ls rfl (hL3.alloc_ _) ⟨w3.heap.size, 0, none⟩ rfl (by go_simp) (ho3.alloc _) hoc (by omega) (by simp; have := hK3.size; omega) ?_; intro v4 w4 hL4 hk4)
        --MORE
        have hK4 := (hK3.alloc (.cells #[.slice A3 m c3] 23)).trans hk4 (fun i hi h => by have := (hL3.lt i h).1; omega)
        go_roundw
        case rel => exact ⟨u + (k + m), n' - (k + m), c' - (k + m), _, _, rfl, by omega, by omega, by omega, hrest, HM, hL4, hK4⟩
        case measure => simp; omega
    · obtain rfl : n' = 0 := by omega
      obtain rfl : u = n := by omega
      have HD : Hid (splOf l = some ls) := Lib.hid (by have := HF.out; rw [← HL.out] at this; exact this.done)
      go_wp2_with fail
      go_ret2
      exact ⟨u4, _, rfl, hKp, by rw [HD.out]; exact ⟨hL, rfl⟩⟩
end Go.Proofs.Ytebgoaiinjmbiaa
