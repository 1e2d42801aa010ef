/- plan.may, maySplit, Missing, Split, Enough. No condition but that the lists are ones of memory. -/
import Derived.Test.YtkofaobdpmbcaaaPlW
import Derived.Test.YtkofaobdpmbcaaaPlP
namespace Go.Proofs.Ytkofaobdpmbcaaa
open Go.RowKit Go.Maps Go.Shelf
set_option linter.unusedVariables false
set_option linter.unusedSimpArgs false

theorem allL_take {ls : List (List It)} {k : Nat} {l : List It} (hl : ls[k]? = some l) (hk : (ls.take k).all mayL = true) : (ls.take (k + 1)).all mayL = mayL l := by
  rw [List.take_add_one, hl, List.all_append, hk]
  simp
theorem allL_bad {ls : List (List It)} {l : List It} {k : Nat} (hl : ls[k]? = some l) (hm : mayL l = false) : ls.all mayL = false := by
  rw [List.all_eq_false]
  exact ⟨l, List.mem_of_getElem? hl, by simp [hm]⟩

set_option maxRecDepth 100000 in
set_option maxHeartbeats 1600000 in
theorem pmay_any (A : Option Addr) (n c : Nat) (l : List It) (R : Option Addr) (m cm : Nat) (ls : List (List It)) (B : Nat) (w : World) (hl : IL w A n l) (hr : RL B w R m ls) (hn : n ≤ 9223372036854775807) (hm : m ≤ 9223372036854775807) :
    Calls Try.prog 35 #[.slice A n c, .slice R m cm] w fun e w' => e = .returned (.bool (mayP l ls)) ∧ Below w.heap.size w w' := by
  have hlen := hr.1
  go_enter Try.func35, Try.ntmps35
  go_wp2
  go_loopw [6, 9] (fun s i wr => ∃ k : Nat, i = .int .i64 (k : Int) ∧ k ≤ m ∧ (ls.take k).all mayL = true ∧ Below w.heap.size w wr) (fun _ i _ => m - (intOf i).toNat)
  case atStart => exact ⟨0, by go_num, by omega, rfl, Below.refl _ _⟩
  case round =>
    obtain ⟨k, rfl, hk, htk, hbw⟩ := hrel
    have hr2 := hr.below hbw
    by_cases hlt : k < m
    · have hlz : (k : Int) < (m : Int) := by omega
      obtain ⟨b, off, x, Ai, ci, rfl, hx, hcell, hil, hlc, hcm, hwl, _⟩ := hr2.place hlt
      have hat := allL_take hx htk
      cases hmx : mayL x with
      | true =>
        go_wp2_with fail
        refine (mayI_any Ai x.length ci x _ hil (by omega)).mono ?_
        rintro e w2 ⟨rfl, hx2⟩
        rw [hmx]
        go_wp2
        go_roundw
        case measure => simp [intOf]; omega
        case rel => exact ⟨k + 1, by go_num, by omega, by rw [hat, hmx], hbw.trans (hx2.mono hbw.size)⟩
      | false =>
        have hno : mayP l ls = false := by unfold mayP; rw [allL_bad hx hmx]; rfl
        go_wp2_with fail
        refine (mayI_any Ai x.length ci x _ hil (by omega)).mono ?_
        rintro e w2 ⟨rfl, hx2⟩
        rw [hmx]
        go_wp2
        go_ret
        exact ⟨by rw [hno]; rfl, hbw.trans (hx2.mono hbw.size)⟩
    · have hlz : ¬ (k : Int) < (m : Int) := by omega
      rw [List.take_of_length_le (by omega)] at htk
      have hfin : mayP l ls = mayL l := by unfold mayP; rw [htk]; rfl
      go_wp2_with fail
      refine (mayI_any A n c l _ (hl.below hbw) hn).mono ?_
      rintro e w2 ⟨rfl, hx2⟩
      go_wp2
      go_ret
      exact ⟨by rw [hfin]; rfl, hbw.trans (hx2.mono hbw.size)⟩

def mayS (l : List It) (ls : List (List It)) : Bool := decide (ls.length ≤ 8) && mayP l ls
set_option maxRecDepth 100000 in
theorem pmays_any (A : Option Addr) (n c : Nat) (l : List It) (R : Option Addr) (m cm : Nat) (ls : List (List It)) (B : Nat) (w : World) (hl : IL w A n l) (hr : RL B w R m ls) (hn : n ≤ 9223372036854775807) (hm : m ≤ 9223372036854775807) :
    Calls Try.prog 21 #[.slice A n c, .slice R m cm] w fun e w' => e = .returned (.bool (mayS l ls)) ∧ Below w.heap.size w w' := by
  have hlen := hr.1
  by_cases h8 : m ≤ 8
  · have h8z : (m : Int) ≤ 8 := by omega
    have hfin : mayS l ls = mayP l ls := by unfold mayS; rw [decide_eq_true (by omega)]; rfl
    go_enter Try.func21, Try.ntmps21
    go_wp2_with fail
    refine (pmay_any A n c l R m cm ls B _ hl hr hn hm).mono ?_
    rintro e w2 ⟨rfl, hx2⟩
    go_wp2
    go_ret
    exact ⟨by rw [hfin]; rfl, hx2⟩
  · have h8z : ¬ (m : Int) ≤ 8 := by omega
    have hfin : mayS l ls = false := by unfold mayS; rw [decide_eq_false (by omega)]; rfl
    go_enter Try.func21, Try.ntmps21
    go_wp2
    go_ret
    exact ⟨rfl, Below.refl _ _⟩

theorem leftO_wl {ls : List (List It)} : ∀ {want : List It}, WL want → WL (leftO want ls) := by
  induction ls with
  | nil => intro want h; exact h
  | cons o r ih => intro want h; exact ih (WL.rest (b := o) h)
def missO (l : List It) (ls : List (List It)) : List It := match mayP l ls with | true => leftO l ls | false => []
set_option maxRecDepth 100000 in
set_option maxHeartbeats 1600000 in
theorem pmissing_any (A : Option Addr) (n c : Nat) (l : List It) (R : Option Addr) (m cm : Nat) (ls : List (List It)) (B : Nat) (w : World) (hl : IL w A n l) (hwl : WL l) (hr : RL B w R m ls) (hn : n * 24 ≤ 140737488355328) (hm : m ≤ 9223372036854775807) :
    Calls Try.prog 20 #[.slice A n c, .slice R m cm] w fun e w' => ∃ v, e = .returned v ∧ OI w.heap.size w' v (missO l ls) ∧ Below w.heap.size w w' := by
  have hlen := hr.1
  have key := pmay_any A n c l R m cm ls B w hl hr (by omega) hm
  cases hmay : mayP l ls with
  | false =>
    rw [hmay] at key
    go_enter Try.func20, Try.ntmps20
    go_wp2_with fail
    refine key.mono ?_
    rintro e w2 ⟨rfl, hx2⟩
    go_wp2
    go_ret
    exact ⟨_, rfl, by unfold missO; rw [hmay]; exact OI.nil _ _, hx2⟩
  | true =>
    rw [hmay] at key
    obtain ⟨hmy, hmys⟩ := mayP_my hmay
    go_enter Try.func20, Try.ntmps20
    go_wp2_with fail
    refine key.mono ?_
    rintro e w2 ⟨rfl, hx2⟩
    clear key
    go_wp2_with fail
    refine (clone_any A n c l _ (hl.below hx2) hn).mono ?_
    rintro e w3 ⟨v3, rfl, ho3, hx3⟩
    have hb3 := hx2.trans (hx3.mono hx2.size)
    have ho3' := ho3.mono hx2.size
    clear ho3 hx2 hx3
    go_wp2
    go_loopw [5, 7, 16] (fun v s i wr => ∃ k : Nat, i = .int .i64 (k : Int) ∧ k ≤ m ∧ OI w.heap.size wr v (leftO l (ls.take k)) ∧ Below w.heap.size w wr) (fun _ _ i _ => m - (intOf i).toNat)
    case atStart => exact ⟨0, by go_num, by omega, ho3', hb3⟩
    case round =>
      obtain ⟨k, rfl, hk, hO, hbw⟩ := hrel
      have hr2 := hr.below hbw
      by_cases hlt : k < m
      · have hlz : (k : Int) < (m : Int) := by omega
        obtain ⟨b, off, x, Ai, ci, rfl, hx, hcell, hil, hlc, hcm, hwx, _⟩ := hr2.place hlt
        obtain ⟨AO, cO, rfl, hO1, hO2, hOil, hOad⟩ := hO.form
        have hle : (leftO l (ls.take k)).length ≤ 16 := (MY.leftO (hmys.take k) hmy).len
        have htk : leftO l (ls.take (k + 1)) = restL (leftO l (ls.take k)) x := by rw [List.take_add_one, hx]; exact leftO_snoc _ _ _
        go_wp2_with fail
        refine (rest_any AO Ai _ cO _ ci _ _ _ hOil hil (by omega) (by omega) (leftO_wl hwl)).mono ?_
        rintro e w4 ⟨v4, rfl, ho4, hx4⟩
        go_wp2
        go_roundw
        case measure => simp [intOf]; omega
        case rel => exact ⟨k + 1, by go_num, by omega, by rw [htk]; exact ho4.mono hbw.size, hbw.trans (hx4.mono hbw.size)⟩
      · have hlz : ¬ (k : Int) < (m : Int) := by omega
        rw [List.take_of_length_le (by omega)] at hO
        go_wp2
        go_ret
        exact ⟨_, rfl, by unfold missO; rw [hmay]; exact hO, hbw⟩

def enoughO (l : List It) (ls : List (List It)) : Bool := mayS l ls && decide ((missO l ls).length = 0)
set_option maxRecDepth 100000 in
theorem penough_any (A : Option Addr) (n c : Nat) (l : List It) (R : Option Addr) (m cm : Nat) (ls : List (List It)) (B : Nat) (w : World) (hl : IL w A n l) (hwl : WL l) (hr : RL B w R m ls) (hn : n * 24 ≤ 140737488355328) (hm : m ≤ 9223372036854775807) :
    Calls Try.prog 12 #[.slice A n c, .slice R m cm] w fun e w' => e = .returned (.bool (enoughO l ls)) ∧ Below w.heap.size w w' := by
  have key := pmays_any A n c l R m cm ls B w hl hr (by omega) hm
  cases hmay : mayS l ls with
  | false =>
    rw [hmay] at key
    go_enter Try.func12, Try.ntmps12
    go_wp2_with fail
    refine key.mono ?_
    rintro e w2 ⟨rfl, hx2⟩
    go_wp2
    go_ret
    exact ⟨by unfold enoughO; rw [hmay]; rfl, hx2⟩
  | true =>
    rw [hmay] at key
    go_enter Try.func12, Try.ntmps12
    go_wp2_with fail
    refine key.mono ?_
    rintro e w2 ⟨rfl, hx2⟩
    go_wp2_with fail
    refine (pmissing_any A n c l R m cm ls B _ (hl.below hx2) hwl (hr.below hx2) hn hm).mono ?_
    rintro e w3 ⟨v3, rfl, ho3, hx3⟩
    have hb3 := hx2.trans (hx3.mono hx2.size)
    obtain ⟨AO, cO, rfl, _⟩ := ho3.form
    obtain ⟨q, hq⟩ : ∃ q, (missO l ls).length = q := ⟨_, rfl⟩
    rw [hq]
    by_cases hq0 : q = 0
    · subst hq0
      go_wp2
      go_ret
      exact ⟨by unfold enoughO; rw [hmay, hq]; rfl, hb3⟩
    · have hqb : ((q : Int) == 0) = false := beq_eq_false_iff_ne.2 (by omega)
      go_wp2
      go_ret
      exact ⟨by unfold enoughO; rw [hmay, hq, decide_eq_false hq0]; rfl, hb3⟩

/-- What Split answers. -/
def SplitPost (l : List It) (ls : List (List It)) (w : World) (e : Ending) (w' : World) : Prop :=
  Below w.heap.size w w' ∧ match mayS l ls with
    | false => e = .returned (.tuple #[.slice none 0 0, .slice none 0 0])
    | true => ∃ v u, e = .returned (.tuple #[v, u]) ∧ OL w.heap.size w' v (givenO l ls) ∧ OI w.heap.size w' u (leftO l ls)
theorem OI.ne_row {base b2 : Nat} {w : World} {x v : Value} {l : List It} {ls : List (List It)} (h : OI b2 w x l) (hv : OL base w v ls) {A : Option Addr} {n c : Nat} (hx : x = .slice A n c) : ∀ ad, A = some ad → 0 < l.length → v.ownBlock ≠ some ad.block := fun ad ha hl e => by
  obtain ⟨A', c', hx', _, _, _, had⟩ := h.form
  rw [hx] at hx'
  cases hx'
  exact hv.ne h e (had ad ha).2.2
set_option maxRecDepth 100000 in
set_option maxHeartbeats 3200000 in
theorem psplit_any (A : Option Addr) (n c : Nat) (l : List It) (R : Option Addr) (m cm : Nat) (ls : List (List It)) (B : Nat) (w : World) (hl : IL w A n l) (hwl : WL l) (hr : RL B w R m ls) (hn : n * 24 ≤ 140737488355328) (hm : m ≤ 9223372036854775807) :
    Calls Try.prog 11 #[.slice A n c, .slice R m cm] w (SplitPost l ls w) := by
  have hlen := hr.1
  have key := pmays_any A n c l R m cm ls B w hl hr (by omega) hm
  cases hmay : mayS l ls with
  | false =>
    rw [hmay] at key
    go_enter Try.func11, Try.ntmps11
    go_wp2_with fail
    refine key.mono ?_
    rintro e w2 ⟨rfl, hx2⟩
    go_wp2
    go_ret2
    exact ⟨hx2, by rw [hmay]; rfl⟩
  | true =>
    rw [hmay] at key
    have h8 : m ≤ 8 ∧ mayP l ls = true := by
      unfold mayS at hmay
      rw [Bool.and_eq_true] at hmay
      have := of_decide_eq_true hmay.1
      exact ⟨by omega, hmay.2⟩
    obtain ⟨hmy, hmys⟩ := mayP_my h8.2
    have h8' := h8.1
    clear h8
    go_enter Try.func11, Try.ntmps11
    go_wp2_with fail
    refine key.mono ?_
    rintro e w2 ⟨rfl, hx2⟩
    clear key
    go_wp2_with fail
    refine (clone_any A n c l _ (hl.below hx2) hn).mono ?_
    rintro e w3 ⟨v3, rfl, ho3, hx3⟩
    have hb3 := hx2.trans (hx3.mono hx2.size)
    have ho3' := ho3.mono hx2.size
    clear ho3 hx2 hx3
    go_wp2
    go_loopw [6, 7, 9, 18] (fun gv v s i wr => ∃ k : Nat, i = .int .i64 (k : Int) ∧ k ≤ m ∧ OL w.heap.size wr gv (givenO l (ls.take k)) ∧ OI w.heap.size wr v (leftO l (ls.take k)) ∧ Below w.heap.size w wr) (fun _ _ _ i _ => m - (intOf i).toNat)
    case atStart => exact ⟨0, by go_num, by omega, OL.nil _ _, ho3', hb3⟩
    case round =>
      obtain ⟨k, rfl, hk, hG, hO, hbw⟩ := hrel
      by_cases hlt : k < m
      · have hlz : (k : Int) < (m : Int) := by omega
        obtain ⟨b, off, x, Ai, ci, rfl, hx, hcell0, hil0, hlc, hcm, hwx, _⟩ := hr.place hlt
        have hcell := (hbw.cell (p := ⟨b, off + k, none⟩) (World.block_lt_of_cell? _ _ hcell0)).trans hcell0
        have hil := hil0.below hbw
        obtain ⟨AO, cO, rfl, hO1, hO2, hOil, hOad⟩ := hO.form
        have hle : (leftO l (ls.take k)).length ≤ 16 := (MY.leftO (hmys.take k) hmy).len
        have hwlo : WL (leftO l (ls.take k)) := leftO_wl hwl
        have htk : leftO l (ls.take (k + 1)) = restL (leftO l (ls.take k)) x := by rw [List.take_add_one, hx]; exact leftO_snoc _ _ _
        have htg : givenO l (ls.take (k + 1)) = givenO l (ls.take k) ++ [meetL (leftO l (ls.take k)) x] := by rw [List.take_add_one, hx]; exact givenO_snoc _ _ _
        have hgl : (givenO l (ls.take k)).length ≤ 8 := by rw [givenO_len, List.length_take]; omega
        go_wp2_with fail
        refine (meet_any AO Ai _ cO _ ci _ _ _ hOil hil (by omega) (by omega) hwlo).mono ?_
        rintro e w4 ⟨v4, rfl, ho4, hx4⟩
        obtain ⟨A4, c4, rfl, h41, h42, h4il, h4ad⟩ := ho4.form
        have hb4 := hbw.trans (hx4.mono hbw.size)
        have hG4 := (hG.below hx4).alloc (.cells #[.slice A4 (meetL (leftO l (ls.take k)) x).length c4] 26)
        have hO4 := (hO.below hx4).alloc (.cells #[.slice A4 (meetL (leftO l (ls.take k)) x).length c4] 26)
        have ho4a := ho4.alloc (.cells #[.slice A4 (meetL (leftO l (ls.take k)) x).length c4] 26)
        have hb4a := hb4.alloc hb4.size (.cells #[.slice A4 (meetL (leftO l (ls.take k)) x).length c4] 26)
        have hOil4 := (hOil.below hx4).alloc (.cells #[.slice A4 (meetL (leftO l (ls.take k)) x).length c4] 26)
        have h4il' := h4il.alloc (.cells #[.slice A4 (meetL (leftO l (ls.take k)) x).length c4] 26)
        have hcm4 : c4 ≤ 9223372036854775807 := by unfold maxLen at h42; omega
        go_wp2_with (at_builtin; refine wpAppL1 rfl _ _ rfl w.heap.size _ _ rfl hG4 w4.heap.size 1 (meetL (leftO l (ls.take k)) x) A4 c4 rfl (by go_simp) h4il' h41 hcm4 (WL.meet hwlo) (ho4a.ne_row hG4 rfl) (by omega) hb4a.size ?_; rintro v5 w5 hG5 hk5 hl5)
        have hb5 := hb4a.trans (hk5.below hb4a.size (fun j hj e => by have := (hG4.lt j e).1; omega))
        have hOil5 := hOil4.kept hk5 (fun ad ha hl e => hO4.ne_row hG4 rfl ad ha hl e)
        have hil5 := hil0.below hb5
        clear hG4 hO4 ho4a h4il h4il' hOil4 hk5 hcell hil hOil ho4 hx4
        go_wp2_with fail
        refine (rest_any AO Ai _ cO _ ci _ _ _ hOil5 hil5 (by omega) (by omega) hwlo).mono ?_
        rintro e w6 ⟨v6, rfl, ho6, hx6⟩
        go_wp2
        go_roundw
        case measure => simp [intOf]; omega
        case rel => exact ⟨k + 1, by go_num, by omega, by rw [htg]; exact hG5.below hx6, by rw [htk]; exact ho6.mono hb5.size, hb5.trans (hx6.mono hb5.size)⟩
      · have hlz : ¬ (k : Int) < (m : Int) := by omega
        rw [List.take_of_length_le (by omega)] at hO hG
        go_wp2
        go_ret2
        exact ⟨hbw, by rw [hmay]; exact ⟨_, _, rfl, hG, hO⟩⟩
end Go.Proofs.Ytkofaobdpmbcaaa
