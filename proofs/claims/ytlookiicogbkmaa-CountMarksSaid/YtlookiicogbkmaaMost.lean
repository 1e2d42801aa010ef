/- A tally's Most, Take, All, on a nil one too. No condition. -/
import Derived.Test.YtlookiicogbkmaaTake2
namespace Go.Proofs.Ytlookiicogbkmaa
open Go.RowKit
set_option linter.unusedVariables false
set_option linter.unusedSimpArgs false

theorem Most_nil (i n : Int) (w : World) : Calls Try.prog 22 #[.pointer none, .int .i64 i, .int .i64 n] w fun e w' => e = .returned (.bool false) ∧ Below w.heap.size w w' := by
  have hmf : ∀ (fn : Fn) (first cap : Array Value) (w : World), (Instr.makeFunc fn first cap).run Try.prog w = .ok (.func fn first cap) w := fun _ _ _ _ => rfl
  go_enter Try.func22, Try.ntmps22
  go_wp2_with (go_at_call 34; refine (change_nil i _ _).mono ?_; rintro e w' ⟨rfl, rfl⟩)
  go_ret
  exact ⟨rfl, (Below.refl w.heap.size w).alloc (Nat.le_refl _) _⟩
theorem Most_out (g : Nat) (i n : Int) (h : isIn i = false) (w : World) : Calls Try.prog 22 #[.pointer (some ⟨g, 0, none⟩), .int .i64 i, .int .i64 n] w fun e w' => e = .returned (.bool false) ∧ Below w.heap.size w w' := by
  have hmf : ∀ (fn : Fn) (first cap : Array Value) (w : World), (Instr.makeFunc fn first cap).run Try.prog w = .ok (.func fn first cap) w := fun _ _ _ _ => rfl
  go_enter Try.func22, Try.ntmps22
  go_wp2_with (go_at_call 34; refine (change_out g i _ h _).mono ?_; rintro e w' ⟨rfl, rfl⟩)
  go_ret
  exact ⟨rfl, (Below.refl w.heap.size w).alloc (Nat.le_refl _) _⟩
set_option maxRecDepth 100000 in
theorem Most_in (g : Nat) (i n x d m : Int) (l : List Int) (h0 : 0 ≤ i) (h1 : i < 8) (w : World) (h : TL w g l d m) (hx : l.getD i.toNat 0 = x) :
    Calls Try.prog 22 #[.pointer (some ⟨g, 0, none⟩), .int .i64 i, .int .i64 n] w fun e w' => e = .returned (.bool (decide (x < n))) ∧ Keep (fun k => k = g) w w' ∧ TL w' g (if decide (x < n) = true then l.set i.toNat (n) else l) d m := by
  have hmf : ∀ (fn : Fn) (first cap : Array Value) (w : World), (Instr.makeFunc fn first cap).run Try.prog w = .ok (.func fn first cap) w := fun _ _ _ _ => rfl
  have hi : i.toNat < 8 := by omega
  have hq := @most_asks w.heap.size n x
  have ha := h.alloc (.cells #[.int .i64 n] 3)
  have hk := (Keep.refl (fun k => k = g) w).alloc (.cells #[.int .i64 n] 3)
  have hc := ha.mark i.toNat hi
  rw [hx] at hc
  have hz := ha.frozen i.toNat
  have hcb : (w.alloc (.cells #[.int .i64 n] 3)).cell? ⟨w.heap.size, 0, none⟩ = some (.int .i64 n) := by
    rw [World.cell?_alloc_at _ _ _ _ rfl]
    rfl
  cases hb : decide (x < n) with
  | true =>
    rw [hb] at hq
    go_enter Try.func22, Try.ntmps22
    go_wp2_with (go_at_call 34; refine (change_most_yes g w.heap.size i x (n) h0 h1 _ hc hz (hq _ hcb)).mono ?_; rintro e w' ⟨rfl, m, rfl⟩)
    go_ret
    exact ⟨rfl, (hk.drewN _).setCell (fun _ => rfl) _, (ha.drewN _).set_mark _ hi _⟩
  | false =>
    rw [hb] at hq
    go_enter Try.func22, Try.ntmps22
    go_wp2_with (go_at_call 34; refine (change_most_no g w.heap.size i x (n) h0 h1 _ hc hz (hq _ hcb)).mono ?_; rintro e w' ⟨rfl, m, rfl⟩)
    go_ret
    exact ⟨rfl, hk.drewN _, ha.drewN _⟩
theorem Take_nil (i n : Int) (w : World) : Calls Try.prog 23 #[.pointer none, .int .i64 i, .int .i64 n] w fun e w' => e = .returned (.bool false) ∧ Below w.heap.size w w' := by
  have hmf : ∀ (fn : Fn) (first cap : Array Value) (w : World), (Instr.makeFunc fn first cap).run Try.prog w = .ok (.func fn first cap) w := fun _ _ _ _ => rfl
  go_enter Try.func23, Try.ntmps23
  go_wp2_with (go_at_call 34; refine (change_nil i _ _).mono ?_; rintro e w' ⟨rfl, rfl⟩)
  go_ret
  exact ⟨rfl, (Below.refl w.heap.size w).alloc (Nat.le_refl _) _⟩
theorem Take_out (g : Nat) (i n : Int) (h : isIn i = false) (w : World) : Calls Try.prog 23 #[.pointer (some ⟨g, 0, none⟩), .int .i64 i, .int .i64 n] w fun e w' => e = .returned (.bool false) ∧ Below w.heap.size w w' := by
  have hmf : ∀ (fn : Fn) (first cap : Array Value) (w : World), (Instr.makeFunc fn first cap).run Try.prog w = .ok (.func fn first cap) w := fun _ _ _ _ => rfl
  go_enter Try.func23, Try.ntmps23
  go_wp2_with (go_at_call 34; refine (change_out g i _ h _).mono ?_; rintro e w' ⟨rfl, rfl⟩)
  go_ret
  exact ⟨rfl, (Below.refl w.heap.size w).alloc (Nat.le_refl _) _⟩
set_option maxRecDepth 100000 in
theorem Take_in (g : Nat) (i n x d m : Int) (l : List Int) (h0 : 0 ≤ i) (h1 : i < 8) (w : World) (h : TL w g l d m) (hx : l.getD i.toNat 0 = x) :
    Calls Try.prog 23 #[.pointer (some ⟨g, 0, none⟩), .int .i64 i, .int .i64 n] w fun e w' => e = .returned (.bool (decide (0 ≤ n) && decide (n ≤ x))) ∧ Keep (fun k => k = g) w w' ∧ TL w' g (if (decide (0 ≤ n) && decide (n ≤ x)) = true then l.set i.toNat (wrap64 (x - n)) else l) d m := by
  have hmf : ∀ (fn : Fn) (first cap : Array Value) (w : World), (Instr.makeFunc fn first cap).run Try.prog w = .ok (.func fn first cap) w := fun _ _ _ _ => rfl
  have hi : i.toNat < 8 := by omega
  have hq := @take_asks w.heap.size n x
  have ha := h.alloc (.cells #[.int .i64 n] 3)
  have hk := (Keep.refl (fun k => k = g) w).alloc (.cells #[.int .i64 n] 3)
  have hc := ha.mark i.toNat hi
  rw [hx] at hc
  have hz := ha.frozen i.toNat
  have hcb : (w.alloc (.cells #[.int .i64 n] 3)).cell? ⟨w.heap.size, 0, none⟩ = some (.int .i64 n) := by
    rw [World.cell?_alloc_at _ _ _ _ rfl]
    rfl
  cases hb : (decide (0 ≤ n) && decide (n ≤ x)) with
  | true =>
    rw [hb] at hq
    go_enter Try.func23, Try.ntmps23
    go_wp2_with (go_at_call 34; refine (change_take_yes g w.heap.size i x (wrap64 (x - n)) h0 h1 _ hc hz (hq _ hcb)).mono ?_; rintro e w' ⟨rfl, m, rfl⟩)
    go_ret
    exact ⟨rfl, (hk.drewN _).setCell (fun _ => rfl) _, (ha.drewN _).set_mark _ hi _⟩
  | false =>
    rw [hb] at hq
    go_enter Try.func23, Try.ntmps23
    go_wp2_with (go_at_call 34; refine (change_take_no g w.heap.size i x (wrap64 (x - n)) h0 h1 _ hc hz (hq _ hcb)).mono ?_; rintro e w' ⟨rfl, m, rfl⟩)
    go_ret
    exact ⟨rfl, hk.drewN _, ha.drewN _⟩

/-- The first k of l, noughts behind them. -/
def fill (l : List Int) (k : Nat) : List Int := l.take k ++ List.replicate (l.length - k) 0
theorem fill_step (l : List Int) (k : Nat) (x : Int) (hk : k < l.length) (hx : l.getD k 0 = x) : (fill l k).set k x = fill l (k + 1) := by
  obtain ⟨m, hm⟩ : ∃ m, l.length - k = m + 1 := ⟨l.length - k - 1, by omega⟩
  have hm' : l.length - (k + 1) = m := by omega
  have hg : l[k] = x := by simpa [List.getD, List.getElem?_eq_getElem hk] using hx
  unfold fill
  rw [hm, hm', List.set_append_right _ _ (by simp; omega), List.take_succ_eq_append_getElem hk, List.length_take, Nat.min_eq_left (by omega), Nat.sub_self, List.replicate_succ, List.set_cons_zero, hg]
  simp
theorem fill_len (l : List Int) (k : Nat) (h : k ≤ l.length) : (fill l k).length = l.length := by
  unfold fill
  simp
  omega
theorem fill_all (l : List Int) : fill l l.length = l := by simp [fill]
theorem fill_none (l : List Int) : fill l 0 = List.replicate l.length 0 := by simp [fill]

def ints (l : List Int) : Array Value := (l.map (Value.int .i64)).toArray
theorem ints_set (l : List Int) (k : Nat) (x : Int) : (ints l).setIfInBounds k (.int .i64 x) = ints (l.set k x) := by
  unfold ints
  rw [List.setIfInBounds_toArray, List.map_set]
theorem ints_at (l : List Int) (k : Nat) (h : k < l.length) : (ints l)[k]? = some (.int .i64 (l.getD k 0)) := by
  unfold ints
  simp [List.getD, List.getElem?_eq_getElem h]

theorem eight (l : List Int) (hl : l.length = 8) : ∃ l0 l1 l2 l3 l4 l5 l6 l7, l = [l0, l1, l2, l3, l4, l5, l6, l7] :=
  match l, hl with
  | [l0, l1, l2, l3, l4, l5, l6, l7], _ => ⟨_, _, _, _, _, _, _, _, rfl⟩

set_option maxRecDepth 100000 in
theorem All_any (P : Value) (l : List Int) (hl : l.length = 8) (w : World)
    (hget : ∀ (k : Nat) (W : World), k < 8 → Below w.heap.size w W → Calls Try.prog 25 #[P, .int .i64 (k : Int)] W fun e w' => e = .returned (.int .i64 (l.getD k 0)) ∧ w' = W) :
    Calls Try.prog 26 #[P] w fun e w' => e = .returned (.agg (ints l)) ∧ Below w.heap.size w w' := by
  have hb0 := ((Below.refl w.heap.size w).alloc (Nat.le_refl _) (.cells (ints (fill l 0)) 41)).alloc (by simp) (.cells (ints (fill l 0)) 41)
  have hB0 := Blk.new (w.alloc (.cells (ints (fill l 0)) 41)) 41 (ints (fill l 0))
  have hA0 := (Blk.new w 41 (ints (fill l 0))).alloc (.cells (ints (fill l 0)) 41)
  have hn : ints (fill l 0) = #[Value.int .i64 0, Value.int .i64 0, Value.int .i64 0, Value.int .i64 0, Value.int .i64 0, Value.int .i64 0, Value.int .i64 0, Value.int .i64 0] := by
    rw [fill_none, hl]
    rfl
  rw [hn] at hb0 hA0
  have hB0 : Blk ((w.alloc (.cells #[Value.int .i64 0, Value.int .i64 0, Value.int .i64 0, Value.int .i64 0, Value.int .i64 0, Value.int .i64 0, Value.int .i64 0, Value.int .i64 0] 41)).alloc (.cells #[Value.int .i64 0, Value.int .i64 0, Value.int .i64 0, Value.int .i64 0, Value.int .i64 0, Value.int .i64 0, Value.int .i64 0, Value.int .i64 0] 41)) (w.heap.size + 1) 41 (ints (fill l 0)) := by
    rw [← hn]
    simpa using hB0
  go_enter Try.func26, Try.ntmps26
  go_wp2
  go_loopw [5] (fun v wr => ∃ k : Nat, v = .int .i64 (k : Int) ∧ k ≤ 8 ∧ Below w.heap.size w wr ∧ Blk wr w.heap.size 41 #[Value.int .i64 0, Value.int .i64 0, Value.int .i64 0, Value.int .i64 0, Value.int .i64 0, Value.int .i64 0, Value.int .i64 0, Value.int .i64 0] ∧ Blk wr (w.heap.size + 1) 41 (ints (fill l k))) (fun v _ => 8 - (intOf v).toNat)
  case atStart => exact ⟨0, by go_num, by omega, hb0, hA0, hB0⟩
  case round =>
    obtain ⟨k, rfl, hk, hb, hA, hB⟩ := hrel
    clear hb0 hA0 hB0
    by_cases hlt : k < 8
    · have hlz : (k : Int) < 8 := by omega
      have hkl : k < (fill l k).length := by rw [fill_len l k (by omega)]; omega
      have hc := hB.cell k
      rw [ints_at _ _ hkl] at hc
      have hf := hB.frozen k
      obtain ⟨x, hx⟩ : ∃ x, l.getD k 0 = x := ⟨_, rfl⟩
      have hg := hget k _ hlt hb
      rw [hx] at hg
      have hB' := hB.set_ k (.int .i64 x)
      rw [ints_set, fill_step l k _ (by omega) hx] at hB'
      have hA' := hA.kept ((Keep.refl (fun i => i = w.heap.size + 1) _).setCell (p := ⟨w.heap.size + 1, k, none⟩) (fun _ => rfl) (.int .i64 x)) (by omega)
      have hb' := hb.setCell (p := ⟨w.heap.size + 1, k, none⟩) (by simp) (.int .i64 x)
      go_wp2_with (go_at_call 25; refine hg.mono ?_; rintro e w' ⟨rfl, rfl⟩)
      go_roundw
      case measure => simp [intOf]; omega
      case rel => exact ⟨k + 1, by go_num, by omega, hb', hA', hB'⟩
    · have hlz : ¬ (k : Int) < 8 := by omega
      have hk8 : k = l.length := by omega
      rw [hk8, fill_all] at hB
      obtain ⟨l0, l1, l2, l3, l4, l5, l6, l7, he⟩ := eight l hl
      have c0 := hB.cell 0
      have c1 := hB.cell 1
      have c2 := hB.cell 2
      have c3 := hB.cell 3
      have c4 := hB.cell 4
      have c5 := hB.cell 5
      have c6 := hB.cell 6
      have c7 := hB.cell 7
      simp [ints, he] at c0 c1 c2 c3 c4 c5 c6 c7
      have a0 := hA.cell 0
      have f0 := hA.frozen 0
      have a1 := hA.cell 1
      have f1 := hA.frozen 1
      have a2 := hA.cell 2
      have f2 := hA.frozen 2
      have a3 := hA.cell 3
      have f3 := hA.frozen 3
      have a4 := hA.cell 4
      have f4 := hA.frozen 4
      have a5 := hA.cell 5
      have f5 := hA.frozen 5
      have a6 := hA.cell 6
      have f6 := hA.frozen 6
      have a7 := hA.cell 7
      have f7 := hA.frozen 7
      simp at a0 a1 a2 a3 a4 a5 a6 a7
      have r := (((((((hA.set_ 0 (.int .i64 l0)).set_ 1 (.int .i64 l1)).set_ 2 (.int .i64 l2)).set_ 3 (.int .i64 l3)).set_ 4 (.int .i64 l4)).set_ 5 (.int .i64 l5)).set_ 6 (.int .i64 l6)).set_ 7 (.int .i64 l7)
      simp only [List.setIfInBounds_toArray, List.set_cons_zero, List.set_cons_succ] at r
      have hbb := (((((((hb.setCell (p := ⟨w.heap.size, 0, none⟩) (Nat.le_refl _) (.int .i64 l0)).setCell (p := ⟨w.heap.size, 1, none⟩) (Nat.le_refl _) (.int .i64 l1)).setCell (p := ⟨w.heap.size, 2, none⟩) (Nat.le_refl _) (.int .i64 l2)).setCell (p := ⟨w.heap.size, 3, none⟩) (Nat.le_refl _) (.int .i64 l3)).setCell (p := ⟨w.heap.size, 4, none⟩) (Nat.le_refl _) (.int .i64 l4)).setCell (p := ⟨w.heap.size, 5, none⟩) (Nat.le_refl _) (.int .i64 l5)).setCell (p := ⟨w.heap.size, 6, none⟩) (Nat.le_refl _) (.int .i64 l6)).setCell (p := ⟨w.heap.size, 7, none⟩) (Nat.le_refl _) (.int .i64 l7)
      clear hB hA
      go_wp2
      refine bodyPost_ret (results_cell_row Try.results26 _ _ w.heap.size 41 _ (0, 0) _ (by simp) r Try.underlying41 rfl (by kernel_rfl)) rfl ⟨by rfl, hbb⟩

theorem All_nil (w : World) : Calls Try.prog 26 #[.pointer none] w fun e w' => e = .returned (.agg (ints (List.replicate 8 0))) ∧ Below w.heap.size w w' :=
  All_any (.pointer none) (List.replicate 8 0) rfl w fun k W hk hb => (get_nil (k : Int) W).mono fun e w' ⟨he, hw⟩ => ⟨by rw [he]; match k, hk with
    | 0, _ => rfl
    | 1, _ => rfl
    | 2, _ => rfl
    | 3, _ => rfl
    | 4, _ => rfl
    | 5, _ => rfl
    | 6, _ => rfl
    | 7, _ => rfl, hw⟩
theorem All_live (g : Nat) (d m : Int) (l : List Int) (w : World) (h : TL w g l d m) :
    Calls Try.prog 26 #[.pointer (some ⟨g, 0, none⟩)] w fun e w' => e = .returned (.agg (ints l)) ∧ Below w.heap.size w w' :=
  All_any (.pointer (some ⟨g, 0, none⟩)) l h.len w fun k W hk hb => get_in g (k : Int) (by omega) (by omega) _ W (by
    have := (h.kept (Keep.of_below hb) (by have := h.lt; omega)).mark k hk
    simpa using this)
end Go.Proofs.Ytlookiicogbkmaa
