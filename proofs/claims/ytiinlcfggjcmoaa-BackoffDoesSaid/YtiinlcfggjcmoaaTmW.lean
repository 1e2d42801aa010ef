/- Timers in memory: New, Set, Drop, At, Len; of nil ones. No condition but that keys and times are ints. -/
import Derived.Test.YtiinlcfggjcmoaaTmC
import Derived.Maps.RangeWalk
import Derived.Maps.OwnOps
namespace Go.Proofs.Ytiinlcfggjcmoaa
open Go.RowKit Go.Maps Go.Sort
set_option linter.unusedVariables false
set_option linter.unusedSimpArgs false

theorem zero_int (w : World) : (zeroValue 3).run Try.prog w = .ok (.int .i64 0) w := by kernel_rfl
theorem keyI {k : Int} (h : (Lit.int .i64 k).wf = true) : keyOf Try.prog 3 (.int .i64 k) = some (.int .i64 k) := keyOf_int_mk Try.underlying3 h
theorem kI : Keyed Try.prog 3 := int_keyed Try.underlying3
theorem valI {k : Int} (h : (Lit.int .i64 k).wf = true) : (plainElem Try.prog 3 : Value → Option (DataW Unit × List MemPlace)) (.int .i64 k) = some (.lit (.int .i64 k), []) := plainElem_int Try.underlying3 h
theorem ownsMap_kept {S : Nat → Prop} {w w' : World} {b n : Nat} {D : DataW Unit} (h : w.ownsMap Try.prog 3 (plainElem Try.prog 3) b n D) (hk : Keep S w w') (hs : ¬ S b) : w'.ownsMap Try.prog 3 (plainElem Try.prog 3) b n D := by
  obtain ⟨es, clock, hb, F, h2⟩ := h
  exact ⟨es, clock, (hk.block b (Array.getElem?_eq_some_iff.1 hb).1 hs).trans hb, F, h2⟩
/-- Timers: their block, their map's block, how many entries the map may have had, what they are. -/
structure TM (w : World) (p b N : Nat) (x : List Tm) : Prop where
  pc : Blk w p 53 #[.map (some b)]
  mp : ∃ D : DataW Unit, w.ownsMap Try.prog 3 (plainElem Try.prog 3) b N D ∧ DT D x
  ne : p ≠ b
  ord : OrdT x
section
variable {w w' : World} {p b N : Nat} {x : List Tm}
theorem TM.kept {S : Nat → Prop} (h : TM w p b N x) (k : Keep S w w') (h1 : ¬ S p) (h2 : ¬ S b) : TM w' p b N x := by
  obtain ⟨D, hm, hd⟩ := h.mp
  exact ⟨h.pc.kept k h1, ⟨D, ownsMap_kept hm k h2, hd⟩, h.ne, h.ord⟩
theorem TM.lt (h : TM w p b N x) : p < w.heap.size ∧ b < w.heap.size := by
  obtain ⟨D, hm, hd⟩ := h.mp
  exact ⟨h.pc.lt, hm.lt⟩
theorem TM.below (h : TM w p b N x) (k : Below w.heap.size w w') : TM w' p b N x := h.kept (Keep.of_below k) (Nat.not_le.2 h.lt.1) (Nat.not_le.2 h.lt.2)
theorem TM.alloc (h : TM w p b N x) (o : Obj) : TM (w.alloc o) p b N x := h.below ((Below.refl _ w).alloc (Nat.le_refl _) o)
theorem TM.drew (h : TM w p b N x) : TM w.drew p b N x := h.kept ((Keep.refl (fun _ => False) w).drew) id id
theorem TM.size (h : TM w p b N x) : x.length ≤ N := by
  obtain ⟨D, hm, hd⟩ := h.mp
  rw [← hd.size_]
  exact hm.size_le
end
theorem tall_any {w : World} {p b N : Nat} {x : List Tm} (h : TM w p b N x) : Calls Try.prog 24 #[.pointer (some ⟨p, 0, none⟩)] w fun e w' => e = .returned (.map (some b)) ∧ w' = w := by
  have c0 := h.pc.cell 0
  simp at c0
  go_enter Try.func24, Try.ntmps24
  go_wp2
  go_ret
  exact ⟨rfl, rfl⟩
theorem tall_nil (w : World) : Calls Try.prog 24 #[.pointer none] w fun e w' => e = .returned (.map none) ∧ w' = w := by
  go_enter Try.func24, Try.ntmps24
  go_wp2
  go_ret
  exact ⟨rfl, rfl⟩
theorem tnew_any (w : World) : Calls Try.prog 12 #[] w fun e w' => ∃ p b, e = .returned (.pointer (some ⟨p, 0, none⟩)) ∧ TM w' p b 0 [] ∧ w.heap.size ≤ p ∧ w.heap.size ≤ b ∧ Below w.heap.size w w' := by
  have hmm := @run_makeMap Try.prog
  go_enter Try.func12, Try.ntmps12
  go_wp2
  have hsz : (w.alloc (Obj.map #[] 0)).heap.size = w.heap.size + 1 := by simp
  have hblk := Blk.new (w.alloc (Obj.map #[] 0)) 53 #[.map (some w.heap.size)]
  have hown := (World.ownsMap_made w Try.prog 3 (plainElem Try.prog 3 : Value → Option (DataW Unit × List MemPlace))).alloc (.cells #[.map (some w.heap.size)] 53)
  have hbel := ((Below.refl w.heap.size w).alloc (Nat.le_refl _) (Obj.map #[] 0)).alloc (by rw [hsz]; exact Nat.le_succ _) (.cells #[.map (some w.heap.size)] 53)
  rw [hsz] at hblk
  go_ret
  exact ⟨w.heap.size + 1, w.heap.size, rfl, ⟨hblk, ⟨_, hown, DT.start⟩, by omega, OrdT.nil⟩, Nat.le_succ _, Nat.le_refl _, hbel⟩
theorem tset_nil (k a : Int) (w : World) : Calls Try.prog 14 #[.pointer none, .int .i64 k, .int .i64 a] w fun e w' => e = .returned (.tuple #[]) ∧ w' = w := by
  go_enter Try.func14, Try.ntmps14
  go_wp2
  go_end0
  exact ⟨rfl, rfl⟩
def SetPost (w : World) (p b N : Nat) (x : List Tm) (k a : Int) (e : Ending) (w' : World) : Prop := e = .returned (.tuple #[]) ∧ TM w' p b (N + 1) (setT x k a) ∧ Keep (fun i => i = b) w w'
theorem tset_any {w : World} {p b N : Nat} {x : List Tm} (k a : Int) (h : TM w p b N x) (hk : (Lit.int .i64 k).wf = true) (ha : (Lit.int .i64 a).wf = true) (hN : N ≤ 1048576) :
    Calls Try.prog 14 #[.pointer (some ⟨p, 0, none⟩), .int .i64 k, .int .i64 a] w (SetPost w p b N x k a) := by
  have c0 := h.pc.cell 0
  simp at c0
  obtain ⟨D, hm, hd⟩ := h.mp
  go_enter Try.func14, Try.ntmps14
  go_wp2_with (at_mapUpdate; refine wpList_mapUpdate_own _ rfl _ _ _ 51 rfl 3 3 kI Try.underlying51 (plainElem Try.prog 3) b N D rfl hm (by unfold maxLen; omega) _ _ _ rfl rfl (keyI hk) _ [] (valI ha) ?_; intro w1 hm1 hg1)
  go_end0
  have hK : Keep (fun i => i = b) w w1 := (Keep.of_grown hg1).mono fun i _ e => (Option.some.inj e).symm
  exact ⟨rfl, ⟨h.pc.kept hK h.ne, ⟨_, hm1, hd.put h.ord k a⟩, h.ne, h.ord.set k a⟩, hK⟩
def AtPost (w : World) (x : List Tm) (k : Int) (e : Ending) (w' : World) : Prop := e = .returned (.tuple #[.int .i64 (atT x k), .bool (decide (k ∈ x.map (·.1)))]) ∧ w' = w
theorem tat_any {w : World} {p b N : Nat} {x : List Tm} (k : Int) (h : TM w p b N x) (hk : (Lit.int .i64 k).wf = true) :
    Calls Try.prog 13 #[.pointer (some ⟨p, 0, none⟩), .int .i64 k] w (AtPost w x k) := by
  obtain ⟨D, hm, hd⟩ := h.mp
  have hat := hd.at_ h.ord k
  have hhas := hd.has_ k
  generalize hmem : decide (k ∈ x.map (·.1)) = mem at hhas
  have HM := Lib.hid hmem
  clear hmem
  go_enter Try.func13, Try.ntmps13
  go_wp2_with fail
  refine (tall_any h).mono ?_
  rintro e w' ⟨rfl, rfl⟩
  go_wp2_with (at_lookup; refine wpList_lookup_own_ok_int _ rfl _ _ 51 rfl 3 3 .i64 kI Try.underlying51 Try.underlying3 (zero_int _) b N D rfl hm _ _ rfl (keyI hk) ?_; intro c hc hw; rw [hat] at hc; injection hc with hc; injection hc with _ hc; subst hc; rw [hhas])
  go_ret2
  exact ⟨by rw [HM.out]; rfl, rfl⟩
theorem tat_nil (k : Int) (w : World) (hk : (Lit.int .i64 k).wf = true) : Calls Try.prog 13 #[.pointer none, .int .i64 k] w fun e w' => e = .returned (.tuple #[.int .i64 0, .bool false]) ∧ w' = w := by
  have hl := Maps.look_nil (w := w) true kI Try.underlying51 (zero_int w) (keyI hk)
  simp only [if_true] at hl
  go_enter Try.func13, Try.ntmps13
  go_wp2_with (go_at_call 24; refine (tall_nil _).mono ?_; rintro e w' ⟨rfl, rfl⟩)
  go_ret2
  exact ⟨rfl, rfl⟩
def DropPost (w : World) (p b N : Nat) (x : List Tm) (k : Int) (e : Ending) (w' : World) : Prop := e = .returned (.bool (decide (k ∈ x.map (·.1)))) ∧ TM w' p b N (dropT x k) ∧ Keep (fun i => i = b) w w'
theorem tdrop_any {w : World} {p b N : Nat} {x : List Tm} (k : Int) (h : TM w p b N x) (hk : (Lit.int .i64 k).wf = true) :
    Calls Try.prog 16 #[.pointer (some ⟨p, 0, none⟩), .int .i64 k] w (DropPost w p b N x k) := by
  obtain ⟨D, hm, hd⟩ := h.mp
  have hat := hd.at_ h.ord k
  have hhas := hd.has_ k
  generalize hmem : decide (k ∈ x.map (·.1)) = mem at hhas
  have HM := Lib.hid hmem
  clear hmem
  go_enter Try.func16, Try.ntmps16
  go_wp2_with fail
  refine (tall_any h).mono ?_
  rintro e w' ⟨rfl, hww⟩
  subst w'
  go_wp2_with (at_lookup; refine wpList_lookup_own_ok_int _ rfl _ _ 51 rfl 3 3 .i64 kI Try.underlying51 Try.underlying3 (zero_int _) b N D rfl hm _ _ rfl (keyI hk) ?_; intro c hc hw; rw [hat] at hc; injection hc with hc; injection hc with _ hc; subst hc; rw [hhas])
  refine (tall_any h).mono ?_
  rintro e w' ⟨rfl, hww⟩
  subst w'
  go_wp2_with (at_delete; refine wpList_delete_own _ rfl _ _ 51 3 rfl 3 kI Try.underlying51 (plainElem Try.prog 3) b N D rfl hm _ _ rfl (keyI hk) ?_; intro w1 hm1 ht1)
  have hK : Keep (fun i => i = b) w w1 := (Keep.of_grown ht1.grown).mono fun i _ e => (Option.some.inj e).symm
  go_ret
  exact ⟨by rw [HM.out]; rfl, ⟨h.pc.kept hK h.ne, ⟨_, hm1, hd.del h.ord k⟩, h.ne, h.ord.drop k⟩, hK⟩
theorem tdrop_nil (k : Int) (w : World) (hk : (Lit.int .i64 k).wf = true) : Calls Try.prog 16 #[.pointer none, .int .i64 k] w fun e w' => e = .returned (.bool false) ∧ w' = w := by
  have hl := Maps.look_nil (w := w) true kI Try.underlying51 (zero_int w) (keyI hk)
  simp only [if_true] at hl
  have hdl := fun ty => Maps.drop_nil (w := w) kI Try.underlying51 (keyI hk) ty
  go_enter Try.func16, Try.ntmps16
  go_wp2_with (go_at_call 24; refine (tall_nil _).mono ?_; rintro e w' ⟨rfl, rfl⟩)
  go_ret
  exact ⟨rfl, rfl⟩
theorem tlen_any {w : World} {p b N : Nat} {x : List Tm} (h : TM w p b N x) :
    Calls Try.prog 21 #[.pointer (some ⟨p, 0, none⟩)] w fun e w' => e = .returned (.int .i64 (x.length : Nat)) ∧ w' = w := by
  obtain ⟨D, hm, hd⟩ := h.mp
  have hs := hd.size_
  rw [← hs]
  go_enter Try.func21, Try.ntmps21
  clear hs
  go_wp2_with (first | (go_at_call 24; refine (tall_any h).mono ?_; rintro e w' ⟨rfl, rfl⟩) | (at_len; refine wpList_len_own _ rfl _ 51 rfl 3 3 Try.underlying51 (plainElem Try.prog 3) b N D rfl hm ?_))
  go_ret
  exact ⟨rfl, rfl⟩
theorem tlen_nil (w : World) : Calls Try.prog 21 #[.pointer none] w fun e w' => e = .returned (.int .i64 0) ∧ w' = w := by
  have hl := fun ty => Maps.len_nil (w := w) Try.underlying51 ty
  go_enter Try.func21, Try.ntmps21
  go_wp2_with (go_at_call 24; refine (tall_nil _).mono ?_; rintro e w' ⟨rfl, rfl⟩)
  go_ret
  exact ⟨rfl, rfl⟩
end Go.Proofs.Ytiinlcfggjcmoaa
