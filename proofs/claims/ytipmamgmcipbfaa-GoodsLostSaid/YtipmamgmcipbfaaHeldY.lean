/- A drawn region the last operations of which (zs) may break what the loads lean on: they wait for them, maybe through others (Y). No condition. -/
import Derived.Test.YtipmamgmcipbfaaHeldZ
namespace Go.Proofs.Ytipmamgmcipbfaa
open Go Go.RowKit
set_option linter.unusedVariables false
section
variable {P : Program} {ops : Array Oper} {Q : Exit → Act → World → Prop} {md : Region.Mode} {S : World → Prop} {zs : List Nat}

/-- Does each of Y wait for i, or for another one of Y? -/
def blockedY (md : Region.Mode) (ops : Array Oper) (i : Nat) (Y : List Nat) : Bool := Y.all fun y => match ops[y]? with
  | none => false
  | some o => o.after.any fun e => Region.binds md e && (e.on == i || Y.contains e.on)
/-- Is none of Y listed? -/
def unlistedY (listed : Array Bool) (Y : List Nat) : Bool := Y.all fun y => !(listed.getD y true)
def wpAnyY (P : Program) (md : Region.Mode) (ops : Array Oper) (Q : Exit → Act → World → Prop) (S : World → Prop) (zs : List Nat) : Nat → Array Bool → Act → World → Prop
  | 0, listed, a, w => Region.ready md ops listed = [] ∧ Q .normal a w
  | n + 1, listed, a, w => (Region.ready md ops listed = [] → Q .normal a w) ∧
    ∀ i ∈ Region.ready md ops listed, wpOp P ops Q i (fun b v => (i ∉ zs → S v) ∧ wpAnyY P md ops Q S zs n (listed.setIfInBounds i true) b v) a w
theorem wpAny_of_y : ∀ (n : Nat) (listed : Array Bool) (a : Act) (w : World), wpAnyY P md ops Q S zs n listed a w → wpAny P md ops Q n listed a w
  | 0, _, _, _, h => h
  | n + 1, _, _, _, h => ⟨h.1, fun i hi => wpOp_mono (fun b v hb => wpAny_of_y n _ b v hb.2) (h.2 i hi)⟩
theorem wpAnyY_first {i : Nat} {oi : Oper} {u : Value} (Y : List Nat) (hi : ops[i]? = some oi) (hY : blockedY md ops i Y = true) (hzY : ∀ x ∈ zs, x ∈ Y) (hsel : ∀ (j : Nat) (o : Oper) cs b, ops[j]? = some o → o.op ≠ .select cs b)
    (hQ : ∀ c a w, Q (.panic c) (a.put oi.dst u) w → Q (.panic c) a w) (n : Nat) :
    ∀ (listed : Array Bool) (a : Act) (w : World),
      (∀ j oj, ops[j]? = some oj → j ≠ i → listed.getD j true = false → (∀ e ∈ oj.after, Region.binds md e = true → e.on ≠ i) → oi.apart ops oj = true) →
      i ∈ Region.ready md ops listed → unlistedY listed Y = true → YieldsIf P ops S oi u a → S w →
      wpAnyY P md ops Q S zs n (listed.setIfInBounds i true) (a.put oi.dst u) w → wpAnyY P md ops Q S zs (n + 1) listed a w := by
  induction n with
  | zero =>
    intro listed a w _ hr hl hy hS H
    refine ⟨fun h0 => absurd hr (by rw [h0]; exact List.not_mem_nil), fun j hj => ?_⟩
    by_cases e : j = i
    · subst e
      exact hy.wpOp hi hS ⟨fun _ => hS, H⟩
    · exfalso
      have hm := ready_mono hj e
      rw [H.1] at hm
      exact List.not_mem_nil hm
  | succ n ih =>
    intro listed a w hfree hr hl hy hS H
    refine ⟨fun h0 => absurd hr (by rw [h0]; exact List.not_mem_nil), fun j hj => ?_⟩
    by_cases e : j = i
    · subst e
      exact hy.wpOp hi hS ⟨fun _ => hS, H⟩
    obtain ⟨hun, oj, hoj, hall⟩ := mem_ready.1 hj
    have hlY : ∀ y ∈ Y, listed.getD y true = false := fun y hy => by
      have := List.all_eq_true.1 hl y hy
      simpa using this
    have hout : ∀ (d : Nat), listed.getD d true = false → (∀ e ∈ oj.after, Region.binds md e = true → e.on ≠ d) := by
      intro d hu f hd hb heq
      have hl := hall f hd hb
      rw [heq] at hl
      by_cases hs : d < listed.size
      · simp [hs] at hl hu
        rw [hu] at hl
        cases hl
      · simp [Array.getElem?_eq_none (Nat.le_of_not_lt hs)] at hu
    have hnot := hout i (mem_ready.1 hr).1
    have hjY : j ∉ Y := by
      intro hj2
      have h1 := List.all_eq_true.1 hY j hj2
      rw [hoj] at h1
      simp only [Array.any_eq_true'] at h1
      obtain ⟨d, hd, hdd⟩ := h1
      rw [Bool.and_eq_true, Bool.or_eq_true] at hdd
      rcases hdd.2 with h2 | h2
      · exact hnot d hd hdd.1 (by simpa using h2)
      · exact hout d.on (hlY _ (by simpa using h2)) d hd hdd.1 rfl
    have hjz : j ∉ zs := fun ez => hjY (hzY j ez)
    have h2 := wpOp_putIf hoj (hfree j oj hoj e hun hnot) (fun cs b => hsel i oi cs b hi) (fun cs b => hsel j oj cs b hoj) hQ hy (H.2 j (ready_mono hj e))
    have hfree2 : ∀ k ok, ops[k]? = some ok → k ≠ i → (listed.setIfInBounds j true).getD k true = false → (∀ e ∈ ok.after, Region.binds md e = true → e.on ≠ i) → oi.apart ops ok = true := by
      intro k ok hk hki hku hkn
      by_cases ejk : j = k
      · subst ejk
        exact hfree j ok hk e hun hkn
      · rw [getD_set_ne true ejk] at hku
        exact hfree k ok hk hki hku hkn
    have hl2 : unlistedY (listed.setIfInBounds j true) Y = true := by
      refine List.all_eq_true.2 fun y hy => ?_
      have hne2 : j ≠ y := fun e => hjY (by rw [e]; exact hy)
      rw [getD_set_ne true hne2, hlY y hy]
      rfl
    refine wpOp_mono (fun b v hb => ?_) h2
    obtain ⟨hyb, hSb, hrest⟩ := hb
    refine ⟨hSb, ih (listed.setIfInBounds j true) b v hfree2 (ready_mono hr (Ne.symm e)) hl2 hyb (hSb hjz) ?_⟩
    rw [Array.setIfInBounds_comm _ _ e]
    exact hrest
theorem tkY {oi : Oper} {u : Value} {n : Nat} {listed : Array Bool} {a : Act} {w : World} (i : Nat) (Y : List Nat) (hi : ops[i]? = some oi) (hY : blockedY md ops i Y = true) (hzY : (zs.all fun x => Y.contains x) = true) (hl : unlistedY listed Y = true)
    (hs : Region.noSelect ops = true) (hf : Region.free md ops listed i = true) (hr : (Region.ready md ops listed).contains i = true)
    (hQ : ∀ c a w, Q (.panic c) (a.put oi.dst u) w → Q (.panic c) a w) (hw : Region.wanted oi (yielded ops a.tmps) = true) (hy : ∀ w, S w → (execOp a.eval oi).run P w = .ok (.value u) w) (hS : S w)
    (h : wpAnyY P md ops Q S zs n (listed.setIfInBounds i true) (a.put oi.dst u) w) : wpAnyY P md ops Q S zs (n + 1) listed a w :=
  wpAnyY_first Y hi hY (fun x hx => by have := List.all_eq_true.1 hzY x hx; simpa using this) (Region.noSelect_spec hs) hQ n listed a w (Region.free_spec hi hf) (by simpa using hr) hl (.inl ⟨hw, hy⟩) hS h
theorem tkYN {oi : Oper} {n : Nat} {listed : Array Bool} {a : Act} {w : World} (i : Nat) (Y : List Nat) (hi : ops[i]? = some oi) (hY : blockedY md ops i Y = true) (hzY : (zs.all fun x => Y.contains x) = true) (hl : unlistedY listed Y = true)
    (hs : Region.noSelect ops = true) (hf : Region.free md ops listed i = true) (hr : (Region.ready md ops listed).contains i = true)
    (hQ : ∀ c a w, Q (.panic c) (a.put oi.dst undef) w → Q (.panic c) a w) (hw : Region.wanted oi (yielded ops a.tmps) = false) (hS : S w)
    (h : wpAnyY P md ops Q S zs n (listed.setIfInBounds i true) (a.put oi.dst undef) w) : wpAnyY P md ops Q S zs (n + 1) listed a w :=
  wpAnyY_first Y hi hY (fun x hx => by have := List.all_eq_true.1 hzY x hx; simpa using this) (Region.noSelect_spec hs) hQ n listed a w (Region.free_spec hi hf) (by simpa using hr) hl (.inr ⟨hw, rfl⟩) hS h
/-- One alone may come up: number i, behind which S is owed. -/
theorem wpAnyY_one {o : Oper} {n : Nat} {listed : Array Bool} {a : Act} {w : World} (i : Nat) (hr : Region.ready md ops listed = [i]) (ho : ops[i]? = some o)
    (h : ∀ K : Act → World → Prop, Shut (∀ b v, S v → (S v → wpAnyY P md ops Q S zs n (listed.setIfInBounds i true) b v) → K b v) → if Region.wanted o (yielded ops a.tmps) = true then Oper.wp P o a w K Q else K (a.put o.dst undef) w) :
    wpAnyY P md ops Q S zs (n + 1) listed a w :=
  ⟨fun h0 => (by rw [hr] at h0; cases h0), fun j hj => by
    rw [hr, List.mem_singleton] at hj
    subst hj
    exact wpOp_step ho fun K hK => h K fun b v h1 h2 => hK b v ⟨fun _ => h1, h2 h1⟩⟩
/-- .. behind which S is not owed. -/
theorem wpAnyY_last {o : Oper} {n : Nat} {listed : Array Bool} {a : Act} {w : World} (i : Nat) (hi : (zs.contains i) = true) (hr : Region.ready md ops listed = [i]) (ho : ops[i]? = some o)
    (h : ∀ K : Act → World → Prop, Shut (∀ b v, wpAnyY P md ops Q S zs n (listed.setIfInBounds i true) b v → K b v) → if Region.wanted o (yielded ops a.tmps) = true then Oper.wp P o a w K Q else K (a.put o.dst undef) w) :
    wpAnyY P md ops Q S zs (n + 1) listed a w :=
  ⟨fun h0 => (by rw [hr] at h0; cases h0), fun j hj => by
    rw [hr, List.mem_singleton] at hj
    subst hj
    exact wpOp_step ho fun K hK => h K fun b v h2 => hK b v ⟨fun h => absurd (by simpa using hi) h, h2⟩⟩
theorem wpAnyY_done {listed : Array Bool} {a : Act} {w : World} (hr : Region.ready md ops listed = []) (h : Q .normal a w) : ∀ n, wpAnyY P md ops Q S zs n listed a w
  | 0 => ⟨hr, h⟩
  | _ + 1 => ⟨fun _ => h, by rw [hr]; intro i hi; cases hi⟩
theorem wp_region_y {id : Nat} {a : Act} {w : World} (zs : List Nat) (hm : P.follows .mixedOrders = true) (hS : S w.drew)
    (h : S w.drew → wpAnyY P .any ops Q S zs ops.size (Array.replicate ops.size false) a w.drew) : (Code.region id ops true).wp P Q a w :=
  wp_region_any hm (wpAny_of_y _ _ _ _ (h hS))
end
end Go.Proofs.Ytipmamgmcipbfaa
