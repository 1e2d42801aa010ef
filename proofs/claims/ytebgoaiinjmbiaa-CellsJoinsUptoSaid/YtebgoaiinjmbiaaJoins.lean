/- The document's Join; what was joined is split again. No condition but bounds on what is joined. -/
import Derived.Test.YtebgoaiinjmbiaaRefSplit
namespace Go.Proofs.Ytebgoaiinjmbiaa
open Go.RowKit
set_option linter.unusedVariables false
set_option linter.unusedSimpArgs false

theorem wp_app {w : World} {o : Oper} {a : Act} {K : Act → World → Prop} {Q : Exit → Act → World → Prop} (s x : Operand) (ho : o.op = .call { callee := .builtin .append, args := #[s, x], argTypes := #[23, 23] })
    (base : Nat) (v : Value) (l : List UInt8) (hs : a.eval s = v) (hown : OB base w v l) (A : Option Addr) (m c : Nat) (news : List UInt8) (hx : a.eval x = .slice A m c) (hr : RB w A m news)
    (hn : l.length + m ≤ 140737488355328) (hbase : base ≤ w.heap.size)
    (h : ∀ v' w', Grew base w v w' v' (l ++ news) → K (a.put o.dst v') w') : o.wp Try.prog a w K Q := by
  obtain ⟨v', w', hrun, h2⟩ := run_app w base o.type v l hown A m c news hr hn hbase hr.none_zero
  unfold Oper.wp execOp
  simp only [ho, resolve, invoke, builtin, Sem.run_bind, Sem.run_pure, Result.andThen_ok, List.map_toArray, List.map_cons, List.map_nil, hs, hx, hrun]
  exact h v' w' h2

set_option maxRecDepth 100000 in
set_option maxHeartbeats 3200000 in
theorem refJoin_any (A : Option Addr) (n c : Nat) (ls : List (List UInt8)) (w : World) (hr : RR w A n ls) (hn : n ≤ 9223372036854775807) (hj : (joinL ls).length ≤ 35184372088832) :
    Calls Try.prog 9 #[.slice A n c] w fun e w' => ∃ v', e = .returned v' ∧ OB w.heap.size w' v' (joinL ls) ∧ Below w.heap.size w w' := by
  have HL := Lib.hid hr.1
  go_enter Try.func9, Try.ntmps9
  go_wp2_with fail
  --LOOP
  go_loopw [3, 4] (fun u iv wr => ∃ k : Nat, k ≤ n ∧ iv = .int .i64 (k : Int) ∧ OB w.heap.size wr u (joinL (ls.take k)) ∧ Below w.heap.size w wr)
    (fun _ iv _ => n - (intOf iv).toNat)
  case atStart => exact ⟨0, by omega, rfl, by simpa [joinL] using OB.nil _ _, Below.refl _ _⟩
  case round =>
    obtain ⟨k, hk, rfl, ho, hB⟩ := hrel
    by_cases hlt : k < n
    · obtain ⟨t, ht⟩ : ∃ t, ls[k]? = some t := ⟨_, List.getElem?_eq_getElem (by rw [HL.out]; exact hlt)⟩
      obtain ⟨b, off, Ai, ni, ci, rfl, hcl0, hrt, hnci, hcci⟩ := hr.2 k t ht
      have hcl : ∀ W : World, Below w.heap.size w W → W.cell? ⟨b, off + k, none⟩ = some (.slice Ai ni ci) := fun W hW => (hW.cell (World.block_lt_of_cell? _ _ hcl0)).trans hcl0
      have HT := Lib.hid (take_more ht)
      have HTL := Lib.hid hrt.1
      have hlen : (joinL (ls.take k)).length + 1 + ni ≤ 35184372088832 := by
        have h1 := joinL_take ls (k + 1)
        have h2 := (numCell_len (t.length : Int)).1
        rw [HT.out, joinL_snoc, List.length_append, List.length_append, HTL.out] at h1
        rw [HTL.out] at h2
        omega
      have h9 := (numCell_len (ni : Int)).2
      have hBd : Below w.heap.size w wr.drew := ⟨hB.os, hB.tape, hB.output, hB.size, hB.block⟩
      have hod : OB w.heap.size wr.drew u3 (joinL (ls.take k)) := ho
      have hcd := hcl _ hBd
      have hnum := refNum_any (ni : Int) wr.drew (by omega) (by omega)
      clear ht hcl0
      go_wp2_with fail
      --REG
      refine wp_region_held_drew (S := (fun w' => w'.cell? ⟨b, off + k, none⟩ = some (.slice Ai ni ci))) (by kernel_rfl) hcd (fun hHeld => ?_)
      refine wpAnyH_take (i := 0) (oi := ?oi0) (v := ?v0) ?hi0 (by kernel_rfl) (by kernel_rfl) (by kernel_rfl) ?hq0 (Or.inl ⟨?hw0, ?hy0⟩) (by assumption) ?rest0
      case hi0 => (simp only [List.getElem?_toArray, List.getElem?_cons_succ, List.getElem?_cons_zero]; rfl)
      case hq0 => exact fun _ _ _ h => h
      case hw0 => rfl
      case hy0 => (intro w hSw; (try dsimp only at hSw); go_simp <;> with_reducible rfl)
      try simp only [Act.put, List.setIfInBounds_toArray, List.set_cons_zero, List.set_cons_succ]
      refine wpAnyH_take (i := 1) (oi := ?oi1) (v := ?v1) ?hi1 (by kernel_rfl) (by kernel_rfl) (by kernel_rfl) ?hq1 (Or.inl ⟨?hw1, ?hy1⟩) (by assumption) ?rest1
      case hi1 => (simp only [List.getElem?_toArray, List.getElem?_cons_succ, List.getElem?_cons_zero]; rfl)
      case hq1 => exact fun _ _ _ h => h
      case hw1 => rfl
      case hy1 => (intro w hSw; (try dsimp only at hSw); go_simp <;> with_reducible rfl)
      try simp only [Act.put, List.setIfInBounds_toArray, List.set_cons_zero, List.set_cons_succ]
      refine wpAnyH_take (i := 2) (oi := ?oi2) (v := ?v2) ?hi2 (by kernel_rfl) (by kernel_rfl) (by kernel_rfl) ?hq2 (Or.inl ⟨?hw2, ?hy2⟩) (by assumption) ?rest2
      case hi2 => (simp only [List.getElem?_toArray, List.getElem?_cons_succ, List.getElem?_cons_zero]; rfl)
      case hq2 => exact fun _ _ _ h => h
      case hw2 => rfl
      case hy2 => (intro w hSw; (try dsimp only at hSw); go_simp <;> with_reducible rfl)
      try simp only [Act.put, List.setIfInBounds_toArray, List.set_cons_zero, List.set_cons_succ]
      refine wpAnyH_take (i := 3) (oi := ?oi3) (v := ?v3) ?hi3 (by kernel_rfl) (by kernel_rfl) (by kernel_rfl) ?hq3 (Or.inl ⟨?hw3, ?hy3⟩) (by assumption) ?rest3
      case hi3 => (simp only [List.getElem?_toArray, List.getElem?_cons_succ, List.getElem?_cons_zero]; rfl)
      case hq3 => exact fun _ _ _ h => h
      case hw3 => rfl
      case hy3 => (intro w hSw; (try dsimp only at hSw); go_simp <;> with_reducible rfl)
      try simp only [Act.put, List.setIfInBounds_toArray, List.set_cons_zero, List.set_cons_succ]
      refine wpAnyH_take (i := 4) (oi := ?oi4) (v := ?v4) ?hi4 (by kernel_rfl) (by kernel_rfl) (by kernel_rfl) ?hq4 (Or.inl ⟨?hw4, ?hy4⟩) (by assumption) ?rest4
      case hi4 => (simp only [List.getElem?_toArray, List.getElem?_cons_succ, List.getElem?_cons_zero]; rfl)
      case hq4 => exact fun _ _ _ h => h
      case hw4 => rfl
      case hy4 => (intro w hSw; (try dsimp only at hSw); go_simp <;> with_reducible rfl)
      try simp only [Act.put, List.setIfInBounds_toArray, List.set_cons_zero, List.set_cons_succ]
      refine wpAnyH_take (i := 5) (oi := ?oi5) (v := ?v5) ?hi5 (by kernel_rfl) (by kernel_rfl) (by kernel_rfl) ?hq5 (Or.inl ⟨?hw5, ?hy5⟩) (by assumption) ?rest5
      case hi5 => (simp only [List.getElem?_toArray, List.getElem?_cons_succ, List.getElem?_cons_zero]; rfl)
      case hq5 => exact fun _ _ _ h => h
      case hw5 => rfl
      case hy5 => (intro w hSw; (try dsimp only at hSw); go_simp <;> with_reducible rfl)
      try simp only [Act.put, List.setIfInBounds_toArray, List.set_cons_zero, List.set_cons_succ]
      refine wpAnyH_take (i := 8) (oi := ?oi8) (v := ?v8) ?hi8 (by kernel_rfl) (by kernel_rfl) (by kernel_rfl) ?hq8 (Or.inl ⟨?hw8, ?hy8⟩) (by assumption) ?rest8
      case hi8 => (simp only [List.getElem?_toArray, List.getElem?_cons_succ, List.getElem?_cons_zero]; rfl)
      case hq8 => exact fun _ _ _ h => h
      case hw8 => rfl
      case hy8 => (intro w hSw; (try dsimp only at hSw); go_simp <;> with_reducible rfl)
      try simp only [Act.put, List.setIfInBounds_toArray, List.set_cons_zero, List.set_cons_succ]
      refine wpAnyH_take (i := 9) (oi := ?oi9) (v := ?v9) ?hi9 (by kernel_rfl) (by kernel_rfl) (by kernel_rfl) ?hq9 (Or.inl ⟨?hw9, ?hy9⟩) (by assumption) ?rest9
      case hi9 => (simp only [List.getElem?_toArray, List.getElem?_cons_succ, List.getElem?_cons_zero]; rfl)
      case hq9 => exact fun _ _ _ h => h
      case hw9 => rfl
      case hy9 => (intro w hSw; (try dsimp only at hSw); go_simp <;> with_reducible rfl)
      try simp only [Act.put, List.setIfInBounds_toArray, List.set_cons_zero, List.set_cons_succ]
      refine wpAnyH_take (i := 10) (oi := ?oi10) (v := ?v10) ?hi10 (by kernel_rfl) (by kernel_rfl) (by kernel_rfl) ?hq10 (Or.inl ⟨?hw10, ?hy10⟩) (by assumption) ?rest10
      case hi10 => (simp only [List.getElem?_toArray, List.getElem?_cons_succ, List.getElem?_cons_zero]; rfl)
      case hq10 => exact fun _ _ _ h => h
      case hw10 => rfl
      case hy10 => (intro w hSw; (try dsimp only at hSw); go_simp <;> with_reducible rfl)
      try simp only [Act.put, List.setIfInBounds_toArray, List.set_cons_zero, List.set_cons_succ]
      refine wpAnyH_take (i := 11) (oi := ?oi11) (v := ?v11) ?hi11 (by kernel_rfl) (by kernel_rfl) (by kernel_rfl) ?hq11 (Or.inl ⟨?hw11, ?hy11⟩) (by assumption) ?rest11
      case hi11 => (simp only [List.getElem?_toArray, List.getElem?_cons_succ, List.getElem?_cons_zero]; rfl)
      case hq11 => exact fun _ _ _ h => h
      case hw11 => rfl
      case hy11 => (intro w hSw; (try dsimp only at hSw); go_simp <;> with_reducible rfl)
      try simp only [Act.put, List.setIfInBounds_toArray, List.set_cons_zero, List.set_cons_succ]
      refine wpAnyH_ready (rs := [6]) (by kernel_rfl) (by simp) ?_
      refine AllReadyH.cons (o := ?o6) ?hi6 (fun K hK => ?st6) AllReadyH.nil
      case hi6 => (simp only [List.getElem?_toArray, List.getElem?_cons_succ, List.getElem?_cons_zero]; rfl)
      go_simp
      refine hnum.mono ?_
      rintro e w7 ⟨v7, rfl, ho7, hb7⟩
      have hB7 := hBd.trans (hb7.mono hBd.size)
      have ho37 := hod.kept (Keep.of_below hb7) (fun g hg h => by have := (hod.lt g hg).2; omega)
      obtain ⟨A7, c7, rfl, _, _, hr7, _⟩ := ho7.form
      have hc7 := hcl _ hB7
      have hz7 := hB7.size
      refine hK.out _ _ hc7 (fun hHeld2 => ?_)
      clear hK K hHeld
      have hHeld := hHeld2
      clear hHeld2
      try simp only [Act.put, List.setIfInBounds_toArray, List.set_cons_zero, List.set_cons_succ]
      refine wpAnyH_ready (rs := [7]) (by kernel_rfl) (by simp) ?_
      refine AllReadyH.cons (o := ?o7) ?hi7 (fun K hK => ?st7) AllReadyH.nil
      case hi7 => (simp only [List.getElem?_toArray, List.getElem?_cons_succ, List.getElem?_cons_zero]; rfl)
      --APP
      rw [if_pos (by rfl)]
      refine wp_app (.tmp 11) (.tmp 17) rfl w.heap.size u3 _ rfl ho37 A7 _ c7 _ rfl hr7 (by omega) hz7 ?_
      intro v8 w8 hg8
      have ho8 := hg8.own
      have hB8 := Keep.past hB7 hg8.keep (fun i hi h => by have := (ho37.lt i h).1; omega)
      have hc8 := hcl _ hB8
      have hrt8 := hrt.below hB8
      have hz8 := hB8.size
      have hl8 : (joinL (ls.take k) ++ numCell (ni : Int)).length + ni ≤ 140737488355328 := by rw [List.length_append]; omega
      refine hK.out _ _ hc8 (fun hHeld2 => ?_)
      clear hK K hHeld
      have hHeld := hHeld2
      clear hHeld2
      try simp only [Act.put, List.setIfInBounds_toArray, List.set_cons_zero, List.set_cons_succ]
      refine wpAnyH_ready (rs := [12]) (by kernel_rfl) (by simp) ?_
      refine AllReadyH.cons (o := ?o12) ?hi12 (fun K hK => ?st12) AllReadyH.nil
      case hi12 => (simp only [List.getElem?_toArray, List.getElem?_cons_succ, List.getElem?_cons_zero]; rfl)
      --APP
      rw [if_pos (by rfl)]
      refine wp_app (.tmp 18) (.tmp 22) rfl w.heap.size v8 _ rfl ho8 Ai ni ci t rfl hrt8 hl8 hz8 ?_
      intro v9 w9 hg9
      have hB9 := Keep.past hB8 hg9.keep (fun i hi h => by have := (ho8.lt i h).1; omega)
      have hc9 := hcl _ hB9
      refine hK.out _ _ hc9 (fun hHeld2 => ?_)
      clear hK K hHeld
      have hHeld := hHeld2
      clear hHeld2
      try simp only [Act.put, List.setIfInBounds_toArray, List.set_cons_zero, List.set_cons_succ]
      refine wpAnyH_take (i := 13) (oi := ?oi13) (v := ?v13) ?hi13 (by kernel_rfl) (by kernel_rfl) (by kernel_rfl) ?hq13 (Or.inl ⟨?hw13, ?hy13⟩) (by assumption) ?rest13
      case hi13 => (simp only [List.getElem?_toArray, List.getElem?_cons_succ, List.getElem?_cons_zero]; rfl)
      case hq13 => exact fun _ _ _ h => h
      case hw13 => rfl
      case hy13 => (intro w hSw; (try dsimp only at hSw); go_simp <;> with_reducible rfl)
      try simp only [Act.put, List.setIfInBounds_toArray, List.set_cons_zero, List.set_cons_succ]
      refine wpAnyH_done (by kernel_rfl) ?_ _
      --END
      have ho9 : OB w.heap.size w9 v9 (joinL (ls.take (k + 1))) := by
        have := hg9.own
        rw [HT.out, joinL_snoc, HTL.out]
        rwa [List.append_assoc] at this
      go_wp2_with fail
      go_roundw
      case rel => exact ⟨k + 1, by omega, by go_num, ho9, hB9⟩
      case measure => simp [intOf]; omega
    · obtain rfl : k = n := by omega
      have HT : Hid (ls.take k = ls) := Lib.hid (List.take_of_length_le (by rw [HL.out]; omega))
      go_wp2_with fail
      go_ret
      exact ⟨u3, rfl, by rw [← HT.out]; exact ho, hB⟩

theorem ft_joined (t r : List UInt8) (h : t.length ≤ 9223372036854775807) : ft (numCell t.length ++ t ++ r) = some ((numCell t.length).length, t.length) := by
  rw [List.append_assoc, ft_some (first_num (t.length : Int) (t ++ r) (by omega) (by omega)), if_neg ?_, Int.toNat_natCast]
  simp only [List.length_append]
  omega
theorem splF_joined (ls : List (List UInt8)) : ∀ f, ls.length ≤ f → (∀ t ∈ ls, t.length ≤ 9223372036854775807) → splF f (joinL ls) = some ls := by
  induction ls with
  | nil => intro f _ _; exact splF_nil f
  | cons t r ih =>
    intro f hf hb
    obtain ⟨f, rfl⟩ : ∃ k, f = k + 1 := ⟨f - 1, by simp at hf; omega⟩
    have e : joinL (t :: r) = numCell t.length ++ t ++ joinL r := rfl
    have hp := (numCell_len (t.length : Int)).1
    have h1 : (joinL (t :: r)).drop ((numCell t.length).length + t.length) = joinL r := by
      rw [e, show (numCell (t.length : Int)).length + t.length = (numCell (t.length : Int) ++ t).length by rw [List.length_append], List.drop_left]
    have h2 : ((joinL (t :: r)).drop (numCell t.length).length).take t.length = t := by
      rw [e, List.append_assoc, List.drop_left, List.take_left]
    rw [splF_some (by intro h0; have := congrArg List.length h0; rw [e] at this; simp only [List.length_append, List.length_nil] at this; omega) (by rw [e]; exact ft_joined t _ (hb t (by simp))), h1, h2, ih f (by simpa using hf) (fun x hx => hb x (by simp [hx]))]
    rfl
theorem joinL_ge (ls : List (List UInt8)) : ls.length ≤ (joinL ls).length := by
  induction ls with
  | nil => simp [joinL]
  | cons t r ih =>
    have h1 := (numCell_len (t.length : Int)).1
    have e : joinL (t :: r) = (numCell t.length ++ t) ++ joinL r := rfl
    rw [e, List.length_append, List.length_append, List.length_cons]
    omega
theorem splOf_joined (ls : List (List UInt8)) (hb : ∀ t ∈ ls, t.length ≤ 9223372036854775807) : splOf (joinL ls) = some ls := splF_joined ls _ (joinL_ge ls) hb
/-- How much some texts are together. -/
def tot (ls : List (List UInt8)) : Nat := (ls.map fun t => t.length + 1).sum
theorem joinL_tot (ls : List (List UInt8)) : (joinL ls).length ≤ 9 * tot ls := by
  induction ls with
  | nil => simp [joinL, tot]
  | cons t r ih =>
    have h1 := (numCell_len (t.length : Int)).2
    have e : joinL (t :: r) = (numCell t.length ++ t) ++ joinL r := rfl
    have e2 : tot (t :: r) = t.length + 1 + tot r := by simp [tot]
    rw [e, e2, List.length_append, List.length_append]
    omega
theorem tot_mem {ls : List (List UInt8)} {t : List UInt8} (h : t ∈ ls) : t.length ≤ tot ls := by
  induction ls with
  | nil => cases h
  | cons x r ih =>
    have e2 : tot (x :: r) = x.length + 1 + tot r := by simp [tot]
    rw [e2]
    rcases List.mem_cons.1 h with h | h
    · subst h; omega
    · have := ih h; omega
end Go.Proofs.Ytebgoaiinjmbiaa
