/- The document's moves: Come and Forget. No condition but that they lie in memory. -/
import Derived.Test.YtjjghhhhalendaaGreatMwW
import Derived.Test.YtjjghhhhalendaaGreatHeldZ
namespace Go.Proofs.YtjjghhhhalendaaGreat
open Go.RowKit Go.Shelf
set_option linter.unusedVariables false
set_option linter.unusedSimpArgs false

theorem wp_appWOn {w : World} {o : Oper} {a : Act} {K : Act → World → Prop} {Q : Exit → Act → World → Prop} (s x : Operand) (ho : o.op = .call { callee := .builtin .append, args := #[s, x], argTypes := #[26, 26] })
    (base : Nat) (v : Value) (l : List Rec) (hs : a.eval s = v) (hown : WO base w v l) (A : Option Addr) (m c : Nat) (hx : a.eval x = .slice A m c) (news : List Rec) (hr : WR w A m news) (hA : A = none ∨ ∃ b off, A = some ⟨b, off, none⟩)
    (hn : (l.length + m) * 56 ≤ 140737488355328) (hbase : base ≤ w.heap.size)
    (h : ∀ v' w', WO base w' v' (l ++ news) → Keep (fun k => v.ownBlock = some k) w w' → (v'.ownBlock = v.ownBlock ∨ v'.ownBlock = some w.heap.size) → K (a.put o.dst v') w') : o.wp Tryz.prog a w K Q := by
  obtain ⟨v', w', hrun, h2, h3, h4⟩ := run_appWOn w base o.type v l hown A m c news hr hA hn hbase
  unfold Oper.wp execOp
  simp only [ho, resolve, invoke, builtin, Sem.run_bind, Sem.run_pure, Result.andThen_ok, List.map_toArray, List.map_cons, List.map_nil, hs, hx, hrun]
  exact h v' w' h2 h3 h4
theorem sliceR_at (g n c i : Nat) (hi : i < n) (hc : n ≤ c) : ∃ off, (if c = i + 1 then some (⟨g, 0, none⟩ : Addr) else some ⟨g, (i + 1) * 5, none⟩) = some ⟨g, off, none⟩ ∧ (i + 1 < n → off = (i + 1) * 5) := by
  by_cases h : c = i + 1
  · exact ⟨0, if_pos h, fun h2 => by omega⟩
  · exact ⟨(i + 1) * 5, if_neg h, fun _ => rfl⟩
theorem wrapEqQ (x : Int) : IntKind.i64.wrap x = wrap64 x := by
  rw [IntKind.wrap_i64, wrap64]
section
variable {F : Nat → Prop} {w : World} {p : Nat} {l : List Rec}
set_option maxRecDepth 100000 in
set_option maxHeartbeats 800000 in
theorem rcome_no (k : Int) (h : QK F w p l) (hl : l.length ≤ 1048576) (hno : placeR l k = -1) : Calls Tryz.prog 10 #[.pointer (some ⟨p, 0, none⟩), .int .i64 k] w fun e w' => e = .returned (.tuple #[.slice none 0 0, .int .i64 4]) ∧ w' = w := by
  have hp := rfind_any k h hl
  rw [hno] at hp
  clear hno
  go_enter Tryz.func10, Tryz.ntmps10
  go_wp2_with fail
  refine hp.mono ?_
  rintro e w1 ⟨rfl, hww⟩
  subst w1
  go_wp2
  refine bodyPost_ret (v := .tuple #[.slice none 0 0, .int .i64 4]) (by simp [results, Tryz.results10, go_sem]) rfl ⟨rfl, rfl⟩
set_option maxRecDepth 100000 in
set_option maxHeartbeats 800000 in
theorem rforget_no (k : Int) (h : QK F w p l) (hl : l.length ≤ 1048576) (hno : placeR l k = -1) : Calls Tryz.prog 12 #[.pointer (some ⟨p, 0, none⟩), .int .i64 k] w fun e w' => e = .returned (.int .i64 4) ∧ w' = w := by
  have hp := rfind_any k h hl
  rw [hno] at hp
  clear hno
  go_enter Tryz.func12, Tryz.ntmps12
  go_wp2_with fail
  refine hp.mono ?_
  rintro e w1 ⟨rfl, hww⟩
  subst w1
  go_wp2
  go_ret
  exact ⟨rfl, rfl⟩
set_option maxRecDepth 100000 in
set_option maxHeartbeats 800000 in
theorem rcome_twice (k : Int) (h : QK F w p l) (hl : l.length ≤ 1048576) {i : Nat} {x : Rec} (hst : placeR l k = (i : Int) ∧ l[i]? = some x ∧ x.c = true) : Calls Tryz.prog 10 #[.pointer (some ⟨p, 0, none⟩), .int .i64 k] w fun e w' => e = .returned (.tuple #[.slice none 0 0, .int .i64 5]) ∧ w' = w := by
  have hp := rfind_any k h hl
  obtain ⟨hi, hx, hc⟩ := hst
  obtain ⟨v, h⟩ := h
  obtain ⟨A, c, rfl, hfm⟩ := h.own.form
  clear hfm
  obtain ⟨N, hN⟩ : ∃ N, l.length = N := ⟨_, rfl⟩
  have hil : i < N := by rw [← hN]; exact (List.getElem?_eq_some_iff.1 hx).1
  rw [hN] at h hl
  obtain ⟨g, x', rfl, hx', c0, c1, c2, c3, c4⟩ := h.own.place hil
  rw [hx] at hx'
  obtain rfl := Option.some.inj hx'
  rw [hc] at c4
  have h0 := h.field
  have hlt : decide ((i : Int) < 0) = false := decide_eq_false (by omega)
  have hi0 : (0 : Int) ≤ (i : Int) := by omega
  have hiN : (i : Int) < (N : Int) := by omega
  rw [hi] at hp
  clear hi hx hx' h
  go_enter Tryz.func10, Tryz.ntmps10
  go_wp2_with fail
  refine hp.mono ?_
  rintro e w1 ⟨rfl, hww⟩
  subst w1
  clear hp
  go_wp2
  refine bodyPost_ret (v := .tuple #[.slice none 0 0, .int .i64 5]) (by simp [results, Tryz.results10, go_sem]) rfl ⟨rfl, rfl⟩
set_option maxRecDepth 100000 in
set_option maxHeartbeats 800000 in
theorem rforget_state (k : Int) (h : QK F w p l) (hl : l.length ≤ 1048576) {i : Nat} {x : Rec} (hst : placeR l k = (i : Int) ∧ l[i]? = some x ∧ x.c = false) : Calls Tryz.prog 12 #[.pointer (some ⟨p, 0, none⟩), .int .i64 k] w fun e w' => e = .returned (.int .i64 80) ∧ w' = w := by
  have hp := rfind_any k h hl
  obtain ⟨hi, hx, hc⟩ := hst
  obtain ⟨v, h⟩ := h
  obtain ⟨A, c, rfl, hfm⟩ := h.own.form
  clear hfm
  obtain ⟨N, hN⟩ : ∃ N, l.length = N := ⟨_, rfl⟩
  have hil : i < N := by rw [← hN]; exact (List.getElem?_eq_some_iff.1 hx).1
  rw [hN] at h hl
  obtain ⟨g, x', rfl, hx', c0, c1, c2, c3, c4⟩ := h.own.place hil
  rw [hx] at hx'
  obtain rfl := Option.some.inj hx'
  rw [hc] at c4
  have h0 := h.field
  have hlt : decide ((i : Int) < 0) = false := decide_eq_false (by omega)
  have hi0 : (0 : Int) ≤ (i : Int) := by omega
  have hiN : (i : Int) < (N : Int) := by omega
  rw [hi] at hp
  clear hi hx hx' h
  go_enter Tryz.func12, Tryz.ntmps12
  go_wp2_with fail
  refine hp.mono ?_
  rintro e w1 ⟨rfl, hww⟩
  subst w1
  clear hp
  go_wp2
  go_ret
  exact ⟨rfl, rfl⟩
set_option maxRecDepth 100000 in
set_option maxHeartbeats 3200000 in
theorem rforget_ok (k : Int) (h : QK F w p l) (hl : l.length ≤ 1048576) {i : Nat} {x : Rec} (hst : placeR l k = (i : Int) ∧ l[i]? = some x ∧ x.c = true) : Calls Tryz.prog 12 #[.pointer (some ⟨p, 0, none⟩), .int .i64 k] w fun e w' => e = .returned (.int .i64 0) ∧ QK (fun k => F k ∨ w.heap.size ≤ k) w' p (l.eraseIdx i) ∧ Keep F w w' := by
  have hp := rfind_any k h hl
  obtain ⟨hi, hx, hc⟩ := hst
  obtain ⟨v, h⟩ := h
  obtain ⟨A, c, rfl, hfm⟩ := h.own.form
  clear hfm
  obtain ⟨N, hN⟩ : ∃ N, l.length = N := ⟨_, rfl⟩
  have hil : i < N := by rw [← hN]; exact (List.getElem?_eq_some_iff.1 hx).1
  rw [hN] at h hl
  have hnl := h.own.len
  obtain ⟨g, x', rfl, hx', c0, c1, c2, c3, c4⟩ := h.own.place hil
  rw [hx] at hx'
  obtain rfl := Option.some.inj hx'
  rw [hc] at c4
  have h0 := h.field
  have hpl := h.pc.lt
  have hlt : decide ((i : Int) < 0) = false := decide_eq_false (by omega)
  have hi0 : (0 : Int) ≤ (i : Int) := by omega
  have hiN : (i : Int) < (N : Int) := by omega
  have hz0 := WO.form0 w
  have hb0 := (Below.refl w.heap.size w).alloc (Nat.le_refl _) (.cells #[] 59)
  have hs0 : w.heap.size ≤ (w.alloc (.cells #[] 59)).heap.size := hb0.size
  rw [hi] at hp
  clear hi hx'
  have hto := ((h.own.alloc (.cells #[] 59)).wr).to i (by omega)
  obtain ⟨off, hoe, hoff⟩ := sliceR_at g N c i hil hnl.2
  have hfr : WR w (some ⟨g, off, none⟩) (N - (i + 1)) (l.drop (i + 1)) := by
    by_cases h1 : i + 1 < N
    · have := h.own.wr.from g 0 rfl (i + 1) (by omega)
      rw [hoff h1]
      simpa using this
    · have e1 : l.drop (i + 1) = [] := List.drop_eq_nil_of_le (by omega)
      have e2 : N - (i + 1) = 0 := by omega
      rw [e1, e2]
      exact WR.nil _ _
  obtain ⟨l2, hl2⟩ : ∃ l2, l.eraseIdx i = l2 := ⟨_, rfl⟩
  rw [hl2]
  have HOE := Lib.hid hoe
  have cell0 : w.drew.cell? ⟨p, 0, none⟩ = some (.slice (some ⟨g, 0, none⟩) N c) := h0
  have cellp := fun (W : World) (hb : Below w.heap.size w W) => (h.below hb).field
  have hb5' : ∀ (W : World), Below w.heap.size w W → Below w.heap.size w W := fun _ h => h
  have hzi : (i : Int) ≤ (c : Int) := by omega
  have hic : i ≤ c := by omega
  have hz00 : (0 : Int) ≤ (i : Int) + 1 := by omega
  have hzn : (i : Int) + 1 ≤ (N : Int) := by omega
  have hwr : IntKind.i64.wrap ((i : Int) + 1) = (i : Int) + 1 := by rw [wrapEqQ, IntWalk.wrap64_in _ (by omega)]
  have htn : ((i : Int) + 1).toNat = i + 1 := by omega
  clear hoe hoff
  go_enter Tryz.func12, Tryz.ntmps12
  go_wp2_with fail
  refine hp.mono ?_
  rintro e w1 ⟨rfl, hww⟩
  subst w1
  clear hp
  go_wp2
  refine wp_region_z (S := (fun w' => w'.cell? ⟨p, 0, none⟩ = some (.slice (some ⟨g, 0, none⟩) N c))) 19 (by kernel_rfl) cell0 (fun hHeld => ?_)
  refine wpAnyZ_take (i := 0) (oi := ?oi0) (u := ?v0) ?hi0 (by kernel_rfl) (by decide) (by kernel_rfl) (by kernel_rfl) (by kernel_rfl) ?hq0 (Or.inl ⟨?hw0, ?hy0⟩) (by assumption) ?rest0
  case hi0 => (simp only [List.getElem?_toArray, List.getElem?_cons_succ, List.getElem?_cons_zero]; rfl)
  case hq0 => exact fun _ _ _ h => h
  case hw0 => rfl
  case hy0 => (intro w hSw; (try dsimp only at hSw); go_simp <;> with_reducible rfl)
  try simp only [Act.put, List.setIfInBounds_toArray, List.set_cons_zero, List.set_cons_succ]
  refine wpAnyZ_take (i := 2) (oi := ?oi2) (u := ?v2) ?hi2 (by kernel_rfl) (by decide) (by kernel_rfl) (by kernel_rfl) (by kernel_rfl) ?hq2 (Or.inl ⟨?hw2, ?hy2⟩) (by assumption) ?rest2
  case hi2 => (simp only [List.getElem?_toArray, List.getElem?_cons_succ, List.getElem?_cons_zero]; rfl)
  case hq2 => exact fun _ _ _ h => h
  case hw2 => rfl
  case hy2 => (intro w hSw; (try dsimp only at hSw); go_simp <;> with_reducible rfl)
  try simp only [Act.put, List.setIfInBounds_toArray, List.set_cons_zero, List.set_cons_succ]
  refine wpAnyZ_take (i := 3) (oi := ?oi3) (u := ?v3) ?hi3 (by kernel_rfl) (by decide) (by kernel_rfl) (by kernel_rfl) (by kernel_rfl) ?hq3 (Or.inl ⟨?hw3, ?hy3⟩) (by assumption) ?rest3
  case hi3 => (simp only [List.getElem?_toArray, List.getElem?_cons_succ, List.getElem?_cons_zero]; rfl)
  case hq3 => exact fun _ _ _ h => h
  case hw3 => rfl
  case hy3 => (intro w hSw; (try dsimp only at hSw); go_simp <;> with_reducible rfl)
  try simp only [Act.put, List.setIfInBounds_toArray, List.set_cons_zero, List.set_cons_succ]
  refine wpAnyZ_take (i := 4) (oi := ?oi4) (u := ?v4) ?hi4 (by kernel_rfl) (by decide) (by kernel_rfl) (by kernel_rfl) (by kernel_rfl) ?hq4 (Or.inl ⟨?hw4, ?hy4⟩) (by assumption) ?rest4
  case hi4 => (simp only [List.getElem?_toArray, List.getElem?_cons_succ, List.getElem?_cons_zero]; rfl)
  case hq4 => exact fun _ _ _ h => h
  case hw4 => rfl
  case hy4 => (intro w hSw; (try dsimp only at hSw); go_simp <;> with_reducible rfl)
  try simp only [Act.put, List.setIfInBounds_toArray, List.set_cons_zero, List.set_cons_succ]
  refine wpAnyZ_take (i := 5) (oi := ?oi5) (u := ?v5) ?hi5 (by kernel_rfl) (by decide) (by kernel_rfl) (by kernel_rfl) (by kernel_rfl) ?hq5 (Or.inl ⟨?hw5, ?hy5⟩) (by assumption) ?rest5
  case hi5 => (simp only [List.getElem?_toArray, List.getElem?_cons_succ, List.getElem?_cons_zero]; rfl)
  case hq5 => exact fun _ _ _ h => h
  case hw5 => rfl
  case hy5 => (intro w hSw; (try dsimp only at hSw); go_simp <;> with_reducible rfl)
  try simp only [Act.put, List.setIfInBounds_toArray, List.set_cons_zero, List.set_cons_succ]
  refine wpAnyZ_take (i := 6) (oi := ?oi6) (u := ?v6) ?hi6 (by kernel_rfl) (by decide) (by kernel_rfl) (by kernel_rfl) (by kernel_rfl) ?hq6 (Or.inl ⟨?hw6, ?hy6⟩) (by assumption) ?rest6
  case hi6 => (simp only [List.getElem?_toArray, List.getElem?_cons_succ, List.getElem?_cons_zero]; rfl)
  case hq6 => exact fun _ _ _ h => h
  case hw6 => rfl
  case hy6 => (intro w hSw; (try dsimp only at hSw); go_simp <;> with_reducible rfl)
  try simp only [Act.put, List.setIfInBounds_toArray, List.set_cons_zero, List.set_cons_succ]
  refine wpAnyZ_take (i := 7) (oi := ?oi7) (u := ?v7) ?hi7 (by kernel_rfl) (by decide) (by kernel_rfl) (by kernel_rfl) (by kernel_rfl) ?hq7 (Or.inl ⟨?hw7, ?hy7⟩) (by assumption) ?rest7
  case hi7 => (simp only [List.getElem?_toArray, List.getElem?_cons_succ, List.getElem?_cons_zero]; rfl)
  case hq7 => exact fun _ _ _ h => h
  case hw7 => rfl
  case hy7 => (intro w hSw; (try dsimp only at hSw); go_simp <;> with_reducible rfl)
  try simp only [Act.put, List.setIfInBounds_toArray, List.set_cons_zero, List.set_cons_succ]
  refine wpAnyZ_take (i := 9) (oi := ?oi9) (u := ?v9) ?hi9 (by kernel_rfl) (by decide) (by kernel_rfl) (by kernel_rfl) (by kernel_rfl) ?hq9 (Or.inl ⟨?hw9, ?hy9⟩) (by assumption) ?rest9
  case hi9 => (simp only [List.getElem?_toArray, List.getElem?_cons_succ, List.getElem?_cons_zero]; rfl)
  case hq9 => exact fun _ _ _ h => h
  case hw9 => rfl
  case hy9 => (intro w hSw; (try dsimp only at hSw); go_simp <;> with_reducible rfl)
  try simp only [Act.put, List.setIfInBounds_toArray, List.set_cons_zero, List.set_cons_succ]
  refine wpAnyZ_take (i := 10) (oi := ?oi10) (u := ?v10) ?hi10 (by kernel_rfl) (by decide) (by kernel_rfl) (by kernel_rfl) (by kernel_rfl) ?hq10 (Or.inl ⟨?hw10, ?hy10⟩) (by assumption) ?rest10
  case hi10 => (simp only [List.getElem?_toArray, List.getElem?_cons_succ, List.getElem?_cons_zero]; rfl)
  case hq10 => exact fun _ _ _ h => h
  case hw10 => rfl
  case hy10 => (intro w hSw; (try dsimp only at hSw); go_simp <;> with_reducible rfl)
  try simp only [Act.put, List.setIfInBounds_toArray, List.set_cons_zero, List.set_cons_succ]
  refine wpAnyZ_take (i := 11) (oi := ?oi11) (u := ?v11) ?hi11 (by kernel_rfl) (by decide) (by kernel_rfl) (by kernel_rfl) (by kernel_rfl) ?hq11 (Or.inl ⟨?hw11, ?hy11⟩) (by assumption) ?rest11
  case hi11 => (simp only [List.getElem?_toArray, List.getElem?_cons_succ, List.getElem?_cons_zero]; rfl)
  case hq11 => exact fun _ _ _ h => h
  case hw11 => rfl
  case hy11 => (intro w hSw; (try dsimp only at hSw); go_simp <;> with_reducible rfl)
  try simp only [Act.put, List.setIfInBounds_toArray, List.set_cons_zero, List.set_cons_succ]
  refine wpAnyZ_take (i := 12) (oi := ?oi12) (u := ?v12) ?hi12 (by kernel_rfl) (by decide) (by kernel_rfl) (by kernel_rfl) (by kernel_rfl) ?hq12 (Or.inl ⟨?hw12, ?hy12⟩) (by assumption) ?rest12
  case hi12 => (simp only [List.getElem?_toArray, List.getElem?_cons_succ, List.getElem?_cons_zero]; rfl)
  case hq12 => exact fun _ _ _ h => h
  case hw12 => rfl
  case hy12 => (intro w hSw; (try dsimp only at hSw); go_simp <;> with_reducible rfl)
  try simp only [Act.put, List.setIfInBounds_toArray, List.set_cons_zero, List.set_cons_succ]
  refine wpAnyZ_take (i := 13) (oi := ?oi13) (u := ?v13) ?hi13 (by kernel_rfl) (by decide) (by kernel_rfl) (by kernel_rfl) (by kernel_rfl) ?hq13 (Or.inl ⟨?hw13, ?hy13⟩) (by assumption) ?rest13
  case hi13 => (simp only [List.getElem?_toArray, List.getElem?_cons_succ, List.getElem?_cons_zero]; rfl)
  case hq13 => exact fun _ _ _ h => h
  case hw13 => rfl
  case hy13 => (intro w hSw; (try dsimp only at hSw); go_simp <;> with_reducible rfl)
  try simp only [Act.put, List.setIfInBounds_toArray, List.set_cons_zero, List.set_cons_succ]
  refine wpAnyZ_take (i := 14) (oi := ?oi14) (u := ?v14) ?hi14 (by kernel_rfl) (by decide) (by kernel_rfl) (by kernel_rfl) (by kernel_rfl) ?hq14 (Or.inl ⟨?hw14, ?hy14⟩) (by assumption) ?rest14
  case hi14 => (simp only [List.getElem?_toArray, List.getElem?_cons_succ, List.getElem?_cons_zero]; rfl)
  case hq14 => exact fun _ _ _ h => h
  case hw14 => rfl
  case hy14 => (intro w hSw; (try dsimp only at hSw); go_simp <;> with_reducible rfl)
  try simp only [Act.put, List.setIfInBounds_toArray, List.set_cons_zero, List.set_cons_succ]
  refine wpAnyZ_take (i := 15) (oi := ?oi15) (u := ?v15) ?hi15 (by kernel_rfl) (by decide) (by kernel_rfl) (by kernel_rfl) (by kernel_rfl) ?hq15 (Or.inl ⟨?hw15, ?hy15⟩) (by assumption) ?rest15
  case hi15 => (simp only [List.getElem?_toArray, List.getElem?_cons_succ, List.getElem?_cons_zero]; rfl)
  case hq15 => exact fun _ _ _ h => h
  case hw15 => rfl
  case hy15 => (intro w hSw; (try dsimp only at hSw); go_simp <;> with_reducible rfl)
  try simp only [Act.put, List.setIfInBounds_toArray, List.set_cons_zero, List.set_cons_succ]
  refine wpAnyZ_one (i := 1) (o := ?o1) (by kernel_rfl) ?hi1 (fun K hK => ?st1)
  case hi1 => (simp only [List.getElem?_toArray, List.getElem?_cons_succ, List.getElem?_cons_zero]; rfl)
  go_simp
  have cA := cellp _ hb0.drew
  refine hK.out _ _ (fun _ => cA) (fun hHeld2 => ?_)
  clear hK K hHeld
  have hHeld := hHeld2 (by decide)
  clear hHeld2
  try simp only [Act.put, List.setIfInBounds_toArray, List.set_cons_zero, List.set_cons_succ]
  refine wpAnyZ_one (i := 8) (o := ?o8) (by kernel_rfl) ?hi8 (fun K hK => ?st8)
  case hi8 => (simp only [List.getElem?_toArray, List.getElem?_cons_succ, List.getElem?_cons_zero]; rfl)
  rw [if_pos (by rfl)]
  refine wp_appWOn (.tmp 21) (.tmp 27) rfl w.heap.size (.slice (some ⟨w.heap.size, 0, none⟩) 0 0) [] rfl hz0 (some ⟨g, 0, none⟩) i c rfl (l.take i) ⟨hto.len, hto.at_⟩ (.inr ⟨g, 0, rfl⟩) (by simp; omega) hs0 ?_
  intro v5 w5 hO5 hK5 e5
  rw [List.nil_append] at hO5
  have hb5 := hb0.drew.trans (hK5.below (B := w.heap.size) hs0 (fun i hi e => by simp [Value.ownBlock] at e; omega))
  have cB := cellp _ hb5
  have hfr5 := hfr.below (hb5' _ hb5)
  refine hK.out _ _ (fun _ => cB) (fun hHeld2 => ?_)
  clear hK K hHeld
  have hHeld := hHeld2 (by decide)
  clear hHeld2
  try simp only [Act.put, List.setIfInBounds_toArray, List.set_cons_zero, List.set_cons_succ]
  refine wpAnyZ_one (i := 16) (o := ?o16) (by kernel_rfl) ?hi16 (fun K hK => ?st16)
  case hi16 => (simp only [List.getElem?_toArray, List.getElem?_cons_succ, List.getElem?_cons_zero]; rfl)
  rw [if_pos (by rfl)]
  refine wp_appWOn (.tmp 28) (.tmp 35) rfl w.heap.size v5 (l.take i) rfl hO5 _ (N - (i + 1)) (c - (i + 1)) rfl (l.drop (i + 1)) (by rw [HOE.out]; exact hfr5) (by rw [HOE.out]; exact .inr ⟨g, off, rfl⟩) (by rw [List.length_take]; omega) hb5.size ?_
  intro v7 w7 hO7 hK7 e7
  rw [← List.eraseIdx_eq_take_drop_succ, hl2] at hO7
  have hb7 := hb5.trans (hK7.below (B := w.heap.size) hb5.size (fun i hi e => by have := (hO5.lt i e).1; omega))
  have cC := cellp _ hb7
  obtain ⟨A7, c7, rfl, _⟩ := hO7.form
  refine hK.out _ _ (fun _ => cC) (fun hHeld2 => ?_)
  clear hK K hHeld
  have hHeld := hHeld2 (by decide)
  clear hHeld2
  try simp only [Act.put, List.setIfInBounds_toArray, List.set_cons_zero, List.set_cons_succ]
  refine wpAnyZ_one (i := 17) (o := ?o17) (by kernel_rfl) ?hi17 (fun K hK => ?st17)
  case hi17 => (simp only [List.getElem?_toArray, List.getElem?_cons_succ, List.getElem?_cons_zero]; rfl)
  go_simp
  refine hK.out _ _ (fun _ => cC) (fun hHeld2 => ?_)
  clear hK K hHeld
  have hHeld := hHeld2 (by decide)
  clear hHeld2
  try simp only [Act.put, List.setIfInBounds_toArray, List.set_cons_zero, List.set_cons_succ]
  refine wpAnyZ_take (i := 18) (oi := ?oi18) (u := ?v18) ?hi18 (by kernel_rfl) (by decide) (by kernel_rfl) (by kernel_rfl) (by kernel_rfl) ?hq18 (Or.inl ⟨?hw18, ?hy18⟩) (by assumption) ?rest18
  case hi18 => (simp only [List.getElem?_toArray, List.getElem?_cons_succ, List.getElem?_cons_zero]; rfl)
  case hq18 => exact fun _ _ _ h => h
  case hw18 => rfl
  case hy18 => (intro w hSw; (try dsimp only at hSw); go_simp <;> with_reducible rfl)
  try simp only [Act.put, List.setIfInBounds_toArray, List.set_cons_zero, List.set_cons_succ]
  refine wpAnyZ_one (i := 19) (o := ?o19) (by kernel_rfl) ?hi19 (fun K hK => ?st19)
  case hi19 => (simp only [List.getElem?_toArray, List.getElem?_cons_succ, List.getElem?_cons_zero]; rfl)
  have h7 := h.below hb7
  have f7 := h7.pc.frozen 0
  have hpl7 := h7.pc.lt
  go_simp
  refine hK.out _ _ (fun h => absurd rfl h) (fun hHeld2 => ?_)
  clear hK K hHeld
  clear hHeld2
  try simp only [Act.put, List.setIfInBounds_toArray, List.set_cons_zero, List.set_cons_succ]
  refine wpAnyZ_done (by kernel_rfl) ?_ _
  rw [HOE.out]
  have pc8 := h7.pc.set_ 0 (.slice A7 l2.length c7)
  simp only [List.setIfInBounds_toArray, List.set_cons_zero] at pc8
  have k8 : Keep (fun k => k = p) w7 (w7.setCell ⟨p, 0, none⟩ (.slice A7 l2.length c7)) := (Keep.refl (fun k => k = p) w7).setCell (p := ⟨p, 0, none⟩) (fun _ => rfl) _
  obtain ⟨hQ, hKF⟩ := QV.given h.fp hb7 hO7 hpl pc8 k8
  clear h hz0 hb0 hs0 hto hfr HOE cell0 cellp hb5' h0 cA hO5 hK5 e5 hfr5 hK7 e7 h7 cB cC
  go_wp2
  go_ret
  exact ⟨rfl, hQ, hKF⟩
set_option maxRecDepth 100000 in
set_option maxHeartbeats 3200000 in
theorem rcome_ok (k : Int) (h : QK F w p l) (hl : l.length ≤ 1048576) {i : Nat} {x : Rec} (hst : placeR l k = (i : Int) ∧ l[i]? = some x ∧ x.c = false) : Calls Tryz.prog 10 #[.pointer (some ⟨p, 0, none⟩), .int .i64 k] w fun e w' => e = .returned (.tuple #[x.l.v, .int .i64 0]) ∧ QK (fun k => F k ∨ w.heap.size ≤ k) w' p (l.set i ⟨x.m, x.f, x.t, x.l, true⟩) ∧ Keep F w w' := by
  have hp := rfind_any k h hl
  obtain ⟨hi, hx, hc⟩ := hst
  obtain ⟨v, h⟩ := h
  obtain ⟨A, c, rfl, hfm⟩ := h.own.form
  clear hfm
  obtain ⟨N, hN⟩ : ∃ N, l.length = N := ⟨_, rfl⟩
  have hil : i < N := by rw [← hN]; exact (List.getElem?_eq_some_iff.1 hx).1
  rw [hN] at h hl
  have hnl := h.own.len
  obtain ⟨g, x', rfl, hx', c0, c1, c2, c3, c4⟩ := h.own.place hil
  rw [hx] at hx'
  obtain rfl := Option.some.inj hx'
  rw [hc] at c4
  have h0 := h.field
  have hpl := h.pc.lt
  have hlt : decide ((i : Int) < 0) = false := decide_eq_false (by omega)
  have hi0 : (0 : Int) ≤ (i : Int) := by omega
  have hiN : (i : Int) < (N : Int) := by omega
  have hz0 := WO.form0 w
  have hb0 := (Below.refl w.heap.size w).alloc (Nat.le_refl _) (.cells #[] 59)
  have hs0 : w.heap.size ≤ (w.alloc (.cells #[] 59)).heap.size := hb0.size
  rw [hi] at hp
  clear hi hx'
  have hr0 := (h.own.alloc (.cells #[] 59)).wr
  go_enter Tryz.func10, Tryz.ntmps10
  go_wp2_with fail
  refine hp.mono ?_
  rintro e w1 ⟨rfl, hww⟩
  subst w1
  clear hp
  go_wp2_with (at_builtin; refine wpAppWOn rfl (.tmp 21) (.tmp 25) rfl w.heap.size (.slice (some ⟨w.heap.size, 0, none⟩) 0 0) [] rfl hz0 (some ⟨g, 0, none⟩) N c rfl l hr0 (.inr ⟨g, 0, rfl⟩) (by simp; omega) hs0 ?_; intro v5 w5 hO5 hK5 e5; rw [List.nil_append] at hO5; obtain ⟨A5, c5, hv5, hx5⟩ := hO5.form; clear hx5; subst hv5)
  have hb5 := hb0.trans (hK5.below (B := w.heap.size) hs0 (fun i hi e => by simp [Value.ownBlock] at e; omega))
  rw [hN] at hO5
  have h5 := h.below hb5
  have hp5 := h5.field
  obtain ⟨g5, x5, rfl, hx5, d0, d1, d2, d3, d4⟩ := hO5.place hil
  rw [hx] at hx5
  obtain rfl := Option.some.inj hx5
  have hne : ¬ p = g5 := fun e => by have := (hO5.lt g5 rfl).1; omega
  have hne2 : ¬ g5 = p := fun e => hne e.symm
  have f5 := hO5.fz (g := g5) rfl (i * 5 + 4)
  have hO6 := hO5.put hO5.len.1 i 4 x ⟨x.m, x.f, x.t, x.l, true⟩ (.bool true) hx rfl (by omega)
  have k6 : Keep (fun k => k = g5) w5 (w5.setCell ⟨g5, i * 5 + 4, none⟩ (.bool true)) := (Keep.refl (fun k => k = g5) w5).setCell (p := ⟨g5, i * 5 + 4, none⟩) (fun _ => rfl) _
  have pc6 := h5.pc.kept k6 hne
  have fp6 := pc6.frozen 0
  have hb6 : Below w.heap.size w (w5.setCell ⟨g5, i * 5 + 4, none⟩ (.bool true)) := hb5.trans (k6.below (B := w.heap.size) hb5.size (fun i hi e => by have := (hO5.lt g5 rfl).1; omega))
  have hp6 := pc6.cell 0
  simp only [List.getElem?_toArray, List.getElem?_cons_zero] at hp6
  have hgl := (hO5.lt g5 rfl).2
  have hpl5 := h5.pc.lt
  have pc7 := pc6.set_ 0 (.slice (some ⟨g5, 0, none⟩) N c5)
  simp only [List.setIfInBounds_toArray, List.set_cons_zero] at pc7
  obtain ⟨hQ, hKF⟩ := QV.given h.fp hb6 hO6 hpl pc7 ((Keep.refl (fun k => k = p) (w5.setCell ⟨g5, i * 5 + 4, none⟩ (.bool true))).setCell (p := ⟨p, 0, none⟩) (fun _ => rfl) _)
  have hx3 : Rec.l x = x.l := rfl
  clear hK5 e5 hz0 hr0 hb0 hs0 h h5 pc6 pc7 hO6 hb6 k6 hx hx3 hO5
  go_wp2
  refine bodyPost_ret (v := .tuple #[x.l.v, .int .i64 0]) (by simp [results, Tryz.results10, go_sem]) rfl ⟨rfl, hQ, hKF⟩
end
end Go.Proofs.YtjjghhhhalendaaGreat
