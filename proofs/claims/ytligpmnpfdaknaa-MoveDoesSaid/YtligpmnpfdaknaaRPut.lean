/- put: a good's number into a list whose goods rise, as the document has it. No condition but that the list is one of memory, and its length. -/
import Derived.Test.YtligpmnpfdaknaaROf
namespace Go.Proofs.Ytligpmnpfdaknaa
open Go.RowKit Go.Maps Go.Shelf Go.Sort
set_option linter.unusedVariables false
set_option linter.unusedSimpArgs false

theorem wp_appI {w : World} {o : Oper} {a : Act} {K : Act → World → Prop} {Q : Exit → Act → World → Prop} (s x : Operand) (ho : o.op = .call { callee := .builtin .append, args := #[s, x], argTypes := #[30, 30] })
    (base : Nat) (v : Value) (l : List It) (hs : a.eval s = v) (hown : OI base w v l) (A : Option Addr) (m c : Nat) (news : List It) (hx : a.eval x = .slice A m c) (hr : IL w A m news) (hmn : A = none → m = 0)
    (hn : (l.length + m) * 24 ≤ 140737488355328) (hbase : base ≤ w.heap.size)
    (h : ∀ v' w', OI base w' v' (l ++ news) → Keep (fun k => v.ownBlock = some k) w w' → (v'.ownBlock = v.ownBlock ∨ v'.ownBlock = some w.heap.size) → K (a.put o.dst v') w') : o.wp Try.prog a w K Q := by
  obtain ⟨v', w', hrun, h2, h3, h4⟩ := run_appI w base o.type v l hown A m c news hr hmn hn hbase
  unfold Oper.wp execOp
  simp only [ho, resolve, invoke, builtin, Sem.run_bind, Sem.run_pure, Result.andThen_ok, List.map_toArray, List.map_cons, List.map_nil, hs, hx, hrun]
  exact h v' w' h2 h3 h4
theorem run_str_lss (t : TypeId) (a b : List UInt8) (c : Bool) (hc : decide (a < b) = c) (W : World) : (binOp .lss t (.string ⟨a.toArray⟩) (.string ⟨b.toArray⟩)).run Try.prog W = .ok (.bool c) W := by
  have h := str_lt a b
  rw [hc, str_toList, str_toList] at h
  simp [binOp, Op.stringOp, h]
theorem elem_item' : Try.prog.elem 30 = 36 := by simp [Program.elem, Try.underlying30]
theorem under_items' : Try.prog.underlying 30 = some (.slice (Try.prog.elem 30)) := by rw [elem_item']; exact Try.underlying30
theorem run_toI' (w : World) (A : Option Addr) (n cap : Nat) (h : Int) (h0 : 0 ≤ h) (h2 : h ≤ cap) :
    (Instr.slice 30 (.slice A n cap) none (some (.int .i64 h)) none).run Try.prog w = .ok (.slice A h.toNat cap) w := by
  rw [run_slice_h w 30 A n cap under_items' .i64 h h0 h2, elem_item', Try.sizeOf36]
  have hs : sliced A 0 h.toNat cap 2 = .slice A h.toNat cap := by
    unfold sliced
    by_cases hc : 0 = cap
    · subst hc
      simp
    · cases A with
      | none => simp
      | some ad => simp [Addr.add]
  simp [Result.andThen, hs]
theorem IL.take' {w : World} {A : Option Addr} {n : Nat} {l : List It} (h : IL w A n l) (k : Nat) (hk : k ≤ n) : IL w A k (l.take k) :=
  ⟨by rw [List.length_take, h.len]; omega, fun j x hx => by
    have hj : j < k := by
      have := (List.getElem?_eq_some_iff.1 hx).1
      rw [List.length_take] at this
      omega
    rw [List.getElem?_take_of_lt hj] at hx
    exact h.at_ j x hx⟩
/-- A list from some item on. -/
theorem cutI (A : Option Addr) (n cap k : Nat) (hk : k ≤ n) (hc : n ≤ cap) : ∃ A', (∀ W : World, (Instr.slice 30 (.slice A n cap) (some (.int .i64 (k : Int))) none none).run Try.prog W = .ok (.slice A' (n - k) (cap - k)) W) ∧
    (∀ (W : World) (l : List It), IL W A n l → IL W A' (n - k) (l.drop k)) := by
  refine ⟨if cap = k then A else A.map (·.add (k * 2)), fun W => ?_, fun W l h => ⟨by rw [List.length_drop, h.len], fun j x hx => ?_⟩⟩
  · rw [run_slice_l W 30 A n cap under_items' .i64 (k : Int) (by omega) (by omega), elem_item', Try.sizeOf36]
    simp [Result.andThen, sliced]
  · rw [List.getElem?_drop] at hx
    obtain ⟨b, off, rfl, h1, h2⟩ := h.at_ _ x hx
    have hj := (List.getElem?_eq_some_iff.1 hx).1
    rw [h.len] at hj
    rw [if_neg (by omega)]
    refine ⟨b, off + k * 2, ?_, ?_, ?_⟩
    · simp only [Option.map_some]
      rw [Addr.add_lit]
    · rw [← h1]; congr 2; omega
    · rw [← h2]; congr 2; omega
def putL (g : List UInt8) (n : Int) : List It → List It
  | [] => [(g, n)]
  | x :: l => if x.1 < g then x :: putL g n l else if x.1 = g then (x.1, n) :: l else (g, n) :: x :: l
theorem putL_in (g : List UInt8) (n : Int) : ∀ (l : List It) (k : Nat), (∀ x ∈ l.take k, x.1 < g) → (∀ x, l[k]? = some x → ¬ x.1 < g ∧ ¬ x.1 = g) → putL g n l = l.take k ++ [(g, n)] ++ l.drop k
  | [], k, _, _ => by simp [putL]
  | x :: l, 0, _, h2 => by
    obtain ⟨h3, h4⟩ := h2 x rfl
    simp [putL, h3, h4]
  | x :: l, k + 1, h1, h2 => by
    have hx : x.1 < g := h1 x (by simp)
    rw [putL, if_pos hx, putL_in g n l k (fun y hy => h1 y (by simp [hy])) (fun y hy => h2 y (by simpa using hy))]
    simp
theorem putL_at (g : List UInt8) (n : Int) : ∀ (l : List It) (k : Nat) (q : Int), (∀ x ∈ l.take k, x.1 < g) → l[k]? = some (g, q) → putL g n l = l.set k (g, n)
  | [], k, q, _, h => by simp at h
  | x :: l, 0, q, _, h => by
    simp at h
    subst h
    simp [putL, List.lt_irrefl]
  | x :: l, k + 1, q, h1, h => by
    have hx : x.1 < g := h1 x (by simp)
    rw [putL, if_pos hx, putL_at g n l k q (fun y hy => h1 y (by simp [hy])) (by simpa using h)]
    simp
theorem itc_set : ∀ (l : List It) (k : Nat) (s : List UInt8) (q n : Int), l[k]? = some (s, q) → (l.flatMap itc).set (k * 2 + 1) (.int .i64 n) = (l.set k (s, n)).flatMap itc
  | [], k, s, q, n, h => by simp at h
  | x :: l, 0, s, q, n, h => by
    simp at h
    subst h
    simp [itc]
  | x :: l, k + 1, s, q, n, h => by
    have ih := itc_set l k s q n (by simpa using h)
    rw [List.flatMap_cons, List.set_cons_succ, List.flatMap_cons, ← ih]
    show (itc x ++ _).set _ _ = _
    simp only [itc, List.cons_append, List.nil_append]
    rw [show (k + 1) * 2 + 1 = (k * 2 + 1) + 1 + 1 by omega]
    simp
theorem OI.setN {base : Nat} {W : World} {g cap : Nat} {l : List It} (h : OI base W (.slice (some ⟨g, 0, none⟩) l.length cap) l) {k : Nat} {s : List UInt8} {q : Int} (hk : l[k]? = some (s, q)) (n : Int) :
    OI base (W.setCell ⟨g, k * 2 + 1, none⟩ (.int .i64 n)) (.slice (some ⟨g, 0, none⟩) l.length cap) (l.set k (s, n)) ∧ W.frozen? ⟨g, k * 2 + 1, none⟩ = false := by
  have hkl := (List.getElem?_eq_some_iff.1 hk).1
  rcases h.2 with ⟨e, _⟩ | ⟨g', cap', cur, e, hb, hh, hle, hcm, hcz, htk⟩
  · cases e
  · cases e
    refine ⟨⟨by rw [List.length_set, itc_len, List.length_set], .inr ⟨g, cap, cur.setIfInBounds (k * 2 + 1) (.int .i64 n), by rw [List.length_set], hb, ?_, by rw [List.length_set]; exact hle, hcm, by simpa using hcz, ?_⟩⟩, ?_⟩
    · simp [World.setCell, Array.getElem?_modify, hh]
    · rw [List.length_set, Array.toList_setIfInBounds, List.take_set, htk, itc_set l k s q n hk]
    · simp [World.frozen?, hh]
theorem OI.setAt {base n : Nat} {W : World} {v : Value} {l : List It} (h : OI base W v l) {k : Nat} {s : List UInt8} {q : Int} (hk : l[k]? = some (s, q)) (hn : l.length = n) :
    ∃ g cap, v = .slice (some ⟨g, 0, none⟩) n cap ∧ base ≤ g ∧ W.cell? ⟨g, k * 2 + 1, none⟩ = some (.int .i64 q) ∧ W.frozen? ⟨g, k * 2 + 1, none⟩ = false ∧ ∀ m : Int, OI base (W.setCell ⟨g, k * 2 + 1, none⟩ (.int .i64 m)) (.slice (some ⟨g, 0, none⟩) n cap) (l.set k (s, m)) := by
  subst hn
  have hkl := (List.getElem?_eq_some_iff.1 hk).1
  obtain ⟨A, cap0, hv0, _, _, hil, _⟩ := h.form
  have h' := h
  rcases h'.2 with ⟨_, e⟩ | ⟨g, cap, cur, rfl, hb, _⟩
  · omega
  · cases hv0
    obtain ⟨b, off, e, _, hc⟩ := hil.at_ k _ hk
    cases e
    rw [Nat.zero_add] at hc
    exact ⟨g, _, rfl, hb, hc, (h.setN hk 0).2, fun m => (h.setN hk m).1⟩

set_option maxRecDepth 100000 in
set_option maxHeartbeats 3200000 in
theorem refput_any (A : Option Addr) (n c : Nat) (l : List It) (g : List UInt8) (q : Int) (w : World) (hl : IL w A n l) (hc : n ≤ c) (hm : c ≤ 9223372036854775807) (hn : n ≤ 1048576) :
    Calls Try.prog 48 #[.slice A n c, .string ⟨g.toArray⟩, .int .i64 q] w fun e w' => ∃ v, e = .returned v ∧ OI w.heap.size w' v (putL g q l) ∧ Below w.heap.size w w' := by
  have hlen := hl.len
  go_enter Try.func48, Try.ntmps48
  go_wp2
  go_loopw [7] (fun i wr => w = wr ∧ ∃ k : Nat, i = .int .i64 (k : Int) ∧ k ≤ n ∧ ∀ x ∈ l.take k, x.1 < g) (fun i _ => n - (intOf i).toNat)
  case atStart => exact ⟨rfl, 0, by go_num, by omega, by simp⟩
  case round =>
    obtain ⟨rfl, k, rfl, hkn, hall⟩ := hrel
    by_cases hlt : k < n
    · have hlz : (k : Int) < (n : Int) := by omega
      obtain ⟨b, off, ⟨s1, q1⟩, hA, hx, c0, c1⟩ := hl.place hlt
      dsimp only at c0 c1
      by_cases hs : s1 < g
      · have hcmp : Op.bytesLess s1 g = true := by rw [bytesLess_eq]; exact decide_eq_true hs
        have hall2 : ∀ x ∈ l.take (k + 1), x.1 < g := fun x hx2 => by
          rw [List.take_add_one, hx] at hx2
          rcases List.mem_append.1 hx2 with h | h
          · exact hall x h
          · simp at h
            rw [h]
            exact hs
        clear hs
        subst hA
        go_wp2
        go_roundw
        case measure => simp [intOf]; omega
        case rel => exact ⟨trivial, k + 1, by go_num, by omega, hall2⟩
      · have hcmp : Op.bytesLess s1 g = false := by rw [bytesLess_eq]; exact decide_eq_false hs
        by_cases he : s1 = g
        · have hput : putL g q l = l.set k (s1, q) := by rw [putL_at g q l k q1 hall (by rw [hx, he]), he]
          have heb : (s1 == g) = true := beq_iff_eq.2 he
          have hnz : ∀ X : Option Addr, X = A → ¬ X = none := fun X e e2 => by rw [← e, e2] at hA; cases hA
          clear hs
          have hl0 := hl.alloc (.cells #[] 36)
          have hb0 : Below w.heap.size w (w.alloc (.cells #[] 36)) := (Below.refl w.heap.size w).alloc (Nat.le_refl _) _
          subst hA
          clear he
          go_wp2_with (at_builtin; refine wpAppI rfl _ _ rfl w.heap.size _ [] rfl (OI.made _ w (Nat.le_refl _)) _ n c l rfl hl0 (fun e => by cases e) (by simp; omega) (by simp) ?_; rintro v' w3 hO3 hk3 hl3; rw [List.nil_append] at hO3; obtain ⟨gb, cap6, hv6, hgb, hc6, hf6, hset⟩ := hO3.setAt hx hlen; subst hv6)
          go_ret
          have hbb := hb0.trans (hk3.below (by simp) (own_lt rfl))
          exact ⟨_, rfl, by rw [hput]; exact hset q, hbb.setCell (p := ⟨gb, k * 2 + 1, none⟩) hgb _⟩
        · have hput := putL_in g q l k hall (fun x hx2 => by rw [hx] at hx2; cases hx2; exact ⟨hs, he⟩)
          have heb : (s1 == g) = false := beq_eq_false_iff_ne.2 he
          clear hs he
          subst hA
          obtain ⟨A', hrf, hcut⟩ := cutI (some ⟨b, off, none⟩) n c k hkn hc
          have hrt := fun W : World => run_toI' W (some ⟨b, off, none⟩) n c (k : Int) (by omega) (by omega)
          simp only [Int.toNat_natCast] at hrt
          have hO0 : OI w.heap.size (w.drew.alloc (.cells #[] 36)) (.slice (some ⟨w.heap.size, 0, none⟩) 0 0) [] := OI.made _ w.drew (Nat.le_refl _)
          have hb0 : Below w.heap.size w (w.drew.alloc (.cells #[] 36)) := (Below.refl w.heap.size w).drew.alloc (Nat.le_refl _) _
          have hl0 := hl.below hb0
          have hb8 : Below w.heap.size w ((w.drew.alloc (.cells #[.string ⟨g.toArray⟩, .int .i64 q] 36)).alloc (.cells #[] 36)) := ((Below.refl w.heap.size w).drew.alloc (Nat.le_refl _) _).alloc (by simp) _
          have hO8 : OI w.heap.size ((w.drew.alloc (.cells #[.string ⟨g.toArray⟩, .int .i64 q] 36)).alloc (.cells #[] 36)) (.slice (some ⟨(w.drew.alloc (.cells #[.string ⟨g.toArray⟩, .int .i64 q] 36)).heap.size, 0, none⟩) 0 0) [] := OI.made _ (w.drew.alloc (.cells #[.string ⟨g.toArray⟩, .int .i64 q] 36)) (by simp)
          have hl8 := hl.below hb8
          have hsz0 : (w.drew.alloc (.cells #[] 36)).heap.size = w.heap.size + 1 := by simp
          have hsz8 : (w.drew.alloc (.cells #[.string ⟨g.toArray⟩, .int .i64 q] 36)).heap.size = w.heap.size + 1 := by simp
          rw [hsz8] at hO8
          have hlt4 : (l.take k).length ≤ n := by rw [List.length_take]; omega
          have hlt9 : (l.take k ++ [(g, q)]).length + (n - k) = n + 1 := by rw [List.length_append, List.length_take, hlen]; simp; omega
          go_wp2
          refine wp_region_held_drew (S := (fun _ => True)) (by kernel_rfl) trivial (fun hHeld => ?_)
          refine wpAnyH_take (i := 1) (oi := ?oi1A) (v := ?v1A) ?hi1A (by kernel_rfl) (by kernel_rfl) (by kernel_rfl) ?hq1A (Or.inl ⟨?hw1A, ?hy1A⟩) (by assumption) ?rest1A
          case hi1A => (simp only [List.getElem?_toArray, List.getElem?_cons_succ, List.getElem?_cons_zero]; rfl)
          case hq1A => exact fun _ _ _ h => h
          case hw1A => rfl
          case hy1A => (intro w hSw; (try dsimp only at hSw); go_simp <;> with_reducible rfl)
          try simp only [Act.put, List.setIfInBounds_toArray, List.set_cons_zero, List.set_cons_succ]
          refine wpAnyH_take (i := 2) (oi := ?oi2A) (v := ?v2A) ?hi2A (by kernel_rfl) (by kernel_rfl) (by kernel_rfl) ?hq2A (Or.inl ⟨?hw2A, ?hy2A⟩) (by assumption) ?rest2A
          case hi2A => (simp only [List.getElem?_toArray, List.getElem?_cons_succ, List.getElem?_cons_zero]; rfl)
          case hq2A => exact fun _ _ _ h => h
          case hw2A => rfl
          case hy2A => (intro w hSw; (try dsimp only at hSw); go_simp <;> with_reducible rfl)
          try simp only [Act.put, List.setIfInBounds_toArray, List.set_cons_zero, List.set_cons_succ]
          refine wpAnyH_take (i := 3) (oi := ?oi3A) (v := ?v3A) ?hi3A (by kernel_rfl) (by kernel_rfl) (by kernel_rfl) ?hq3A (Or.inl ⟨?hw3A, ?hy3A⟩) (by assumption) ?rest3A
          case hi3A => (simp only [List.getElem?_toArray, List.getElem?_cons_succ, List.getElem?_cons_zero]; rfl)
          case hq3A => exact fun _ _ _ h => h
          case hw3A => rfl
          case hy3A => (intro w hSw; (try dsimp only at hSw); go_simp <;> with_reducible rfl)
          try simp only [Act.put, List.setIfInBounds_toArray, List.set_cons_zero, List.set_cons_succ]
          refine wpAnyH_take (i := 5) (oi := ?oi5A) (v := ?v5A) ?hi5A (by kernel_rfl) (by kernel_rfl) (by kernel_rfl) ?hq5A (Or.inl ⟨?hw5A, ?hy5A⟩) (by assumption) ?rest5A
          case hi5A => (simp only [List.getElem?_toArray, List.getElem?_cons_succ, List.getElem?_cons_zero]; rfl)
          case hq5A => exact fun _ _ _ h => h
          case hw5A => rfl
          case hy5A => (intro w hSw; (try dsimp only at hSw); go_simp <;> with_reducible rfl)
          try simp only [Act.put, List.setIfInBounds_toArray, List.set_cons_zero, List.set_cons_succ]
          refine wpAnyH_take (i := 6) (oi := ?oi6A) (v := ?v6A) ?hi6A (by kernel_rfl) (by kernel_rfl) (by kernel_rfl) ?hq6A (Or.inl ⟨?hw6A, ?hy6A⟩) (by assumption) ?rest6A
          case hi6A => (simp only [List.getElem?_toArray, List.getElem?_cons_succ, List.getElem?_cons_zero]; rfl)
          case hq6A => exact fun _ _ _ h => h
          case hw6A => rfl
          case hy6A => (intro w hSw; (try dsimp only at hSw); go_simp <;> with_reducible rfl)
          try simp only [Act.put, List.setIfInBounds_toArray, List.set_cons_zero, List.set_cons_succ]
          refine wpAnyH_take (i := 7) (oi := ?oi7A) (v := ?v7A) ?hi7A (by kernel_rfl) (by kernel_rfl) (by kernel_rfl) ?hq7A (Or.inl ⟨?hw7A, ?hy7A⟩) (by assumption) ?rest7A
          case hi7A => (simp only [List.getElem?_toArray, List.getElem?_cons_succ, List.getElem?_cons_zero]; rfl)
          case hq7A => exact fun _ _ _ h => h
          case hw7A => rfl
          case hy7A => (intro w hSw; (try dsimp only at hSw); go_simp <;> with_reducible rfl)
          try simp only [Act.put, List.setIfInBounds_toArray, List.set_cons_zero, List.set_cons_succ]
          refine wpAnyH_take (i := 10) (oi := ?oi10A) (v := ?v10A) ?hi10A (by kernel_rfl) (by kernel_rfl) (by kernel_rfl) ?hq10A (Or.inl ⟨?hw10A, ?hy10A⟩) (by assumption) ?rest10A
          case hi10A => (simp only [List.getElem?_toArray, List.getElem?_cons_succ, List.getElem?_cons_zero]; rfl)
          case hq10A => exact fun _ _ _ h => h
          case hw10A => rfl
          case hy10A => (intro w hSw; (try dsimp only at hSw); go_simp <;> with_reducible rfl)
          try simp only [Act.put, List.setIfInBounds_toArray, List.set_cons_zero, List.set_cons_succ]
          refine wpAnyH_take (i := 11) (oi := ?oi11A) (v := ?v11A) ?hi11A (by kernel_rfl) (by kernel_rfl) (by kernel_rfl) ?hq11A (Or.inl ⟨?hw11A, ?hy11A⟩) (by assumption) ?rest11A
          case hi11A => (simp only [List.getElem?_toArray, List.getElem?_cons_succ, List.getElem?_cons_zero]; rfl)
          case hq11A => exact fun _ _ _ h => h
          case hw11A => rfl
          case hy11A => (intro w hSw; (try dsimp only at hSw); go_simp <;> with_reducible rfl)
          try simp only [Act.put, List.setIfInBounds_toArray, List.set_cons_zero, List.set_cons_succ]
          refine wpAnyH_take (i := 12) (oi := ?oi12A) (v := ?v12A) ?hi12A (by kernel_rfl) (by kernel_rfl) (by kernel_rfl) ?hq12A (Or.inl ⟨?hw12A, ?hy12A⟩) (by assumption) ?rest12A
          case hi12A => (simp only [List.getElem?_toArray, List.getElem?_cons_succ, List.getElem?_cons_zero]; rfl)
          case hq12A => exact fun _ _ _ h => h
          case hw12A => rfl
          case hy12A => (intro w hSw; (try dsimp only at hSw); go_simp <;> with_reducible rfl)
          try simp only [Act.put, List.setIfInBounds_toArray, List.set_cons_zero, List.set_cons_succ]
          refine wpAnyH_ready (rs := [0, 8]) (by kernel_rfl) (by simp) ?_
          refine AllReadyH.cons (o := ?o0R1) ?hi0R1 (fun K hK => ?st0R1) (AllReadyH.cons (o := ?o8R1) ?hi8R1 (fun K hK => ?st8R1) AllReadyH.nil)
          case hi0R1 => (simp only [List.getElem?_toArray, List.getElem?_cons_succ, List.getElem?_cons_zero]; rfl)
          case hi8R1 => (simp only [List.getElem?_toArray, List.getElem?_cons_succ, List.getElem?_cons_zero]; rfl)
          case st0R1 =>
            go_simp
            refine hK.out _ _ trivial (fun hHeld2 => ?_)
            clear hK K hHeld
            have hHeld := hHeld2
            clear hHeld2
            try simp only [Act.put, List.setIfInBounds_toArray, List.set_cons_zero, List.set_cons_succ]
            refine wpAnyH_ready (rs := [4, 8]) (by kernel_rfl) (by simp) ?_
            refine AllReadyH.cons (o := ?o4R2) ?hi4R2 (fun K hK => ?st4R2) (AllReadyH.cons (o := ?o8R2) ?hi8R2 (fun K hK => ?st8R2) AllReadyH.nil)
            case hi4R2 => (simp only [List.getElem?_toArray, List.getElem?_cons_succ, List.getElem?_cons_zero]; rfl)
            case hi8R2 => (simp only [List.getElem?_toArray, List.getElem?_cons_succ, List.getElem?_cons_zero]; rfl)
            case st4R2 =>
              rw [if_pos (by rfl)]
              refine wp_appI (.tmp 46) (.tmp 49) rfl w.heap.size _ [] rfl hO0 _ k c (l.take k) rfl (hl0.take' k hkn) (fun e => by have := hl.none_zero e; omega) (by simp; omega) (by simp <;> omega) ?_
              intro v4 w4 h4 k4 _
              rw [List.nil_append] at h4
              have hb4 : Below w.heap.size w w4 := hb0.trans (k4.below (by simp) (own_lt rfl))
              refine hK.out _ _ trivial (fun hHeld2 => ?_)
              clear hK K hHeld
              have hHeld := hHeld2
              clear hHeld2
              try simp only [Act.put, List.setIfInBounds_toArray, List.set_cons_zero, List.set_cons_succ]
              refine wpAnyH_ready (rs := [8]) (by kernel_rfl) (by simp) ?_
              refine AllReadyH.cons (o := ?o8R3) ?hi8R3 (fun K hK => ?st8R3) AllReadyH.nil
              case hi8R3 => (simp only [List.getElem?_toArray, List.getElem?_cons_succ, List.getElem?_cons_zero]; rfl)
              case st8R3 =>
                go_simp
                refine hK.out _ _ trivial (fun hHeld2 => ?_)
                clear hK K hHeld
                have hHeld := hHeld2
                clear hHeld2
                try simp only [Act.put, List.setIfInBounds_toArray, List.set_cons_zero, List.set_cons_succ]
                have hv := h4.alloc (.cells #[.string ⟨g.toArray⟩, .int .i64 q] 36)
                have hone := IL.one w4 g q 36
                have hbb := hb4.alloc hb4.size (.cells #[.string ⟨g.toArray⟩, .int .i64 q] 36)
                have hzb := hbb.size
                refine wpAnyH_ready (rs := [9]) (by kernel_rfl) (by simp) ?_
                refine AllReadyH.cons (o := ?o9R4) ?hi9R4 (fun K hK => ?st9R4) AllReadyH.nil
                case hi9R4 => (simp only [List.getElem?_toArray, List.getElem?_cons_succ, List.getElem?_cons_zero]; rfl)
                case st9R4 =>
                  rw [if_pos (by rfl)]
                  refine wp_appI (.tmp 50) (.tmp 54) rfl w.heap.size v4 (l.take k) rfl hv _ 1 1 [(g, q)] rfl hone (fun h => by cases h) (by omega) hzb ?_
                  intro v9 w9 h9 k9 _
                  have hb9 := hbb.trans (k9.below hzb (fun j hj e => by have := (hv.lt j e).1; omega))
                  have hz9 := hb9.size
                  refine hK.out _ _ trivial (fun hHeld2 => ?_)
                  clear hK K hHeld
                  have hHeld := hHeld2
                  clear hHeld2
                  try simp only [Act.put, List.setIfInBounds_toArray, List.set_cons_zero, List.set_cons_succ]
                  refine wpAnyH_ready (rs := [13]) (by kernel_rfl) (by simp) ?_
                  refine AllReadyH.cons (o := ?o13R5) ?hi13R5 (fun K hK => ?st13R5) AllReadyH.nil
                  case hi13R5 => (simp only [List.getElem?_toArray, List.getElem?_cons_succ, List.getElem?_cons_zero]; rfl)
                  case st13R5 =>
                    rw [if_pos (by rfl)]
                    refine wp_appI (.tmp 55) (.tmp 58) rfl w.heap.size v9 (l.take k ++ [(g, q)]) rfl h9 A' (n - k) (c - k) (l.drop k) rfl (hcut w9 l (hl.below hb9)) (hcut w9 l (hl.below hb9)).none_zero (by omega) hz9 ?_
                    intro v13 w13 h13 k13 _
                    have hb13 := hb9.trans (k13.below hz9 (fun j hj e => by have := (h9.lt j e).1; omega))
                    refine hK.out _ _ trivial (fun hHeld2 => ?_)
                    clear hK K hHeld
                    have hHeld := hHeld2
                    clear hHeld2
                    try simp only [Act.put, List.setIfInBounds_toArray, List.set_cons_zero, List.set_cons_succ]
                    refine wpAnyH_take (i := 14) (oi := ?oi14P6) (v := ?v14P6) ?hi14P6 (by kernel_rfl) (by kernel_rfl) (by kernel_rfl) ?hq14P6 (Or.inl ⟨?hw14P6, ?hy14P6⟩) (by assumption) ?rest14P6
                    case hi14P6 => (simp only [List.getElem?_toArray, List.getElem?_cons_succ, List.getElem?_cons_zero]; rfl)
                    case hq14P6 => exact fun _ _ _ h => h
                    case hw14P6 => rfl
                    case hy14P6 => (intro w hSw; (try dsimp only at hSw); go_simp <;> with_reducible rfl)
                    try simp only [Act.put, List.setIfInBounds_toArray, List.set_cons_zero, List.set_cons_succ]
                    refine wpAnyH_done (by kernel_rfl) ?_ _
                    go_wp2
                    go_ret
                    exact ⟨v13, rfl, by rw [hput]; exact h13, hb13⟩
            case st8R2 =>
              go_simp
              refine hK.out _ _ trivial (fun hHeld2 => ?_)
              clear hK K hHeld
              have hHeld := hHeld2
              clear hHeld2
              try simp only [Act.put, List.setIfInBounds_toArray, List.set_cons_zero, List.set_cons_succ]
              refine wpAnyH_ready (rs := [4]) (by kernel_rfl) (by simp) ?_
              refine AllReadyH.cons (o := ?o4R7) ?hi4R7 (fun K hK => ?st4R7) AllReadyH.nil
              case hi4R7 => (simp only [List.getElem?_toArray, List.getElem?_cons_succ, List.getElem?_cons_zero]; rfl)
              case st4R7 =>
                rw [if_pos (by rfl)]
                refine wp_appI (.tmp 46) (.tmp 49) rfl w.heap.size _ [] rfl (hO0.alloc (.cells #[.string ⟨g.toArray⟩, .int .i64 q] 36)) _ k c (l.take k) rfl ((hl0.alloc (.cells #[.string ⟨g.toArray⟩, .int .i64 q] 36)).take' k hkn) (fun e => by have := hl.none_zero e; omega) (by simp; omega) (by simp <;> omega) ?_
                intro v4 w4 h4 k4 _
                rw [List.nil_append] at h4
                have hbb : Below w.heap.size w w4 := (hb0.alloc hb0.size (.cells #[.string ⟨g.toArray⟩, .int .i64 q] 36)).trans (k4.below (by simp; omega) (own_lt rfl))
                have hv := h4
                have hone1 := IL.one (w.drew.alloc (.cells #[] 36)) g q 36
                rw [hsz0] at hone1
                have hone := hone1.kept k4 (fun ad e _ e2 => by cases e; exact absurd (show w.heap.size = w.heap.size + 1 from Option.some.inj e2) (by omega))
                refine hK.out _ _ trivial (fun hHeld2 => ?_)
                clear hK K hHeld
                have hHeld := hHeld2
                clear hHeld2
                try simp only [Act.put, List.setIfInBounds_toArray, List.set_cons_zero, List.set_cons_succ]
                have hzb := hbb.size
                refine wpAnyH_ready (rs := [9]) (by kernel_rfl) (by simp) ?_
                refine AllReadyH.cons (o := ?o9R8) ?hi9R8 (fun K hK => ?st9R8) AllReadyH.nil
                case hi9R8 => (simp only [List.getElem?_toArray, List.getElem?_cons_succ, List.getElem?_cons_zero]; rfl)
                case st9R8 =>
                  rw [if_pos (by rfl)]
                  refine wp_appI (.tmp 50) (.tmp 54) rfl w.heap.size v4 (l.take k) rfl hv _ 1 1 [(g, q)] rfl hone (fun h => by cases h) (by omega) hzb ?_
                  intro v9 w9 h9 k9 _
                  have hb9 := hbb.trans (k9.below hzb (fun j hj e => by have := (hv.lt j e).1; omega))
                  have hz9 := hb9.size
                  refine hK.out _ _ trivial (fun hHeld2 => ?_)
                  clear hK K hHeld
                  have hHeld := hHeld2
                  clear hHeld2
                  try simp only [Act.put, List.setIfInBounds_toArray, List.set_cons_zero, List.set_cons_succ]
                  refine wpAnyH_ready (rs := [13]) (by kernel_rfl) (by simp) ?_
                  refine AllReadyH.cons (o := ?o13R9) ?hi13R9 (fun K hK => ?st13R9) AllReadyH.nil
                  case hi13R9 => (simp only [List.getElem?_toArray, List.getElem?_cons_succ, List.getElem?_cons_zero]; rfl)
                  case st13R9 =>
                    rw [if_pos (by rfl)]
                    refine wp_appI (.tmp 55) (.tmp 58) rfl w.heap.size v9 (l.take k ++ [(g, q)]) rfl h9 A' (n - k) (c - k) (l.drop k) rfl (hcut w9 l (hl.below hb9)) (hcut w9 l (hl.below hb9)).none_zero (by omega) hz9 ?_
                    intro v13 w13 h13 k13 _
                    have hb13 := hb9.trans (k13.below hz9 (fun j hj e => by have := (h9.lt j e).1; omega))
                    refine hK.out _ _ trivial (fun hHeld2 => ?_)
                    clear hK K hHeld
                    have hHeld := hHeld2
                    clear hHeld2
                    try simp only [Act.put, List.setIfInBounds_toArray, List.set_cons_zero, List.set_cons_succ]
                    refine wpAnyH_take (i := 14) (oi := ?oi14P10) (v := ?v14P10) ?hi14P10 (by kernel_rfl) (by kernel_rfl) (by kernel_rfl) ?hq14P10 (Or.inl ⟨?hw14P10, ?hy14P10⟩) (by assumption) ?rest14P10
                    case hi14P10 => (simp only [List.getElem?_toArray, List.getElem?_cons_succ, List.getElem?_cons_zero]; rfl)
                    case hq14P10 => exact fun _ _ _ h => h
                    case hw14P10 => rfl
                    case hy14P10 => (intro w hSw; (try dsimp only at hSw); go_simp <;> with_reducible rfl)
                    try simp only [Act.put, List.setIfInBounds_toArray, List.set_cons_zero, List.set_cons_succ]
                    refine wpAnyH_done (by kernel_rfl) ?_ _
                    go_wp2
                    go_ret
                    exact ⟨v13, rfl, by rw [hput]; exact h13, hb13⟩
          case st8R1 =>
            go_simp
            refine hK.out _ _ trivial (fun hHeld2 => ?_)
            clear hK K hHeld
            have hHeld := hHeld2
            clear hHeld2
            try simp only [Act.put, List.setIfInBounds_toArray, List.set_cons_zero, List.set_cons_succ]
            refine wpAnyH_ready (rs := [0]) (by kernel_rfl) (by simp) ?_
            refine AllReadyH.cons (o := ?o0R11) ?hi0R11 (fun K hK => ?st0R11) AllReadyH.nil
            case hi0R11 => (simp only [List.getElem?_toArray, List.getElem?_cons_succ, List.getElem?_cons_zero]; rfl)
            case st0R11 =>
              go_simp
              refine hK.out _ _ trivial (fun hHeld2 => ?_)
              clear hK K hHeld
              have hHeld := hHeld2
              clear hHeld2
              try simp only [Act.put, List.setIfInBounds_toArray, List.set_cons_zero, List.set_cons_succ]
              refine wpAnyH_ready (rs := [4]) (by kernel_rfl) (by simp) ?_
              refine AllReadyH.cons (o := ?o4R12) ?hi4R12 (fun K hK => ?st4R12) AllReadyH.nil
              case hi4R12 => (simp only [List.getElem?_toArray, List.getElem?_cons_succ, List.getElem?_cons_zero]; rfl)
              case st4R12 =>
                rw [if_pos (by rfl)]
                refine wp_appI (.tmp 46) (.tmp 49) rfl w.heap.size _ [] rfl hO8 _ k c (l.take k) rfl (hl8.take' k hkn) (fun e => by have := hl.none_zero e; omega) (by simp; omega) (by simp <;> omega) ?_
                intro v4 w4 h4 k4 _
                rw [List.nil_append] at h4
                have hbb : Below w.heap.size w w4 := hb8.trans (k4.below (by simp; omega) (fun j hj e => absurd (show w.heap.size + 1 = j from Option.some.inj e) (by omega)))
                have hv := h4
                have hone := ((IL.one w.drew g q 36).alloc (.cells #[] 36)).kept k4 (fun ad e _ e2 => by cases e; exact absurd (show w.heap.size + 1 = w.heap.size from Option.some.inj e2) (by omega))
                refine hK.out _ _ trivial (fun hHeld2 => ?_)
                clear hK K hHeld
                have hHeld := hHeld2
                clear hHeld2
                try simp only [Act.put, List.setIfInBounds_toArray, List.set_cons_zero, List.set_cons_succ]
                have hzb := hbb.size
                refine wpAnyH_ready (rs := [9]) (by kernel_rfl) (by simp) ?_
                refine AllReadyH.cons (o := ?o9R13) ?hi9R13 (fun K hK => ?st9R13) AllReadyH.nil
                case hi9R13 => (simp only [List.getElem?_toArray, List.getElem?_cons_succ, List.getElem?_cons_zero]; rfl)
                case st9R13 =>
                  rw [if_pos (by rfl)]
                  refine wp_appI (.tmp 50) (.tmp 54) rfl w.heap.size v4 (l.take k) rfl hv _ 1 1 [(g, q)] rfl hone (fun h => by cases h) (by omega) hzb ?_
                  intro v9 w9 h9 k9 _
                  have hb9 := hbb.trans (k9.below hzb (fun j hj e => by have := (hv.lt j e).1; omega))
                  have hz9 := hb9.size
                  refine hK.out _ _ trivial (fun hHeld2 => ?_)
                  clear hK K hHeld
                  have hHeld := hHeld2
                  clear hHeld2
                  try simp only [Act.put, List.setIfInBounds_toArray, List.set_cons_zero, List.set_cons_succ]
                  refine wpAnyH_ready (rs := [13]) (by kernel_rfl) (by simp) ?_
                  refine AllReadyH.cons (o := ?o13R14) ?hi13R14 (fun K hK => ?st13R14) AllReadyH.nil
                  case hi13R14 => (simp only [List.getElem?_toArray, List.getElem?_cons_succ, List.getElem?_cons_zero]; rfl)
                  case st13R14 =>
                    rw [if_pos (by rfl)]
                    refine wp_appI (.tmp 55) (.tmp 58) rfl w.heap.size v9 (l.take k ++ [(g, q)]) rfl h9 A' (n - k) (c - k) (l.drop k) rfl (hcut w9 l (hl.below hb9)) (hcut w9 l (hl.below hb9)).none_zero (by omega) hz9 ?_
                    intro v13 w13 h13 k13 _
                    have hb13 := hb9.trans (k13.below hz9 (fun j hj e => by have := (h9.lt j e).1; omega))
                    refine hK.out _ _ trivial (fun hHeld2 => ?_)
                    clear hK K hHeld
                    have hHeld := hHeld2
                    clear hHeld2
                    try simp only [Act.put, List.setIfInBounds_toArray, List.set_cons_zero, List.set_cons_succ]
                    refine wpAnyH_take (i := 14) (oi := ?oi14P15) (v := ?v14P15) ?hi14P15 (by kernel_rfl) (by kernel_rfl) (by kernel_rfl) ?hq14P15 (Or.inl ⟨?hw14P15, ?hy14P15⟩) (by assumption) ?rest14P15
                    case hi14P15 => (simp only [List.getElem?_toArray, List.getElem?_cons_succ, List.getElem?_cons_zero]; rfl)
                    case hq14P15 => exact fun _ _ _ h => h
                    case hw14P15 => rfl
                    case hy14P15 => (intro w hSw; (try dsimp only at hSw); go_simp <;> with_reducible rfl)
                    try simp only [Act.put, List.setIfInBounds_toArray, List.set_cons_zero, List.set_cons_succ]
                    refine wpAnyH_done (by kernel_rfl) ?_ _
                    go_wp2
                    go_ret
                    exact ⟨v13, rfl, by rw [hput]; exact h13, hb13⟩
    · have hlz : ¬ (k : Int) < (n : Int) := by omega
      have hput := putL_in g q l k hall (fun x hx2 => by have := (List.getElem?_eq_some_iff.1 hx2).1; omega)
      obtain ⟨A', hrf, hcut⟩ := cutI A n c k hkn hc
      have hrt := fun W : World => run_toI' W A n c (k : Int) (by omega) (by omega)
      simp only [Int.toNat_natCast] at hrt
      have hO0 : OI w.heap.size (w.drew.alloc (.cells #[] 36)) (.slice (some ⟨w.heap.size, 0, none⟩) 0 0) [] := OI.made _ w.drew (Nat.le_refl _)
      have hb0 : Below w.heap.size w (w.drew.alloc (.cells #[] 36)) := (Below.refl w.heap.size w).drew.alloc (Nat.le_refl _) _
      have hl0 := hl.below hb0
      have hb8 : Below w.heap.size w ((w.drew.alloc (.cells #[.string ⟨g.toArray⟩, .int .i64 q] 36)).alloc (.cells #[] 36)) := ((Below.refl w.heap.size w).drew.alloc (Nat.le_refl _) _).alloc (by simp) _
      have hO8 : OI w.heap.size ((w.drew.alloc (.cells #[.string ⟨g.toArray⟩, .int .i64 q] 36)).alloc (.cells #[] 36)) (.slice (some ⟨(w.drew.alloc (.cells #[.string ⟨g.toArray⟩, .int .i64 q] 36)).heap.size, 0, none⟩) 0 0) [] := OI.made _ (w.drew.alloc (.cells #[.string ⟨g.toArray⟩, .int .i64 q] 36)) (by simp)
      have hl8 := hl.below hb8
      have hsz0 : (w.drew.alloc (.cells #[] 36)).heap.size = w.heap.size + 1 := by simp
      have hsz8 : (w.drew.alloc (.cells #[.string ⟨g.toArray⟩, .int .i64 q] 36)).heap.size = w.heap.size + 1 := by simp
      rw [hsz8] at hO8
      have hlt4 : (l.take k).length ≤ n := by rw [List.length_take]; omega
      have hlt9 : (l.take k ++ [(g, q)]).length + (n - k) = n + 1 := by rw [List.length_append, List.length_take, hlen]; simp; omega
      go_wp2
      refine wp_region_held_drew (S := (fun _ => True)) (by kernel_rfl) trivial (fun hHeld => ?_)
      refine wpAnyH_take (i := 1) (oi := ?oi1B) (v := ?v1B) ?hi1B (by kernel_rfl) (by kernel_rfl) (by kernel_rfl) ?hq1B (Or.inl ⟨?hw1B, ?hy1B⟩) (by assumption) ?rest1B
      case hi1B => (simp only [List.getElem?_toArray, List.getElem?_cons_succ, List.getElem?_cons_zero]; rfl)
      case hq1B => exact fun _ _ _ h => h
      case hw1B => rfl
      case hy1B => (intro w hSw; (try dsimp only at hSw); go_simp <;> with_reducible rfl)
      try simp only [Act.put, List.setIfInBounds_toArray, List.set_cons_zero, List.set_cons_succ]
      refine wpAnyH_take (i := 2) (oi := ?oi2B) (v := ?v2B) ?hi2B (by kernel_rfl) (by kernel_rfl) (by kernel_rfl) ?hq2B (Or.inl ⟨?hw2B, ?hy2B⟩) (by assumption) ?rest2B
      case hi2B => (simp only [List.getElem?_toArray, List.getElem?_cons_succ, List.getElem?_cons_zero]; rfl)
      case hq2B => exact fun _ _ _ h => h
      case hw2B => rfl
      case hy2B => (intro w hSw; (try dsimp only at hSw); go_simp <;> with_reducible rfl)
      try simp only [Act.put, List.setIfInBounds_toArray, List.set_cons_zero, List.set_cons_succ]
      refine wpAnyH_take (i := 3) (oi := ?oi3B) (v := ?v3B) ?hi3B (by kernel_rfl) (by kernel_rfl) (by kernel_rfl) ?hq3B (Or.inl ⟨?hw3B, ?hy3B⟩) (by assumption) ?rest3B
      case hi3B => (simp only [List.getElem?_toArray, List.getElem?_cons_succ, List.getElem?_cons_zero]; rfl)
      case hq3B => exact fun _ _ _ h => h
      case hw3B => rfl
      case hy3B => (intro w hSw; (try dsimp only at hSw); go_simp <;> with_reducible rfl)
      try simp only [Act.put, List.setIfInBounds_toArray, List.set_cons_zero, List.set_cons_succ]
      refine wpAnyH_take (i := 5) (oi := ?oi5B) (v := ?v5B) ?hi5B (by kernel_rfl) (by kernel_rfl) (by kernel_rfl) ?hq5B (Or.inl ⟨?hw5B, ?hy5B⟩) (by assumption) ?rest5B
      case hi5B => (simp only [List.getElem?_toArray, List.getElem?_cons_succ, List.getElem?_cons_zero]; rfl)
      case hq5B => exact fun _ _ _ h => h
      case hw5B => rfl
      case hy5B => (intro w hSw; (try dsimp only at hSw); go_simp <;> with_reducible rfl)
      try simp only [Act.put, List.setIfInBounds_toArray, List.set_cons_zero, List.set_cons_succ]
      refine wpAnyH_take (i := 6) (oi := ?oi6B) (v := ?v6B) ?hi6B (by kernel_rfl) (by kernel_rfl) (by kernel_rfl) ?hq6B (Or.inl ⟨?hw6B, ?hy6B⟩) (by assumption) ?rest6B
      case hi6B => (simp only [List.getElem?_toArray, List.getElem?_cons_succ, List.getElem?_cons_zero]; rfl)
      case hq6B => exact fun _ _ _ h => h
      case hw6B => rfl
      case hy6B => (intro w hSw; (try dsimp only at hSw); go_simp <;> with_reducible rfl)
      try simp only [Act.put, List.setIfInBounds_toArray, List.set_cons_zero, List.set_cons_succ]
      refine wpAnyH_take (i := 7) (oi := ?oi7B) (v := ?v7B) ?hi7B (by kernel_rfl) (by kernel_rfl) (by kernel_rfl) ?hq7B (Or.inl ⟨?hw7B, ?hy7B⟩) (by assumption) ?rest7B
      case hi7B => (simp only [List.getElem?_toArray, List.getElem?_cons_succ, List.getElem?_cons_zero]; rfl)
      case hq7B => exact fun _ _ _ h => h
      case hw7B => rfl
      case hy7B => (intro w hSw; (try dsimp only at hSw); go_simp <;> with_reducible rfl)
      try simp only [Act.put, List.setIfInBounds_toArray, List.set_cons_zero, List.set_cons_succ]
      refine wpAnyH_take (i := 10) (oi := ?oi10B) (v := ?v10B) ?hi10B (by kernel_rfl) (by kernel_rfl) (by kernel_rfl) ?hq10B (Or.inl ⟨?hw10B, ?hy10B⟩) (by assumption) ?rest10B
      case hi10B => (simp only [List.getElem?_toArray, List.getElem?_cons_succ, List.getElem?_cons_zero]; rfl)
      case hq10B => exact fun _ _ _ h => h
      case hw10B => rfl
      case hy10B => (intro w hSw; (try dsimp only at hSw); go_simp <;> with_reducible rfl)
      try simp only [Act.put, List.setIfInBounds_toArray, List.set_cons_zero, List.set_cons_succ]
      refine wpAnyH_take (i := 11) (oi := ?oi11B) (v := ?v11B) ?hi11B (by kernel_rfl) (by kernel_rfl) (by kernel_rfl) ?hq11B (Or.inl ⟨?hw11B, ?hy11B⟩) (by assumption) ?rest11B
      case hi11B => (simp only [List.getElem?_toArray, List.getElem?_cons_succ, List.getElem?_cons_zero]; rfl)
      case hq11B => exact fun _ _ _ h => h
      case hw11B => rfl
      case hy11B => (intro w hSw; (try dsimp only at hSw); go_simp <;> with_reducible rfl)
      try simp only [Act.put, List.setIfInBounds_toArray, List.set_cons_zero, List.set_cons_succ]
      refine wpAnyH_take (i := 12) (oi := ?oi12B) (v := ?v12B) ?hi12B (by kernel_rfl) (by kernel_rfl) (by kernel_rfl) ?hq12B (Or.inl ⟨?hw12B, ?hy12B⟩) (by assumption) ?rest12B
      case hi12B => (simp only [List.getElem?_toArray, List.getElem?_cons_succ, List.getElem?_cons_zero]; rfl)
      case hq12B => exact fun _ _ _ h => h
      case hw12B => rfl
      case hy12B => (intro w hSw; (try dsimp only at hSw); go_simp <;> with_reducible rfl)
      try simp only [Act.put, List.setIfInBounds_toArray, List.set_cons_zero, List.set_cons_succ]
      refine wpAnyH_ready (rs := [0, 8]) (by kernel_rfl) (by simp) ?_
      refine AllReadyH.cons (o := ?o0R16) ?hi0R16 (fun K hK => ?st0R16) (AllReadyH.cons (o := ?o8R16) ?hi8R16 (fun K hK => ?st8R16) AllReadyH.nil)
      case hi0R16 => (simp only [List.getElem?_toArray, List.getElem?_cons_succ, List.getElem?_cons_zero]; rfl)
      case hi8R16 => (simp only [List.getElem?_toArray, List.getElem?_cons_succ, List.getElem?_cons_zero]; rfl)
      case st0R16 =>
        go_simp
        refine hK.out _ _ trivial (fun hHeld2 => ?_)
        clear hK K hHeld
        have hHeld := hHeld2
        clear hHeld2
        try simp only [Act.put, List.setIfInBounds_toArray, List.set_cons_zero, List.set_cons_succ]
        refine wpAnyH_ready (rs := [4, 8]) (by kernel_rfl) (by simp) ?_
        refine AllReadyH.cons (o := ?o4R17) ?hi4R17 (fun K hK => ?st4R17) (AllReadyH.cons (o := ?o8R17) ?hi8R17 (fun K hK => ?st8R17) AllReadyH.nil)
        case hi4R17 => (simp only [List.getElem?_toArray, List.getElem?_cons_succ, List.getElem?_cons_zero]; rfl)
        case hi8R17 => (simp only [List.getElem?_toArray, List.getElem?_cons_succ, List.getElem?_cons_zero]; rfl)
        case st4R17 =>
          rw [if_pos (by rfl)]
          refine wp_appI (.tmp 46) (.tmp 49) rfl w.heap.size _ [] rfl hO0 A k c (l.take k) rfl (hl0.take' k hkn) (fun e => by have := hl.none_zero e; omega) (by simp; omega) (by simp <;> omega) ?_
          intro v4 w4 h4 k4 _
          rw [List.nil_append] at h4
          have hb4 : Below w.heap.size w w4 := hb0.trans (k4.below (by simp) (own_lt rfl))
          refine hK.out _ _ trivial (fun hHeld2 => ?_)
          clear hK K hHeld
          have hHeld := hHeld2
          clear hHeld2
          try simp only [Act.put, List.setIfInBounds_toArray, List.set_cons_zero, List.set_cons_succ]
          refine wpAnyH_ready (rs := [8]) (by kernel_rfl) (by simp) ?_
          refine AllReadyH.cons (o := ?o8R18) ?hi8R18 (fun K hK => ?st8R18) AllReadyH.nil
          case hi8R18 => (simp only [List.getElem?_toArray, List.getElem?_cons_succ, List.getElem?_cons_zero]; rfl)
          case st8R18 =>
            go_simp
            refine hK.out _ _ trivial (fun hHeld2 => ?_)
            clear hK K hHeld
            have hHeld := hHeld2
            clear hHeld2
            try simp only [Act.put, List.setIfInBounds_toArray, List.set_cons_zero, List.set_cons_succ]
            have hv := h4.alloc (.cells #[.string ⟨g.toArray⟩, .int .i64 q] 36)
            have hone := IL.one w4 g q 36
            have hbb := hb4.alloc hb4.size (.cells #[.string ⟨g.toArray⟩, .int .i64 q] 36)
            have hzb := hbb.size
            refine wpAnyH_ready (rs := [9]) (by kernel_rfl) (by simp) ?_
            refine AllReadyH.cons (o := ?o9R19) ?hi9R19 (fun K hK => ?st9R19) AllReadyH.nil
            case hi9R19 => (simp only [List.getElem?_toArray, List.getElem?_cons_succ, List.getElem?_cons_zero]; rfl)
            case st9R19 =>
              rw [if_pos (by rfl)]
              refine wp_appI (.tmp 50) (.tmp 54) rfl w.heap.size v4 (l.take k) rfl hv _ 1 1 [(g, q)] rfl hone (fun h => by cases h) (by omega) hzb ?_
              intro v9 w9 h9 k9 _
              have hb9 := hbb.trans (k9.below hzb (fun j hj e => by have := (hv.lt j e).1; omega))
              have hz9 := hb9.size
              refine hK.out _ _ trivial (fun hHeld2 => ?_)
              clear hK K hHeld
              have hHeld := hHeld2
              clear hHeld2
              try simp only [Act.put, List.setIfInBounds_toArray, List.set_cons_zero, List.set_cons_succ]
              refine wpAnyH_ready (rs := [13]) (by kernel_rfl) (by simp) ?_
              refine AllReadyH.cons (o := ?o13R20) ?hi13R20 (fun K hK => ?st13R20) AllReadyH.nil
              case hi13R20 => (simp only [List.getElem?_toArray, List.getElem?_cons_succ, List.getElem?_cons_zero]; rfl)
              case st13R20 =>
                rw [if_pos (by rfl)]
                refine wp_appI (.tmp 55) (.tmp 58) rfl w.heap.size v9 (l.take k ++ [(g, q)]) rfl h9 A' (n - k) (c - k) (l.drop k) rfl (hcut w9 l (hl.below hb9)) (hcut w9 l (hl.below hb9)).none_zero (by omega) hz9 ?_
                intro v13 w13 h13 k13 _
                have hb13 := hb9.trans (k13.below hz9 (fun j hj e => by have := (h9.lt j e).1; omega))
                refine hK.out _ _ trivial (fun hHeld2 => ?_)
                clear hK K hHeld
                have hHeld := hHeld2
                clear hHeld2
                try simp only [Act.put, List.setIfInBounds_toArray, List.set_cons_zero, List.set_cons_succ]
                refine wpAnyH_take (i := 14) (oi := ?oi14P21) (v := ?v14P21) ?hi14P21 (by kernel_rfl) (by kernel_rfl) (by kernel_rfl) ?hq14P21 (Or.inl ⟨?hw14P21, ?hy14P21⟩) (by assumption) ?rest14P21
                case hi14P21 => (simp only [List.getElem?_toArray, List.getElem?_cons_succ, List.getElem?_cons_zero]; rfl)
                case hq14P21 => exact fun _ _ _ h => h
                case hw14P21 => rfl
                case hy14P21 => (intro w hSw; (try dsimp only at hSw); go_simp <;> with_reducible rfl)
                try simp only [Act.put, List.setIfInBounds_toArray, List.set_cons_zero, List.set_cons_succ]
                refine wpAnyH_done (by kernel_rfl) ?_ _
                go_wp2
                go_ret
                exact ⟨v13, rfl, by rw [hput]; exact h13, hb13⟩
        case st8R17 =>
          go_simp
          refine hK.out _ _ trivial (fun hHeld2 => ?_)
          clear hK K hHeld
          have hHeld := hHeld2
          clear hHeld2
          try simp only [Act.put, List.setIfInBounds_toArray, List.set_cons_zero, List.set_cons_succ]
          refine wpAnyH_ready (rs := [4]) (by kernel_rfl) (by simp) ?_
          refine AllReadyH.cons (o := ?o4R22) ?hi4R22 (fun K hK => ?st4R22) AllReadyH.nil
          case hi4R22 => (simp only [List.getElem?_toArray, List.getElem?_cons_succ, List.getElem?_cons_zero]; rfl)
          case st4R22 =>
            rw [if_pos (by rfl)]
            refine wp_appI (.tmp 46) (.tmp 49) rfl w.heap.size _ [] rfl (hO0.alloc (.cells #[.string ⟨g.toArray⟩, .int .i64 q] 36)) A k c (l.take k) rfl ((hl0.alloc (.cells #[.string ⟨g.toArray⟩, .int .i64 q] 36)).take' k hkn) (fun e => by have := hl.none_zero e; omega) (by simp; omega) (by simp <;> omega) ?_
            intro v4 w4 h4 k4 _
            rw [List.nil_append] at h4
            have hbb : Below w.heap.size w w4 := (hb0.alloc hb0.size (.cells #[.string ⟨g.toArray⟩, .int .i64 q] 36)).trans (k4.below (by simp; omega) (own_lt rfl))
            have hv := h4
            have hone1 := IL.one (w.drew.alloc (.cells #[] 36)) g q 36
            rw [hsz0] at hone1
            have hone := hone1.kept k4 (fun ad e _ e2 => by cases e; exact absurd (show w.heap.size = w.heap.size + 1 from Option.some.inj e2) (by omega))
            refine hK.out _ _ trivial (fun hHeld2 => ?_)
            clear hK K hHeld
            have hHeld := hHeld2
            clear hHeld2
            try simp only [Act.put, List.setIfInBounds_toArray, List.set_cons_zero, List.set_cons_succ]
            have hzb := hbb.size
            refine wpAnyH_ready (rs := [9]) (by kernel_rfl) (by simp) ?_
            refine AllReadyH.cons (o := ?o9R23) ?hi9R23 (fun K hK => ?st9R23) AllReadyH.nil
            case hi9R23 => (simp only [List.getElem?_toArray, List.getElem?_cons_succ, List.getElem?_cons_zero]; rfl)
            case st9R23 =>
              rw [if_pos (by rfl)]
              refine wp_appI (.tmp 50) (.tmp 54) rfl w.heap.size v4 (l.take k) rfl hv _ 1 1 [(g, q)] rfl hone (fun h => by cases h) (by omega) hzb ?_
              intro v9 w9 h9 k9 _
              have hb9 := hbb.trans (k9.below hzb (fun j hj e => by have := (hv.lt j e).1; omega))
              have hz9 := hb9.size
              refine hK.out _ _ trivial (fun hHeld2 => ?_)
              clear hK K hHeld
              have hHeld := hHeld2
              clear hHeld2
              try simp only [Act.put, List.setIfInBounds_toArray, List.set_cons_zero, List.set_cons_succ]
              refine wpAnyH_ready (rs := [13]) (by kernel_rfl) (by simp) ?_
              refine AllReadyH.cons (o := ?o13R24) ?hi13R24 (fun K hK => ?st13R24) AllReadyH.nil
              case hi13R24 => (simp only [List.getElem?_toArray, List.getElem?_cons_succ, List.getElem?_cons_zero]; rfl)
              case st13R24 =>
                rw [if_pos (by rfl)]
                refine wp_appI (.tmp 55) (.tmp 58) rfl w.heap.size v9 (l.take k ++ [(g, q)]) rfl h9 A' (n - k) (c - k) (l.drop k) rfl (hcut w9 l (hl.below hb9)) (hcut w9 l (hl.below hb9)).none_zero (by omega) hz9 ?_
                intro v13 w13 h13 k13 _
                have hb13 := hb9.trans (k13.below hz9 (fun j hj e => by have := (h9.lt j e).1; omega))
                refine hK.out _ _ trivial (fun hHeld2 => ?_)
                clear hK K hHeld
                have hHeld := hHeld2
                clear hHeld2
                try simp only [Act.put, List.setIfInBounds_toArray, List.set_cons_zero, List.set_cons_succ]
                refine wpAnyH_take (i := 14) (oi := ?oi14P25) (v := ?v14P25) ?hi14P25 (by kernel_rfl) (by kernel_rfl) (by kernel_rfl) ?hq14P25 (Or.inl ⟨?hw14P25, ?hy14P25⟩) (by assumption) ?rest14P25
                case hi14P25 => (simp only [List.getElem?_toArray, List.getElem?_cons_succ, List.getElem?_cons_zero]; rfl)
                case hq14P25 => exact fun _ _ _ h => h
                case hw14P25 => rfl
                case hy14P25 => (intro w hSw; (try dsimp only at hSw); go_simp <;> with_reducible rfl)
                try simp only [Act.put, List.setIfInBounds_toArray, List.set_cons_zero, List.set_cons_succ]
                refine wpAnyH_done (by kernel_rfl) ?_ _
                go_wp2
                go_ret
                exact ⟨v13, rfl, by rw [hput]; exact h13, hb13⟩
      case st8R16 =>
        go_simp
        refine hK.out _ _ trivial (fun hHeld2 => ?_)
        clear hK K hHeld
        have hHeld := hHeld2
        clear hHeld2
        try simp only [Act.put, List.setIfInBounds_toArray, List.set_cons_zero, List.set_cons_succ]
        refine wpAnyH_ready (rs := [0]) (by kernel_rfl) (by simp) ?_
        refine AllReadyH.cons (o := ?o0R26) ?hi0R26 (fun K hK => ?st0R26) AllReadyH.nil
        case hi0R26 => (simp only [List.getElem?_toArray, List.getElem?_cons_succ, List.getElem?_cons_zero]; rfl)
        case st0R26 =>
          go_simp
          refine hK.out _ _ trivial (fun hHeld2 => ?_)
          clear hK K hHeld
          have hHeld := hHeld2
          clear hHeld2
          try simp only [Act.put, List.setIfInBounds_toArray, List.set_cons_zero, List.set_cons_succ]
          refine wpAnyH_ready (rs := [4]) (by kernel_rfl) (by simp) ?_
          refine AllReadyH.cons (o := ?o4R27) ?hi4R27 (fun K hK => ?st4R27) AllReadyH.nil
          case hi4R27 => (simp only [List.getElem?_toArray, List.getElem?_cons_succ, List.getElem?_cons_zero]; rfl)
          case st4R27 =>
            rw [if_pos (by rfl)]
            refine wp_appI (.tmp 46) (.tmp 49) rfl w.heap.size _ [] rfl hO8 A k c (l.take k) rfl (hl8.take' k hkn) (fun e => by have := hl.none_zero e; omega) (by simp; omega) (by simp <;> omega) ?_
            intro v4 w4 h4 k4 _
            rw [List.nil_append] at h4
            have hbb : Below w.heap.size w w4 := hb8.trans (k4.below (by simp; omega) (fun j hj e => absurd (show w.heap.size + 1 = j from Option.some.inj e) (by omega)))
            have hv := h4
            have hone := ((IL.one w.drew g q 36).alloc (.cells #[] 36)).kept k4 (fun ad e _ e2 => by cases e; exact absurd (show w.heap.size + 1 = w.heap.size from Option.some.inj e2) (by omega))
            refine hK.out _ _ trivial (fun hHeld2 => ?_)
            clear hK K hHeld
            have hHeld := hHeld2
            clear hHeld2
            try simp only [Act.put, List.setIfInBounds_toArray, List.set_cons_zero, List.set_cons_succ]
            have hzb := hbb.size
            refine wpAnyH_ready (rs := [9]) (by kernel_rfl) (by simp) ?_
            refine AllReadyH.cons (o := ?o9R28) ?hi9R28 (fun K hK => ?st9R28) AllReadyH.nil
            case hi9R28 => (simp only [List.getElem?_toArray, List.getElem?_cons_succ, List.getElem?_cons_zero]; rfl)
            case st9R28 =>
              rw [if_pos (by rfl)]
              refine wp_appI (.tmp 50) (.tmp 54) rfl w.heap.size v4 (l.take k) rfl hv _ 1 1 [(g, q)] rfl hone (fun h => by cases h) (by omega) hzb ?_
              intro v9 w9 h9 k9 _
              have hb9 := hbb.trans (k9.below hzb (fun j hj e => by have := (hv.lt j e).1; omega))
              have hz9 := hb9.size
              refine hK.out _ _ trivial (fun hHeld2 => ?_)
              clear hK K hHeld
              have hHeld := hHeld2
              clear hHeld2
              try simp only [Act.put, List.setIfInBounds_toArray, List.set_cons_zero, List.set_cons_succ]
              refine wpAnyH_ready (rs := [13]) (by kernel_rfl) (by simp) ?_
              refine AllReadyH.cons (o := ?o13R29) ?hi13R29 (fun K hK => ?st13R29) AllReadyH.nil
              case hi13R29 => (simp only [List.getElem?_toArray, List.getElem?_cons_succ, List.getElem?_cons_zero]; rfl)
              case st13R29 =>
                rw [if_pos (by rfl)]
                refine wp_appI (.tmp 55) (.tmp 58) rfl w.heap.size v9 (l.take k ++ [(g, q)]) rfl h9 A' (n - k) (c - k) (l.drop k) rfl (hcut w9 l (hl.below hb9)) (hcut w9 l (hl.below hb9)).none_zero (by omega) hz9 ?_
                intro v13 w13 h13 k13 _
                have hb13 := hb9.trans (k13.below hz9 (fun j hj e => by have := (h9.lt j e).1; omega))
                refine hK.out _ _ trivial (fun hHeld2 => ?_)
                clear hK K hHeld
                have hHeld := hHeld2
                clear hHeld2
                try simp only [Act.put, List.setIfInBounds_toArray, List.set_cons_zero, List.set_cons_succ]
                refine wpAnyH_take (i := 14) (oi := ?oi14P30) (v := ?v14P30) ?hi14P30 (by kernel_rfl) (by kernel_rfl) (by kernel_rfl) ?hq14P30 (Or.inl ⟨?hw14P30, ?hy14P30⟩) (by assumption) ?rest14P30
                case hi14P30 => (simp only [List.getElem?_toArray, List.getElem?_cons_succ, List.getElem?_cons_zero]; rfl)
                case hq14P30 => exact fun _ _ _ h => h
                case hw14P30 => rfl
                case hy14P30 => (intro w hSw; (try dsimp only at hSw); go_simp <;> with_reducible rfl)
                try simp only [Act.put, List.setIfInBounds_toArray, List.set_cons_zero, List.set_cons_succ]
                refine wpAnyH_done (by kernel_rfl) ?_ _
                go_wp2
                go_ret
                exact ⟨v13, rfl, by rw [hput]; exact h13, hb13⟩
end Go.Proofs.Ytligpmnpfdaknaa
