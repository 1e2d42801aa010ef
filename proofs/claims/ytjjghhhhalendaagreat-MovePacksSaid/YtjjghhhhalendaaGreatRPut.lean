/- put: a good's number into a list whose goods rise, as the document has it. No condition but that the list is one of memory, and its length. -/
import Derived.Test.YtjjghhhhalendaaGreatROf
namespace Go.Proofs.YtjjghhhhalendaaGreat
open Go.RowKit Go.Maps Go.Shelf Go.Sort
set_option linter.unusedVariables false
set_option linter.unusedSimpArgs false

theorem wp_appI {w : World} {o : Oper} {a : Act} {K : Act → World → Prop} {Q : Exit → Act → World → Prop} (s x : Operand) (ho : o.op = .call { callee := .builtin .append, args := #[s, x], argTypes := #[30, 30] })
    (base : Nat) (v : Value) (l : List It) (hs : a.eval s = v) (hown : OI base w v l) (A : Option Addr) (m c : Nat) (news : List It) (hx : a.eval x = .slice A m c) (hr : IL w A m news) (hmn : A = none → m = 0)
    (hn : (l.length + m) * 24 ≤ 140737488355328) (hbase : base ≤ w.heap.size)
    (h : ∀ v' w', OI base w' v' (l ++ news) → Keep (fun k => v.ownBlock = some k) w w' → (v'.ownBlock = v.ownBlock ∨ v'.ownBlock = some w.heap.size) → K (a.put o.dst v') w') : o.wp Tryz.prog a w K Q := by
  obtain ⟨v', w', hrun, h2, h3, h4⟩ := run_appI w base o.type v l hown A m c news hr hmn hn hbase
  unfold Oper.wp execOp
  simp only [ho, resolve, invoke, builtin, Sem.run_bind, Sem.run_pure, Result.andThen_ok, List.map_toArray, List.map_cons, List.map_nil, hs, hx, hrun]
  exact h v' w' h2 h3 h4
theorem run_str_lss (t : TypeId) (a b : List UInt8) (c : Bool) (hc : decide (a < b) = c) (W : World) : (binOp .lss t (.string ⟨a.toArray⟩) (.string ⟨b.toArray⟩)).run Tryz.prog W = .ok (.bool c) W := by
  have h := str_lt a b
  rw [hc, str_toList, str_toList] at h
  simp [binOp, Op.stringOp, h]
theorem elem_item' : Tryz.prog.elem 30 = 54 := by simp [Program.elem, Tryz.underlying30]
theorem under_items' : Tryz.prog.underlying 30 = some (.slice (Tryz.prog.elem 30)) := by rw [elem_item']; exact Tryz.underlying30
theorem run_toI' (w : World) (A : Option Addr) (n cap : Nat) (h : Int) (h0 : 0 ≤ h) (h2 : h ≤ cap) :
    (Instr.slice 30 (.slice A n cap) none (some (.int .i64 h)) none).run Tryz.prog w = .ok (.slice A h.toNat cap) w := by
  rw [run_slice_h w 30 A n cap under_items' .i64 h h0 h2, elem_item', Tryz.sizeOf54]
  have hs : sliced A 0 h.toNat cap 2 = .slice A h.toNat cap := by
    unfold sliced
    by_cases hc : 0 = cap
    · subst hc
      simp
    · cases A with
      | none => simp
      | some ad => simp [Addr.add]
  simp [Result.andThen, hs]
theorem IL.take' {w : World} {A : Option Addr} {n : Nat} {l : List It} (h : IL w A n l) (k : Nat) (hk : k ≤ n) : IL w A k (l.take k) :=
  ⟨by rw [List.length_take, h.len]; omega, fun j x hx => by
    have hj : j < k := by
      have := (List.getElem?_eq_some_iff.1 hx).1
      rw [List.length_take] at this
      omega
    rw [List.getElem?_take_of_lt hj] at hx
    exact h.at_ j x hx⟩
/-- A list from some item on. -/
theorem cutI (A : Option Addr) (n cap k : Nat) (hk : k ≤ n) (hc : n ≤ cap) : ∃ A', (∀ W : World, (Instr.slice 30 (.slice A n cap) (some (.int .i64 (k : Int))) none none).run Tryz.prog W = .ok (.slice A' (n - k) (cap - k)) W) ∧
    (∀ (W : World) (l : List It), IL W A n l → IL W A' (n - k) (l.drop k)) := by
  refine ⟨if cap = k then A else A.map (·.add (k * 2)), fun W => ?_, fun W l h => ⟨by rw [List.length_drop, h.len], fun j x hx => ?_⟩⟩
  · rw [run_slice_l W 30 A n cap under_items' .i64 (k : Int) (by omega) (by omega), elem_item', Tryz.sizeOf54]
    simp [Result.andThen, sliced]
  · rw [List.getElem?_drop] at hx
    obtain ⟨b, off, rfl, h1, h2⟩ := h.at_ _ x hx
    have hj := (List.getElem?_eq_some_iff.1 hx).1
    rw [h.len] at hj
    rw [if_neg (by omega)]
    refine ⟨b, off + k * 2, ?_, ?_, ?_⟩
    · simp only [Option.map_some]
      rw [Addr.add_lit]
    · rw [← h1]; congr 2; omega
    · rw [← h2]; congr 2; omega
def putL (g : List UInt8) (n : Int) : List It → List It
  | [] => [(g, n)]
  | x :: l => if x.1 < g then x :: putL g n l else if x.1 = g then (x.1, n) :: l else (g, n) :: x :: l
theorem putL_in (g : List UInt8) (n : Int) : ∀ (l : List It) (k : Nat), (∀ x ∈ l.take k, x.1 < g) → (∀ x, l[k]? = some x → ¬ x.1 < g ∧ ¬ x.1 = g) → putL g n l = l.take k ++ [(g, n)] ++ l.drop k
  | [], k, _, _ => by simp [putL]
  | x :: l, 0, _, h2 => by
    obtain ⟨h3, h4⟩ := h2 x rfl
    simp [putL, h3, h4]
  | x :: l, k + 1, h1, h2 => by
    have hx : x.1 < g := h1 x (by simp)
    rw [putL, if_pos hx, putL_in g n l k (fun y hy => h1 y (by simp [hy])) (fun y hy => h2 y (by simpa using hy))]
    simp
theorem putL_at (g : List UInt8) (n : Int) : ∀ (l : List It) (k : Nat) (q : Int), (∀ x ∈ l.take k, x.1 < g) → l[k]? = some (g, q) → putL g n l = l.set k (g, n)
  | [], k, q, _, h => by simp at h
  | x :: l, 0, q, _, h => by
    simp at h
    subst h
    simp [putL, List.lt_irrefl]
  | x :: l, k + 1, q, h1, h => by
    have hx : x.1 < g := h1 x (by simp)
    rw [putL, if_pos hx, putL_at g n l k q (fun y hy => h1 y (by simp [hy])) (by simpa using h)]
    simp
theorem itc_set : ∀ (l : List It) (k : Nat) (s : List UInt8) (q n : Int), l[k]? = some (s, q) → (l.flatMap itc).set (k * 2 + 1) (.int .i64 n) = (l.set k (s, n)).flatMap itc
  | [], k, s, q, n, h => by simp at h
  | x :: l, 0, s, q, n, h => by
    simp at h
    subst h
    simp [itc]
  | x :: l, k + 1, s, q, n, h => by
    have ih := itc_set l k s q n (by simpa using h)
    rw [List.flatMap_cons, List.set_cons_succ, List.flatMap_cons, ← ih]
    show (itc x ++ _).set _ _ = _
    simp only [itc, List.cons_append, List.nil_append]
    rw [show (k + 1) * 2 + 1 = (k * 2 + 1) + 1 + 1 by omega]
    simp
theorem OI.setN {base : Nat} {W : World} {g cap : Nat} {l : List It} (h : OI base W (.slice (some ⟨g, 0, none⟩) l.length cap) l) {k : Nat} {s : List UInt8} {q : Int} (hk : l[k]? = some (s, q)) (n : Int) :
    OI base (W.setCell ⟨g, k * 2 + 1, none⟩ (.int .i64 n)) (.slice (some ⟨g, 0, none⟩) l.length cap) (l.set k (s, n)) ∧ W.frozen? ⟨g, k * 2 + 1, none⟩ = false := by
  have hkl := (List.getElem?_eq_some_iff.1 hk).1
  rcases h.2 with ⟨e, _⟩ | ⟨g', cap', cur, e, hb, hh, hle, hcm, hcz, htk⟩
  · cases e
  · cases e
    refine ⟨⟨by rw [List.length_set, itc_len, List.length_set], .inr ⟨g, cap, cur.setIfInBounds (k * 2 + 1) (.int .i64 n), by rw [List.length_set], hb, ?_, by rw [List.length_set]; exact hle, hcm, by simpa using hcz, ?_⟩⟩, ?_⟩
    · simp [World.setCell, Array.getElem?_modify, hh]
    · rw [List.length_set, Array.toList_setIfInBounds, List.take_set, htk, itc_set l k s q n hk]
    · simp [World.frozen?, hh]
theorem OI.setAt {base n : Nat} {W : World} {v : Value} {l : List It} (h : OI base W v l) {k : Nat} {s : List UInt8} {q : Int} (hk : l[k]? = some (s, q)) (hn : l.length = n) :
    ∃ g cap, v = .slice (some ⟨g, 0, none⟩) n cap ∧ base ≤ g ∧ W.cell? ⟨g, k * 2 + 1, none⟩ = some (.int .i64 q) ∧ W.frozen? ⟨g, k * 2 + 1, none⟩ = false ∧ ∀ m : Int, OI base (W.setCell ⟨g, k * 2 + 1, none⟩ (.int .i64 m)) (.slice (some ⟨g, 0, none⟩) n cap) (l.set k (s, m)) := by
  subst hn
  have hkl := (List.getElem?_eq_some_iff.1 hk).1
  obtain ⟨A, cap0, hv0, _, _, hil, _⟩ := h.form
  have h' := h
  rcases h'.2 with ⟨_, e⟩ | ⟨g, cap, cur, rfl, hb, _⟩
  · omega
  · cases hv0
    obtain ⟨b, off, e, _, hc⟩ := hil.at_ k _ hk
    cases e
    rw [Nat.zero_add] at hc
    exact ⟨g, _, rfl, hb, hc, (h.setN hk 0).2, fun m => (h.setN hk m).1⟩

end Go.Proofs.YtjjghhhhalendaaGreat
