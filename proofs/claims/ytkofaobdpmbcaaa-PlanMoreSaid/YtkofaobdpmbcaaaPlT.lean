/- Lists of lists that are cut and put together anew. No condition. -/
import Derived.Test.YtkofaobdpmbcaaaPlO
import Derived.Test.YtkofaobdpmbcaaaKept6
import Derived.Test.YtkofaobdpmbcaaaRgT
namespace Go.Proofs.Ytkofaobdpmbcaaa
open Go.RowKit Go.Maps Go.Shelf
set_option linter.unusedVariables false
set_option linter.unusedSimpArgs false

/-- The address of a row that was cut at k. -/
def subL (A : Option Addr) (cap k : Nat) : Option Addr := if cap = k then A else A.map (·.add k)
theorem subL_slice (A : Option Addr) (l h m : Nat) : sliced A l h m 1 = .slice (subL A m l) (h - l) (m - l) := by
  unfold sliced subL
  rw [Nat.mul_one]
theorem subL_zero (A : Option Addr) (cap : Nat) : subL A cap 0 = A := by
  unfold subL
  split
  · rfl
  · cases A with
    | none => rfl
    | some ad =>
      unfold Addr.add
      simp
theorem elem_il : Try.prog.elem 27 = 26 := by simp [Program.elem, Try.underlying27]
theorem under_il : Try.prog.underlying 27 = some (.slice (Try.prog.elem 27)) := by rw [elem_il]; exact Try.underlying27
theorem run_fromL (w : World) (A : Option Addr) (n cap : Nat) (k : Int) (h0 : 0 ≤ k) (h1 : k ≤ n) :
    (Instr.slice 27 (.slice A n cap) (some (.int .i64 k)) none none).run Try.prog w = .ok (.slice (subL A cap k.toNat) (n - k.toNat) (cap - k.toNat)) w := by
  rw [run_slice_l w 27 A n cap under_il .i64 k h0 h1, elem_il, Try.sizeOf26]
  simp [Result.andThen, subL_slice]
theorem run_toL (w : World) (A : Option Addr) (n cap : Nat) (h : Int) (h0 : 0 ≤ h) (h2 : h ≤ cap) :
    (Instr.slice 27 (.slice A n cap) none (some (.int .i64 h)) none).run Try.prog w = .ok (.slice A h.toNat cap) w := by
  rw [run_slice_h w 27 A n cap under_il .i64 h h0 h2, elem_il, Try.sizeOf26]
  simp [Result.andThen, subL_slice, subL_zero]
theorem RL.from_ {B : Nat} {w : World} {A : Option Addr} {n cap : Nat} {ls : List (List It)} (h : RL B w A n ls) (k : Nat) (hk : k ≤ n) (hc : n ≤ cap) : RL B w (subL A cap k) (n - k) (ls.drop k) :=
  h.drop k _ hk fun hlt => by rw [subL, if_neg (by omega)]

/-- append(v, x..) as one operation of a region: x reads as lists that lie below v's own. -/
theorem wp_appL {w : World} {o : Oper} {a : Act} {K : Act → World → Prop} {Q : Exit → Act → World → Prop} (s x : Operand) (ho : o.op = .call { callee := .builtin .append, args := #[s, x], argTypes := #[27, 27] })
    (base : Nat) (v : Value) (ls : List (List It)) (hs : a.eval s = v) (hown : OL base w v ls) (A : Option Addr) (m c : Nat) (news : List (List It)) (hx : a.eval x = .slice A m c) (B : Nat) (hr : RL B w A m news) (hB : B ≤ base)
    (hn : ls.length + m ≤ 1099511627776) (hbase : base ≤ w.heap.size)
    (h : ∀ v' w', OL base w' v' (ls ++ news) → Keep (fun k => v.ownBlock = some k) w w' → K (a.put o.dst v') w') : o.wp Try.prog a w K Q := by
  obtain ⟨v', w', hrun, h2, h3, _⟩ := run_appL w base o.type v ls hown A m c news B hr (fun i b off Ai ni ci e hc hi ad ha hl e2 => by
    obtain ⟨b', off', l, Ai', ci', e', hl', hc', _, _, _, _, hB'⟩ := hr.place hi
    rw [e] at e'
    cases e'
    rw [hc] at hc'
    cases hc'
    have h4 := hB' ad ha hl
    have h5 := (hown.lt _ e2).1
    omega) hn hbase
  unfold Oper.wp execOp
  simp only [ho, resolve, invoke, builtin, Sem.run_bind, Sem.run_pure, Result.andThen_ok, List.map_toArray, List.map_cons, List.map_nil, hs, hx, hrun]
  exact h v' w' h2 h3
/-- append(v, x): the slice x stands in a new block of one. -/
theorem wp_appL1 {w : World} {o : Oper} {a : Act} {K : Act → World → Prop} {Q : Exit → Act → World → Prop} (s x : Operand) (ho : o.op = .call { callee := .builtin .append, args := #[s, x], argTypes := #[27, 27] })
    (base : Nat) (v : Value) (ls : List (List It)) (hs : a.eval s = v) (hown : OL base w v ls) (g c : Nat) (l : List It) (Ai : Option Addr) (ci : Nat) (hx : a.eval x = .slice (some ⟨g, 0, none⟩) 1 c) (hc : w.cell? ⟨g, 0, none⟩ = some (.slice Ai l.length ci))
    (hil : IL w Ai l.length l) (hlc : l.length ≤ ci) (hci : ci ≤ 9223372036854775807) (hwl : WL l) (B : Nat) (hB : B ≤ base) (hlt : ∀ ad, Ai = some ad → 0 < l.length → ad.block < B)
    (hn : ls.length + 1 ≤ 1099511627776) (hbase : base ≤ w.heap.size)
    (h : ∀ v' w', OL base w' v' (ls ++ [l]) → Keep (fun k => v.ownBlock = some k) w w' → K (a.put o.dst v') w') : o.wp Try.prog a w K Q := by
  have hr : RL B w (some ⟨g, 0, none⟩) 1 [l] := ⟨rfl, fun i l' hi => by
    match i, hi with
    | 0, hi =>
      simp at hi
      subst hi
      exact ⟨g, 0, Ai, ci, rfl, hc, hil, hlc, hci, hwl, hlt⟩⟩
  exact wp_appL s x ho base v ls hs hown _ 1 c [l] hx B hr hB hn hbase h

theorem OL.keep_below {base : Nat} {w w' : World} {v : Value} {ls : List (List It)} (h : OL base w v ls) {w0 : World} (hb : Below base w0 w) (hk : Keep (fun k => v.ownBlock = some k) w w') (hs : base ≤ w.heap.size) : Below base w0 w' :=
  hb.trans (hk.below hs (fun j hj e => by have := (h.lt j e).1; omega))
theorem mayS_turn (l : List It) (ls : List (List It)) (k : Nat) : mayS l (ls.drop k ++ ls.take k) = mayS l ls := by
  unfold mayS mayP
  have h1 : (ls.drop k ++ ls.take k).length = ls.length := by rw [List.length_append, List.length_drop, List.length_take]; omega
  have h2 : (ls.drop k ++ ls.take k).all mayL = ls.all mayL := by
    conv => rhs; rw [← List.take_append_drop k ls]
    rw [List.all_append, List.all_append, Bool.and_comm]
  rw [h1, h2]
theorem mayP_turn (l : List It) (ls : List (List It)) (k : Nat) : mayP l (ls.drop k ++ ls.take k) = mayP l ls := by
  unfold mayP
  have h2 : (ls.drop k ++ ls.take k).all mayL = ls.all mayL := by
    conv => rhs; rw [← List.take_append_drop k ls]
    rw [List.all_append, List.all_append, Bool.and_comm]
  rw [h2]
theorem left_turn {l : List It} {ls : List (List It)} (h : mayP l ls = true) (k : Nat) : leftO l (ls.drop k ++ ls.take k) = leftO l ls := by
  obtain ⟨h1, h2⟩ := mayP_my h
  refine left_turned h1 (fun x hx => ?_) h2 fun g => ?_
  · rcases List.mem_append.1 hx with hx | hx
    · exact h2 x (List.mem_of_mem_drop hx)
    · exact h2 x (List.mem_of_mem_take hx)
  · conv => rhs; rw [← List.take_append_drop k ls]
    rw [sumO_append, sumO_append]
    omega
theorem enough_turn (l : List It) (ls : List (List It)) (k : Nat) : enoughO l (ls.drop k ++ ls.take k) = enoughO l ls := by
  have h3 : missO l (ls.drop k ++ ls.take k) = missO l ls := by
    unfold missO
    rw [mayP_turn]
    cases h : mayP l ls with
    | false => rfl
    | true => exact left_turn h k
  unfold enoughO
  rw [mayS_turn, h3]
end Go.Proofs.Ytkofaobdpmbcaaa
