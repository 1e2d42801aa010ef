/- Meet, Rest, Covers, Plus, Minus, All. No condition but that the lists are ones of memory, and their length. -/
import Derived.Test.YtfpcnenohidfpaaGreatConcat
namespace Go.Proofs.YtfpcnenohidfpaaGreat
open Go.RowKit Go.Maps Go.Shelf Go.Sort
set_option linter.unusedVariables false
set_option linter.unusedSimpArgs false

/-- Goods are texts, numbers are ints. -/
def WL (l : List It) : Prop := ∀ x ∈ l, x.1.length ≤ maxLen ∧ (Lit.int .i64 x.2).wf = true
theorem wf_of {a : Int} (h : (Lit.int .i64 a).wf = true) : -9223372036854775808 ≤ a ∧ a ≤ 9223372036854775807 := by
  simpa [Lit.wf, IntKind.min, IntKind.max, IntKind.signed, IntKind.bits] using h
theorem wrap64_in (a : Int) : -9223372036854775808 ≤ wrap64 a ∧ wrap64 a ≤ 9223372036854775807 := by
  unfold wrap64
  omega
theorem ofL_in (l : List It) (g : List UInt8) : -9223372036854775808 ≤ ofL l g ∧ ofL l g ≤ 9223372036854775807 := by
  induction l using snoc_ind with
  | h0 => exact ⟨by show _ ≤ (0 : Int); decide, by show (0 : Int) ≤ _; decide⟩
  | h1 l x ih =>
    rw [ofL_snoc]
    split
    · exact wrap64_in _
    · exact ih
theorem WL.sa {l : List It} (h : WL l) : ∀ x ∈ l, x.1.length ≤ maxLen := fun x hx => (h x hx).1
theorem WL.min {l : List It} (h : WL l) (lb : List It) : ∀ x ∈ l, (Lit.int .i64 (min x.2 (ofL lb x.1))).wf = true := fun x hx => by
  have h1 := wf_of (h x hx).2
  have h2 := ofL_in lb x.1
  exact wf_mk (by omega) (by omega)
theorem WL.max {l : List It} (h : WL l) (lb : List It) : ∀ x ∈ l, (Lit.int .i64 (max 0 (wrap64 (x.2 - ofL lb x.1)))).wf = true := fun x hx => by
  have h2 := wrap64_in (x.2 - ofL lb x.1)
  exact wf_mk (by omega) (by omega)
theorem WL.app {l l' : List It} (h : WL l) (h' : WL l') : WL (l ++ l') := fun x hx => (List.mem_append.1 hx).elim (h x) (h' x)

def meetL (a b : List It) : List It := ifMay (mayL a && mayL b) (leftL (fun x => min x.2 (ofL b x.1)) a)
def restL (a b : List It) : List It := ifMay (mayL a && mayL b) (leftL (fun x => max 0 (wrap64 (x.2 - ofL b x.1))) a)
def coversL (a b : List It) : Bool := (mayL a && mayL b) && decide ((restL b a).length = 0)
def plusE (a b : List It) : Int := match mayL a && mayL b with | true => normE (a ++ b) | false => 60
def plusR (a b : List It) : List It := ifMay (mayL a && mayL b) (normR (a ++ b))
def minusE (a b : List It) : Int := match mayL a && mayL b with | true => (match coversL a b with | true => 0 | false => 51) | false => 60
def minusR (a b : List It) : List It := match minusE a b with | 0 => restL a b | _ => []

section
variable (A A' : Option Addr) (n c n' c' : Nat) (la lb : List It) (w : World)
theorem meet_any (hla : IL w A n la) (hlb : IL w A' n' lb) (hn : n ≤ 9223372036854775807) (hn' : n' ≤ 9223372036854775807) (hw : WL la) :
    Calls Tryz.prog 56 #[.slice A n c, .slice A' n' c'] w fun e w' => ∃ v, e = .returned v ∧ OI w.heap.size w' v (meetL la lb) ∧ Below w.heap.size w w' := by
  go_enter Tryz.func56, Tryz.ntmps56
  go_wp2_with (go_at_call 71; refine (against_meet A A' n c n' c' la lb _ hla hlb hn hn' hw.sa (hw.min lb)).mono ?_; rintro e w1 ⟨v, rfl, ho, hb⟩)
  go_ret
  exact ⟨_, rfl, ho, hb⟩
theorem all_any (hla : IL w A n la) (hn : n * 24 ≤ 140737488355328) :
    Calls Tryz.prog 55 #[.slice A n c] w fun e w' => ∃ B CA cc, e = .returned (.func (.func 78) #[] #[.pointer (some ⟨B, 0, none⟩)]) ∧ w.heap.size ≤ B ∧ CL w' B (.slice CA la.length cc) ∧ IL w' CA la.length la ∧ Below w.heap.size w w' := by
  go_enter Tryz.func55, Tryz.ntmps55
  go_wp2_with fail
  refine (clone_any A n c la _ hla hn).mono ?_
  rintro e w1 ⟨v, rfl, ho1, hb1⟩
  obtain ⟨CA, cc, rfl, hlc, hcm, hil1, _⟩ := ho1.form
  go_wp2_with fail
  refine (over_make CA _ cc w1).mono ?_
  rintro e w2 ⟨rfl, rfl⟩
  go_wp2_with fail
  go_ret
  exact ⟨w1.heap.size, CA, cc, rfl, hb1.size, CL.new _ _ _, hil1.alloc _, hb1.alloc hb1.size _⟩
end
end Go.Proofs.YtfpcnenohidfpaaGreat
