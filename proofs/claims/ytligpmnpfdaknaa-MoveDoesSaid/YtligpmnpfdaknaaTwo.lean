/- Meet, Rest, Covers, Plus, Minus, All. No condition but that the lists are ones of memory, and their length. -/
import Derived.Test.YtligpmnpfdaknaaConcat
namespace Go.Proofs.Ytligpmnpfdaknaa
open Go.RowKit Go.Maps Go.Shelf Go.Sort
set_option linter.unusedVariables false
set_option linter.unusedSimpArgs false

/-- Goods are texts, numbers are ints. -/
def WL (l : List It) : Prop := ∀ x ∈ l, x.1.length ≤ maxLen ∧ (Lit.int .i64 x.2).wf = true
theorem wf_of {a : Int} (h : (Lit.int .i64 a).wf = true) : -9223372036854775808 ≤ a ∧ a ≤ 9223372036854775807 := by
  simpa [Lit.wf, IntKind.min, IntKind.max, IntKind.signed, IntKind.bits] using h
theorem wrap64_in (a : Int) : -9223372036854775808 ≤ wrap64 a ∧ wrap64 a ≤ 9223372036854775807 := by
  unfold wrap64
  omega
theorem ofL_in (l : List It) (g : List UInt8) : -9223372036854775808 ≤ ofL l g ∧ ofL l g ≤ 9223372036854775807 := by
  induction l using snoc_ind with
  | h0 => exact ⟨by show _ ≤ (0 : Int); decide, by show (0 : Int) ≤ _; decide⟩
  | h1 l x ih =>
    rw [ofL_snoc]
    split
    · exact wrap64_in _
    · exact ih
theorem WL.sa {l : List It} (h : WL l) : ∀ x ∈ l, x.1.length ≤ maxLen := fun x hx => (h x hx).1
theorem WL.min {l : List It} (h : WL l) (lb : List It) : ∀ x ∈ l, (Lit.int .i64 (min x.2 (ofL lb x.1))).wf = true := fun x hx => by
  have h1 := wf_of (h x hx).2
  have h2 := ofL_in lb x.1
  exact wf_mk (by omega) (by omega)
theorem WL.max {l : List It} (h : WL l) (lb : List It) : ∀ x ∈ l, (Lit.int .i64 (max 0 (wrap64 (x.2 - ofL lb x.1)))).wf = true := fun x hx => by
  have h2 := wrap64_in (x.2 - ofL lb x.1)
  exact wf_mk (by omega) (by omega)
theorem WL.app {l l' : List It} (h : WL l) (h' : WL l') : WL (l ++ l') := fun x hx => (List.mem_append.1 hx).elim (h x) (h' x)

def meetL (a b : List It) : List It := ifMay (mayL a && mayL b) (leftL (fun x => min x.2 (ofL b x.1)) a)
def restL (a b : List It) : List It := ifMay (mayL a && mayL b) (leftL (fun x => max 0 (wrap64 (x.2 - ofL b x.1))) a)
def coversL (a b : List It) : Bool := (mayL a && mayL b) && decide ((restL b a).length = 0)
def plusE (a b : List It) : Int := match mayL a && mayL b with | true => normE (a ++ b) | false => 60
def plusR (a b : List It) : List It := ifMay (mayL a && mayL b) (normR (a ++ b))
def minusE (a b : List It) : Int := match mayL a && mayL b with | true => (match coversL a b with | true => 0 | false => 51) | false => 60
def minusR (a b : List It) : List It := match minusE a b with | 0 => restL a b | _ => []

section
variable (A A' : Option Addr) (n c n' c' : Nat) (la lb : List It) (w : World)
set_option maxRecDepth 100000 in
theorem plus_any (hla : IL w A n la) (hlb : IL w A' n' lb) (hn : n ≤ 500000) (hn' : n' ≤ 500000) (hw : WL la) (hw' : WL lb) :
    Calls Try.prog 35 #[.slice A n c, .slice A' n' c'] w fun e w' => ∃ v, e = .returned (.tuple #[v, .int .i64 (plusE la lb)]) ∧ OI w.heap.size w' v (plusR la lb) ∧ Below w.heap.size w w' := by
  have hlen := hla.len
  have hlen' := hlb.len
  cases hm : (mayL la && mayL lb) with
  | false =>
    have hE : plusE la lb = 60 := by unfold plusE; rw [hm]
    have hR : plusR la lb = [] := by unfold plusR; rw [hm]; rfl
    go_enter Try.func35, Try.ntmps35
    go_wp2_with (go_at_call 45; refine (mayBoth_any A A' n c n' c' la lb _ hla hlb (by omega) (by omega)).mono ?_; rintro e w1 ⟨rfl, hb1⟩; rw [hm])
    go_ret2
    exact ⟨.slice none 0 0, by rw [hE]; rfl, by rw [hR]; exact OI.nil _ _, hb1⟩
  | true =>
    have hE : plusE la lb = normE (la ++ lb) := by unfold plusE; rw [hm]
    have hR : plusR la lb = normR (la ++ lb) := by unfold plusR; rw [hm]; rfl
    go_enter Try.func35, Try.ntmps35
    go_wp2_with fail
    refine (mayBoth_any A A' n c n' c' la lb _ hla hlb (by omega) (by omega)).mono ?_
    rintro e w1 ⟨rfl, hb1⟩
    rw [hm]
    have hB := Blk.new w1 30 #[.slice A n c, .slice A' n' c']
    have hla1 := (hla.below hb1).alloc (.cells #[.slice A n c, .slice A' n' c'] 30)
    have hlb1 := (hlb.below hb1).alloc (.cells #[.slice A n c, .slice A' n' c'] 30)
    have hb1' := hb1.alloc hb1.size (.cells #[.slice A n c, .slice A' n' c'] 30)
    go_wp2_with fail
    refine (concat_two w1.heap.size A A' n c n' c' la lb _ (hB.cell 0) (hB.cell 1) hla1 hlb1 hn hn').mono ?_
    rintro e w2 ⟨v, rfl, ho2, hb2⟩
    obtain ⟨CA, cc, hv, hlc, hcm, hil2, _⟩ := ho2.form
    obtain ⟨N, hN⟩ : ∃ N, (la ++ lb).length = N := ⟨_, rfl⟩
    have hNl : N ≤ 1048576 := by rw [← hN, List.length_append]; omega
    rw [hN] at hv hil2
    subst hv
    clear hlc hcm hN
    go_wp2_with fail
    refine (norm_any CA N cc (la ++ lb) w2 hil2 hNl ((hw.app hw').sa)).mono ?_
    rintro e w3 ⟨v, rfl, ho3, hb3⟩
    go_wp2_with fail
    go_ret2
    have hb12 := hb1'.trans (hb2.mono hb1'.size)
    exact ⟨v, by rw [hE]; rfl, by rw [hR]; exact ho3.mono hb12.size, hb12.trans (hb3.mono hb12.size)⟩
end
end Go.Proofs.Ytligpmnpfdaknaa
