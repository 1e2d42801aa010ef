/- 'CrcParts' returns true for every input whose parts are together at most 1048576 values: the second row of this law, proved. Its condition: that bound. -/
import Derived.Test.YtianehamjjnhoaaCLaw
import Derived.ProofKit
import Derived.OpenShut
import Derived.ShutString
import Derived.ChangeOld
import Derived.JoinedCond
namespace Go.Proofs.Ytianehamjjnhoaa
open Go.RowKit
set_option linter.unusedVariables false
set_option linter.unusedSimpArgs false
theorem sumOn_parts (s : Nat) (a b : List UInt8) : sumOn (sumOn s a) b = sumOn s (a ++ b) := by
  unfold sumOn
  rw [flip_flip]
  congr 1
  unfold steps
  rw [List.foldl_append]
theorem sumOn_none (s : Nat) : sumOn s [] = s := flip_flip s

set_option maxRecDepth 100000 in
set_option maxHeartbeats 1600000 in
theorem crcParts_walk {w : World} (a0 : Int) (w0 : (Lit.int .u32 a0).wf = true) (A1 : Option Addr) (n1 c1 : Nat) (l1 : List UInt8) (hr1 : RB w A1 n1 l1) (hc1 : n1 ≤ c1) (hm1 : c1 ≤ 9223372036854775807) (hl1 : c1 ≤ 1048576)
    (A2 : Option Addr) (n2 c2 : Nat) (l2 : List UInt8) (hr2 : RB w A2 n2 l2) (hc2 : n2 ≤ c2) (hm2 : c2 ≤ 9223372036854775807) (hl2 : c2 ≤ 1048576) :
    Calls Try.prog 4 #[.int .u32 a0, .slice A1 n1 c1, .slice A2 n2 c2] w fun e w' => e = .returned (.bool true) ∧ Below w.heap.size w w' := by
  obtain ⟨s, rfl, hs⟩ := nat_u32 w0
  have HL1 := Lib.hid hr1.1
  have HL2 := Lib.hid hr2.1
  have hA1 : 0 < n1 → ∀ ad, A1 = some ad → ¬ ad.block = w.heap.size := fun hp ad h => by have := hr1.addr_lt h hp; omega
  have hA2 : 0 < n2 → ∀ ad, A2 = some ad → ¬ ad.block = w.heap.size := fun hp ad h => by have := hr2.addr_lt h hp; omega
  go_enter Try.func4, Try.ntmps4
  go_wp2_with fail
  refine (new_any w).mono ?_
  rintro e w1 ⟨rfl, hk1, htb⟩
  have hb1 : Below w.heap.size w w1 := hk1.below (Nat.le_refl _) fun _ _ h => h
  have ht1 := TT.new htb
  clear hk1 htb
  go_wp2_with fail
  refine (lives_any w1).mono ?_
  rintro e w3 ⟨rfl, hl3⟩
  have ht3 := ht1.below hl3
  have hb3 := hb1.trans (hl3.mono hb1.size)
  clear ht1 hb1 hl3
  go_wp2_with fail
  refine (on_any w.heap.size s A1 n1 c1 l1 _ hs ht3 (hr1.below hb3) (by omega) hA1).mono ?_
  rintro e w4 ⟨rfl, hk4, f4, ht4'⟩
  have ht4 := TT.of_tb ht4'
  have hb4 := Keep.past hb3 hk4 fun i hi h => by omega
  have hs4 := sumOn_lt s l1 hs
  clear ht4' hk4 ht3 hb3
  go_wp2_with fail
  refine (on_any w.heap.size (sumOn s l1) A2 n2 c2 l2 _ hs4 ht4 (hr2.below hb4) (by omega) hA2).mono ?_
  rintro e w5 ⟨rfl, hk5, f5, ht5'⟩
  rw [sumOn_parts]
  have ht5 := TT.of_tb ht5'
  have hb5 := Keep.past hb4 hk5 fun i hi h => by omega
  have hg5 := ht5.lt
  clear ht5' hk5 ht4 hb4 hs4
  have hE : OB w5.heap.size (w5.alloc (.cells #[] 5)) (.slice (some ⟨w5.heap.size, 0, none⟩) 0 0) [] := by
    simpa using OB.built w5.heap.size w5 [] (Nat.le_refl _) (by simp [maxLen])
  have hb5a := hb5.alloc hb5.size (.cells #[] 5)
  have ht5a := ht5.alloc (.cells #[] 5)
  have hr5 := hr1.below hb5a
  have hz5 : w.heap.size ≤ w5.heap.size := hb5.size
  go_wp2_with (first | (at_builtin; refine wpAppG rfl (.tmp 20) (.tmp 21) rfl w5.heap.size (.slice (some ⟨w5.heap.size, 0, none⟩) 0 0) [] rfl hE A1 n1 c1 l1 rfl hr5 (by simp; omega) (by simp) ?_; intro v6 w6 hg6; have ho6 := hg6.own; have hb6 := Keep.past hb5a hg6.keep (fun i hi h => by simp [Value.ownBlock] at h; omega); have ht6 := ht5a.kept hg6.keep (by simp [Value.ownBlock]; omega); have hz6 := hg6.keep.size; rw [List.nil_append] at ho6; clear hg6) | (at_builtin; refine wpAppG rfl (.tmp 22) (.tmp 23) rfl w5.heap.size v6 l1 rfl ho6 A2 n2 c2 l2 rfl (hr2.below hb6) (by rw [HL1.out]; omega) (by simp at hz6; omega) ?_; intro v7 w7 hg7; have ho7 := hg7.own; have hb7 := Keep.past hb6 hg7.keep (fun i hi h => by have := (ho6.lt i h).1; omega); have ht7 := ht6.kept hg7.keep (fun h => by have := (ho6.lt _ h).1; omega); clear hg7; obtain ⟨A7, c7, rfl, hl7, hm7, hr7, had7⟩ := ho7.formN (N := n1 + n2) (by rw [List.length_append, HL1.out, HL2.out])))
  --THIRD
  have hm7' : n1 + n2 ≤ 9223372036854775807 := by omega
  refine (on_any w.heap.size s A7 (n1 + n2) c7 (l1 ++ l2) _ hs ht7 hr7 hm7' (fun _ ad h => by have := (had7 ad h).1; omega)).mono ?_
  rintro e w8 ⟨rfl, hk8, f8, ht8'⟩
  have ht8 := TT.of_tb ht8'
  have hb8 := Keep.past hb7 hk8 fun i hi h => by omega
  clear ht8' hk8 ht7 hb7
  go_wp2_with fail
  refine (on_any w.heap.size s none 0 0 [] _ hs ht8 (RB.nil _ _) (by omega) (fun h => by omega)).mono ?_
  rintro e w9 ⟨rfl, hk9, f9, ht9⟩
  have hb9 := Keep.past hb8 hk9 fun i hi h => by omega
  rw [sumOn_none]
  go_wp2_with fail
  go_ret
  exact ⟨rfl, hb9⟩

namespace crcPartsUptoDone
open Go.ChangeShapes Go.WideShapes Go.ChangeAt
theorem some_bulk {H : Type} (d : DataW H) : 1 ≤ Rows.uptoBulk d := by
  cases d with
  | lit l => cases l <;> simp [Rows.uptoBulk]
  | _ => simp [Rows.uptoBulk]
theorem all_bulk {H : Type} : ∀ l : List (DataW H), l.length ≤ Rows.uptoBulkAll l
  | [] => Nat.zero_le _
  | d :: l => by
    have h1 := some_bulk d
    have h2 := all_bulk l
    simp only [Rows.uptoBulkAll, List.length_cons]
    omega
theorem cap_bulk {H : Type} {d : DataW H} {cap : Nat} (h : (d = .nil ∧ cap = 0) ∨ ∃ es sp, d = .slice es sp ∧ es.length + sp.length = cap) : cap ≤ Rows.uptoBulk d := by
  rcases h with ⟨_, rfl⟩ | ⟨es, sp, rfl, h⟩
  · exact Nat.zero_le _
  · have h1 := all_bulk es
    have h2 := all_bulk sp
    simp only [Rows.uptoBulk]
    omega
theorem contract (H : Type) (enc : TypeId × Value → H) (W : World) (base : Nat) (args : Array Value) (ds gs : List (DataW H)) (before : List MemPlace)
    (hval0 : ∀ (j : Nat) t v, Try.f4.params[j]? = some t → args[j]? = some v → Value.okWide Try.prog W .any base t v)
    (hW : DataW.Whole enc Try.prog Try.f4.params.toList Rows.crcPartsSpec.vars false W args.toList ds gs before) (hk : Rows.uptoSmall H (ds ++ gs) = true) :
    Calls Try.prog 4 args W fun e W' => ∃ v, e = .returned v ∧ Rows.crcPartsSpec.post enc Try.prog Try.f4 false true false false W args v W' := by
  have hval : ∀ (j : Nat) t v, Try.f4.params[j]? = some t → args[j]? = some v → Value.okWide Try.prog W .any base t v := hval0
  have hbulk : Rows.uptoBulkAll (ds ++ gs) ≤ 1048576 := of_decide_eq_true hk
  clear hk
  have hW' := hW
  obtain ⟨p, q, hA0, hV, rfl, hfz, hnd⟩ := hW
  have hA : DataW.TrodAll enc Try.prog W 0 (fun _ => true) true Try.f4.params.toList args.toList ds p := hA0
  rw [Try.params4] at hA hval
  obtain ⟨v0, vs0, d0, ds0, p0, q0, hargs, rfl, rfl, h0, r0⟩ := trodAll_cons hA
  obtain ⟨v1, vs1, d1, ds1, p1, q1, rfl, rfl, rfl, h1, r1⟩ := trodAll_cons r0
  obtain ⟨v2, vs2, d2, ds2, p2, q2, rfl, rfl, rfl, h2, r2⟩ := trodAll_cons r1
  obtain ⟨rfl, rfl, rfl⟩ := trodAll_nil r2
  obtain rfl : args = #[v0, v1, v2] := by cases args; simp_all
  obtain ⟨rfl, rfl⟩ := trodVars_none hV
  simp only [List.append_nil, Rows.uptoBulkAll] at hbulk
  obtain ⟨a0, rfl, rfl, rfl, w0⟩ := open_int Try.underlying22 (hval 0 22 v0 rfl rfl) h0
  obtain ⟨a1, len1, cap1, rfl⟩ := okWide_slice Try.underlying23 (hval 1 23 v1 rfl rfl)
  have k1 := h1
  have lt1 : ∀ x ∈ p1, x.block < W.heap.size := by obtain ⟨m, hm⟩ := k1; exact DataW.trod_lt m _ _ _ hm
  obtain ⟨z1, hr1, hc1, hm1, hd1⟩ := bytes_open h1
  have hl1 : cap1 ≤ 1048576 := by have := cap_bulk hd1; omega
  obtain ⟨a2, len2, cap2, rfl⟩ := okWide_slice Try.underlying23 (hval 2 23 v2 rfl rfl)
  have k2 := h2
  have lt2 : ∀ x ∈ p2, x.block < W.heap.size := by obtain ⟨m, hm⟩ := k2; exact DataW.trod_lt m _ _ _ hm
  obtain ⟨z2, hr2, hc2, hm2, hd2⟩ := bytes_open h2
  have hl2 : cap2 ≤ 1048576 := by have := cap_bulk hd2; omega
  clear hA0 hval0
  refine (crcParts_walk (w := W) a0 w0 a1 len1 cap1 z1 hr1 hc1 hm1 hl1 a2 len2 cap2 z2 hr2 hc2 hm2 hl2).mono fun e W' ⟨he, bel⟩ => ?_
  subst he
  exact ⟨_, rfl, _, _, _, [], _, [], hW', trodAll_mk1 (shut_bool Try.underlying4 _), (trodAll_cons_mk (shut_int Try.underlying22 w0) (trodAll_cons_mk (Below.trod laidOut (by kernel_rfl) (of_decide_eq_true (by kernel_rfl)) k1 bel lt1) (trodAll_cons_mk (Below.trod laidOut (by kernel_rfl) (of_decide_eq_true (by kernel_rfl)) k2 bel lt2) trodAll_mk0))), rfl, bel.frame _, fun h => by cases h⟩

set_option maxRecDepth 100000 in
theorem lifted (os : Os) (started : os.Started) (H : Type) (enc : TypeId × Value → H) (F : Stop.Interp) :
    ReturnsInHanded {} Try.checked os 4 .any ((Rows.OpenSpec.upto Rows.crcPartsSpec).pre6 enc Try.prog Try.f4 Rows.crcPartsUptoRow.domain false) (((Rows.OpenSpec.upto Rows.crcPartsSpec).at F).post enc Try.prog Try.f4 false true false false) := by
  refine returnsInHanded_of_cond (C := Try.checked) (s := Rows.OpenSpec.upto Rows.crcPartsSpec) (k := Rows.uptoSmall) rfl own started (by kernel_rfl) Try.func4
    (OpenSpec.witness (enc := enc) (C := Try.checked) (s := Rows.OpenSpec.upto Rows.crcPartsSpec) (k := Rows.uptoSmall) rfl false ⟨#[], #[Value.int .u32 0, Value.slice none 0 0, Value.slice none 0 0], []⟩ 8 (by kernel_rfl) (by kernel_rfl) (by kernel_rfl)
      (x := ([.lit (.int .u32 0), .nil, .nil], [], [])) (by kernel_rfl) rfl (by kernel_rfl)) ?_
  intro W base args ds gs before hval hW _ hk _
  exact contract H enc W base args ds gs before hval hW hk

/-- The statement. -/
theorem proved : Rows.CrcPartsUptoSaid :=
  OpenClaim.holds_of_cond 4 Try.f4 rfl rfl rfl rfl rfl rfl rfl ⟨rfl, rfl, rfl, rfl, rfl⟩ rfl rfl rfl rfl rfl (by kernel_rfl) Try.func4 (by kernel_rfl)
    (of_decide_eq_true (by kernel_rfl)) (by unfold Func.isWrapper; first | (rw [if_pos (by decide +kernel)]; kernel_rfl) | (rw [if_neg (by decide +kernel)]; exact ⟨rfl, rfl⟩))
    (fun os started H enc _ F => lifted os started H enc F)
end crcPartsUptoDone
end Go.Proofs.Ytianehamjjnhoaa
