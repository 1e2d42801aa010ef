/- 'CrcFrames' returns true for every input whose parts are together at most 1048576 values: the second row of this law, proved. Its condition: that bound. -/
import Derived.Test.YtianehamjjnhoaaRefFrame
import Derived.ProofKit
import Derived.OpenShut
import Derived.ShutString
import Derived.ChangeOld
import Derived.JoinedCond
namespace Go.Proofs.Ytianehamjjnhoaa
open Go.RowKit
set_option linter.unusedVariables false
set_option linter.unusedSimpArgs false

set_option maxRecDepth 100000 in
set_option maxHeartbeats 1600000 in
theorem crcFrames_long {w : World} (s : Nat) (A1 : Option Addr) (n1 c1 : Nat) (l1 : List UInt8) (hr1 : RB w A1 n1 l1) (hc1 : n1 ≤ c1) (hl1 : c1 ≤ 1048576) (A2 : Option Addr) (n2 c2 : Nat) (a3 : Int) (hlong : 65536 < n1) :
    Calls Try.prog 6 #[.int .u64 (s : Int), .slice A1 n1 c1, .slice A2 n2 c2, .int .i64 a3] w fun e w' => e = .returned (.bool true) ∧ Below w.heap.size w w' := by
  have HL1 := Lib.hid hr1.1
  go_enter Try.func6, Try.ntmps6
  go_wp2_with fail
  refine (new_any w).mono ?_
  rintro e w1 ⟨rfl, hk1, htb⟩
  have hb1 : Below w.heap.size w w1 := hk1.below (Nat.le_refl _) fun _ _ h => h
  clear hk1 htb
  have hE : OB w1.heap.size (w1.alloc (.cells #[] 5)) (.slice (some ⟨w1.heap.size, 0, none⟩) 0 0) [] := by
    simpa using OB.built w1.heap.size w1 [] (Nat.le_refl _) (by simp [maxLen])
  have hb1a := hb1.alloc hb1.size (.cells #[] 5)
  have hz1 := hb1.size
  go_wp2_with (at_builtin; refine wpApp rfl (.tmp 23) (.tmp 24) rfl w1.heap.size (.slice (some ⟨w1.heap.size, 0, none⟩) 0 0) [] rfl hE A1 n1 c1 l1 rfl (hr1.below hb1a) (by simp; omega) (by simp) ?_; intro v2 w2 hg2; have ho2 := hg2.own; have hb2 := Keep.past hb1a hg2.keep (fun i hi h => by simp [Value.ownBlock] at h; omega); rw [List.nil_append] at ho2; clear hg2; obtain ⟨A3, c3, rfl, hl3, hm3, hr3, had3⟩ := ho2.formN HL1.out)
  refine (frame_long _ s A3 n1 c3 _ hlong).mono ?_
  rintro e w3 ⟨rfl, rfl⟩
  go_wp2_with fail
  refine (lives_any _).mono ?_
  rintro e w4 ⟨rfl, hb4⟩
  have hB4 := hb2.trans (hb4.mono hb2.size)
  go_wp2_with fail
  go_ret
  exact ⟨rfl, hB4⟩

set_option maxRecDepth 100000 in
set_option maxHeartbeats 3200000 in
theorem crcFrames_short {w : World} (s : Nat) (hs : W64 s) (A1 : Option Addr) (n1 c1 : Nat) (l1 : List UInt8) (hr1 : RB w A1 n1 l1) (hc1 : n1 ≤ c1) (hl1 : c1 ≤ 1048576)
    (A2 : Option Addr) (n2 c2 : Nat) (l2 : List UInt8) (hr2 : RB w A2 n2 l2) (hc2 : n2 ≤ c2) (hl2 : c2 ≤ 1048576) (a3 : Int) (h3 : -9223372036854775808 ≤ a3 ∧ a3 ≤ 9223372036854775807) (hshort : n1 ≤ 65536) :
    Calls Try.prog 6 #[.int .u64 (s : Int), .slice A1 n1 c1, .slice A2 n2 c2, .int .i64 a3] w fun e w' => e = .returned (.bool true) ∧ Below w.heap.size w w' := by
  have HL1 := Lib.hid hr1.1
  have HL2 := Lib.hid hr2.1
  go_enter Try.func6, Try.ntmps6
  go_wp2_with fail
  refine (new_any w).mono ?_
  rintro e w1 ⟨rfl, hk1, htb⟩
  have hb1 : Below w.heap.size w w1 := hk1.below (Nat.le_refl _) fun _ _ h => h
  have ht1 := TT.new htb
  have hg1 := ht1.lt
  clear hk1 htb
  have hE : OB w1.heap.size (w1.alloc (.cells #[] 5)) (.slice (some ⟨w1.heap.size, 0, none⟩) 0 0) [] := by
    simpa using OB.built w1.heap.size w1 [] (Nat.le_refl _) (by simp [maxLen])
  have hb1a := hb1.alloc hb1.size (.cells #[] 5)
  have ht1a := ht1.alloc (.cells #[] 5)
  have hz1 := hb1.size
  go_wp2_with (at_builtin; refine wpApp rfl (.tmp 23) (.tmp 24) rfl w1.heap.size (.slice (some ⟨w1.heap.size, 0, none⟩) 0 0) [] rfl hE A1 n1 c1 l1 rfl (hr1.below hb1a) (by simp; omega) (by simp) ?_; intro v2 w2 hg2; have ho2 := hg2.own; have hb2 := Keep.past hb1a hg2.keep (fun i hi h => by simp [Value.ownBlock] at h; omega); have ht2 := ht1a.kept hg2.keep (by simp [Value.ownBlock]; omega); rw [List.nil_append] at ho2; clear hg2; obtain ⟨A3, c3, rfl, hl3, hm3, hr3, had3⟩ := ho2.formN HL1.out)
  have hm3' : c3 ≤ 9223372036854775807 := by unfold maxLen at hm3; exact hm3
  have hne3 : ∀ ad, A3 = some ad → ¬ ad.block = w.heap.size := fun ad h => by have := (had3 ad h).1; omega
  clear had3 ho2 hE ht1 ht1a hb1a hm3
  refine (frame_any w.heap.size s A3 n1 c3 l1 _ hs ht2 hr3 hshort hl3 hm3' (fun _ => hne3)).mono ?_
  rintro e w3 ⟨v3, rfl, ho3, hk3, ht3⟩
  have hb3 := Keep.past hb2 hk3 fun i hi h => by omega
  have hr33 := hr3.kept hk3 hne3
  have hg2 := ht2.lt
  obtain ⟨A4, c4, rfl, hl4, hm4, hr4, had4⟩ := ho3.formN (N := 16 + n1) (by rw [frameOf_len, HL1.out])
  have hm4' : c4 ≤ 9223372036854775807 := by unfold maxLen at hm4; exact hm4
  have hne4 : ∀ ad, A4 = some ad → ¬ ad.block = w.heap.size := fun ad h => by have := (had4 ad h).1; omega
  clear had4 ho3 hk3 ht2 hr3 hm4 hb2
  go_wp2_with fail
  refine (lives_any _).mono ?_
  rintro e w5 ⟨rfl, hb5⟩
  have hr35 := hr33.below hb5
  have hr45 := hr4.below hb5
  have ht5 := ht3.below hb5
  have hB5 := hb3.trans (hb5.mono hb3.size)
  clear hr33 hr4 ht3 hb5 hb3
  go_wp2_with fail
  --REF
  refine (refFrame_any s A1 n1 c1 l1 _ hs (hr1.below hB5) hshort).mono ?_
  rintro e w6 ⟨v6, rfl, ho6, hk6⟩
  have hr36 := hr35.kept hk6 (fun _ _ => id)
  have hr46 := hr45.kept hk6 (fun _ _ => id)
  have ht6 := ht5.kept hk6 id
  have hB6 := Keep.past hB5 hk6 fun _ _ h => h
  have hg5 := ht5.lt
  obtain ⟨A6, c6, rfl, hl6, hm6, hr6, had6⟩ := ho6.formN (N := 16 + n1) (by rw [frameOf_len, HL1.out])
  have hne6 : ∀ ad, A6 = some ad → ¬ ad.block = w.heap.size := fun ad h => by have := (had6 ad h).1; omega
  clear hr35 hr45 ht5 hB5 ho6 hk6 had6
  have hg6 := ht6.lt
  have hE : OB w6.heap.size (w6.alloc (.cells #[] 5)) (.slice (some ⟨w6.heap.size, 0, none⟩) 0 0) [] := by
    simpa using OB.built w6.heap.size w6 [] (Nat.le_refl _) (by simp [maxLen])
  have hb6 : Below w6.heap.size w6 (w6.alloc (.cells #[] 5)) := (Below.refl _ _).alloc (Nat.le_refl _) _
  have hB6a := hB6.alloc hB6.size (.cells #[] 5)
  go_wp2_with (first
    | (at_builtin; refine wpApp rfl (.tmp 59) (.tmp 60) rfl w6.heap.size (.slice (some ⟨w6.heap.size, 0, none⟩) 0 0) [] rfl hE A4 (16 + n1) c4 _ rfl (hr46.alloc _) (by simp; omega) (by simp) ?_; intro v7 w7 hg7; have ho7 := hg7.own; have hb7 := Keep.past hb6 hg7.keep (fun i hi h => by simp [Value.ownBlock] at h; omega); have hs7 := hb7.size; rw [List.nil_append] at ho7; clear hg7)
    | (at_builtin; refine wpApp rfl (.tmp 61) (.tmp 62) rfl w6.heap.size v7 (frameOf s l1) rfl ho7 A2 n2 c2 l2 rfl (hr2.below (hB6.trans (hb7.mono hB6.size))) (by rw [frameOf_len, HL1.out]; omega) hs7 ?_; intro v8 w8 hg8; have ho8 := hg8.own; have hb8 := Keep.past hb7 hg8.keep (fun i hi h => by have := (ho7.lt i h).1; omega); clear hg8; obtain ⟨A8, c8, rfl, hl8, hm8, hr8, had8⟩ := ho8.formN (N := 16 + n1 + n2) (by rw [List.length_append, frameOf_len, HL1.out, HL2.out])))
  --OPEN
  have hm8' : c8 ≤ 9223372036854775807 := by unfold maxLen at hm8; exact hm8
  have hne8 : ∀ ad, A8 = some ad → ¬ ad.block = w.heap.size := fun ad h => by have := (had8 ad h).1; omega
  have hr38 := hr36.below hb8
  have hr48 := hr46.below hb8
  have hr68 := hr6.below hb8
  have ht8 := ht6.below hb8
  have hB8 := hB6.trans (hb8.mono hB6.size)
  clear hr36 hr46 hr6 ht6 hB6 hb6 hB6a hE hb7 hb8 had8 ho8 ho7 hm8 hs7
  as_aux_lemma =>
    refine (open_any w.heap.size s A8 (16 + n1 + n2) c8 _ _ hs ht8 hr8 hl8 hm8' (fun _ => hne8)).mono ?_
    rintro e w9 ⟨v9, m9, k9, rfl, hk9, ht9, hp9⟩
    rw [opn_frame s l1 l2 hs (by rw [HL1.out]; exact hshort)] at hp9
    obtain ⟨ho9, rfl, rfl⟩ := hp9
    have hg8 := ht8.lt
    obtain ⟨A9, c9, rfl, hl9, hm9, hr9, had9⟩ := ho9.formN HL1.out
    have hr39 := hr38.kept hk9 hne3
    have hr49 := hr48.kept hk9 hne4
    have hr69 := hr68.kept hk9 hne6
    have hB9 := Keep.past hB8 hk9 fun i hi h => by omega
    have hcf := run_str w9 A4 (16 + n1) c4 _ hr49
    have hcg := run_str w9 A6 (16 + n1) c6 _ hr69
    have hcx := run_str w9 A9 n1 c9 _ hr9
    have hcb := run_str w9 A1 n1 c1 _ (hr1.below hB9)
    have hco := run_str w9 A3 n1 c3 _ hr39
    generalize (⟨(frameOf s l1).toArray⟩ : ByteArray) = SF at hcf hcg
    generalize (⟨l1.toArray⟩ : ByteArray) = SL at hcx hcb hco
    have HC : Hid (∀ k, k < 16 + n1 → opn s ((frameOf s l1).take k) = none) := Lib.hid fun k hk => opn_cut s l1 k (by rw [HL1.out]; exact hshort) (by rw [HL1.out]; exact hk)
    clear hk9 ho9 had9 hr38 hr48 hr68 ht8 hr8 hr9 hr39 hr69 hB8
    by_cases hneg : a3 < 0
    · go_wp2_with fail
      go_ret
      exact ⟨rfl, hB9⟩
    obtain ⟨k, rfl⟩ : ∃ k : Nat, a3 = (k : Int) := ⟨a3.toNat, by omega⟩
    by_cases hbig : 16 + n1 ≤ k
    · have hd : decide ((16 : Int) + (n1 : Int) ≤ (k : Int)) = true := by simp; omega
      go_wp2_with fail
      go_ret
      exact ⟨rfl, hB9⟩
    have hd : decide ((16 : Int) + (n1 : Int) ≤ (k : Int)) = false := by simp; omega
    have hx := fun W : World => run_to W A4 (16 + n1) c4 (k : Int) (by omega) (by omega)
    simp only [Int.toNat_natCast] at hx
    have hrk := hr49.take k (by omega)
    go_wp2_with fail
    --CUT
    as_aux_lemma =>
      refine (open_any w.heap.size s A4 k c4 _ _ hs ht9 hrk (by omega) hm4' (fun _ => hne4)).mono ?_
      rintro e w10 ⟨v10, m10, k10, rfl, hk10, ht10, hp10⟩
      rw [HC.out k (by omega)] at hp10
      obtain ⟨rfl, rfl, rfl⟩ := hp10
      have hB10 := Keep.past hB9 hk10 fun i hi h => by omega
      clear hcf hcg hcx hcb hco hx
      go_wp2_with fail
      go_ret
      exact ⟨rfl, hB10⟩

theorem crcFrames_walk {w : World} (a0 : Int) (w0 : (Lit.int .u64 a0).wf = true) (A1 : Option Addr) (n1 c1 : Nat) (l1 : List UInt8) (hr1 : RB w A1 n1 l1) (hc1 : n1 ≤ c1) (hm1 : c1 ≤ 9223372036854775807) (hl1 : c1 ≤ 1048576)
    (A2 : Option Addr) (n2 c2 : Nat) (l2 : List UInt8) (hr2 : RB w A2 n2 l2) (hc2 : n2 ≤ c2) (hm2 : c2 ≤ 9223372036854775807) (hl2 : c2 ≤ 1048576) (a3 : Int) (w3 : (Lit.int .i64 a3).wf = true) :
    Calls Try.prog 6 #[.int .u64 a0, .slice A1 n1 c1, .slice A2 n2 c2, .int .i64 a3] w fun e w' => e = .returned (.bool true) ∧ Below w.heap.size w w' := by
  obtain ⟨s, rfl, hs⟩ := nat_u64 w0
  by_cases h : 65536 < n1
  · exact crcFrames_long s A1 n1 c1 l1 hr1 hc1 hl1 A2 n2 c2 a3 h
  · exact crcFrames_short s hs A1 n1 c1 l1 hr1 hc1 hl1 A2 n2 c2 l2 hr2 hc2 hl2 a3 (wf_int w3) (by omega)

namespace crcFramesUptoDone
open Go.ChangeShapes Go.WideShapes Go.ChangeAt
theorem some_bulk {H : Type} (d : DataW H) : 1 ≤ Rows.uptoBulk d := by
  cases d with
  | lit l => cases l <;> simp [Rows.uptoBulk]
  | _ => simp [Rows.uptoBulk]
theorem all_bulk {H : Type} : ∀ l : List (DataW H), l.length ≤ Rows.uptoBulkAll l
  | [] => Nat.zero_le _
  | d :: l => by
    have h1 := some_bulk d
    have h2 := all_bulk l
    simp only [Rows.uptoBulkAll, List.length_cons]
    omega
theorem cap_bulk {H : Type} {d : DataW H} {cap : Nat} (h : (d = .nil ∧ cap = 0) ∨ ∃ es sp, d = .slice es sp ∧ es.length + sp.length = cap) : cap ≤ Rows.uptoBulk d := by
  rcases h with ⟨_, rfl⟩ | ⟨es, sp, rfl, h⟩
  · exact Nat.zero_le _
  · have h1 := all_bulk es
    have h2 := all_bulk sp
    simp only [Rows.uptoBulk]
    omega
theorem contract (H : Type) (enc : TypeId × Value → H) (W : World) (base : Nat) (args : Array Value) (ds gs : List (DataW H)) (before : List MemPlace)
    (hval0 : ∀ (j : Nat) t v, Try.f6.params[j]? = some t → args[j]? = some v → Value.okWide Try.prog W .any base t v)
    (hW : DataW.Whole enc Try.prog Try.f6.params.toList Rows.crcFramesSpec.vars false W args.toList ds gs before) (hk : Rows.uptoSmall H (ds ++ gs) = true) :
    Calls Try.prog 6 args W fun e W' => ∃ v, e = .returned v ∧ Rows.crcFramesSpec.post enc Try.prog Try.f6 false true false false W args v W' := by
  have hval : ∀ (j : Nat) t v, Try.f6.params[j]? = some t → args[j]? = some v → Value.okWide Try.prog W .any base t v := hval0
  have hbulk : Rows.uptoBulkAll (ds ++ gs) ≤ 1048576 := of_decide_eq_true hk
  clear hk
  have hW' := hW
  obtain ⟨p, q, hA0, hV, rfl, hfz, hnd⟩ := hW
  have hA : DataW.TrodAll enc Try.prog W 0 (fun _ => true) true Try.f6.params.toList args.toList ds p := hA0
  rw [Try.params6] at hA hval
  obtain ⟨v0, vs0, d0, ds0, p0, q0, hargs, rfl, rfl, h0, r0⟩ := trodAll_cons hA
  obtain ⟨v1, vs1, d1, ds1, p1, q1, rfl, rfl, rfl, h1, r1⟩ := trodAll_cons r0
  obtain ⟨v2, vs2, d2, ds2, p2, q2, rfl, rfl, rfl, h2, r2⟩ := trodAll_cons r1
  obtain ⟨v3, vs3, d3, ds3, p3, q3, rfl, rfl, rfl, h3, r3⟩ := trodAll_cons r2
  obtain ⟨rfl, rfl, rfl⟩ := trodAll_nil r3
  obtain rfl : args = #[v0, v1, v2, v3] := by cases args; simp_all
  obtain ⟨rfl, rfl⟩ := trodVars_none hV
  simp only [List.append_nil, Rows.uptoBulkAll] at hbulk
  obtain ⟨a0, rfl, rfl, rfl, w0⟩ := open_int Try.underlying33 (hval 0 33 v0 rfl rfl) h0
  obtain ⟨a1, len1, cap1, rfl⟩ := okWide_slice Try.underlying23 (hval 1 23 v1 rfl rfl)
  have k1 := h1
  have lt1 : ∀ x ∈ p1, x.block < W.heap.size := by obtain ⟨m, hm⟩ := k1; exact DataW.trod_lt m _ _ _ hm
  obtain ⟨z1, hr1, hc1, hm1, hd1⟩ := bytes_open h1
  have hl1 : cap1 ≤ 1048576 := by have := cap_bulk hd1; omega
  obtain ⟨a2, len2, cap2, rfl⟩ := okWide_slice Try.underlying23 (hval 2 23 v2 rfl rfl)
  have k2 := h2
  have lt2 : ∀ x ∈ p2, x.block < W.heap.size := by obtain ⟨m, hm⟩ := k2; exact DataW.trod_lt m _ _ _ hm
  obtain ⟨z2, hr2, hc2, hm2, hd2⟩ := bytes_open h2
  have hl2 : cap2 ≤ 1048576 := by have := cap_bulk hd2; omega
  obtain ⟨a3, rfl, rfl, rfl, w3⟩ := open_int Try.underlying3 (hval 3 3 v3 rfl rfl) h3
  clear hA0 hval0
  refine (crcFrames_walk (w := W) a0 w0 a1 len1 cap1 z1 hr1 hc1 hm1 hl1 a2 len2 cap2 z2 hr2 hc2 hm2 hl2 a3 w3).mono fun e W' ⟨he, bel⟩ => ?_
  subst he
  exact ⟨_, rfl, _, _, _, [], _, [], hW', trodAll_mk1 (shut_bool Try.underlying4 _), (trodAll_cons_mk (shut_int Try.underlying33 w0) (trodAll_cons_mk (Below.trod laidOut (by kernel_rfl) (of_decide_eq_true (by kernel_rfl)) k1 bel lt1) (trodAll_cons_mk (Below.trod laidOut (by kernel_rfl) (of_decide_eq_true (by kernel_rfl)) k2 bel lt2) (trodAll_cons_mk (shut_int Try.underlying3 w3) trodAll_mk0)))), rfl, bel.frame _, fun h => by cases h⟩

set_option maxRecDepth 100000 in
theorem lifted (os : Os) (started : os.Started) (H : Type) (enc : TypeId × Value → H) (F : Stop.Interp) :
    ReturnsInHanded {} Try.checked os 6 .any ((Rows.OpenSpec.upto Rows.crcFramesSpec).pre6 enc Try.prog Try.f6 Rows.crcFramesUptoRow.domain false) (((Rows.OpenSpec.upto Rows.crcFramesSpec).at F).post enc Try.prog Try.f6 false true false false) := by
  refine returnsInHanded_of_cond (C := Try.checked) (s := Rows.OpenSpec.upto Rows.crcFramesSpec) (k := Rows.uptoSmall) rfl own started (by kernel_rfl) Try.func6
    (OpenSpec.witness (enc := enc) (C := Try.checked) (s := Rows.OpenSpec.upto Rows.crcFramesSpec) (k := Rows.uptoSmall) rfl false ⟨#[], #[Value.int .u64 0, Value.slice none 0 0, Value.slice none 0 0, Value.int .i64 0], []⟩ 8 (by kernel_rfl) (by kernel_rfl) (by kernel_rfl)
      (x := ([.lit (.int .u64 0), .nil, .nil, .lit (.int .i64 0)], [], [])) (by kernel_rfl) rfl (by kernel_rfl)) ?_
  intro W base args ds gs before hval hW _ hk _
  exact contract H enc W base args ds gs before hval hW hk

/-- The statement. -/
theorem proved : Rows.CrcFramesUptoSaid :=
  OpenClaim.holds_of_cond 6 Try.f6 rfl rfl rfl rfl rfl rfl rfl ⟨rfl, rfl, rfl, rfl, rfl⟩ rfl rfl rfl rfl rfl (by kernel_rfl) Try.func6 (by kernel_rfl)
    (of_decide_eq_true (by kernel_rfl)) (by unfold Func.isWrapper; first | (rw [if_pos (by decide +kernel)]; kernel_rfl) | (rw [if_neg (by decide +kernel)]; exact ⟨rfl, rfl⟩))
    (fun os started H enc _ F => lifted os started H enc F)
end crcFramesUptoDone
end Go.Proofs.Ytianehamjjnhoaa
