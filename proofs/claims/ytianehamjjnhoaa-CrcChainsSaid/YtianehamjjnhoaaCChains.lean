/- 'CrcChains' returns true for every input: the row of this law, proved. No condition. -/
import Derived.Test.YtianehamjjnhoaaChains
import Derived.ProofKit
import Derived.OpenShut
import Derived.ShutString
import Derived.ChangeOld
import Derived.SizedLaws
namespace Go.Proofs.Ytianehamjjnhoaa
open Go.RowKit
set_option linter.unusedVariables false
set_option linter.unusedSimpArgs false
/-- Behind k frames. -/
structure ChRel (w wr : World) (s : Nat) (ls : List (List UInt8)) (k : Nat) (u : Value) : Prop where
  own : OB (w.heap.size + 1) wr u (chF s (ls.take k))
  bel : Below w.heap.size w wr
  size : w.heap.size + 1 ≤ wr.heap.size
  tt : TT wr w.heap.size
  short : ∀ b ∈ ls.take k, b.length ≤ 5000
theorem ChRel.len {w wr : World} {s k : Nat} {ls : List (List UInt8)} {u : Value} (h : ChRel w wr s ls k u) (hk : k ≤ 20) : (chF s (ls.take k)).length ≤ 100320 := by
  have : ∀ (r : List (List UInt8)) (s : Nat), (∀ b ∈ r, b.length ≤ 5000) → (chF s r).length ≤ 5016 * r.length := by
    intro r
    induction r with
    | nil => intro s _; simp [chF]
    | cons x r ih =>
      intro s hb
      have h1 := ih (mixOf s x) (fun b hb' => hb b (by simp [hb']))
      have h2 := hb x (by simp)
      simp only [chF, List.length_append, frameOf_len, List.length_cons]
      omega
  have h1 := this (ls.take k) s h.short
  have h2 : (ls.take k).length ≤ k := List.length_take_le _ _
  omega
theorem take_more {ls : List (List UInt8)} {k : Nat} {b : List UInt8} (h : ls[k]? = some b) : ls.take (k + 1) = ls.take k ++ [b] := by
  rw [List.take_add_one, h]
  rfl

set_option maxRecDepth 100000 in
set_option maxHeartbeats 3200000 in
theorem crcChains_walk {w : World} (a0 : Int) (w0 : (Lit.int .u64 a0).wf = true) (A1 : Option Addr) (n1 c1 : Nat) (ls : List (List UInt8)) (hr1 : RR w A1 n1 ls) (hc1 : n1 ≤ c1) (hm1 : c1 ≤ 9223372036854775807) :
    Calls Try.prog 8 #[.int .u64 a0, .slice A1 n1 c1] w fun e w' => e = .returned (.bool true) ∧ Below w.heap.size w w' := by
  obtain ⟨s, rfl, hs⟩ := nat_u64 w0
  have HL := Lib.hid hr1.1
  have hn1 : n1 ≤ 9223372036854775807 := by omega
  go_enter Try.func8, Try.ntmps8
  go_wp2_with fail
  refine (new_any w).mono ?_
  rintro e w1 ⟨rfl, hk1, htb⟩
  have hR0 : ChRel w w1 s ls 0 (.slice none 0 0) := ⟨OB.nil _ _, hk1.below (Nat.le_refl _) fun _ _ h => h, htb.lt, TT.new htb, fun b hb => by simp at hb⟩
  clear hk1 htb
  go_wp2_with fail
  --LOOP1
  go_loopw [6, 7, 8] (fun u sv iv wr => ∃ k s2 : Nat, k ≤ n1 ∧ k ≤ 20 ∧ iv = .int .i64 (k : Int) ∧ sv = .int .u64 (s2 : Int) ∧ Hid (s2 = chS s (ls.take k)) ∧ W64 s2 ∧ ChRel w wr s ls k u)
    (fun _ _ iv _ => 20 - (intOf iv).toNat)
  case atStart => exact ⟨0, s, by omega, by omega, rfl, rfl, Lib.hid (by simp [chS]), hs, hR0⟩
  case round =>
    obtain ⟨k, s2, hk, hk20, rfl, rfl, HS, hs2, hR⟩ := hrel
    clear hR0
    by_cases hlt : k < n1 ∧ k < 20
    · obtain ⟨hlt1, hlt2⟩ := hlt
      obtain ⟨l, hl⟩ : ∃ l, ls[k]? = some l := ⟨_, List.getElem?_eq_getElem (by rw [HL.out]; exact hlt1)⟩
      obtain ⟨b, off, Ai, ni, ci, rfl, hcl, hrl, hnci, hcci⟩ := (hr1.below hR.bel).2 k l hl
      obtain ⟨b', off', Ai', ni', ci', hA', hcl0, hrl0, _, _⟩ := hr1.2 k l hl
      have hsame : Ai = Ai' ∧ ni = ni' := by
        cases hA'
        have := hR.bel.cell (World.block_lt_of_cell? _ _ hcl0)
        rw [hcl0] at this
        rw [hcl] at this
        injection this with this
        injection this with h1 h2 h3
        exact ⟨h1, h2⟩
      obtain ⟨rfl, rfl⟩ := hsame
      have hAi : 0 < ni → ∀ ad, Ai = some ad → ¬ ad.block = w.heap.size := fun hp ad h => by have := hrl0.addr_lt h hp; omega
      have HLl := Lib.hid hrl.1
      have HT := Lib.hid (take_more hl)
      clear hl hA' hcl0 hrl0
      by_cases hlong : 5000 < ni
      · go_wp2_with fail
        refine (lives_any wr).mono ?_
        rintro e w2 ⟨rfl, hb2⟩
        have hB := hR.bel.trans (hb2.mono hR.bel.size)
        go_wp2_with fail
        go_ret
        exact ⟨rfl, hB⟩
      have hlen := hR.len hk20
      have hfr := frame_any w.heap.size s2 Ai ni ci l wr hs2 hR.tt hrl (by omega) hnci hcci hAi
      go_wp2_with fail
      --FRAME
      refine hfr.mono ?_
      rintro e w3 ⟨v3, rfl, ho3, hk3, ht3⟩
      clear hfr hcl hrl
      have hbw := hR.bel.size
      have hown := hR.own.kept hk3 (fun g hg h => by have := (hR.own.lt g hg).1; omega)
      have hB3 := Keep.past hR.bel hk3 fun i hi h => by omega
      have hz3 := Nat.le_trans hR.size hk3.size
      have hsh := hR.short
      obtain ⟨A3, c3, rfl, _, _, hr3, _⟩ := ho3.formN (N := 16 + ni) (by rw [frameOf_len, HLl.out])
      clear ho3 hR
      go_wp2_with (at_builtin; refine wpApp rfl (.tmp 48) (.tmp 49) rfl (w.heap.size + 1) u6 _ rfl hown A3 (16 + ni) c3 _ rfl hr3 (by omega) hz3 ?_; intro v4 w4 hg4)
      have hR4 : ChRel w w4 s ls (k + 1) v4 := ⟨by rw [HT.out, chF_snoc, ← HS.out]; exact hg4.own, Keep.past hB3 hg4.keep (fun i hi h => by have := (hown.lt i h).1; omega), Nat.le_trans hz3 hg4.keep.size, ht3.kept hg4.keep (fun h => by have := (hown.lt _ h).1; omega), fun q hq => by
        rw [HT.out] at hq
        rcases List.mem_append.1 hq with h | h
        · exact hsh q h
        · simp at h
          subst h
          rw [HLl.out]
          omega⟩
      go_roundw
      case rel => exact ⟨k + 1, mixOf s2 l, by omega, by omega, by go_num, rfl, Lib.hid (by rw [HT.out, chS_snoc, ← HS.out]), mixOf_ok _ _ hs2, hR4⟩
      case measure => simp [intOf]; omega
    · have hlen := hR.len hk20
      obtain ⟨A6, c6, rfl, hl6, hm6, hr6, had6⟩ := hR.own.form
      have hm6' : c6 ≤ 9223372036854775807 := by unfold maxLen at hm6; exact hm6
      have hne6 : ∀ ad, A6 = some ad → ¬ ad.block = w.heap.size := fun ad h => by have := (had6 ad h).1; omega
      have HA : Hid (allOf s (chF s (ls.take k)) = (ls.take k, s2, (chF s (ls.take k)).length)) := Lib.hid (by rw [HS.out]; exact allOf_chain s _ hs (fun b hb => Nat.le_trans (hR.short b hb) (by omega)))
      have hal := all_any w.heap.size s A6 _ c6 _ wr hs hR.tt hr6 hl6 (by omega) hm6' (fun _ => hne6)
      have HK : Hid (k = n1 ∨ k = 20) := Lib.hid (by omega)
      have HTL : Hid ((ls.take k).length = k) := Lib.hid (by rw [List.length_take, HL.out]; omega)
      have HG : Hid (∀ (i : Nat) (l : List UInt8), (ls.take k)[i]? = some l → ls[i]? = some l) := Lib.hid fun i l h => by
        rw [List.getElem?_take] at h
        split at h
        · exact h
        · cases h
      have hB := hR.bel
      generalize chF s (ls.take k) = F at hal HA hr6 hl6 hlen ⊢
      generalize ls.take k = lt at HA HTL HG
      obtain ⟨N, hN⟩ : ∃ N, F.length = N := ⟨_, rfl⟩
      rw [hN] at hal hlen hr6 hl6 HA ⊢
      clear hN hR hlt had6 hm6
      --EXIT
      have HX : Hid (k < n1 → ¬ k < 20) := Lib.hid (by rcases HK.out with h | h <;> omega)
      by_cases hkn : k < n1
      all_goals
        have hk2 := HX.out
        first | (have hk3 := hk2 hkn; clear hk2) | clear hk2
        go_wp2_with fail
        refine hal.mono ?_
        rintro e w5 ⟨v5, rfl, hL5, hk5, ht5⟩
        clear hal
        have hB5 := Keep.past hB hk5 fun i hi h => by omega
        rw [HA.out] at hL5 ⊢
        dsimp only at hL5 ⊢
        obtain ⟨A5, c5, hv5, hl5, _⟩ := hL5.form
        rw [HTL.out] at hv5 hl5
        subst hv5
        clear hk5 ht5 hr6 hne6
        go_wp2_with fail
        refine (lives_any w5).mono ?_
        rintro e w6 ⟨rfl, hb6⟩
        have hB6 := hB5.trans (hb6.mono hB5.size)
        have hL6 := hL5.kept (Keep.of_below hb6) (fun g _ hl h => by omega)
        obtain ⟨A5', c5', hv5, _, hel⟩ := hL6.form
        rw [HTL.out] at hv5
        simp only [Value.slice.injEq, true_and] at hv5
        obtain ⟨rfl, rfl⟩ := hv5
        have hr16 := hr1.below hB6
        clear hL5 hL6 hB5 hb6 hB HA
        go_wp2_with fail
        go_loopw [15] (fun iv wr => ∃ i q : Nat, i ≤ k ∧ iv = .int .i64 (i : Int) ∧ wr = w6.drewN q)
          (fun iv _ => k - (intOf iv).toNat)
        case atStart => exact ⟨0, 0, by omega, rfl, rfl⟩
        case round =>
          obtain ⟨i, q, hik, rfl, rfl⟩ := hrel
          by_cases hlt : i < k
          · obtain ⟨l, hl⟩ : ∃ l, lt[i]? = some l := ⟨_, List.getElem?_eq_getElem (by rw [HTL.out]; exact hlt)⟩
            obtain ⟨b, off, x, rfl, hcx, hox⟩ := hel i l hl
            obtain ⟨b2, off2, Ai, ni, ci, hA1, hci, hri, _, _⟩ := hr16.2 i l (HG.out i l hl)
            subst hA1
            obtain ⟨Ax, cx, rfl, _, _, hrx, _⟩ := hox.formN (N := l.length) rfl
            have hs1 := fun q => run_str (w6.drewN q) Ax l.length cx l (hrx.drewN q)
            have hs2 := fun q => run_str (w6.drewN q) Ai ni ci l (hri.drewN q)
            have hin : i < n1 := by omega
            have d1 : decide ((n1 : Int) ≤ (i : Int)) = false := by simp; omega
            generalize (⟨l.toArray⟩ : ByteArray) = SB at hs1 hs2
            generalize l.length = nx at hs1 hcx
            clear hel hr16 hrx hri hox hl
            go_wp2_with fail
            --CMP
            go_quiet (fail)
            go_wp2_with fail
            --CMP2
            go_roundw
            case rel => exact ⟨i + 1, _, by omega, by go_num, rfl⟩
            case measure => simp [intOf]; omega
          · obtain rfl : i = k := by omega
            clear hel hr16
            have hBq : Below w.heap.size w (w6.drewN q) := ⟨hB6.os, hB6.tape, hB6.output, hB6.size, hB6.block⟩
            rcases HK.out with h | h
            · have d2 : ((i : Int) == (n1 : Int)) = true := by simp; omega
              have d3 : (i == n1) = true := by simp; omega
              clear h
              go_wp2_with fail
              go_ret
              exact ⟨rfl, hBq⟩
            · have d2 : ((i : Int) == 20) = true := by simp; omega
              have d3 : (i == 20) = true := by simp; omega
              clear h
              by_cases hn : i = n1
              · have d4 : ((i : Int) == (n1 : Int)) = true := by simp; omega
                have d5 : (i == n1) = true := by simp; omega
                clear hn
                go_wp2_with fail
                go_ret
                exact ⟨rfl, hBq⟩
              · have d4 : ((i : Int) == (n1 : Int)) = false := by simp; omega
                have d5 : (i == n1) = false := by simp; omega
                clear hn
                go_wp2_with fail
                go_ret
                exact ⟨rfl, hBq⟩

namespace crcChainsDone
open Go.ChangeShapes Go.WideShapes Go.ChangeAt
set_option maxRecDepth 100000 in
theorem lifted (os : Os) (started : os.Started) (H : Type) (enc : TypeId × Value → H) :
    ReturnsInHanded {} Try.checked os 8 .any (Rows.crcChainsSpec.pre6 enc Try.prog Try.f8 Rows.crcChainsRow.domain false) (Rows.crcChainsSpec.post enc Try.prog Try.f8 false true false false) := by
  refine returnsInHanded_of_change_sized (C := Try.checked) own started (by kernel_rfl) Try.func8
    (ChangeSpec.witness6 (enc := enc) (C := Try.checked) false ⟨#[], #[Value.int .u64 0, Value.slice none 0 0], []⟩ 8 (by kernel_rfl) (by kernel_rfl) (by kernel_rfl) (by kernel_rfl)) ?_
  intro W base args ds gs before hval0 hW hcnd hsz0 _
  have hsz : (DataW.weightsEach Try.prog (Try.f8.params.toList ++ Rows.crcChainsSpec.plain.varTypes Try.prog) (ds ++ gs)).all (· ≤ reachBytes) = true := hsz0
  clear hsz0
  have hval : ∀ (j : Nat) t v, Try.f8.params[j]? = some t → args[j]? = some v → Value.okWide Try.prog W .any base t v := hval0
  have hW' := hW
  obtain ⟨p, q, hA0, hV, rfl, hfz, hnd⟩ := hW
  have hA : DataW.TrodAll enc Try.prog W 0 (fun _ => true) true Try.f8.params.toList args.toList ds p := hA0
  rw [Try.params8] at hA hval hsz
  obtain ⟨v0, vs0, d0, ds0, p0, q0, hargs, rfl, rfl, h0, r0⟩ := trodAll_cons hA
  obtain ⟨v1, vs1, d1, ds1, p1, q1, rfl, rfl, rfl, h1, r1⟩ := trodAll_cons r0
  obtain ⟨rfl, rfl, rfl⟩ := trodAll_nil r1
  obtain rfl : args = #[v0, v1] := by cases args; simp_all
  obtain ⟨rfl, rfl⟩ := trodVars_none hV
  obtain ⟨a0, rfl, rfl, rfl, w0⟩ := open_int Try.underlying33 (hval 0 33 v0 rfl rfl) h0
  obtain ⟨a1, len1, cap1, rfl⟩ := okWide_slice Try.underlying42 (hval 1 42 v1 rfl rfl)
  have k1 := h1
  have lt1 : ∀ x ∈ p1, x.block < W.heap.size := by obtain ⟨m, hm⟩ := k1; exact DataW.trod_lt m _ _ _ hm
  obtain ⟨f1, ho1, hc1, hm1⟩ := rows_open h1
  clear hA0 hval0
  refine (crcChains_walk (w := W) a0 w0 a1 len1 cap1 f1 ho1 hc1 hm1).mono fun e W' ⟨he, bel⟩ => ?_
  subst he
  exact ⟨_, rfl, _, _, _, [], _, [], hW', trodAll_mk1 (shut_bool Try.underlying4 _), (trodAll_cons_mk (shut_int Try.underlying33 w0) (trodAll_cons_mk (Below.trod laidOut (by kernel_rfl) (of_decide_eq_true (by kernel_rfl)) k1 bel lt1) trodAll_mk0)), rfl, bel.frame _, fun h => by cases h⟩

theorem over : Rows.crcChainsRow.holds Try.pinned (OpenSpec.ofChange Rows.crcChainsSpec) :=
  OpenClaim.holds_of_wide 8 Try.f8 rfl rfl rfl rfl rfl rfl rfl ⟨rfl, rfl, rfl, rfl, rfl⟩ rfl rfl rfl rfl rfl (by kernel_rfl) Try.func8 (by kernel_rfl)
    (of_decide_eq_true (by kernel_rfl)) (by unfold Func.isWrapper; first | (rw [if_pos (by decide +kernel)]; kernel_rfl) | (rw [if_neg (by decide +kernel)]; exact ⟨rfl, rfl⟩))
    (fun os started H enc _ => lifted os started H enc)

/-- The statement. -/
theorem proved : Rows.CrcChainsSaid := over
end crcChainsDone
end Go.Proofs.Ytianehamjjnhoaa
