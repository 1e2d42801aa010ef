/- 'ParcelOnce' returns true for every input: the row of this law, proved. No condition. -/
import Derived.Test.YthccfmlfofdaeaaPcZ
import Derived.ProofKit
import Derived.OpenShut
import Derived.ShutString
import Derived.ChangeOld
import Derived.SizedLaws
namespace Go.Proofs.Ythccfmlfofdaeaa
open Go.RowKit
set_option linter.unusedVariables false
set_option linter.unusedSimpArgs false
open Go.Maps in
set_option maxRecDepth 100000 in
set_option maxHeartbeats 6400000 in
theorem parcelOnce_walk {w : World} (a : Option Addr) (len cap : Nat) (fo : Nat → OpX) (ho : OPX w a len fo) (hc : len ≤ cap) (hm0 : cap ≤ 9223372036854775807) :
    Calls Try.prog 4 #[.slice a len cap] w fun e w' => e = .returned (.bool true) ∧ Below w.heap.size w w' := by
  go_enter Try.func4, Try.ntmps4
  go_wp2_with fail
  refine (pnew_any _).mono ?_
  rintro e w1 ⟨p, b, rfl, hP, hpw, hbw, hb⟩
  go_wp2_with fail
  refine (lives_any _).mono ?_
  rintro e w2 ⟨rfl, hl⟩
  replace hP := hP.below hl
  replace hb := hb.trans (hl.mono hb.size)
  clear hl
  have hmm := @run_makeMap Try.prog
  obtain ⟨m, hm⟩ : ∃ m, w2.heap.size = m := ⟨_, rfl⟩
  have hDM : DM (w2.alloc (Obj.map #[] 0)) m 0 (fun _ _ => false) := ⟨_, by rw [← hm]; exact World.ownsMap_made w2 Try.prog 40 rR, DP.start⟩
  have hlt := hP.lt
  have hP2 := (hP.mono (G := fun k => w.heap.size ≤ k ∧ k ≠ m) (fun k h1 h2 => ⟨h2, by omega⟩)).alloc (Obj.map #[] 0)
  have hb2 := hb.alloc hb.size (Obj.map #[] 0)
  have hmb : b ≠ m := by omega
  have hmw : w.heap.size ≤ m := by rw [← hm]; exact hb.size
  clear hP hb hlt
  obtain ⟨F, hF⟩ : ∃ F, F = fun k => w.heap.size ≤ k ∧ k ≠ m := ⟨_, rfl⟩
  have hFm : ∀ g, F g → ¬ g = m := fun g h => by rw [hF] at h; exact h.2
  have hFn : ∀ W : World, m < W.heap.size → ∀ k, F k ∨ W.heap.size ≤ k → F k := fun W hW k h => h.elim id (fun h => by rw [hF]; exact ⟨by omega, by omega⟩)
  rw [← hF] at hP2
  clear hF
  go_wp2
  rw [hm] at *
  generalize w2.alloc (Obj.map #[] 0) = w3 at *
  clear hm hmm
  go_loopw [5, 6, 7] (fun i s6 s7 wr => ∃ k N N2 : Nat, ∃ f ks g, i = .int .i64 (k : Int) ∧ k ≤ len ∧ k ≤ 200 ∧ PS F wr p b N f ks ∧ N ≤ k ∧ DM wr m N2 g ∧ N2 ≤ k ∧ (∀ x y, (Lit.int .i64 x).wf = true → (Lit.int .i64 y).wf = true → g x y = true → 0 ≤ y ∧ y < 8 ∧ x ∈ ks ∧ (f x).f.get y = true) ∧ Below w.heap.size w wr) (fun i _ _ _ => 200 - (intOf i).toNat)
  case atStart => exact ⟨0, 0, 0, _, _, _, by go_num, by omega, by omega, hP2, Nat.le_refl _, hDM, Nat.le_refl _, fun x y _ _ h => absurd h (by decide), hb2⟩
  case round =>
    clear hP2 hDM hb2
    obtain ⟨k, N, N2, f, ks, g, rfl, hkl, hk2, hP, hN, hD, hN2, hJ, hbw2⟩ := hrel
    replace hJ := Lib.hid hJ
    by_cases hlt : k < len
    · have hlz : (k : Int) < (len : Int) := by omega
      by_cases hlt2 : k < 200
      · have hlz2 : (k : Int) < 200 := by omega
        obtain ⟨rb, ro, rfl, hrb, hrow⟩ := ho.below hbw2 (by omega)
        have hx := hrow k hlt
        generalize fo k = x at hx
        obtain ⟨⟨k0, k1, k2, l⟩, A, c⟩ := x
        obtain ⟨x0, x1, x2, x3, ⟨hil, hwl, hcap, hcapm, wk0, wk1, wk2⟩⟩ := hx
        dsimp only at x0 x1 x2 x3 hil hwl hcap hcapm wk0 wk1 wk2
        clear hrow
        have hDlt := hD.lt
        have hPa := hP.alloc (.cells #[.int .i64 k0, .int .i64 k1, .int .i64 k2, .slice A l.length c] 29)
        have hDa := hD.below ((Below.refl _ wr).alloc (Nat.le_refl _) (.cells #[.int .i64 k0, .int .i64 k1, .int .i64 k2, .slice A l.length c] 29))
        have hba := hbw2.alloc hbw2.size (.cells #[.int .i64 k0, .int .i64 k1, .int .i64 k2, .slice A l.length c] 29)
        have hila := hil.alloc (.cells #[.int .i64 k0, .int .i64 k1, .int .i64 k2, .slice A l.length c] 29)
        have eO := Blk.new wr 29 #[.int .i64 k0, .int .i64 k1, .int .i64 k2, .slice A l.length c]
        by_cases hll : 100 < l.length
        · have hlz3 : (100 : Int) < (l.length : Int) := by omega
          go_wp2
          go_roundw
          case measure => simp [intOf]; omega
          case rel => exact ⟨k + 1, N, N2, _, _, _, by go_num, by omega, by omega, hPa, by omega, hDa, by omega, hJ.out, hba⟩

        have hlz3 : ¬ (100 : Int) < (l.length : Int) := by omega
        by_cases h1 : k0 = 1
        · subst h1
          have hNm : N < maxLen := by unfold maxLen; omega
          have key : ∀ W, W = wr.alloc (.cells #[.int .i64 1, .int .i64 k1, .int .i64 k2, .slice A l.length c] 29) → Calls Try.prog 9 #[.pointer (some ⟨p, 0, none⟩), .int .i64 k1, .slice A l.length c] W fun e w' => ∃ x, e = .returned (.int .i64 x) ∧ Below w.heap.size W w' ∧ DM w' m N2 g ∧ Blk w' wr.heap.size 29 #[.int .i64 1, .int .i64 k1, .int .i64 k2, .slice A l.length c] ∧ ∃ N' f' ks', N' ≤ k + 1 ∧ PS F w' p b N' f' ks' ∧ ∀ x y, (Lit.int .i64 x).wf = true → (Lit.int .i64 y).wf = true → g x y = true → 0 ≤ y ∧ y < 8 ∧ x ∈ ks' ∧ (f' x).f.get y = true := by
            rintro W rfl
            by_cases hE : openE ks k1 l = 0
            · have hEs := hE
              unfold openE at hEs
              have q1 : 1 ≤ k1 ∧ k1 ≤ 1099511627776 ∧ mayL l = true ∧ l ≠ [] ∧ k1 ∉ ks := by
                by_cases a1 : k1 < 1 ∨ 1099511627776 < k1
                · rw [if_pos a1] at hEs; omega
                · rw [if_neg a1] at hEs
                  by_cases a2 : mayL l = false ∨ l = []
                  · rw [if_pos a2] at hEs; omega
                  · rw [if_neg a2] at hEs
                    by_cases a3 : k1 ∈ ks
                    · rw [if_pos a3] at hEs; omega
                    · exact ⟨by omega, by omega, by simpa using fun e => a2 (.inl e), fun e => a2 (.inr e), a3⟩
              obtain ⟨q1, q2, q3, q4, q5⟩ := q1
              refine (popen_ok hPa hNm k1 A c l hila hwl wk1 q1 q2 q3 q4 q5).mono ?_
              rintro e w' ⟨rfl, xs, hxs, hP', hk'⟩
              have hbe : b < (wr.alloc (.cells #[.int .i64 1, .int .i64 k1, .int .i64 k2, .slice A l.length c] 29)).heap.size := hPa.lt.2
              refine ⟨0, rfl, hk'.below (B := w.heap.size) (Nat.le_trans hbw2.size (by simp)) (fun i hi e => by omega), hDa.kept hk' (fun e => hmb e.symm), eO.kept hk' (fun e => by have := hP.lt.2; omega), N + 1, _, _, by omega, hP'.mono (fun i _ h => hFn _ (by simp; omega) i h), fun x y wx wy h => ?_⟩
              obtain ⟨a1, a2, a3, a4⟩ := hJ.out x y wx wy h
              refine ⟨a1, a2, mem_addK.2 (.inl a3), ?_⟩
              have e9 : ¬ x = k1 := fun e => q5 (by rw [← e]; exact a3)
              rw [if_neg e9]
              exact a4
            · refine (popen_no hPa k1 A c l hila wk1 (by omega) hE).mono ?_
              rintro e w' ⟨rfl, hx⟩
              exact ⟨_, rfl, hx.mono (Nat.le_trans hbw2.size (by simp)), hDa.below hx, eO.kept (Keep.of_below hx) (Nat.not_le.2 eO.lt), N, f, ks, by omega, hPa.below hx, hJ.out⟩
          have e0 := eO.cell 0
          go_wp2_with fail
          refine (key _ rfl).mono ?_
          rintro e w4 ⟨x, rfl, hx4, hD4, eO4, N', f', ks', hN', hP4, hJ4⟩
          have hb4 := hba.trans (hx4.mono (Nat.le_refl _))
          have y0 := eO4.cell 0
          simp at y0
          replace hJ4 := Lib.hid hJ4
          clear key eO e0
          go_wp2
          go_roundw
          case measure => simp [intOf]; omega
          case rel => exact ⟨k + 1, N', N2, _, _, _, by go_num, by omega, by omega, hP4, by omega, hD4, by omega, hJ4.out, hb4⟩

        have hk1 : (k0 == 1) = false := beq_eq_false_iff_ne.2 h1
        by_cases h2 : k0 = 2
        · subst h2
          have hNm : N < maxLen := by unfold maxLen; omega
          have hNm2 : N2 < maxLen := by unfold maxLen; omega
          have key := ship_all hPa hNm k1 k2 wk1 A c l hila hwl (by omega)
          go_wp2_with fail
          refine key.mono ?_
          rintro e w4 ⟨x, rfl, hxE, hk4, hP4⟩
          have hbz := hPa.lt
          have hD4 := hDa.kept hk4 (fun e => hmb e.symm)
          have eO4 := eO.kept hk4 (fun e => by have := hP.lt.2; omega)
          have hb4 := hba.trans (hk4.below (B := w.heap.size) (Nat.le_trans hbw2.size (by simp)) (fun i hi e => by omega))
          have y1 := eO4.cell 1
          have y2 := eO4.cell 2
          simp at y1 y2
          clear key
          rcases hP4 with ⟨rfl, q1, q2, q3, q4, q5, q6, s, hs, hP4⟩ | ⟨hne, hP4⟩
          · have hgf : g k1 k2 = false := by
              cases hg : g k1 k2
              · rfl
              · have := (hJ.out k1 k2 wk1 wk2 hg).2.2.2
                rw [q4] at this
                cases this
            have hP4' := (hP4.mono (G := F) (fun i _ h => hFn _ (by simp; omega) i h)).alloc (.cells #[.int .i64 k1, .int .i64 k2] 40)
            have hD5 := hD4.below ((Below.refl _ w4).alloc (Nat.le_refl _) (.cells #[.int .i64 k1, .int .i64 k2] 40))
            have hb5 := hb4.alloc hb4.size (.cells #[.int .i64 k1, .int .i64 k2] 40)
            have hlk := hD5.look wk1 wk2
            rw [hgf] at hlk
            obtain ⟨w6, hrun, hD6, hk6⟩ := hD5.upd hNm2 wk1 wk2 true
            have hP6 := hP4'.kept hk6 (fun i hi e => hFm i hi e)
            have hb6 := hb5.trans (hk6.below (B := w.heap.size) hb5.size (fun i hi e => by omega))
            have hJ6 : ∀ x y, (Lit.int .i64 x).wf = true → (Lit.int .i64 y).wf = true → (if x = k1 ∧ y = k2 then true else g x y) = true → 0 ≤ y ∧ y < 8 ∧ x ∈ ks ∧ ((if x = k1 then shipRec (f k1) k2 s else f x) : Rec).f.get y = true := fun x y wx wy h => by
              by_cases e : x = k1 ∧ y = k2
              · obtain ⟨rfl, rfl⟩ := e
                refine ⟨q2, q3, q1, ?_⟩
                rw [if_pos rfl]
                exact (Fr.get_set _ q2 q3 q2 q3).trans (if_pos rfl)
              · rw [if_neg e] at h
                obtain ⟨a1, a2, a3, a4⟩ := hJ.out x y wx wy h
                refine ⟨a1, a2, a3, ?_⟩
                by_cases e1 : x = k1
                · subst e1
                  rw [if_pos rfl]
                  have e2 : ¬ y = k2 := fun e2 => e ⟨rfl, e2⟩
                  exact ((Fr.get_set _ q2 q3 a1 a2).trans (if_neg e2)).trans a4
                · rw [if_neg e1]
                  exact a4
            replace hJ6 := Lib.hid hJ6
            clear hD4 hD5 hP4 hP4' hgf hk6 hxE
            go_wp2
            go_roundw
            case measure => simp [intOf]; omega
            case rel => exact ⟨k + 1, N + 1, N2 + 1, _, _, _, by go_num, by omega, by omega, hP6, by omega, hD6, by omega, hJ6.out, hb6⟩

          · have hxn : (x == 0) = false := beq_eq_false_iff_ne.2 hne
            have hP4' := hP4.mono (G := F) (fun i _ h => hFn _ (by simp; omega) i h)
            clear hxE hP4
            go_wp2
            go_roundw
            case measure => simp [intOf]; omega
            case rel => exact ⟨k + 1, N, N2, _, _, _, by go_num, by omega, by omega, hP4', by omega, hD4, by omega, hJ.out, hb4⟩

        have hk2' : (k0 == 2) = false := beq_eq_false_iff_ne.2 h2
        go_wp2
        go_roundw
        case measure => simp [intOf]; omega
        case rel => exact ⟨k + 1, N, N2, _, _, _, by go_num, by omega, by omega, hPa, by omega, hDa, by omega, hJ.out, hba⟩

      · have hlz2 : ¬ (k : Int) < 200 := by omega
        go_wp2
        go_ret
        exact ⟨rfl, hbw2⟩
    · have hlz : ¬ (k : Int) < (len : Int) := by omega
      go_wp2
      go_ret
      exact ⟨rfl, hbw2⟩

namespace parcelOnceDone
open Go.ChangeShapes Go.WideShapes Go.ChangeAt
set_option maxRecDepth 100000 in
theorem lifted (os : Os) (started : os.Started) (H : Type) (enc : TypeId × Value → H) :
    ReturnsInHanded {} Try.checked os 4 .any (Rows.parcelOnceSpec.pre6 enc Try.prog Try.f4 Rows.parcelOnceRow.domain false) (Rows.parcelOnceSpec.post enc Try.prog Try.f4 false true false false) := by
  refine returnsInHanded_of_change_sized (C := Try.checked) own started (by kernel_rfl) Try.func4
    (ChangeSpec.witness6 (enc := enc) (C := Try.checked) false ⟨#[], #[Value.slice none 0 0], []⟩ 8 (by kernel_rfl) (by kernel_rfl) (by kernel_rfl) (by kernel_rfl)) ?_
  intro W base args ds gs before hval0 hW hcnd hsz0 _
  have hsz : (DataW.weightsEach Try.prog (Try.f4.params.toList ++ Rows.parcelOnceSpec.plain.varTypes Try.prog) (ds ++ gs)).all (· ≤ reachBytes) = true := hsz0
  clear hsz0
  have hval : ∀ (j : Nat) t v, Try.f4.params[j]? = some t → args[j]? = some v → Value.okWide Try.prog W .any base t v := hval0
  have hW' := hW
  obtain ⟨p, q, hA0, hV, rfl, hfz, hnd⟩ := hW
  have hA : DataW.TrodAll enc Try.prog W 0 (fun _ => true) true Try.f4.params.toList args.toList ds p := hA0
  rw [Try.params4] at hA hval hsz
  obtain ⟨v0, vs0, d0, ds0, p0, q0, hargs, rfl, rfl, h0, r0⟩ := trodAll_cons hA
  obtain ⟨rfl, rfl, rfl⟩ := trodAll_nil r0
  obtain rfl : args = #[v0] := by cases args; simp_all
  obtain ⟨rfl, rfl⟩ := trodVars_none hV
  obtain ⟨a0, len0, cap0, rfl⟩ := okWide_slice Try.underlying22 (hval 0 22 v0 rfl rfl)
  have k0 := h0
  have lt0 : ∀ x ∈ p0, x.block < W.heap.size := by obtain ⟨m, hm⟩ := k0; exact DataW.trod_lt m _ _ _ hm
  obtain ⟨f0, ho0, hc0, hm0⟩ := ops_open h0
  clear hA0 hval0
  refine (parcelOnce_walk (w := W) a0 len0 cap0 f0 ho0 hc0 hm0).mono fun e W' ⟨he, bel⟩ => ?_
  subst he
  exact ⟨_, rfl, _, _, _, [], _, [], hW', trodAll_mk1 (shut_bool Try.underlying4 _), (trodAll_cons_mk (Below.trod laidOut (by kernel_rfl) (of_decide_eq_true (by kernel_rfl)) k0 bel lt0) trodAll_mk0), rfl, bel.frame _, fun h => by cases h⟩

theorem over : Rows.parcelOnceRow.holds Try.pinned (OpenSpec.ofChange Rows.parcelOnceSpec) :=
  OpenClaim.holds_of_wide 4 Try.f4 rfl rfl rfl rfl rfl rfl rfl ⟨rfl, rfl, rfl, rfl, rfl⟩ rfl rfl rfl rfl rfl (by kernel_rfl) Try.func4 (by kernel_rfl)
    (of_decide_eq_true (by kernel_rfl)) (by unfold Func.isWrapper; first | (rw [if_pos (by decide +kernel)]; kernel_rfl) | (rw [if_neg (by decide +kernel)]; exact ⟨rfl, rfl⟩))
    (fun os started H enc _ => lifted os started H enc)

/-- The statement. -/
theorem proved : Rows.ParcelOnceSaid := over
end parcelOnceDone
end Go.Proofs.Ythccfmlfofdaeaa
