/- 'AskReads' returns true for every input: the row of this law, proved. No condition. -/
import Derived.Test.YtejpabeamjhmjaaRDec
import Derived.ProofKit
import Derived.OpenShut
import Derived.ShutString
import Derived.ChangeOld
import Derived.SizedLaws
namespace Go.Proofs.Ytejpabeamjhmjaa
open Go.RowKit
set_option linter.unusedVariables false
set_option linter.unusedSimpArgs false
set_option maxRecDepth 100000 in
set_option maxHeartbeats 12800000 in
theorem askReads_walk {w : World} (a0 : Option Addr) (len0 cap0 : Nat) (z0 : List UInt8) (hr0 : RB w a0 len0 z0) (hc0 : len0 ≤ cap0) (hm0 : cap0 ≤ 9223372036854775807) (hl0 : cap0 ≤ 140737488351232) :
    Calls Try.prog 8 #[.slice a0 len0 cap0] w fun e w' => e = .returned (.bool true) ∧ Below w.heap.size w w' := by
  have hb0 := below_same' w
  have hln := hr0.1
  subst hln
  have ho0 : OB w.heap.size (w.alloc (.cells #[] 5)) (.slice (some ⟨w.heap.size, 0, none⟩) 0 0) [] := OB.built w.heap.size w [] (Nat.le_refl _) (by simp [maxLen])
  have hba := (Below.refl w.heap.size w).alloc (Nat.le_refl _) (.cells #[] 5)
  obtain ⟨D, hD⟩ : ∃ D, decA z0 = D := ⟨_, rfl⟩
  go_enter Try.func8, Try.ntmps8
  go_wp2_with (at_builtin; refine wpApp rfl (.tmp 8) (.tmp 9) rfl w.heap.size _ [] rfl ho0 a0 z0.length cap0 z0 rfl (hr0.alloc _) (by simp; omega) (by simp) ?_; intro v1 w1 hg1; have hb1 := hba.trans (hg1.below ho0 (by simp)); have ho1 := hg1.own; rw [List.nil_append] at ho1; obtain ⟨A1, c1, hv1, hl1, hm1, hr1, _⟩ := ho1.form; clear hg1; subst hv1)
  have key1 := askdecode_any A1 z0.length c1 z0 w1 hr1 (by omega)
  rw [hD] at key1
  go_wp2_with fail
  refine key1.mono ?_
  rintro e w2 ⟨hx2, h2⟩
  have hb2 := hb1.trans (hx2.mono hb1.size)
  have hr12 := hr1.below hx2
  have hr02 := hr0.below hb2
  clear key1
  cases D with
  | none =>
    dsimp only at h2
    subst h2
    have hbx2 : Blk (w2.alloc (.cells #[.int .i64 0, .int .i64 0, .int .i64 0, .int .i64 0, .int .i64 0, .int .i64 0, .int .i64 0, .string ⟨#[]⟩, .slice none 0 0] 53)) w2.heap.size 53 #[.int .i64 0, .int .i64 0, .int .i64 0, .int .i64 0, .int .i64 0, .int .i64 0, .int .i64 0, .string ⟨#[]⟩, .slice none 0 0] := Blk.new _ _ _
    have hb3 := hb2.alloc hb2.size (.cells #[.int .i64 0, .int .i64 0, .int .i64 0, .int .i64 0, .int .i64 0, .int .i64 0, .int .i64 0, .string ⟨#[]⟩, .slice none 0 0] 53)
    have hr03 := hr02.below ((Below.refl _ w2).alloc (Nat.le_refl _) (.cells #[.int .i64 0, .int .i64 0, .int .i64 0, .int .i64 0, .int .i64 0, .int .i64 0, .int .i64 0, .string ⟨#[]⟩, .slice none 0 0] 53))
    have hr13 := hr12.below ((Below.refl _ w2).alloc (Nat.le_refl _) (.cells #[.int .i64 0, .int .i64 0, .int .i64 0, .int .i64 0, .int .i64 0, .int .i64 0, .int .i64 0, .string ⟨#[]⟩, .slice none 0 0] 53))
    unfold AV.v x0
    dsimp only
    go_wp2_with fail
    generalize w2.alloc (.cells #[.int .i64 0, .int .i64 0, .int .i64 0, .int .i64 0, .int .i64 0, .int .i64 0, .int .i64 0, .string ⟨#[]⟩, .slice none 0 0] 53) = w3 at hbx2 hb3 hr03 hr13 ⊢
    have key2 := raskdecode_any a0 z0.length cap0 z0 w3 hr03 hc0 hm0
    rw [hD] at key2
    refine key2.mono ?_
    rintro e w4 ⟨hx4, h4⟩
    clear key2
    dsimp only at h4
    subst h4
    have hb4 := hb3.trans (hx4.mono hb3.size)
    have hbx4 := hbx2.kept (Keep.of_below hx4) (fun h => absurd hbx2.lt (Nat.not_lt.2 h))
    have hr04 := hr03.below hx4
    have hr14 := hr13.below hx4
    have hby4 : Blk (w4.alloc (.cells #[.int .i64 0, .int .i64 0, .int .i64 0, .int .i64 0, .int .i64 0, .int .i64 0, .int .i64 0, .string ⟨#[]⟩, .slice none 0 0] 53)) w4.heap.size 53 #[.int .i64 0, .int .i64 0, .int .i64 0, .int .i64 0, .int .i64 0, .int .i64 0, .int .i64 0, .string ⟨#[]⟩, .slice none 0 0] := Blk.new _ _ _
    have hbx5 := hbx4.alloc (.cells #[.int .i64 0, .int .i64 0, .int .i64 0, .int .i64 0, .int .i64 0, .int .i64 0, .int .i64 0, .string ⟨#[]⟩, .slice none 0 0] 53)
    have hb5 := hb4.alloc hb4.size (.cells #[.int .i64 0, .int .i64 0, .int .i64 0, .int .i64 0, .int .i64 0, .int .i64 0, .int .i64 0, .string ⟨#[]⟩, .slice none 0 0] 53)
    have hr05 := hr04.below ((Below.refl _ w4).alloc (Nat.le_refl _) (.cells #[.int .i64 0, .int .i64 0, .int .i64 0, .int .i64 0, .int .i64 0, .int .i64 0, .int .i64 0, .string ⟨#[]⟩, .slice none 0 0] 53))
    have hr15 := hr14.below ((Below.refl _ w4).alloc (Nat.le_refl _) (.cells #[.int .i64 0, .int .i64 0, .int .i64 0, .int .i64 0, .int .i64 0, .int .i64 0, .int .i64 0, .string ⟨#[]⟩, .slice none 0 0] 53))
    clear hbx2 hb3 hr03 hr13 hbx4 hr04 hr14 hx4
    unfold AV.v x0
    dsimp only
    go_wp2_with fail
    generalize w4.alloc (.cells #[.int .i64 0, .int .i64 0, .int .i64 0, .int .i64 0, .int .i64 0, .int .i64 0, .int .i64 0, .string ⟨#[]⟩, .slice none 0 0] 53) = w5 at hby4 hbx5 hb5 hr05 hr15 ⊢
    refine (alives_any _).mono ?_
    rintro e w6 ⟨rfl, hx6⟩
    have hb6 := hb5.trans (hx6.mono hb5.size)
    have hbx6 := hbx5.kept (Keep.of_below hx6) (fun h => absurd hbx5.lt (Nat.not_lt.2 h))
    have hby6 := hby4.kept (Keep.of_below hx6) (fun h => absurd hby4.lt (Nat.not_lt.2 h))
    have hr06 := hr05.below hx6
    have hr16 := hr15.below hx6
    have hSx := boxS (c := 0) (m := 0) (k := 0) (o := 0) (r := 0) (t := 0) (n := 0) (g := []) (l := []) (A := none) (cap := 0) hbx6
    have hSy := boxS (c := 0) (m := 0) (k := 0) (o := 0) (r := 0) (t := 0) (n := 0) (g := []) (l := []) (A := none) (cap := 0) hby6
    have key3 := rsame_any ⟨0, 0, 0, 0, 0, 0, 0, [], []⟩ ⟨0, 0, 0, 0, 0, 0, 0, [], []⟩ none none 0 0 w6 (IL.nil _ _) (IL.nil _ _) (by simp)
    rw [show sameA ⟨0, 0, 0, 0, 0, 0, 0, [], []⟩ ⟨0, 0, 0, 0, 0, 0, 0, [], []⟩ = true from (sameA_iff _ _).2 rfl] at key3
    unfold AV.v at key3
    dsimp only at key3
    go_wp2_with fail
    refine key3.mono ?_
    rintro e w7 ⟨rfl, hx7⟩
    clear key3
    have hb7 := hb6.trans (hx7.mono hb6.size)
    have hs1 := run_str w7 A1 z0.length c1 z0 (hr16.below hx7)
    have hs2 := run_str w7 a0 z0.length cap0 z0 (hr06.below hx7)
    go_wp2
    go_ret
    exact ⟨rfl, hb7⟩
  | some x =>
    obtain ⟨c, m, k, o, r, t, n, g, l⟩ := x
    obtain ⟨A2, c2, rfl, hi2⟩ := h2
    have hbx2 : Blk (w2.alloc (.cells #[.int .i64 c, .int .i64 m, .int .i64 k, .int .i64 o, .int .i64 r, .int .i64 t, .int .i64 n, .string ⟨g.toArray⟩, .slice A2 l.length c2] 53)) w2.heap.size 53 #[.int .i64 c, .int .i64 m, .int .i64 k, .int .i64 o, .int .i64 r, .int .i64 t, .int .i64 n, .string ⟨g.toArray⟩, .slice A2 l.length c2] := Blk.new _ _ _
    have hb3 := hb2.alloc hb2.size (.cells #[.int .i64 c, .int .i64 m, .int .i64 k, .int .i64 o, .int .i64 r, .int .i64 t, .int .i64 n, .string ⟨g.toArray⟩, .slice A2 l.length c2] 53)
    have hr03 := hr02.below ((Below.refl _ w2).alloc (Nat.le_refl _) (.cells #[.int .i64 c, .int .i64 m, .int .i64 k, .int .i64 o, .int .i64 r, .int .i64 t, .int .i64 n, .string ⟨g.toArray⟩, .slice A2 l.length c2] 53))
    have hr13 := hr12.below ((Below.refl _ w2).alloc (Nat.le_refl _) (.cells #[.int .i64 c, .int .i64 m, .int .i64 k, .int .i64 o, .int .i64 r, .int .i64 t, .int .i64 n, .string ⟨g.toArray⟩, .slice A2 l.length c2] 53))
    have hi3 := hi2.alloc (.cells #[.int .i64 c, .int .i64 m, .int .i64 k, .int .i64 o, .int .i64 r, .int .i64 t, .int .i64 n, .string ⟨g.toArray⟩, .slice A2 l.length c2] 53)
    unfold AV.v
    dsimp only
    go_wp2_with fail
    generalize w2.alloc (.cells #[.int .i64 c, .int .i64 m, .int .i64 k, .int .i64 o, .int .i64 r, .int .i64 t, .int .i64 n, .string ⟨g.toArray⟩, .slice A2 l.length c2] 53) = w3 at hbx2 hb3 hr03 hr13 hi3 ⊢
    have key2 := raskdecode_any a0 z0.length cap0 z0 w3 hr03 hc0 hm0
    rw [hD] at key2
    refine key2.mono ?_
    rintro e w4 ⟨hx4, h4⟩
    clear key2
    obtain ⟨A4, c4, rfl, hi4⟩ := h4
    have hb4 := hb3.trans (hx4.mono hb3.size)
    have hbx4 := hbx2.kept (Keep.of_below hx4) (fun h => absurd hbx2.lt (Nat.not_lt.2 h))
    have hr04 := hr03.below hx4
    have hr14 := hr13.below hx4
    have hi34 := hi3.below hx4
    have hby4 : Blk (w4.alloc (.cells #[.int .i64 c, .int .i64 m, .int .i64 k, .int .i64 o, .int .i64 r, .int .i64 t, .int .i64 n, .string ⟨g.toArray⟩, .slice A4 l.length c4] 53)) w4.heap.size 53 #[.int .i64 c, .int .i64 m, .int .i64 k, .int .i64 o, .int .i64 r, .int .i64 t, .int .i64 n, .string ⟨g.toArray⟩, .slice A4 l.length c4] := Blk.new _ _ _
    have hbx5 := hbx4.alloc (.cells #[.int .i64 c, .int .i64 m, .int .i64 k, .int .i64 o, .int .i64 r, .int .i64 t, .int .i64 n, .string ⟨g.toArray⟩, .slice A4 l.length c4] 53)
    have hb5 := hb4.alloc hb4.size (.cells #[.int .i64 c, .int .i64 m, .int .i64 k, .int .i64 o, .int .i64 r, .int .i64 t, .int .i64 n, .string ⟨g.toArray⟩, .slice A4 l.length c4] 53)
    have hr05 := hr04.below ((Below.refl _ w4).alloc (Nat.le_refl _) (.cells #[.int .i64 c, .int .i64 m, .int .i64 k, .int .i64 o, .int .i64 r, .int .i64 t, .int .i64 n, .string ⟨g.toArray⟩, .slice A4 l.length c4] 53))
    have hr15 := hr14.below ((Below.refl _ w4).alloc (Nat.le_refl _) (.cells #[.int .i64 c, .int .i64 m, .int .i64 k, .int .i64 o, .int .i64 r, .int .i64 t, .int .i64 n, .string ⟨g.toArray⟩, .slice A4 l.length c4] 53))
    have hi5 := hi34.alloc (.cells #[.int .i64 c, .int .i64 m, .int .i64 k, .int .i64 o, .int .i64 r, .int .i64 t, .int .i64 n, .string ⟨g.toArray⟩, .slice A4 l.length c4] 53)
    have hi45 := hi4.alloc (.cells #[.int .i64 c, .int .i64 m, .int .i64 k, .int .i64 o, .int .i64 r, .int .i64 t, .int .i64 n, .string ⟨g.toArray⟩, .slice A4 l.length c4] 53)
    clear hbx2 hb3 hr03 hr13 hbx4 hr04 hr14 hx4 hi3 hi34 hi4
    unfold AV.v
    dsimp only
    go_wp2_with fail
    generalize w4.alloc (.cells #[.int .i64 c, .int .i64 m, .int .i64 k, .int .i64 o, .int .i64 r, .int .i64 t, .int .i64 n, .string ⟨g.toArray⟩, .slice A4 l.length c4] 53) = w5 at hby4 hbx5 hb5 hr05 hr15 hi5 hi45 ⊢
    refine (alives_any _).mono ?_
    rintro e w6 ⟨rfl, hx6⟩
    have hb6 := hb5.trans (hx6.mono hb5.size)
    have hbx6 := hbx5.kept (Keep.of_below hx6) (fun h => absurd hbx5.lt (Nat.not_lt.2 h))
    have hby6 := hby4.kept (Keep.of_below hx6) (fun h => absurd hby4.lt (Nat.not_lt.2 h))
    have hr06 := hr05.below hx6
    have hr16 := hr15.below hx6
    have hi6 := hi5.below hx6
    have hi46 := hi45.below hx6
    have hLN : l.length ≤ 9223372036854775807 := by have := (mayL_okI (mayA_facts (decA_some hD).1).2.2.2.2.2.2.2.2).1; dsimp only at this; omega
    have hSx := boxS (c := c) (m := m) (k := k) (o := o) (r := r) (t := t) (n := n) (g := g) (l := l) (A := A2) (cap := c2) hbx6
    have hSy := boxS (c := c) (m := m) (k := k) (o := o) (r := r) (t := t) (n := n) (g := g) (l := l) (A := A4) (cap := c4) hby6
    have key3 := rsame_any ⟨c, m, k, o, r, t, n, g, l⟩ ⟨c, m, k, o, r, t, n, g, l⟩ A2 A4 c2 c4 w6 hi6 hi46 hLN
    rw [show sameA ⟨c, m, k, o, r, t, n, g, l⟩ ⟨c, m, k, o, r, t, n, g, l⟩ = true from (sameA_iff _ _).2 rfl] at key3
    unfold AV.v at key3
    dsimp only at key3
    go_wp2_with fail
    refine key3.mono ?_
    rintro e w7 ⟨rfl, hx7⟩
    clear key3
    have hb7 := hb6.trans (hx7.mono hb6.size)
    have hs1 := run_str w7 A1 z0.length c1 z0 (hr16.below hx7)
    have hs2 := run_str w7 a0 z0.length cap0 z0 (hr06.below hx7)
    go_wp2
    go_ret
    exact ⟨rfl, hb7⟩

namespace askReadsDone
open Go.ChangeShapes Go.WideShapes Go.ChangeAt
set_option maxRecDepth 100000 in
theorem lifted (os : Os) (started : os.Started) (H : Type) (enc : TypeId × Value → H) :
    ReturnsInHanded {} Try.checked os 8 .any (Rows.askReadsSpec.pre6 enc Try.prog Try.f8 Rows.askReadsRow.domain false) (Rows.askReadsSpec.post enc Try.prog Try.f8 false true false false) := by
  refine returnsInHanded_of_change_sized (C := Try.checked) own started (by kernel_rfl) Try.func8
    (ChangeSpec.witness6 (enc := enc) (C := Try.checked) false ⟨#[], #[Value.slice none 0 0], []⟩ 8 (by kernel_rfl) (by kernel_rfl) (by kernel_rfl) (by kernel_rfl)) ?_
  intro W base args ds gs before hval0 hW hcnd hsz0 _
  have hsz : (DataW.weightsEach Try.prog (Try.f8.params.toList ++ Rows.askReadsSpec.plain.varTypes Try.prog) (ds ++ gs)).all (· ≤ reachBytes) = true := hsz0
  clear hsz0
  have hval : ∀ (j : Nat) t v, Try.f8.params[j]? = some t → args[j]? = some v → Value.okWide Try.prog W .any base t v := hval0
  have hW' := hW
  obtain ⟨p, q, hA0, hV, rfl, hfz, hnd⟩ := hW
  have hA : DataW.TrodAll enc Try.prog W 0 (fun _ => true) true Try.f8.params.toList args.toList ds p := hA0
  rw [Try.params8] at hA hval hsz
  obtain ⟨v0, vs0, d0, ds0, p0, q0, hargs, rfl, rfl, h0, r0⟩ := trodAll_cons hA
  obtain ⟨rfl, rfl, rfl⟩ := trodAll_nil r0
  obtain rfl : args = #[v0] := by cases args; simp_all
  obtain ⟨rfl, rfl⟩ := trodVars_none hV
  obtain ⟨a0, len0, cap0, rfl⟩ := okWide_slice Try.underlying35 (hval 0 35 v0 rfl rfl)
  have k0 := h0
  have lt0 : ∀ x ∈ p0, x.block < W.heap.size := by obtain ⟨m, hm⟩ := k0; exact DataW.trod_lt m _ _ _ hm
  obtain ⟨z0, hr0, hc0, hm0, hd0⟩ := bytes_open h0
  have hl0 : cap0 ≤ 140737488351232 := by
    rcases hd0 with ⟨_, h⟩ | ⟨es, sp, rfl, h⟩
    · omega
    · have := sized_slice hsz (j := 0) (t := 35) (e := 5) rfl rfl Try.underlying35
      rw [bytes_u8] at this
      simp only [reachBytes] at this
      omega
  clear hA0 hval0
  refine (askReads_walk (w := W) a0 len0 cap0 z0 hr0 hc0 hm0 hl0).mono fun e W' ⟨he, bel⟩ => ?_
  subst he
  exact ⟨_, rfl, _, _, _, [], _, [], hW', trodAll_mk1 (shut_bool Try.underlying4 _), (trodAll_cons_mk (Below.trod laidOut (by kernel_rfl) (of_decide_eq_true (by kernel_rfl)) k0 bel lt0) trodAll_mk0), rfl, bel.frame _, fun h => by cases h⟩

theorem over : Rows.askReadsRow.holds Try.pinned (OpenSpec.ofChange Rows.askReadsSpec) :=
  OpenClaim.holds_of_wide 8 Try.f8 rfl rfl rfl rfl rfl rfl rfl ⟨rfl, rfl, rfl, rfl, rfl⟩ rfl rfl rfl rfl rfl (by kernel_rfl) Try.func8 (by kernel_rfl)
    (of_decide_eq_true (by kernel_rfl)) (by unfold Func.isWrapper; first | (rw [if_pos (by decide +kernel)]; kernel_rfl) | (rw [if_neg (by decide +kernel)]; exact ⟨rfl, rfl⟩))
    (fun os started H enc _ => lifted os started H enc)

/-- The statement. -/
theorem proved : Rows.AskReadsSaid := over
end askReadsDone
end Go.Proofs.Ytejpabeamjhmjaa
