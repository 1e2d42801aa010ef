/- 'LinkTries' returns true for every input: the row of this law, proved. No condition. -/
import Derived.Test.YtjdphbjpfflheaaLkB
import Derived.ProofKit
import Derived.OpenShut
import Derived.ShutString
import Derived.ChangeOld
import Derived.SizedLaws
namespace Go.Proofs.Ytjdphbjpfflheaa
open Go.RowKit
set_option linter.unusedVariables false
set_option linter.unusedSimpArgs false
theorem w216 (t : Int) (h : 0 ≤ t) : (t = 0 ∧ waitN 2 16 t = 2) ∨ (t = 1 ∧ waitN 2 16 t = 4) ∨ (t = 2 ∧ waitN 2 16 t = 8) ∨ (3 ≤ t ∧ waitN 2 16 t = 16) := by
  rw [waitN_ok (by omega) (by omega) h]
  obtain ⟨k, rfl⟩ : ∃ k : Nat, t = k := ⟨t.toNat, by omega⟩
  rw [Int.toNat_natCast]
  match k with
  | 0 => exact .inl ⟨rfl, rfl⟩
  | 1 => exact .inr (.inl ⟨rfl, rfl⟩)
  | 2 => exact .inr (.inr (.inl ⟨rfl, rfl⟩))
  | j + 3 =>
    refine .inr (.inr (.inr ⟨by omega, ?_⟩))
    have h1 := waitF_le 16 j 16 (by omega)
    have h2 := waitF_ge 16 j 16 (by omega) (by omega)
    simp [waitF]
    omega
theorem next216 (now t : Int) (h : 0 ≤ t) (hn : now ≤ 1000) : nextN now 2 16 t = now + waitN 2 16 t := by
  have := w216 t h
  unfold nextN topI
  rw [if_neg (by omega)]
/-- The body that is tried. -/
structure TrB (m last gap : Int) (b : Bd) : Prop where
  seq : b.seq = 1
  text : b.text = [120]
  t0 : 1 ≤ b.tries
  t1 : b.tries ≤ m
  l0 : 0 ≤ last
  l1 : last < m
  d0 : m ≤ b.due
  d1 : b.due = last + waitN 2 16 (b.tries - 1)
  g0 : 0 ≤ gap
  g1 : gap ≤ waitN 2 16 (b.tries - 1)
theorem TrB.ok {m last gap : Int} {b : Bd} (h : TrB m last gap b) (hm : m ≤ 301) : okB b := by
  obtain ⟨h1, h2, h3, h4, h5, h6, h7, h8, h9, h10⟩ := h
  have := w216 (b.tries - 1) (by omega)
  exact ⟨by rw [h2]; simp, h3, by omega, by omega, by omega⟩
theorem TrB.due {m last gap : Int} {b : Bd} (h : TrB m last gap b) (hm : m ≤ 301) (hd : b.due ≤ m) : tickP 0 m [b] = [⟨1, 0, [120]⟩] ∧ (∃ c, [b].map (tickB m) = [c] ∧ TrB (m + 1) m (m - last) c) ∧ gap ≤ m - last := by
  obtain ⟨h1, h2, h3, h4, h5, h6, h7, h8, h9, h10⟩ := h
  have ha := w216 (b.tries - 1) (by omega)
  have hb := w216 b.tries (by omega)
  refine ⟨by simp [tickP, hd, h1, h2], ⟨⟨b.seq, b.text, b.tries + 1, m + waitN 2 16 b.tries⟩, ?_, ?_⟩, by omega⟩
  · have hu : upT b.tries = b.tries + 1 := by unfold upT topI; rw [if_pos (by omega)]
    simp only [List.map_cons, List.map_nil, tickB]
    rw [if_pos hd, hu, next216 m b.tries (by omega) (by omega)]
  · have e : b.tries + 1 - 1 = b.tries := by omega
    refine ⟨h1, h2, by dsimp only; omega, by dsimp only; omega, by omega, by omega, by dsimp only; omega, ?_, by omega, ?_⟩
    · dsimp only
      rw [e]
    · dsimp only
      rw [e]
      omega
theorem TrB.not_due {m last gap : Int} {b : Bd} (h : TrB m last gap b) (hd : ¬ b.due ≤ m) : tickP 0 m [b] = [] ∧ [b].map (tickB m) = [b] ∧ TrB (m + 1) last gap b ∧ m - last ≤ 16 := by
  obtain ⟨h1, h2, h3, h4, h5, h6, h7, h8, h9, h10⟩ := h
  have ha := w216 (b.tries - 1) (by omega)
  refine ⟨by simp [tickP, hd], by simp [tickB, hd], ⟨h1, h2, h3, by omega, h5, by omega, by omega, h8, h9, h10⟩, by omega⟩
theorem TrB.onL {m last gap : Int} {b : Bd} (h : TrB m last gap b) : Proofs.Ytjdphbjpfflheaa.onL 1 [b] = [] := by
  unfold Proofs.Ytjdphbjpfflheaa.onL
  simp [h.seq]
/-- Where the loop stands. -/
def TrRel (ack m last gap : Int) (l : List Bd) : Prop := ((ack < 1 ∨ m ≤ ack) ∧ ∃ b, l = [b] ∧ TrB m last gap b) ∨ (1 ≤ ack ∧ ack < m ∧ l = [])
theorem tr_start (ack : Int) : TrRel ack 1 0 0 lvB1 := .inl ⟨by omega, _, rfl, ⟨rfl, rfl, by simp, by simp, by omega, by omega, by simp, by simp [waitN, waitF], by omega, by simp [waitN, waitF]⟩⟩
set_option maxRecDepth 100000 in
set_option maxHeartbeats 6400000 in
theorem linkTries_walk {w : World} (a0 : Int) (w0 : (Lit.int .i64 a0).wf = true) (a1 : Int) (w1 : (Lit.int .i64 a1).wf = true) :
    Calls Try.prog 8 #[.int .i64 a0, .int .i64 a1] w fun e w' => e = .returned (.bool true) ∧ Below w.heap.size w w' := by
  have hcv := fun (w : World) (C : Array Value) (n c : Nat) => Lib.run_convert_bytes_const (P := Try.prog) w 30 5 C n c Try.underlying30 Try.underlying5
  obtain ⟨a1l, a1h⟩ := wf_int w1
  clear w0 w1
  by_cases hbad : a0 < 0 ∨ 300 < a0
  case pos =>
    have h12 : a0 < 0 ∨ (¬ a0 < 0 ∧ 300 < a0) := by omega
    clear hbad
    rcases h12 with h1 | ⟨h1, h2⟩
    all_goals
      go_enter Try.func8, Try.ntmps8
      go_wp2_with fail
      refine (lnew_any _).mono ?_
      rintro e w2 ⟨rfl, hE2, hb2⟩
      go_wp2_with fail
      refine (lives_any _).mono ?_
      rintro e w3 ⟨rfl, hx3⟩
      have hb3 := hb2.trans (hx3.mono hb2.size)
      clear hE2 hb2 hx3
      go_wp2_with fail
      refine (lives_any _).mono ?_
      rintro e w4 ⟨rfl, hx4⟩
      have hb4 := hb3.trans (hx4.mono hb3.size)
      go_wp2
      go_ret
      exact ⟨rfl, hb4⟩
  have h1 : ¬ a0 < 0 := by omega
  have h2 : ¬ 300 < a0 := by omega
  clear hbad
  go_enter Try.func8, Try.ntmps8
  go_wp2_with fail
  refine (lnew_any _).mono ?_
  rintro e w2 ⟨rfl, hE2, hb2⟩
  go_wp2_with fail
  refine (lives_any _).mono ?_
  rintro e w3 ⟨rfl, hx3⟩
  have hb3 := hb2.trans (hx3.mono hb2.size)
  have hE3 := hE2.below hx3
  clear hE2 hb2 hx3
  have hr3 := RB.madeF w3 #[.int .u8 120] 5 (1, 2) [120] rfl
  have hE4 := hE3.alloc (.cells #[.int .u8 120] 5 (1, 2))
  have hb4 := hb3.alloc hb3.size (.cells #[.int .u8 120] 5 (1, 2))
  go_wp2_with fail
  refine (send_to 1 lvB1 (some ⟨w3.heap.size, 0, none⟩) 1 1 [120] 0 _ rfl lv_b1 (by omega) hr3 (fun _ _ _ h => by cases h) hE4 (by simp) (by omega) (by omega) (by omega) (by omega)).mono ?_
  rintro e w5 ⟨va, x, rfl, hE5, hox, hk5, _⟩
  have hb5 := hb4.trans (keep_below hk5 hE4 hb4.size)
  obtain ⟨Ax, cx, rfl, _⟩ := hox.formL (N := 1) rfl
  have hE6 := hE5.alloc (.cells #[.int .i64 1, .int .i64 0, .slice Ax 1 cx] 32)
  have hb6 := hb5.alloc hb5.size (.cells #[.int .i64 1, .int .i64 0, .slice Ax 1 cx] 32)
  have hs0 := tr_start a1
  clear hE3 hb3 hr3 hE4 hb4 hox hk5 hE5 hb5 hcv
  go_wp2_with fail
  go_loopw [8, 9, 10] (fun s8 s9 s10 wr => ∃ (m last gap : Int) (va : Value) (l : List Bd), s8 = .int .i64 last ∧ s9 = .int .i64 gap ∧ s10 = .int .i64 m ∧ 1 ≤ m ∧ m ≤ a0 + 1 ∧ Hid (TrRel a1 m last gap l) ∧ ES w.heap.size wr w.heap.size 1 0 va l ∧ Below w.heap.size w wr) (fun _ _ s10 _ => (a0 + 1 - intOf s10).toNat)
  case atStart => exact ⟨1, 0, 0, va, lvB1, rfl, rfl, rfl, by omega, by omega, Lib.hid hs0, hE6, hb6⟩
  case round =>
    obtain ⟨m, last, gap, va, l, rfl, rfl, rfl, hm1, hm2, hR, hE, hb⟩ := hrel
    clear hs0 hE6 hb6
    have hbz := hb.size
    by_cases hle : m ≤ a0
    case neg =>
      go_wp2
      go_ret
      exact ⟨rfl, hb⟩
    have hm301 : m ≤ 301 := by omega
    rcases hR.out with ⟨hack, b, rfl, hT⟩ | ⟨hack, hlt, rfl⟩
    · have HT := Lib.hid hT
      by_cases heq : m = a1
      · have hon := HT.out.onL
        have e1 : (m == a1) = true := beq_iff_eq.2 heq
        have hge : 1 ≤ a1 := by omega
        have hle2 : a1 ≤ m := by omega
        have hnext : Hid (TrRel a1 (m + 1) last gap []) := Lib.hid (.inr ⟨by omega, by omega, rfl⟩)
        clear hT hack heq hR
        go_wp2_with fail
        refine (on_zero 0 1 none 0 0 [] _ (RB.nil _ _) (fun _ h => by cases h) hE rfl (by omega) (by omega) rfl).mono ?_
        rintro e w7 ⟨va2, _, rfl, rfl, hE7, hva7, hk7⟩
        rw [hon] at hE7
        have hb7 := hb.trans (keep_below hk7 hE hbz)
        clear hon hE hk7
        go_wp2_with fail
        refine (tick_any m _ hE7 (fun b h => by simp at h) (by simp) (by omega) (by omega)).mono ?_
        rintro e w8 ⟨lv, rfl, hpk, hE8, hk8⟩
        have hb8 := hb7.trans (hk8.below hb7.size (fun i hi e => by have := (hE7.own.lt i e).1; omega))
        obtain ⟨Al, cl, rfl, _⟩ := hpk.form
        clear hpk hE7 hk8 hb7
        go_wp2_with fail
        refine (open_any hE8).mono ?_
        rintro e w' ⟨rfl, rfl⟩
        go_wp2
        go_roundw
        case measure => simp [intOf]; omega
        case rel => exact ⟨m + 1, last, gap, va2, [], rfl, rfl, rfl, by omega, by omega, hnext, hE8, hb8⟩
      · have e1 : (m == a1) = false := beq_eq_false_iff_ne.2 heq
        have hcond : decide (1 ≤ a1) = false ∨ (decide (1 ≤ a1) = true ∧ decide (a1 ≤ m) = false) := by
          rcases hack with h | h
          · exact .inl (decide_eq_false (by omega))
          · by_cases h' : 1 ≤ a1
            · exact .inr ⟨decide_eq_true h', decide_eq_false (by omega)⟩
            · exact .inl (decide_eq_false h')
        have hack2 : a1 < 1 ∨ m + 1 ≤ a1 := by omega
        have hokb : ∀ b' ∈ [b], okB b' := fun b' h => by simp at h; subst h; exact HT.out.ok hm301
        clear hT heq hack hR
        by_cases hd : b.due ≤ m
        · obtain ⟨ht, ⟨c, hmc, hTc⟩, hgap⟩ := HT.out.due hm301 hd
          have hl0 := HT.out.l0
          have hl1 := HT.out.l1
          have hg0 := HT.out.g0
          have hnext : Hid (TrRel a1 (m + 1) m (m - last) [c]) := Lib.hid (.inl ⟨hack2, c, rfl, hTc⟩)
          have hgl : ¬ m - last < gap := by omega
          have hml : m - last ≤ 16 := by have := hTc.g1; have := w216 (c.tries - 1) (by have := hTc.t0; omega); omega
          clear hTc hgap hd hack2
          rcases hcond with c1 | ⟨c1, c2⟩
          all_goals
            go_wp2_with fail
            refine (tick_any m _ hE hokb (by simp) (by omega) (by omega)).mono ?_
            rintro e w8 ⟨lv, rfl, hpk, hE8, hk8⟩
            have hb8 := hb.trans (hk8.below hbz (fun i hi e => by have := (hE.own.lt i e).1; omega))
            rw [ht] at hpk
            rw [hmc] at hE8
            obtain ⟨Al, cl, rfl, _, _, hat⟩ := hpk.form
            obtain ⟨gl, x, rfl, k0, k1, k2, hox⟩ := hat 0 _ rfl
            obtain ⟨Ax, cx, rfl, _, _, hrx, _⟩ := hox.formL (N := 1) rfl
            have hcx := run_str w8 Ax 1 cx [120] hrx
            simp at k0 k1 k2
            clear ht hmc hpk hat hox hrx hE hk8 hb k1
            go_wp2
            go_roundw
            case measure => simp [intOf]; omega
            case rel => exact ⟨m + 1, m, m - last, va, [c], rfl, rfl, rfl, by omega, by omega, hnext, hE8, hb8⟩
        · obtain ⟨ht, hmc, hTc, hml⟩ := HT.out.not_due hd
          have hl0 := HT.out.l0
          have hl1 := HT.out.l1
          have hnext : Hid (TrRel a1 (m + 1) last gap [b]) := Lib.hid (.inl ⟨hack2, b, rfl, hTc⟩)
          clear hTc hd hack2
          rcases hcond with c1 | ⟨c1, c2⟩
          all_goals
            go_wp2_with fail
            refine (tick_any m _ hE hokb (by simp) (by omega) (by omega)).mono ?_
            rintro e w8 ⟨lv, rfl, hpk, hE8, hk8⟩
            have hb8 := hb.trans (hk8.below hbz (fun i hi e => by have := (hE.own.lt i e).1; omega))
            rw [ht] at hpk
            rw [hmc] at hE8
            obtain ⟨Al, cl, rfl, _⟩ := hpk.form
            clear ht hmc hpk hE hk8 hb
            go_wp2
            go_roundw
            case measure => simp [intOf]; omega
            case rel => exact ⟨m + 1, last, gap, va, [b], rfl, rfl, rfl, by omega, by omega, hnext, hE8, hb8⟩
    · have e1 : (m == a1) = false := beq_eq_false_iff_ne.2 (by omega)
      have hle2 : a1 ≤ m := by omega
      have hnext : Hid (TrRel a1 (m + 1) last gap []) := Lib.hid (.inr ⟨by omega, by omega, rfl⟩)
      clear hR hlt
      go_wp2_with fail
      refine (tick_any m _ hE (fun b h => by simp at h) (by simp) (by omega) (by omega)).mono ?_
      rintro e w8 ⟨lv, rfl, hpk, hE8, hk8⟩
      have hb8 := hb.trans (hk8.below hbz (fun i hi e => by have := (hE.own.lt i e).1; omega))
      obtain ⟨Al, cl, rfl, _⟩ := hpk.form
      clear hpk hE hk8 hb
      go_wp2_with fail
      refine (open_any hE8).mono ?_
      rintro e w' ⟨rfl, rfl⟩
      go_wp2
      go_roundw
      case measure => simp [intOf]; omega
      case rel => exact ⟨m + 1, last, gap, va, [], rfl, rfl, rfl, by omega, by omega, hnext, hE8, hb8⟩

namespace linkTriesDone
open Go.ChangeShapes Go.WideShapes Go.ChangeAt
set_option maxRecDepth 100000 in
theorem lifted (os : Os) (started : os.Started) (H : Type) (enc : TypeId × Value → H) :
    ReturnsInHanded {} Try.checked os 8 .any (Rows.linkTriesSpec.pre6 enc Try.prog Try.f8 Rows.linkTriesRow.domain false) (Rows.linkTriesSpec.post enc Try.prog Try.f8 false true false false) := by
  refine returnsInHanded_of_change_sized (C := Try.checked) own started (by kernel_rfl) Try.func8
    (ChangeSpec.witness6 (enc := enc) (C := Try.checked) false ⟨#[], #[Value.int .i64 0, Value.int .i64 0], []⟩ 8 (by kernel_rfl) (by kernel_rfl) (by kernel_rfl) (by kernel_rfl)) ?_
  intro W base args ds gs before hval0 hW hcnd hsz0 _
  have hsz : (DataW.weightsEach Try.prog (Try.f8.params.toList ++ Rows.linkTriesSpec.plain.varTypes Try.prog) (ds ++ gs)).all (· ≤ reachBytes) = true := hsz0
  clear hsz0
  have hval : ∀ (j : Nat) t v, Try.f8.params[j]? = some t → args[j]? = some v → Value.okWide Try.prog W .any base t v := hval0
  have hW' := hW
  obtain ⟨p, q, hA0, hV, rfl, hfz, hnd⟩ := hW
  have hA : DataW.TrodAll enc Try.prog W 0 (fun _ => true) true Try.f8.params.toList args.toList ds p := hA0
  rw [Try.params8] at hA hval hsz
  obtain ⟨v0, vs0, d0, ds0, p0, q0, hargs, rfl, rfl, h0, r0⟩ := trodAll_cons hA
  obtain ⟨v1, vs1, d1, ds1, p1, q1, rfl, rfl, rfl, h1, r1⟩ := trodAll_cons r0
  obtain ⟨rfl, rfl, rfl⟩ := trodAll_nil r1
  obtain rfl : args = #[v0, v1] := by cases args; simp_all
  obtain ⟨rfl, rfl⟩ := trodVars_none hV
  obtain ⟨a0, rfl, rfl, rfl, w0⟩ := open_int Try.underlying3 (hval 0 3 v0 rfl rfl) h0
  obtain ⟨a1, rfl, rfl, rfl, w1⟩ := open_int Try.underlying3 (hval 1 3 v1 rfl rfl) h1
  clear hA0 hval0
  refine (linkTries_walk (w := W) a0 w0 a1 w1).mono fun e W' ⟨he, bel⟩ => ?_
  subst he
  exact ⟨_, rfl, _, _, _, [], _, [], hW', trodAll_mk1 (shut_bool Try.underlying4 _), (trodAll_cons_mk (shut_int Try.underlying3 w0) (trodAll_cons_mk (shut_int Try.underlying3 w1) trodAll_mk0)), rfl, bel.frame _, fun h => by cases h⟩

theorem over : Rows.linkTriesRow.holds Try.pinned (OpenSpec.ofChange Rows.linkTriesSpec) :=
  OpenClaim.holds_of_wide 8 Try.f8 rfl rfl rfl rfl rfl rfl rfl ⟨rfl, rfl, rfl, rfl, rfl⟩ rfl rfl rfl rfl rfl (by kernel_rfl) Try.func8 (by kernel_rfl)
    (of_decide_eq_true (by kernel_rfl)) (by unfold Func.isWrapper; first | (rw [if_pos (by decide +kernel)]; kernel_rfl) | (rw [if_neg (by decide +kernel)]; exact ⟨rfl, rfl⟩))
    (fun os started H enc _ => lifted os started H enc)

/-- The statement. -/
theorem proved : Rows.LinkTriesSaid := over
end linkTriesDone
end Go.Proofs.Ytjdphbjpfflheaa
