/- 'CrcOpens' returns true for every input whose parts are together at most 1048576 values: the second row of this law, proved. Its condition: that bound. -/
import Derived.Test.YtianehamjjnhoaaRefAll
import Derived.ProofKit
import Derived.OpenShut
import Derived.ShutString
import Derived.ChangeOld
import Derived.JoinedCond
namespace Go.Proofs.Ytianehamjjnhoaa
open Go.RowKit
set_option linter.unusedVariables false
set_option linter.unusedSimpArgs false
theorem allF_len : ∀ (f sl : Nat) (l : List UInt8), 16 * (allF f sl l).1.length ≤ l.length
  | 0, _, _ => Nat.zero_le _
  | f + 1, sl, l => by
    cases h : opn sl l with
    | none => rw [allF_none h]; exact Nat.zero_le _
    | some b =>
      rw [allF_some h]
      have h1 := opn_len h
      have h2 := allF_len f (mixOf sl b) (l.drop (16 + b.length))
      rw [List.length_drop] at h2
      simp only [List.length_cons]
      omega
theorem conv_none (w : World) : (convert 23 9 (.slice none 0 0)).run Try.prog w = .ok (.string ⟨([] : List UInt8).toArray⟩) w := run_str w none 0 0 [] (RB.nil _ _)

set_option maxRecDepth 100000 in
set_option maxHeartbeats 3200000 in
theorem crcOpens_walk {w : World} (a0 : Int) (w0 : (Lit.int .u64 a0).wf = true) (A1 : Option Addr) (n1 c1 : Nat) (l1 : List UInt8) (hr1 : RB w A1 n1 l1) (hc1 : n1 ≤ c1) (hm1 : c1 ≤ 9223372036854775807) (hl1 : c1 ≤ 1048576) :
    Calls Try.prog 7 #[.int .u64 a0, .slice A1 n1 c1] w fun e w' => e = .returned (.bool true) ∧ Below w.heap.size w w' := by
  obtain ⟨s, rfl, hs⟩ := nat_u64 w0
  have HL1 := Lib.hid hr1.1
  go_enter Try.func7, Try.ntmps7
  go_wp2_with fail
  refine (new_any w).mono ?_
  rintro e w1 ⟨rfl, hk1, htb⟩
  have hb1 : Below w.heap.size w w1 := hk1.below (Nat.le_refl _) fun _ _ h => h
  have ht1 := TT.new htb
  have hg1 := ht1.lt
  clear hk1 htb
  have hE : OB w1.heap.size (w1.alloc (.cells #[] 5)) (.slice (some ⟨w1.heap.size, 0, none⟩) 0 0) [] := by
    simpa using OB.built w1.heap.size w1 [] (Nat.le_refl _) (by simp [maxLen])
  have hb1a := hb1.alloc hb1.size (.cells #[] 5)
  have ht1a := ht1.alloc (.cells #[] 5)
  have hz1 := hb1.size
  go_wp2_with (at_builtin; refine wpApp rfl (.tmp 21) (.tmp 22) rfl w1.heap.size (.slice (some ⟨w1.heap.size, 0, none⟩) 0 0) [] rfl hE A1 n1 c1 l1 rfl (hr1.below hb1a) (by simp; omega) (by simp) ?_; intro v2 w2 hg2; have ho2 := hg2.own; have hb2 := Keep.past hb1a hg2.keep (fun i hi h => by simp [Value.ownBlock] at h; omega); have ht2 := ht1a.kept hg2.keep (by simp [Value.ownBlock]; omega); rw [List.nil_append] at ho2; clear hg2; obtain ⟨A3, c3, rfl, hl3, hm3, hr3, had3⟩ := ho2.formN HL1.out)
  have hm3' : c3 ≤ 9223372036854775807 := by unfold maxLen at hm3; exact hm3
  have hne3 : ∀ ad, A3 = some ad → ¬ ad.block = w.heap.size := fun ad h => by have := (had3 ad h).1; omega
  clear had3 ho2 hE ht1 ht1a hb1a hm3
  refine (open_any w.heap.size s A3 n1 c3 l1 _ hs ht2 hr3 hl3 hm3' (fun _ => hne3)).mono ?_
  rintro e w3 ⟨v3, m3, k3, rfl, hk3, ht3, hp3⟩
  have hb3 := Keep.past hb2 hk3 fun i hi h => by omega
  have hr33 := hr3.kept hk3 hne3
  have hg2 := ht2.lt
  clear hk3 ht2 hr3 hb2
  go_wp2_with fail
  refine (refOpen_any s A1 n1 c1 l1 _ hs (hr1.below hb3) hc1 (by omega)).mono ?_
  rintro e w4 ⟨v4, m4, k4, rfl, hk4, hp4⟩
  have hb4 := Keep.past hb3 hk4 fun _ _ h => h
  have hr34 := hr33.kept hk4 (fun _ _ => id)
  have ht4 := ht3.kept hk4 id
  have hg3 := ht3.lt
  -- what both have found, as strings
  have hopen : ∃ (X4 Y4 : ByteArray) (q : Bool), Hid (X4 = Y4) ∧ m3 = m4 ∧ k4 = q ∧ ((q = true ∧ k3 = 0) ∨ (q = false ∧ k3 = 10)) ∧
      (∃ A c N L, v3 = .slice A N c ∧ RB w4 A N L ∧ (∀ ad, A = some ad → ¬ ad.block = w.heap.size) ∧ (⟨L.toArray⟩ : ByteArray) = X4) ∧ (∃ A c N L, v4 = .slice A N c ∧ RB w4 A N L ∧ (∀ ad, A = some ad → ¬ ad.block = w.heap.size) ∧ (⟨L.toArray⟩ : ByteArray) = Y4) := by
    cases ho : opn s l1 with
    | none =>
      rw [ho] at hp3 hp4
      obtain ⟨rfl, rfl, rfl⟩ := hp3
      obtain ⟨rfl, rfl, rfl⟩ := hp4
      exact ⟨_, _, false, Lib.hid rfl, rfl, rfl, .inr ⟨rfl, rfl⟩, ⟨none, 0, 0, [], rfl, RB.nil _ _, (fun _ h => by cases h), rfl⟩, ⟨none, 0, 0, [], rfl, RB.nil _ _, (fun _ h => by cases h), rfl⟩⟩
    | some b =>
      rw [ho] at hp3 hp4
      obtain ⟨ho3, rfl, rfl⟩ := hp3
      obtain ⟨ho4, rfl, rfl⟩ := hp4
      obtain ⟨A5, c5, rfl, _, _, hr5, had5⟩ := ho3.formN (N := b.length) rfl
      obtain ⟨A6, c6, rfl, _, _, hr6, had6⟩ := ho4.formN (N := b.length) rfl
      exact ⟨_, _, true, Lib.hid rfl, rfl, rfl, .inl ⟨rfl, rfl⟩, ⟨A5, c5, b.length, b, rfl, hr5.kept hk4 (fun _ _ => id), (fun ad h => by have := (had5 ad h).1; omega), rfl⟩, ⟨A6, c6, b.length, b, rfl, hr6, (fun ad h => by have := (had6 ad h).1; omega), rfl⟩⟩
  obtain ⟨X4, Y4, qb, HXY, rfl, rfl, hq, ⟨A5, c5, N5, L5, rfl, hr5, hne5, hX⟩, ⟨A6, c6, N6, L6, rfl, hr6, hne6, hY⟩⟩ := hopen
  clear hp3 hp4 hk4 hb3 hr33 ht3
  go_wp2_with fail
  --ALL
  refine (all_any w.heap.size s A3 n1 c3 l1 _ hs ht4 hr34 hl3 (by omega) hm3' (fun _ => hne3)).mono ?_
  rintro e w5 ⟨v5, rfl, hL5, hk5, ht5⟩
  have hb5 := Keep.past hb4 hk5 fun i hi h => by omega
  have hr35 := hr34.kept hk5 hne3
  have hr55 := hr5.kept hk5 hne5
  have hr65 := hr6.kept hk5 hne6
  have hg4 := ht4.lt
  clear hk5 ht4 hr34 hr5 hr6 hb4 ht5
  go_wp2_with fail
  refine (refAll_any s A1 n1 c1 l1 _ hs (hr1.below hb5) hc1 (by omega) hm1).mono ?_
  rintro e w6 ⟨v6, rfl, hL6, hk6⟩
  have hb6 := Keep.past hb5 hk6 fun _ _ h => h
  have hL56 := hL5.kept hk6 (fun _ _ _ h => h)
  have hr36 := hr35.kept hk6 (fun _ _ => id)
  have hr56 := hr55.kept hk6 (fun _ _ => id)
  have hr66 := hr65.kept hk6 (fun _ _ => id)
  clear hk6 hL5 hr35 hr55 hr65 hb5
  have hna : 16 * (allOf s l1).1.length ≤ n1 := by have := allF_len (l1.length + 1) s l1; rw [HL1.out] at this; unfold allOf; rw [HL1.out]; exact this
  generalize allOf s l1 = al at hL56 hL6 hna ⊢
  obtain ⟨lt, sa, ua⟩ := al
  dsimp only at hL56 hL6 hna ⊢
  obtain ⟨A7, c7, hv7, _, _⟩ := hL56.form
  obtain ⟨A8, c8, hv8, _, _⟩ := hL6.form
  subst hv7
  subst hv8
  go_wp2_with fail
  --LIVES
  refine (lives_any w6).mono ?_
  rintro e w7 ⟨rfl, hb7⟩
  have hB7 := hb6.trans (hb7.mono hb6.size)
  have hL7 := hL56.kept (Keep.of_below hb7) (fun g _ hl h => by omega)
  have hL8 := hL6.kept (Keep.of_below hb7) (fun g _ hl h => by omega)
  obtain ⟨A7', c7', hv7, _, hel7⟩ := hL7.form
  obtain ⟨A8', c8', hv8, _, hel8⟩ := hL8.form
  simp only [Value.slice.injEq, true_and] at hv7 hv8
  obtain ⟨rfl, rfl⟩ := hv7
  obtain ⟨rfl, rfl⟩ := hv8
  have hcx := run_str w7 A5 N5 c5 L5 (hr56.below hb7)
  have hcy := run_str w7 A6 N6 c6 L6 (hr66.below hb7)
  have hco := run_str w7 A3 n1 c3 l1 (hr36.below hb7)
  have hcb := run_str w7 A1 n1 c1 l1 (hr1.below hB7)
  rw [hX] at hcx
  rw [hY, ← HXY.out] at hcy
  generalize (⟨l1.toArray⟩ : ByteArray) = SL at hco hcb
  obtain ⟨n, hn⟩ : ∃ n, lt.length = n := ⟨_, rfl⟩
  rw [hn] at hna ⊢
  have HN := Lib.hid hn
  clear hL7 hL8 hL56 hL6 hb7 hb6 hr36 hr56 hr66 hX hY HXY hn hne3 hne5 hne6
  rcases hq with ⟨rfl, rfl⟩ | ⟨rfl, rfl⟩
  all_goals
    go_wp2_with fail
    --LOOP
    go_loopw [19] (fun iv wr => ∃ i q : Nat, i ≤ n ∧ iv = .int .i64 (i : Int) ∧ wr = w7.drewN q)
      (fun iv _ => n - (intOf iv).toNat)
    case atStart => exact ⟨0, 0, by omega, rfl, rfl⟩
    case round =>
      obtain ⟨i, q, hik, rfl, rfl⟩ := hrel
      clear hcx hcy hco hcb
      by_cases hlt : i < n
      · obtain ⟨l, hl⟩ : ∃ l, lt[i]? = some l := ⟨_, List.getElem?_eq_getElem (by rw [HN.out]; exact hlt)⟩
        obtain ⟨b, off, x, rfl, hcx, hox⟩ := hel7 i l hl
        obtain ⟨b2, off2, y, rfl, hcy, hoy⟩ := hel8 i l hl
        obtain ⟨Ax, cx, rfl, _, _, hrx, _⟩ := hox.formN (N := l.length) rfl
        obtain ⟨Ay, cy, rfl, _, _, hry, _⟩ := hoy.formN (N := l.length) rfl
        have hs1 := fun q => run_str (w7.drewN q) Ax l.length cx l (hrx.drewN q)
        have hs2 := fun q => run_str (w7.drewN q) Ay l.length cy l (hry.drewN q)
        generalize (⟨l.toArray⟩ : ByteArray) = SB at hs1 hs2
        generalize l.length = nx at hs1 hs2 hcx hcy
        clear hel7 hel8 hrx hry hox hoy hl
        go_wp2_with fail
        --CMP
        go_quiet (fail)
        go_wp2_with fail
        go_roundw
        case rel => exact ⟨i + 1, _, by omega, by go_num, rfl⟩
        case measure => simp [intOf]; omega
      · obtain rfl : i = n := by omega
        clear hel7 hel8
        have hBq : Below w.heap.size w (w7.drewN q) := ⟨hB7.os, hB7.tape, hB7.output, hB7.size, hB7.block⟩
        go_wp2_with fail
        go_ret
        exact ⟨rfl, hBq⟩

namespace crcOpensUptoDone
open Go.ChangeShapes Go.WideShapes Go.ChangeAt
theorem some_bulk {H : Type} (d : DataW H) : 1 ≤ Rows.uptoBulk d := by
  cases d with
  | lit l => cases l <;> simp [Rows.uptoBulk]
  | _ => simp [Rows.uptoBulk]
theorem all_bulk {H : Type} : ∀ l : List (DataW H), l.length ≤ Rows.uptoBulkAll l
  | [] => Nat.zero_le _
  | d :: l => by
    have h1 := some_bulk d
    have h2 := all_bulk l
    simp only [Rows.uptoBulkAll, List.length_cons]
    omega
theorem cap_bulk {H : Type} {d : DataW H} {cap : Nat} (h : (d = .nil ∧ cap = 0) ∨ ∃ es sp, d = .slice es sp ∧ es.length + sp.length = cap) : cap ≤ Rows.uptoBulk d := by
  rcases h with ⟨_, rfl⟩ | ⟨es, sp, rfl, h⟩
  · exact Nat.zero_le _
  · have h1 := all_bulk es
    have h2 := all_bulk sp
    simp only [Rows.uptoBulk]
    omega
theorem contract (H : Type) (enc : TypeId × Value → H) (W : World) (base : Nat) (args : Array Value) (ds gs : List (DataW H)) (before : List MemPlace)
    (hval0 : ∀ (j : Nat) t v, Try.f7.params[j]? = some t → args[j]? = some v → Value.okWide Try.prog W .any base t v)
    (hW : DataW.Whole enc Try.prog Try.f7.params.toList Rows.crcOpensSpec.vars false W args.toList ds gs before) (hk : Rows.uptoSmall H (ds ++ gs) = true) :
    Calls Try.prog 7 args W fun e W' => ∃ v, e = .returned v ∧ Rows.crcOpensSpec.post enc Try.prog Try.f7 false true false false W args v W' := by
  have hval : ∀ (j : Nat) t v, Try.f7.params[j]? = some t → args[j]? = some v → Value.okWide Try.prog W .any base t v := hval0
  have hbulk : Rows.uptoBulkAll (ds ++ gs) ≤ 1048576 := of_decide_eq_true hk
  clear hk
  have hW' := hW
  obtain ⟨p, q, hA0, hV, rfl, hfz, hnd⟩ := hW
  have hA : DataW.TrodAll enc Try.prog W 0 (fun _ => true) true Try.f7.params.toList args.toList ds p := hA0
  rw [Try.params7] at hA hval
  obtain ⟨v0, vs0, d0, ds0, p0, q0, hargs, rfl, rfl, h0, r0⟩ := trodAll_cons hA
  obtain ⟨v1, vs1, d1, ds1, p1, q1, rfl, rfl, rfl, h1, r1⟩ := trodAll_cons r0
  obtain ⟨rfl, rfl, rfl⟩ := trodAll_nil r1
  obtain rfl : args = #[v0, v1] := by cases args; simp_all
  obtain ⟨rfl, rfl⟩ := trodVars_none hV
  simp only [List.append_nil, Rows.uptoBulkAll] at hbulk
  obtain ⟨a0, rfl, rfl, rfl, w0⟩ := open_int Try.underlying33 (hval 0 33 v0 rfl rfl) h0
  obtain ⟨a1, len1, cap1, rfl⟩ := okWide_slice Try.underlying23 (hval 1 23 v1 rfl rfl)
  have k1 := h1
  have lt1 : ∀ x ∈ p1, x.block < W.heap.size := by obtain ⟨m, hm⟩ := k1; exact DataW.trod_lt m _ _ _ hm
  obtain ⟨z1, hr1, hc1, hm1, hd1⟩ := bytes_open h1
  have hl1 : cap1 ≤ 1048576 := by have := cap_bulk hd1; omega
  clear hA0 hval0
  refine (crcOpens_walk (w := W) a0 w0 a1 len1 cap1 z1 hr1 hc1 hm1 hl1).mono fun e W' ⟨he, bel⟩ => ?_
  subst he
  exact ⟨_, rfl, _, _, _, [], _, [], hW', trodAll_mk1 (shut_bool Try.underlying4 _), (trodAll_cons_mk (shut_int Try.underlying33 w0) (trodAll_cons_mk (Below.trod laidOut (by kernel_rfl) (of_decide_eq_true (by kernel_rfl)) k1 bel lt1) trodAll_mk0)), rfl, bel.frame _, fun h => by cases h⟩

set_option maxRecDepth 100000 in
theorem lifted (os : Os) (started : os.Started) (H : Type) (enc : TypeId × Value → H) (F : Stop.Interp) :
    ReturnsInHanded {} Try.checked os 7 .any ((Rows.OpenSpec.upto Rows.crcOpensSpec).pre6 enc Try.prog Try.f7 Rows.crcOpensUptoRow.domain false) (((Rows.OpenSpec.upto Rows.crcOpensSpec).at F).post enc Try.prog Try.f7 false true false false) := by
  refine returnsInHanded_of_cond (C := Try.checked) (s := Rows.OpenSpec.upto Rows.crcOpensSpec) (k := Rows.uptoSmall) rfl own started (by kernel_rfl) Try.func7
    (OpenSpec.witness (enc := enc) (C := Try.checked) (s := Rows.OpenSpec.upto Rows.crcOpensSpec) (k := Rows.uptoSmall) rfl false ⟨#[], #[Value.int .u64 0, Value.slice none 0 0], []⟩ 8 (by kernel_rfl) (by kernel_rfl) (by kernel_rfl)
      (x := ([.lit (.int .u64 0), .nil], [], [])) (by kernel_rfl) rfl (by kernel_rfl)) ?_
  intro W base args ds gs before hval hW _ hk _
  exact contract H enc W base args ds gs before hval hW hk

/-- The statement. -/
theorem proved : Rows.CrcOpensUptoSaid :=
  OpenClaim.holds_of_cond 7 Try.f7 rfl rfl rfl rfl rfl rfl rfl ⟨rfl, rfl, rfl, rfl, rfl⟩ rfl rfl rfl rfl rfl (by kernel_rfl) Try.func7 (by kernel_rfl)
    (of_decide_eq_true (by kernel_rfl)) (by unfold Func.isWrapper; first | (rw [if_pos (by decide +kernel)]; kernel_rfl) | (rw [if_neg (by decide +kernel)]; exact ⟨rfl, rfl⟩))
    (fun os started H enc _ F => lifted os started H enc F)
end crcOpensUptoDone
end Go.Proofs.Ytianehamjjnhoaa
