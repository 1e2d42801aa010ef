/- 'MailReads' returns true for every input: the row of this law, proved. No condition. -/
import Derived.Test.YtpfkhalomnfcfaaMaZ2
import Derived.Test.YtpfkhalomnfcfaaMaZ1
import Derived.ProofKit
import Derived.OpenShut
import Derived.ShutString
import Derived.ChangeOld
import Derived.SizedLaws
namespace Go.Proofs.Ytpfkhalomnfcfaa
open Go.RowKit
set_option linter.unusedVariables false
set_option linter.unusedSimpArgs false
theorem may_ln {x : MV} (h : mayM x = true) : x.l.length ≤ 9223372036854775807 := by
  have := (mayL_okI (OKM.of h).list).1
  omega
theorem may_aln {x : MV} (h : mayM x = true) : x.a.l.length ≤ 9223372036854775807 := by
  have h5 := (OKM.of h).a
  cases hh : hasB (hasM x.k) 97 with
  | true =>
    rw [hh] at h5
    have := (mayL_okI (mayA_facts h5).2.2.2.2.2.2.2.2).1
    omega
  | false =>
    rw [hh] at h5
    rw [(sameA_iff _ _).1 h5]
    exact Nat.zero_le _
set_option maxRecDepth 100000 in
set_option maxHeartbeats 12800000 in
theorem mailReads_walk {w : World} (a0 : Option Addr) (len0 cap0 : Nat) (z0 : List UInt8) (hr0 : RB w a0 len0 z0) (hc0 : len0 ≤ cap0) (hm0 : cap0 ≤ 9223372036854775807) (hl0 : cap0 ≤ 140737488351232) :
    Calls Try.prog 4 #[.slice a0 len0 cap0] w fun e w' => e = .returned (.bool true) ∧ Below w.heap.size w w' := by
  have hln := hr0.1
  subst hln
  have ho0 : OB w.heap.size (w.alloc (.cells #[] 5)) (.slice (some ⟨w.heap.size, 0, none⟩) 0 0) [] := OB.built w.heap.size w [] (Nat.le_refl _) (by simp [maxLen])
  have hba := (Below.refl w.heap.size w).alloc (Nat.le_refl _) (.cells #[] 5)
  have hv0 : mv0.v none 0 none 0 = .agg #[.int .i64 0, .int .i64 0, .slice none 0 0, .int .i64 0, .int .i64 0, .int .i64 0, .int .i64 0, .int .i64 0, .int .i64 0, .int .i64 0, .string ⟨#[]⟩, .slice none 0 0, .int .i64 0, .int .i64 0, .int .i64 0, .int .i64 0] := rfl
  go_enter Try.func4, Try.ntmps4
  go_wp2_with (at_builtin; refine wpApp rfl (.tmp 8) (.tmp 9) rfl w.heap.size _ [] rfl ho0 a0 z0.length cap0 z0 rfl (hr0.alloc _) (by simp; omega) (by simp) ?_; intro v1 w1 hg1; have hb1 := hba.trans (hg1.below ho0 (by simp)); have ho1 := hg1.own; rw [List.nil_append] at ho1; obtain ⟨A1, c1, hv1, hl1, hm1, hr1, _⟩ := ho1.form; clear hg1; subst hv1)
  have key1 := mdec_any A1 z0.length c1 z0 w1 hr1 (by omega)
  go_wp2_with fail
  refine key1.mono ?_
  rintro e w2 ⟨hx2, h2⟩
  have hb2 := hb1.trans (hx2.mono hb1.size)
  have hr12 := hr1.below hx2
  have hr02 := hr0.below hb2
  clear key1
  rcases h2 with ⟨x, A2, c2, B2, d2, hxm, hyn, hbe, hi2, hj2, okv, rfl, hok⟩ | ⟨hno, okv, rfl, hok⟩
  case inr =>
    unfold errV at hok
    dsimp only at hok
    subst hok
    rw [hv0]
    have hbx3 := Blk.new w2 29 #[.int .i64 0, .int .i64 0, .slice none 0 0, .int .i64 0, .int .i64 0, .int .i64 0, .int .i64 0, .int .i64 0, .int .i64 0, .int .i64 0, .string ⟨#[]⟩, .slice none 0 0, .int .i64 0, .int .i64 0, .int .i64 0, .int .i64 0]
    have hb3 := hb2.alloc hb2.size (.cells #[.int .i64 0, .int .i64 0, .slice none 0 0, .int .i64 0, .int .i64 0, .int .i64 0, .int .i64 0, .int .i64 0, .int .i64 0, .int .i64 0, .string ⟨#[]⟩, .slice none 0 0, .int .i64 0, .int .i64 0, .int .i64 0, .int .i64 0] 29)
    have hr03 := hr02.alloc (.cells #[.int .i64 0, .int .i64 0, .slice none 0 0, .int .i64 0, .int .i64 0, .int .i64 0, .int .i64 0, .int .i64 0, .int .i64 0, .int .i64 0, .string ⟨#[]⟩, .slice none 0 0, .int .i64 0, .int .i64 0, .int .i64 0, .int .i64 0] 29)
    have hr13 := hr12.alloc (.cells #[.int .i64 0, .int .i64 0, .slice none 0 0, .int .i64 0, .int .i64 0, .int .i64 0, .int .i64 0, .int .i64 0, .int .i64 0, .int .i64 0, .string ⟨#[]⟩, .slice none 0 0, .int .i64 0, .int .i64 0, .int .i64 0, .int .i64 0] 29)
    go_wp2_with fail
    generalize w2.alloc (.cells #[.int .i64 0, .int .i64 0, .slice none 0 0, .int .i64 0, .int .i64 0, .int .i64 0, .int .i64 0, .int .i64 0, .int .i64 0, .int .i64 0, .string ⟨#[]⟩, .slice none 0 0, .int .i64 0, .int .i64 0, .int .i64 0, .int .i64 0] 29) = w3 at hbx3 hb3 hr03 hr13 ⊢
    refine (rmdec_any a0 z0.length cap0 z0 _ hr03 hc0 hm0).mono ?_
    rintro e w4 ⟨hx4, h4⟩
    have hb4 := hb3.trans (hx4.mono hb3.size)
    have hbx4 := hbx3.below_ hx4
    have hr04 := hr03.below hx4
    have hr14 := hr13.below hx4
    rcases h4 with ⟨x', A4, c4, B4, d4, hxm', hyn', hbe', hp4, hs4, ok4, rfl, hok4⟩ | ⟨_, ok4, rfl, hok4⟩
    case inl => exact absurd hbe' (hno x' hxm' hyn')
    subst hok4
    rw [hv0]
    have hby5 := Blk.new w4 29 #[.int .i64 0, .int .i64 0, .slice none 0 0, .int .i64 0, .int .i64 0, .int .i64 0, .int .i64 0, .int .i64 0, .int .i64 0, .int .i64 0, .string ⟨#[]⟩, .slice none 0 0, .int .i64 0, .int .i64 0, .int .i64 0, .int .i64 0]
    have hbx5 := hbx4.alloc (.cells #[.int .i64 0, .int .i64 0, .slice none 0 0, .int .i64 0, .int .i64 0, .int .i64 0, .int .i64 0, .int .i64 0, .int .i64 0, .int .i64 0, .string ⟨#[]⟩, .slice none 0 0, .int .i64 0, .int .i64 0, .int .i64 0, .int .i64 0] 29)
    have hb5 := hb4.alloc hb4.size (.cells #[.int .i64 0, .int .i64 0, .slice none 0 0, .int .i64 0, .int .i64 0, .int .i64 0, .int .i64 0, .int .i64 0, .int .i64 0, .int .i64 0, .string ⟨#[]⟩, .slice none 0 0, .int .i64 0, .int .i64 0, .int .i64 0, .int .i64 0] 29)
    have hr05 := hr04.alloc (.cells #[.int .i64 0, .int .i64 0, .slice none 0 0, .int .i64 0, .int .i64 0, .int .i64 0, .int .i64 0, .int .i64 0, .int .i64 0, .int .i64 0, .string ⟨#[]⟩, .slice none 0 0, .int .i64 0, .int .i64 0, .int .i64 0, .int .i64 0] 29)
    have hr15 := hr14.alloc (.cells #[.int .i64 0, .int .i64 0, .slice none 0 0, .int .i64 0, .int .i64 0, .int .i64 0, .int .i64 0, .int .i64 0, .int .i64 0, .int .i64 0, .string ⟨#[]⟩, .slice none 0 0, .int .i64 0, .int .i64 0, .int .i64 0, .int .i64 0] 29)
    clear hbx3 hb3 hr03 hr13 hbx4 hr04 hr14 hx4 hb4 hr02 hr12 hb2 hno
    go_wp2_with fail
    generalize w4.alloc (.cells #[.int .i64 0, .int .i64 0, .slice none 0 0, .int .i64 0, .int .i64 0, .int .i64 0, .int .i64 0, .int .i64 0, .int .i64 0, .int .i64 0, .string ⟨#[]⟩, .slice none 0 0, .int .i64 0, .int .i64 0, .int .i64 0, .int .i64 0] 29) = w5 at hby5 hbx5 hb5 hr05 hr15 ⊢
    refine (mlives_any _).mono ?_
    rintro e w6 ⟨rfl, hx6⟩
    have hb6 := hb5.trans (hx6.mono hb5.size)
    have hbx6 := hbx5.below_ hx6
    have hby6 := hby5.below_ hx6
    have hr06 := hr05.below hx6
    have hr16 := hr15.below hx6
    have key := rmsame_any mv0 mv0 none 0 none 0 none 0 none 0 w6 (IL.nil _ _) (IL.nil _ _) (IL.nil _ _) (IL.nil _ _) (Nat.zero_le _) (Nat.zero_le _)
    rw [(sameM_iff mv0 mv0).2 rfl, hv0] at key
    replace key := Lib.hid key
    clear hbx5 hby5 hr05 hr15 hb5
    go_wp2_with (first | (refine wpLoadM 29 (by rfl) (.tmp 4) rfl rfl hbx6 _ Try.underlying29 rfl mail_info ?_) | (refine wpLoadM 29 (by rfl) (.tmp 6) rfl rfl hby6 _ Try.underlying29 rfl mail_info ?_))
    refine key.out.mono ?_
    rintro e w7 ⟨rfl, hx7⟩
    clear key
    have hb7 := hb6.trans (hx7.mono hb6.size)
    have hs1 := run_str w7 A1 z0.length c1 z0 (hr16.below hx7)
    have hs2 := run_str w7 a0 z0.length cap0 z0 (hr06.below hx7)
    go_wp2
    go_ret
    exact ⟨rfl, hb7⟩
  unfold errV at hok
  dsimp only at hok
  subst hok
  replace hbe := Lib.hid hbe
  unfold MV.v MV.cs
  have hbx3 := Blk.new w2 29 #[.int .i64 x.k, .int .i64 x.o, .slice A2 x.l.length c2, .int .i64 x.a.c, .int .i64 x.a.m, .int .i64 x.a.k, .int .i64 x.a.o, .int .i64 x.a.r, .int .i64 x.a.t, .int .i64 x.a.n, .string ⟨x.a.g.toArray⟩, .slice B2 x.a.l.length d2, .int .i64 x.y.c, .int .i64 x.y.m, .int .i64 x.y.e, .int .i64 x.y.n]
  have hb3 := hb2.alloc hb2.size (.cells #[.int .i64 x.k, .int .i64 x.o, .slice A2 x.l.length c2, .int .i64 x.a.c, .int .i64 x.a.m, .int .i64 x.a.k, .int .i64 x.a.o, .int .i64 x.a.r, .int .i64 x.a.t, .int .i64 x.a.n, .string ⟨x.a.g.toArray⟩, .slice B2 x.a.l.length d2, .int .i64 x.y.c, .int .i64 x.y.m, .int .i64 x.y.e, .int .i64 x.y.n] 29)
  have hr03 := hr02.alloc (.cells #[.int .i64 x.k, .int .i64 x.o, .slice A2 x.l.length c2, .int .i64 x.a.c, .int .i64 x.a.m, .int .i64 x.a.k, .int .i64 x.a.o, .int .i64 x.a.r, .int .i64 x.a.t, .int .i64 x.a.n, .string ⟨x.a.g.toArray⟩, .slice B2 x.a.l.length d2, .int .i64 x.y.c, .int .i64 x.y.m, .int .i64 x.y.e, .int .i64 x.y.n] 29)
  have hr13 := hr12.alloc (.cells #[.int .i64 x.k, .int .i64 x.o, .slice A2 x.l.length c2, .int .i64 x.a.c, .int .i64 x.a.m, .int .i64 x.a.k, .int .i64 x.a.o, .int .i64 x.a.r, .int .i64 x.a.t, .int .i64 x.a.n, .string ⟨x.a.g.toArray⟩, .slice B2 x.a.l.length d2, .int .i64 x.y.c, .int .i64 x.y.m, .int .i64 x.y.e, .int .i64 x.y.n] 29)
  have hi3 := hi2.alloc (.cells #[.int .i64 x.k, .int .i64 x.o, .slice A2 x.l.length c2, .int .i64 x.a.c, .int .i64 x.a.m, .int .i64 x.a.k, .int .i64 x.a.o, .int .i64 x.a.r, .int .i64 x.a.t, .int .i64 x.a.n, .string ⟨x.a.g.toArray⟩, .slice B2 x.a.l.length d2, .int .i64 x.y.c, .int .i64 x.y.m, .int .i64 x.y.e, .int .i64 x.y.n] 29)
  have hj3 := hj2.alloc (.cells #[.int .i64 x.k, .int .i64 x.o, .slice A2 x.l.length c2, .int .i64 x.a.c, .int .i64 x.a.m, .int .i64 x.a.k, .int .i64 x.a.o, .int .i64 x.a.r, .int .i64 x.a.t, .int .i64 x.a.n, .string ⟨x.a.g.toArray⟩, .slice B2 x.a.l.length d2, .int .i64 x.y.c, .int .i64 x.y.m, .int .i64 x.y.e, .int .i64 x.y.n] 29)
  go_wp2_with fail
  refine (rmdec_any a0 z0.length cap0 z0 _ hr03 hc0 hm0).mono ?_
  rintro e w4 ⟨hx4, h4⟩
  have hb4 := hb3.trans (hx4.mono hb3.size)
  have hbx4 := hbx3.below_ hx4
  have hr04 := hr03.below hx4
  have hr14 := hr13.below hx4
  have hi4 := hi3.below hx4
  have hj4 := hj3.below hx4
  rcases h4 with ⟨x', A4, c4, B4, d4, hxm', hyn', hbe', hp4, hs4, ok4, rfl, hok4⟩ | ⟨hno, _⟩
  case inr => exact absurd hbe.out (hno x hxm hyn)
  have hxe : x = x' := encM_inj hxm hxm' hyn hyn' (hbe.out.symm.trans hbe')
  subst hxe
  subst hok4
  unfold MV.v MV.cs
  have hby5 := Blk.new w4 29 #[.int .i64 x.k, .int .i64 x.o, .slice A4 x.l.length c4, .int .i64 x.a.c, .int .i64 x.a.m, .int .i64 x.a.k, .int .i64 x.a.o, .int .i64 x.a.r, .int .i64 x.a.t, .int .i64 x.a.n, .string ⟨x.a.g.toArray⟩, .slice B4 x.a.l.length d4, .int .i64 x.y.c, .int .i64 x.y.m, .int .i64 x.y.e, .int .i64 x.y.n]
  have hbx5 := hbx4.alloc (.cells #[.int .i64 x.k, .int .i64 x.o, .slice A4 x.l.length c4, .int .i64 x.a.c, .int .i64 x.a.m, .int .i64 x.a.k, .int .i64 x.a.o, .int .i64 x.a.r, .int .i64 x.a.t, .int .i64 x.a.n, .string ⟨x.a.g.toArray⟩, .slice B4 x.a.l.length d4, .int .i64 x.y.c, .int .i64 x.y.m, .int .i64 x.y.e, .int .i64 x.y.n] 29)
  have hb5 := hb4.alloc hb4.size (.cells #[.int .i64 x.k, .int .i64 x.o, .slice A4 x.l.length c4, .int .i64 x.a.c, .int .i64 x.a.m, .int .i64 x.a.k, .int .i64 x.a.o, .int .i64 x.a.r, .int .i64 x.a.t, .int .i64 x.a.n, .string ⟨x.a.g.toArray⟩, .slice B4 x.a.l.length d4, .int .i64 x.y.c, .int .i64 x.y.m, .int .i64 x.y.e, .int .i64 x.y.n] 29)
  have hr05 := hr04.alloc (.cells #[.int .i64 x.k, .int .i64 x.o, .slice A4 x.l.length c4, .int .i64 x.a.c, .int .i64 x.a.m, .int .i64 x.a.k, .int .i64 x.a.o, .int .i64 x.a.r, .int .i64 x.a.t, .int .i64 x.a.n, .string ⟨x.a.g.toArray⟩, .slice B4 x.a.l.length d4, .int .i64 x.y.c, .int .i64 x.y.m, .int .i64 x.y.e, .int .i64 x.y.n] 29)
  have hr15 := hr14.alloc (.cells #[.int .i64 x.k, .int .i64 x.o, .slice A4 x.l.length c4, .int .i64 x.a.c, .int .i64 x.a.m, .int .i64 x.a.k, .int .i64 x.a.o, .int .i64 x.a.r, .int .i64 x.a.t, .int .i64 x.a.n, .string ⟨x.a.g.toArray⟩, .slice B4 x.a.l.length d4, .int .i64 x.y.c, .int .i64 x.y.m, .int .i64 x.y.e, .int .i64 x.y.n] 29)
  have hi5 := hi4.alloc (.cells #[.int .i64 x.k, .int .i64 x.o, .slice A4 x.l.length c4, .int .i64 x.a.c, .int .i64 x.a.m, .int .i64 x.a.k, .int .i64 x.a.o, .int .i64 x.a.r, .int .i64 x.a.t, .int .i64 x.a.n, .string ⟨x.a.g.toArray⟩, .slice B4 x.a.l.length d4, .int .i64 x.y.c, .int .i64 x.y.m, .int .i64 x.y.e, .int .i64 x.y.n] 29)
  have hj5 := hj4.alloc (.cells #[.int .i64 x.k, .int .i64 x.o, .slice A4 x.l.length c4, .int .i64 x.a.c, .int .i64 x.a.m, .int .i64 x.a.k, .int .i64 x.a.o, .int .i64 x.a.r, .int .i64 x.a.t, .int .i64 x.a.n, .string ⟨x.a.g.toArray⟩, .slice B4 x.a.l.length d4, .int .i64 x.y.c, .int .i64 x.y.m, .int .i64 x.y.e, .int .i64 x.y.n] 29)
  have hp5 := hp4.alloc (.cells #[.int .i64 x.k, .int .i64 x.o, .slice A4 x.l.length c4, .int .i64 x.a.c, .int .i64 x.a.m, .int .i64 x.a.k, .int .i64 x.a.o, .int .i64 x.a.r, .int .i64 x.a.t, .int .i64 x.a.n, .string ⟨x.a.g.toArray⟩, .slice B4 x.a.l.length d4, .int .i64 x.y.c, .int .i64 x.y.m, .int .i64 x.y.e, .int .i64 x.y.n] 29)
  have hs5 := hs4.alloc (.cells #[.int .i64 x.k, .int .i64 x.o, .slice A4 x.l.length c4, .int .i64 x.a.c, .int .i64 x.a.m, .int .i64 x.a.k, .int .i64 x.a.o, .int .i64 x.a.r, .int .i64 x.a.t, .int .i64 x.a.n, .string ⟨x.a.g.toArray⟩, .slice B4 x.a.l.length d4, .int .i64 x.y.c, .int .i64 x.y.m, .int .i64 x.y.e, .int .i64 x.y.n] 29)
  clear hbx3 hb3 hr03 hr13 hbx4 hr04 hr14 hx4 hb4 hr02 hr12 hb2 hi2 hj2 hi3 hj3 hi4 hj4 hp4 hs4 hbe hbe' hxm' hyn' hyn
  go_wp2_with fail
  refine (mlives_any _).mono ?_
  rintro e w6 ⟨rfl, hx6⟩
  have hb6 := hb5.trans (hx6.mono hb5.size)
  have hbx6 := hbx5.below_ hx6
  have hby6 := hby5.below_ hx6
  have hr06 := hr05.below hx6
  have hr16 := hr15.below hx6
  have hi6 := hi5.below hx6
  have hj6 := hj5.below hx6
  have hp6 := hp5.below hx6
  have hs6 := hs5.below hx6
  have key := rmsame_any x x A2 c2 B2 d2 A4 c4 B4 d4 w6 hi6 hj6 hp6 hs6 (may_ln hxm) (may_aln hxm)
  rw [(sameM_iff x x).2 rfl] at key
  unfold MV.v MV.cs at key
  replace key := Lib.hid key
  clear hbx5 hby5 hr05 hr15 hb5
  go_wp2_with (first | (refine wpLoadM 29 (by rfl) (.tmp 4) rfl rfl hbx6 _ Try.underlying29 rfl mail_info ?_) | (refine wpLoadM 29 (by rfl) (.tmp 6) rfl rfl hby6 _ Try.underlying29 rfl mail_info ?_))
  refine key.out.mono ?_
  rintro e w7 ⟨rfl, hx7⟩
  clear key
  have hb7 := hb6.trans (hx7.mono hb6.size)
  have hs1 := run_str w7 A1 z0.length c1 z0 (hr16.below hx7)
  have hs2 := run_str w7 a0 z0.length cap0 z0 (hr06.below hx7)
  go_wp2
  go_ret
  exact ⟨rfl, hb7⟩

namespace mailReadsDone
open Go.ChangeShapes Go.WideShapes Go.ChangeAt
set_option maxRecDepth 100000 in
theorem lifted (os : Os) (started : os.Started) (H : Type) (enc : TypeId × Value → H) :
    ReturnsInHanded {} Try.checked os 4 .any (Rows.mailReadsSpec.pre6 enc Try.prog Try.f4 Rows.mailReadsRow.domain false) (Rows.mailReadsSpec.post enc Try.prog Try.f4 false true false false) := by
  refine returnsInHanded_of_change_sized (C := Try.checked) own started (by kernel_rfl) Try.func4
    (ChangeSpec.witness6 (enc := enc) (C := Try.checked) false ⟨#[], #[Value.slice none 0 0], []⟩ 8 (by kernel_rfl) (by kernel_rfl) (by kernel_rfl) (by kernel_rfl)) ?_
  intro W base args ds gs before hval0 hW hcnd hsz0 _
  have hsz : (DataW.weightsEach Try.prog (Try.f4.params.toList ++ Rows.mailReadsSpec.plain.varTypes Try.prog) (ds ++ gs)).all (· ≤ reachBytes) = true := hsz0
  clear hsz0
  have hval : ∀ (j : Nat) t v, Try.f4.params[j]? = some t → args[j]? = some v → Value.okWide Try.prog W .any base t v := hval0
  have hW' := hW
  obtain ⟨p, q, hA0, hV, rfl, hfz, hnd⟩ := hW
  have hA : DataW.TrodAll enc Try.prog W 0 (fun _ => true) true Try.f4.params.toList args.toList ds p := hA0
  rw [Try.params4] at hA hval hsz
  obtain ⟨v0, vs0, d0, ds0, p0, q0, hargs, rfl, rfl, h0, r0⟩ := trodAll_cons hA
  obtain ⟨rfl, rfl, rfl⟩ := trodAll_nil r0
  obtain rfl : args = #[v0] := by cases args; simp_all
  obtain ⟨rfl, rfl⟩ := trodVars_none hV
  obtain ⟨a0, len0, cap0, rfl⟩ := okWide_slice Try.underlying31 (hval 0 31 v0 rfl rfl)
  have k0 := h0
  have lt0 : ∀ x ∈ p0, x.block < W.heap.size := by obtain ⟨m, hm⟩ := k0; exact DataW.trod_lt m _ _ _ hm
  obtain ⟨z0, hr0, hc0, hm0, hd0⟩ := bytes_open h0
  have hl0 : cap0 ≤ 140737488351232 := by
    rcases hd0 with ⟨_, h⟩ | ⟨es, sp, rfl, h⟩
    · omega
    · have := sized_slice hsz (j := 0) (t := 31) (e := 5) rfl rfl Try.underlying31
      rw [bytes_u8] at this
      simp only [reachBytes] at this
      omega
  clear hA0 hval0
  refine (mailReads_walk (w := W) a0 len0 cap0 z0 hr0 hc0 hm0 hl0).mono fun e W' ⟨he, bel⟩ => ?_
  subst he
  exact ⟨_, rfl, _, _, _, [], _, [], hW', trodAll_mk1 (shut_bool Try.underlying4 _), (trodAll_cons_mk (Below.trod laidOut (by kernel_rfl) (of_decide_eq_true (by kernel_rfl)) k0 bel lt0) trodAll_mk0), rfl, bel.frame _, fun h => by cases h⟩

theorem over : Rows.mailReadsRow.holds Try.pinned (OpenSpec.ofChange Rows.mailReadsSpec) :=
  OpenClaim.holds_of_wide 4 Try.f4 rfl rfl rfl rfl rfl rfl rfl ⟨rfl, rfl, rfl, rfl, rfl⟩ rfl rfl rfl rfl rfl (by kernel_rfl) Try.func4 (by kernel_rfl)
    (of_decide_eq_true (by kernel_rfl)) (by unfold Func.isWrapper; first | (rw [if_pos (by decide +kernel)]; kernel_rfl) | (rw [if_neg (by decide +kernel)]; exact ⟨rfl, rfl⟩))
    (fun os started H enc _ => lifted os started H enc)

/-- The statement. -/
theorem proved : Rows.MailReadsSaid := over
end mailReadsDone
end Go.Proofs.Ytpfkhalomnfcfaa
