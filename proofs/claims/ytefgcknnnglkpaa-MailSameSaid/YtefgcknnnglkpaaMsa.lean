/- 'MailSame' returns true for every input: the row of this law, proved. No condition. -/
import Derived.Test.YtefgcknnnglkpaaMaL
import Derived.Test.YtefgcknnnglkpaaMaO
import Derived.ProofKit
import Derived.OpenShut
import Derived.ShutString
import Derived.ChangeOld
import Derived.SizedLaws
namespace Go.Proofs.Ytefgcknnnglkpaa
open Go.RowKit
set_option linter.unusedVariables false
set_option linter.unusedSimpArgs false
set_option maxRecDepth 100000 in
set_option maxHeartbeats 12800000 in
theorem mailSame_walk {w : World} (y0 : MV) (A0 : Option Addr) (cap0 : Nat) (B0 : Option Addr) (capb0 : Nat) (hil0 : IL w A0 y0.l.length y0.l) (hal0 : IL w B0 y0.a.l.length y0.a.l) (hwl0 : WL y0.l) (hwal0 : WL y0.a.l) (hwf0 : WFM y0) (y1 : MV) (A1 : Option Addr) (cap1 : Nat) (B1 : Option Addr) (capb1 : Nat) (hil1 : IL w A1 y1.l.length y1.l) (hal1 : IL w B1 y1.a.l.length y1.a.l) (hwl1 : WL y1.l) (hwal1 : WL y1.a.l) (hwf1 : WFM y1) :
    Calls Try.prog 5 #[y0.v A0 cap0 B0 capb0, y1.v A1 cap1 B1 capb1] w fun e w' => e = .returned (.bool true) ∧ Below w.heap.size w w' := by
  clear hwl0 hwal0 hwl1 hwal1
  obtain ⟨z, hz⟩ : ∃ z, sameM y0 y1 = z := ⟨_, rfl⟩
  have hEa := fun W h1 h2 => menc_any y0 A0 cap0 B0 capb0 W h1 h2 hwf0.n hwf0.an hwf0.yn
  have hEb := fun W h1 h2 => menc_any y1 A1 cap1 B1 capb1 W h1 h2 hwf1.n hwf1.an hwf1.yn
  have hR := fun W h1 h2 h3 h4 => rmsame_any y0 y1 A0 cap0 B0 capb0 A1 cap1 B1 capb1 W h1 h2 h3 h4 hwf0.n hwf0.an
  have hS := fun W h1 h2 h3 h4 => msame_any y0 y1 A0 cap0 B0 capb0 A1 cap1 B1 capb1 W h1 h2 h3 h4 hwf0.n hwf0.an
  have hSs := fun W h1 h2 => msame_any y0 y0 A0 cap0 B0 capb0 A0 cap0 B0 capb0 W h1 h2 h1 h2 hwf0.n hwf0.an
  rw [hz] at hR hS
  rw [(sameM_iff y0 y0).2 rfl] at hSs
  have hyn0 : YN y0 := hwf0.yn
  have hyn1 : YN y1 := hwf1.yn
  clear hwf0 hwf1
  obtain ⟨hA0, hB0, hb0⟩ := two_mails w (y0.cs A0 cap0 B0 capb0) (y1.cs A1 cap1 B1 capb1)
  have hila0 := (hil0.alloc (.cells (y0.cs A0 cap0 B0 capb0) 29)).alloc (.cells (y1.cs A1 cap1 B1 capb1) 29)
  have hja0 := (hal0.alloc (.cells (y0.cs A0 cap0 B0 capb0) 29)).alloc (.cells (y1.cs A1 cap1 B1 capb1) 29)
  have hilb0 := (hil1.alloc (.cells (y0.cs A0 cap0 B0 capb0) 29)).alloc (.cells (y1.cs A1 cap1 B1 capb1) 29)
  have hjb0 := (hal1.alloc (.cells (y0.cs A0 cap0 B0 capb0) 29)).alloc (.cells (y1.cs A1 cap1 B1 capb1) 29)
  clear hil0 hal0 hil1 hal1
  unfold MV.v at hEa hEb hR hS hSs ⊢
  unfold MV.cs at *
  by_cases hT : (200 : Int) < wrap64 (wrap64 (wrap64 ((y0.l.length : Int) + (y1.l.length : Int)) + (y0.a.l.length : Int)) + (y1.a.l.length : Int))
  · go_enter Try.func5, Try.ntmps5
    go_wp2_with fail
    refine (mlives_any _).mono ?_
    rintro e w1 ⟨rfl, hx1⟩
    go_wp2
    go_ret
    exact ⟨rfl, hb0.trans (hx1.mono hb0.size)⟩
  cases hma : mayM y0 with
  | false =>
    rw [hma] at hEa
    cases hmb : mayM y1 with
    | false =>
      rw [hmb] at hEb
      clear hz hma hmb hyn0 hyn1
      go_enter Try.func5, Try.ntmps5
      go_wp2_with (first | (refine wpLoadM 29 (by rfl) (.tmp 2) rfl rfl hA0 _ Try.underlying29 rfl mail_info ?_) | (refine wpLoadM 29 (by rfl) (.tmp 3) rfl rfl hB0 _ Try.underlying29 rfl mail_info ?_))
      refine (hEa _ hila0 hja0).mono ?_
      rintro e w1 ⟨hx1, h1⟩
      dsimp only at h1
      subst h1
      have hb1 := hb0.trans (hx1.mono hb0.size)
      have hA1 := hA0.below_ hx1
      have hB1 := hB0.below_ hx1
      have hila1 := hila0.below hx1
      have hja1 := hja0.below hx1
      have hilb1 := hilb0.below hx1
      have hjb1 := hjb0.below hx1
      clear hA0 hB0 hila0 hja0 hilb0 hjb0 hx1 hb0
      go_wp2_with (first | (refine wpLoadM 29 (by rfl) (.tmp 2) rfl rfl hA1 _ Try.underlying29 rfl mail_info ?_) | (refine wpLoadM 29 (by rfl) (.tmp 3) rfl rfl hB1 _ Try.underlying29 rfl mail_info ?_))
      refine (hEb _ hilb1 hjb1).mono ?_
      rintro e w2 ⟨hx2, h1⟩
      dsimp only at h1
      subst h1
      have hb2 := hb1.trans (hx2.mono hb1.size)
      have hA2 := hA1.below_ hx2
      have hB2 := hB1.below_ hx2
      have hila2 := hila1.below hx2
      have hja2 := hja1.below hx2
      have hilb2 := hilb1.below hx2
      have hjb2 := hjb1.below hx2
      clear hA1 hB1 hila1 hja1 hilb1 hjb1 hx2 hb1
      go_wp2_with (first | (refine wpLoadM 29 (by rfl) (.tmp 2) rfl rfl hA2 _ Try.underlying29 rfl mail_info ?_) | (refine wpLoadM 29 (by rfl) (.tmp 3) rfl rfl hB2 _ Try.underlying29 rfl mail_info ?_))
      refine (hR _ hila2 hja2 hilb2 hjb2).mono ?_
      rintro e w3 ⟨rfl, hx3⟩
      have hb3 := hb2.trans (hx3.mono hb2.size)
      have hA3 := hA2.below_ hx3
      have hB3 := hB2.below_ hx3
      have hila3 := hila2.below hx3
      have hja3 := hja2.below hx3
      have hilb3 := hilb2.below hx3
      have hjb3 := hjb2.below hx3
      clear hA2 hB2 hila2 hja2 hilb2 hjb2 hx3 hb2
      go_wp2_with fail
      refine (mlives_any _).mono ?_
      rintro e w4 ⟨rfl, hx4⟩
      have hb4 := hb3.trans (hx4.mono hb3.size)
      have hA4 := hA3.below_ hx4
      have hB4 := hB3.below_ hx4
      have hila4 := hila3.below hx4
      have hja4 := hja3.below hx4
      have hilb4 := hilb3.below hx4
      have hjb4 := hjb3.below hx4
      clear hA3 hB3 hila3 hja3 hilb3 hjb3 hx4 hb3
      go_wp2_with (first | (refine wpLoadM 29 (by rfl) (.tmp 2) rfl rfl hA4 _ Try.underlying29 rfl mail_info ?_) | (refine wpLoadM 29 (by rfl) (.tmp 3) rfl rfl hB4 _ Try.underlying29 rfl mail_info ?_))
      refine (hS _ hila4 hja4 hilb4 hjb4).mono ?_
      rintro e w5 ⟨rfl, hx5⟩
      have hb5 := hb4.trans (hx5.mono hb4.size)
      have hA5 := hA4.below_ hx5
      have hB5 := hB4.below_ hx5
      have hila5 := hila4.below hx5
      have hja5 := hja4.below hx5
      have hilb5 := hilb4.below hx5
      have hjb5 := hjb4.below hx5
      clear hA4 hB4 hila4 hja4 hilb4 hjb4 hx5 hb4
      go_wp2_with (first | (refine wpLoadM 29 (by rfl) (.tmp 2) rfl rfl hA5 _ Try.underlying29 rfl mail_info ?_) | (refine wpLoadM 29 (by rfl) (.tmp 3) rfl rfl hB5 _ Try.underlying29 rfl mail_info ?_))
      refine (hSs _ hila5 hja5).mono ?_
      rintro e w6 ⟨rfl, hx6⟩
      have hb6 := hb5.trans (hx6.mono hb5.size)
      have hA6 := hA5.below_ hx6
      have hB6 := hB5.below_ hx6
      have hila6 := hila5.below hx6
      have hja6 := hja5.below hx6
      have hilb6 := hilb5.below hx6
      have hjb6 := hjb5.below hx6
      clear hA5 hB5 hila5 hja5 hilb5 hjb5 hx6 hb5
      go_wp2
      go_ret
      exact ⟨by simp, hb6⟩
    | true =>
      rw [hmb] at hEb
      obtain ⟨EB, hEB⟩ : ∃ E, encM y1 = E := ⟨_, rfl⟩
      obtain ⟨NB, hNB⟩ : ∃ n, EB.length = n := ⟨_, rfl⟩
      rw [hEB] at hEb
      unfold EncPost at hEb
      dsimp only at hEb
      rw [hNB] at hEb
      clear hz hma hmb hyn0 hyn1 hEB hNB
      go_enter Try.func5, Try.ntmps5
      go_wp2_with (first | (refine wpLoadM 29 (by rfl) (.tmp 2) rfl rfl hA0 _ Try.underlying29 rfl mail_info ?_) | (refine wpLoadM 29 (by rfl) (.tmp 3) rfl rfl hB0 _ Try.underlying29 rfl mail_info ?_))
      refine (hEa _ hila0 hja0).mono ?_
      rintro e w1 ⟨hx1, h1⟩
      dsimp only at h1
      subst h1
      have hb1 := hb0.trans (hx1.mono hb0.size)
      have hA1 := hA0.below_ hx1
      have hB1 := hB0.below_ hx1
      have hila1 := hila0.below hx1
      have hja1 := hja0.below hx1
      have hilb1 := hilb0.below hx1
      have hjb1 := hjb0.below hx1
      clear hA0 hB0 hila0 hja0 hilb0 hjb0 hx1 hb0
      go_wp2_with (first | (refine wpLoadM 29 (by rfl) (.tmp 2) rfl rfl hA1 _ Try.underlying29 rfl mail_info ?_) | (refine wpLoadM 29 (by rfl) (.tmp 3) rfl rfl hB1 _ Try.underlying29 rfl mail_info ?_))
      refine (hEb _ hilb1 hjb1).mono ?_
      rintro e w2 ⟨hx2, AG, cG, rfl, hlcG, hcmG, hrb2, _⟩
      clear hlcG hcmG
      have hb2 := hb1.trans (hx2.mono hb1.size)
      have hA2 := hA1.below_ hx2
      have hB2 := hB1.below_ hx2
      have hila2 := hila1.below hx2
      have hja2 := hja1.below hx2
      have hilb2 := hilb1.below hx2
      have hjb2 := hjb1.below hx2
      clear hA1 hB1 hila1 hja1 hilb1 hjb1 hx2 hb1
      go_wp2_with (first | (refine wpLoadM 29 (by rfl) (.tmp 2) rfl rfl hA2 _ Try.underlying29 rfl mail_info ?_) | (refine wpLoadM 29 (by rfl) (.tmp 3) rfl rfl hB2 _ Try.underlying29 rfl mail_info ?_))
      refine (hR _ hila2 hja2 hilb2 hjb2).mono ?_
      rintro e w3 ⟨rfl, hx3⟩
      have hb3 := hb2.trans (hx3.mono hb2.size)
      have hA3 := hA2.below_ hx3
      have hB3 := hB2.below_ hx3
      have hila3 := hila2.below hx3
      have hja3 := hja2.below hx3
      have hilb3 := hilb2.below hx3
      have hjb3 := hjb2.below hx3
      have hrb3 := hrb2.below hx3
      clear hA2 hB2 hila2 hja2 hilb2 hjb2 hx3 hb2 hrb2
      go_wp2_with fail
      refine (mlives_any _).mono ?_
      rintro e w4 ⟨rfl, hx4⟩
      have hb4 := hb3.trans (hx4.mono hb3.size)
      have hA4 := hA3.below_ hx4
      have hB4 := hB3.below_ hx4
      have hila4 := hila3.below hx4
      have hja4 := hja3.below hx4
      have hilb4 := hilb3.below hx4
      have hjb4 := hjb3.below hx4
      have hrb4 := hrb3.below hx4
      clear hA3 hB3 hila3 hja3 hilb3 hjb3 hx4 hb3 hrb3
      go_wp2_with (first | (refine wpLoadM 29 (by rfl) (.tmp 2) rfl rfl hA4 _ Try.underlying29 rfl mail_info ?_) | (refine wpLoadM 29 (by rfl) (.tmp 3) rfl rfl hB4 _ Try.underlying29 rfl mail_info ?_))
      refine (hS _ hila4 hja4 hilb4 hjb4).mono ?_
      rintro e w5 ⟨rfl, hx5⟩
      have hb5 := hb4.trans (hx5.mono hb4.size)
      have hA5 := hA4.below_ hx5
      have hB5 := hB4.below_ hx5
      have hila5 := hila4.below hx5
      have hja5 := hja4.below hx5
      have hilb5 := hilb4.below hx5
      have hjb5 := hjb4.below hx5
      have hrb5 := hrb4.below hx5
      clear hA4 hB4 hila4 hja4 hilb4 hjb4 hx5 hb4 hrb4
      go_wp2_with (first | (refine wpLoadM 29 (by rfl) (.tmp 2) rfl rfl hA5 _ Try.underlying29 rfl mail_info ?_) | (refine wpLoadM 29 (by rfl) (.tmp 3) rfl rfl hB5 _ Try.underlying29 rfl mail_info ?_))
      refine (hSs _ hila5 hja5).mono ?_
      rintro e w6 ⟨rfl, hx6⟩
      have hb6 := hb5.trans (hx6.mono hb5.size)
      have hA6 := hA5.below_ hx6
      have hB6 := hB5.below_ hx6
      have hila6 := hila5.below hx6
      have hja6 := hja5.below hx6
      have hilb6 := hilb5.below hx6
      have hjb6 := hjb5.below hx6
      have hrb6 := hrb5.below hx6
      clear hA5 hB5 hila5 hja5 hilb5 hjb5 hx6 hb5 hrb5
      go_wp2
      go_ret
      exact ⟨by simp, hb6⟩
  | true =>
    rw [hma] at hEa
    cases hmb : mayM y1 with
    | false =>
      rw [hmb] at hEb
      obtain ⟨EA, hEA⟩ : ∃ E, encM y0 = E := ⟨_, rfl⟩
      obtain ⟨NA, hNA⟩ : ∃ n, EA.length = n := ⟨_, rfl⟩
      rw [hEA] at hEa
      unfold EncPost at hEa
      dsimp only at hEa
      rw [hNA] at hEa
      clear hz hma hmb hyn0 hyn1 hEA hNA
      go_enter Try.func5, Try.ntmps5
      go_wp2_with (first | (refine wpLoadM 29 (by rfl) (.tmp 2) rfl rfl hA0 _ Try.underlying29 rfl mail_info ?_) | (refine wpLoadM 29 (by rfl) (.tmp 3) rfl rfl hB0 _ Try.underlying29 rfl mail_info ?_))
      refine (hEa _ hila0 hja0).mono ?_
      rintro e w1 ⟨hx1, AE, cE, rfl, hlcE, hcmE, hra1, _⟩
      clear hlcE hcmE
      have hb1 := hb0.trans (hx1.mono hb0.size)
      have hA1 := hA0.below_ hx1
      have hB1 := hB0.below_ hx1
      have hila1 := hila0.below hx1
      have hja1 := hja0.below hx1
      have hilb1 := hilb0.below hx1
      have hjb1 := hjb0.below hx1
      clear hA0 hB0 hila0 hja0 hilb0 hjb0 hx1 hb0
      go_wp2_with (first | (refine wpLoadM 29 (by rfl) (.tmp 2) rfl rfl hA1 _ Try.underlying29 rfl mail_info ?_) | (refine wpLoadM 29 (by rfl) (.tmp 3) rfl rfl hB1 _ Try.underlying29 rfl mail_info ?_))
      refine (hEb _ hilb1 hjb1).mono ?_
      rintro e w2 ⟨hx2, h1⟩
      dsimp only at h1
      subst h1
      have hb2 := hb1.trans (hx2.mono hb1.size)
      have hA2 := hA1.below_ hx2
      have hB2 := hB1.below_ hx2
      have hila2 := hila1.below hx2
      have hja2 := hja1.below hx2
      have hilb2 := hilb1.below hx2
      have hjb2 := hjb1.below hx2
      have hra2 := hra1.below hx2
      clear hA1 hB1 hila1 hja1 hilb1 hjb1 hx2 hb1 hra1
      go_wp2_with (first | (refine wpLoadM 29 (by rfl) (.tmp 2) rfl rfl hA2 _ Try.underlying29 rfl mail_info ?_) | (refine wpLoadM 29 (by rfl) (.tmp 3) rfl rfl hB2 _ Try.underlying29 rfl mail_info ?_))
      refine (hR _ hila2 hja2 hilb2 hjb2).mono ?_
      rintro e w3 ⟨rfl, hx3⟩
      have hb3 := hb2.trans (hx3.mono hb2.size)
      have hA3 := hA2.below_ hx3
      have hB3 := hB2.below_ hx3
      have hila3 := hila2.below hx3
      have hja3 := hja2.below hx3
      have hilb3 := hilb2.below hx3
      have hjb3 := hjb2.below hx3
      have hra3 := hra2.below hx3
      clear hA2 hB2 hila2 hja2 hilb2 hjb2 hx3 hb2 hra2
      go_wp2_with fail
      refine (mlives_any _).mono ?_
      rintro e w4 ⟨rfl, hx4⟩
      have hb4 := hb3.trans (hx4.mono hb3.size)
      have hA4 := hA3.below_ hx4
      have hB4 := hB3.below_ hx4
      have hila4 := hila3.below hx4
      have hja4 := hja3.below hx4
      have hilb4 := hilb3.below hx4
      have hjb4 := hjb3.below hx4
      have hra4 := hra3.below hx4
      clear hA3 hB3 hila3 hja3 hilb3 hjb3 hx4 hb3 hra3
      go_wp2_with (first | (refine wpLoadM 29 (by rfl) (.tmp 2) rfl rfl hA4 _ Try.underlying29 rfl mail_info ?_) | (refine wpLoadM 29 (by rfl) (.tmp 3) rfl rfl hB4 _ Try.underlying29 rfl mail_info ?_))
      refine (hS _ hila4 hja4 hilb4 hjb4).mono ?_
      rintro e w5 ⟨rfl, hx5⟩
      have hb5 := hb4.trans (hx5.mono hb4.size)
      have hA5 := hA4.below_ hx5
      have hB5 := hB4.below_ hx5
      have hila5 := hila4.below hx5
      have hja5 := hja4.below hx5
      have hilb5 := hilb4.below hx5
      have hjb5 := hjb4.below hx5
      have hra5 := hra4.below hx5
      clear hA4 hB4 hila4 hja4 hilb4 hjb4 hx5 hb4 hra4
      go_wp2_with (first | (refine wpLoadM 29 (by rfl) (.tmp 2) rfl rfl hA5 _ Try.underlying29 rfl mail_info ?_) | (refine wpLoadM 29 (by rfl) (.tmp 3) rfl rfl hB5 _ Try.underlying29 rfl mail_info ?_))
      refine (hSs _ hila5 hja5).mono ?_
      rintro e w6 ⟨rfl, hx6⟩
      have hb6 := hb5.trans (hx6.mono hb5.size)
      have hA6 := hA5.below_ hx6
      have hB6 := hB5.below_ hx6
      have hila6 := hila5.below hx6
      have hja6 := hja5.below hx6
      have hilb6 := hilb5.below hx6
      have hjb6 := hjb5.below hx6
      have hra6 := hra5.below hx6
      clear hA5 hB5 hila5 hja5 hilb5 hjb5 hx6 hb5 hra5
      go_wp2
      go_ret
      exact ⟨by simp, hb6⟩
    | true =>
      rw [hmb] at hEb
      have hzz : decide (encM y0 = encM y1) = z := by
        cases hq : z with
        | true =>
          rw [hq] at hz
          exact decide_eq_true (by rw [(sameM_iff _ _).1 hz])
        | false =>
          rw [hq] at hz
          refine decide_eq_false (fun h => ?_)
          have := (sameM_iff _ _).2 (encM_inj hma hmb hyn0 hyn1 h)
          rw [hz] at this
          cases this
      obtain ⟨EA, hEA⟩ : ∃ E, encM y0 = E := ⟨_, rfl⟩
      obtain ⟨NA, hNA⟩ : ∃ n, EA.length = n := ⟨_, rfl⟩
      rw [hEA] at hEa hzz
      unfold EncPost at hEa
      dsimp only at hEa
      rw [hNA] at hEa
      obtain ⟨EB, hEB⟩ : ∃ E, encM y1 = E := ⟨_, rfl⟩
      obtain ⟨NB, hNB⟩ : ∃ n, EB.length = n := ⟨_, rfl⟩
      rw [hEB] at hEb hzz
      unfold EncPost at hEb
      dsimp only at hEb
      rw [hNB] at hEb
      clear hz hma hmb hyn0 hyn1 hEA hNA hEB hNB
      go_enter Try.func5, Try.ntmps5
      go_wp2_with (first | (refine wpLoadM 29 (by rfl) (.tmp 2) rfl rfl hA0 _ Try.underlying29 rfl mail_info ?_) | (refine wpLoadM 29 (by rfl) (.tmp 3) rfl rfl hB0 _ Try.underlying29 rfl mail_info ?_))
      refine (hEa _ hila0 hja0).mono ?_
      rintro e w1 ⟨hx1, AE, cE, rfl, hlcE, hcmE, hra1, _⟩
      clear hlcE hcmE
      have hb1 := hb0.trans (hx1.mono hb0.size)
      have hA1 := hA0.below_ hx1
      have hB1 := hB0.below_ hx1
      have hila1 := hila0.below hx1
      have hja1 := hja0.below hx1
      have hilb1 := hilb0.below hx1
      have hjb1 := hjb0.below hx1
      clear hA0 hB0 hila0 hja0 hilb0 hjb0 hx1 hb0
      go_wp2_with (first | (refine wpLoadM 29 (by rfl) (.tmp 2) rfl rfl hA1 _ Try.underlying29 rfl mail_info ?_) | (refine wpLoadM 29 (by rfl) (.tmp 3) rfl rfl hB1 _ Try.underlying29 rfl mail_info ?_))
      refine (hEb _ hilb1 hjb1).mono ?_
      rintro e w2 ⟨hx2, AG, cG, rfl, hlcG, hcmG, hrb2, _⟩
      clear hlcG hcmG
      have hb2 := hb1.trans (hx2.mono hb1.size)
      have hA2 := hA1.below_ hx2
      have hB2 := hB1.below_ hx2
      have hila2 := hila1.below hx2
      have hja2 := hja1.below hx2
      have hilb2 := hilb1.below hx2
      have hjb2 := hjb1.below hx2
      have hra2 := hra1.below hx2
      clear hA1 hB1 hila1 hja1 hilb1 hjb1 hx2 hb1 hra1
      go_wp2_with (first | (refine wpLoadM 29 (by rfl) (.tmp 2) rfl rfl hA2 _ Try.underlying29 rfl mail_info ?_) | (refine wpLoadM 29 (by rfl) (.tmp 3) rfl rfl hB2 _ Try.underlying29 rfl mail_info ?_))
      refine (hR _ hila2 hja2 hilb2 hjb2).mono ?_
      rintro e w3 ⟨rfl, hx3⟩
      have hb3 := hb2.trans (hx3.mono hb2.size)
      have hA3 := hA2.below_ hx3
      have hB3 := hB2.below_ hx3
      have hila3 := hila2.below hx3
      have hja3 := hja2.below hx3
      have hilb3 := hilb2.below hx3
      have hjb3 := hjb2.below hx3
      have hra3 := hra2.below hx3
      have hrb3 := hrb2.below hx3
      clear hA2 hB2 hila2 hja2 hilb2 hjb2 hx3 hb2 hra2 hrb2
      go_wp2_with fail
      refine (mlives_any _).mono ?_
      rintro e w4 ⟨rfl, hx4⟩
      have hb4 := hb3.trans (hx4.mono hb3.size)
      have hA4 := hA3.below_ hx4
      have hB4 := hB3.below_ hx4
      have hila4 := hila3.below hx4
      have hja4 := hja3.below hx4
      have hilb4 := hilb3.below hx4
      have hjb4 := hjb3.below hx4
      have hra4 := hra3.below hx4
      have hrb4 := hrb3.below hx4
      clear hA3 hB3 hila3 hja3 hilb3 hjb3 hx4 hb3 hra3 hrb3
      go_wp2_with (first | (refine wpLoadM 29 (by rfl) (.tmp 2) rfl rfl hA4 _ Try.underlying29 rfl mail_info ?_) | (refine wpLoadM 29 (by rfl) (.tmp 3) rfl rfl hB4 _ Try.underlying29 rfl mail_info ?_))
      refine (hS _ hila4 hja4 hilb4 hjb4).mono ?_
      rintro e w5 ⟨rfl, hx5⟩
      have hb5 := hb4.trans (hx5.mono hb4.size)
      have hA5 := hA4.below_ hx5
      have hB5 := hB4.below_ hx5
      have hila5 := hila4.below hx5
      have hja5 := hja4.below hx5
      have hilb5 := hilb4.below hx5
      have hjb5 := hjb4.below hx5
      have hra5 := hra4.below hx5
      have hrb5 := hrb4.below hx5
      clear hA4 hB4 hila4 hja4 hilb4 hjb4 hx5 hb4 hra4 hrb4
      go_wp2_with (first | (refine wpLoadM 29 (by rfl) (.tmp 2) rfl rfl hA5 _ Try.underlying29 rfl mail_info ?_) | (refine wpLoadM 29 (by rfl) (.tmp 3) rfl rfl hB5 _ Try.underlying29 rfl mail_info ?_))
      refine (hSs _ hila5 hja5).mono ?_
      rintro e w6 ⟨rfl, hx6⟩
      have hb6 := hb5.trans (hx6.mono hb5.size)
      have hA6 := hA5.below_ hx6
      have hB6 := hB5.below_ hx6
      have hila6 := hila5.below hx6
      have hja6 := hja5.below hx6
      have hilb6 := hilb5.below hx6
      have hjb6 := hjb5.below hx6
      have hra6 := hra5.below hx6
      have hrb6 := hrb5.below hx6
      clear hA5 hB5 hila5 hja5 hilb5 hjb5 hx6 hb5 hra5 hrb5
      have hs1 := run_str w6 AE NA cE EA hra6
      have hs2 := run_str w6 AG NB cG EB hrb6
      go_wp2
      go_ret
      exact ⟨by simp; rw [← hzz]; by_cases h : EA = EB <;> simp [h], hb6⟩

namespace mailSameDone
open Go.ChangeShapes Go.WideShapes Go.ChangeAt
set_option maxRecDepth 100000 in
theorem lifted (os : Os) (started : os.Started) (H : Type) (enc : TypeId × Value → H) :
    ReturnsInHanded {} Try.checked os 5 .any (Rows.mailSameSpec.pre6 enc Try.prog Try.f5 Rows.mailSameRow.domain false) (Rows.mailSameSpec.post enc Try.prog Try.f5 false true false false) := by
  refine returnsInHanded_of_change_sized (C := Try.checked) own started (by kernel_rfl) Try.func5
    (ChangeSpec.witness6 (enc := enc) (C := Try.checked) false ⟨#[], #[Value.agg #[.int .i64 0, .int .i64 0, .slice none 0 0, .int .i64 0, .int .i64 0, .int .i64 0, .int .i64 0, .int .i64 0, .int .i64 0, .int .i64 0, .string ⟨#[]⟩, .slice none 0 0, .int .i64 0, .int .i64 0, .int .i64 0, .int .i64 0], Value.agg #[.int .i64 0, .int .i64 0, .slice none 0 0, .int .i64 0, .int .i64 0, .int .i64 0, .int .i64 0, .int .i64 0, .int .i64 0, .int .i64 0, .string ⟨#[]⟩, .slice none 0 0, .int .i64 0, .int .i64 0, .int .i64 0, .int .i64 0]], []⟩ 8 (by kernel_rfl) (by kernel_rfl) (by kernel_rfl) (by kernel_rfl)) ?_
  intro W base args ds gs before hval0 hW hcnd hsz0 _
  have hsz : (DataW.weightsEach Try.prog (Try.f5.params.toList ++ Rows.mailSameSpec.plain.varTypes Try.prog) (ds ++ gs)).all (· ≤ reachBytes) = true := hsz0
  clear hsz0
  have hval : ∀ (j : Nat) t v, Try.f5.params[j]? = some t → args[j]? = some v → Value.okWide Try.prog W .any base t v := hval0
  have hW' := hW
  obtain ⟨p, q, hA0, hV, rfl, hfz, hnd⟩ := hW
  have hA : DataW.TrodAll enc Try.prog W 0 (fun _ => true) true Try.f5.params.toList args.toList ds p := hA0
  rw [Try.params5] at hA hval hsz
  obtain ⟨v0, vs0, d0, ds0, p0, q0, hargs, rfl, rfl, h0, r0⟩ := trodAll_cons hA
  obtain ⟨v1, vs1, d1, ds1, p1, q1, rfl, rfl, rfl, h1, r1⟩ := trodAll_cons r0
  obtain ⟨rfl, rfl, rfl⟩ := trodAll_nil r1
  obtain rfl : args = #[v0, v1] := by cases args; simp_all
  obtain ⟨rfl, rfl⟩ := trodVars_none hV
  obtain ⟨y0, A0, cap0, B0, capb0, rfl, hil0, hal0, hwl0, hwal0, hwf0⟩ := mail_open (hval 0 29 v0 rfl rfl) h0
  have k0' := h0
  have lt0 : ∀ x ∈ p0, x.block < W.heap.size := by obtain ⟨m, hm⟩ := h0; exact DataW.trod_lt m _ _ _ hm
  obtain ⟨y1, A1, cap1, B1, capb1, rfl, hil1, hal1, hwl1, hwal1, hwf1⟩ := mail_open (hval 1 29 v1 rfl rfl) h1
  have k1' := h1
  have lt1 : ∀ x ∈ p1, x.block < W.heap.size := by obtain ⟨m, hm⟩ := h1; exact DataW.trod_lt m _ _ _ hm
  clear hA0 hval0
  refine (mailSame_walk (w := W) y0 A0 cap0 B0 capb0 hil0 hal0 hwl0 hwal0 hwf0 y1 A1 cap1 B1 capb1 hil1 hal1 hwl1 hwal1 hwf1).mono fun e W' ⟨he, bel⟩ => ?_
  subst he
  exact ⟨_, rfl, _, _, _, [], _, [], hW', trodAll_mk1 (shut_bool Try.underlying4 _), (trodAll_cons_mk (Below.trod laidOut (by kernel_rfl) (of_decide_eq_true (by kernel_rfl)) k0' bel lt0) (trodAll_cons_mk (Below.trod laidOut (by kernel_rfl) (of_decide_eq_true (by kernel_rfl)) k1' bel lt1) trodAll_mk0)), rfl, bel.frame _, fun h => by cases h⟩

theorem over : Rows.mailSameRow.holds Try.pinned (OpenSpec.ofChange Rows.mailSameSpec) :=
  OpenClaim.holds_of_wide 5 Try.f5 rfl rfl rfl rfl rfl rfl rfl ⟨rfl, rfl, rfl, rfl, rfl⟩ rfl rfl rfl rfl rfl (by kernel_rfl) Try.func5 (by kernel_rfl)
    (of_decide_eq_true (by kernel_rfl)) (by unfold Func.isWrapper; first | (rw [if_pos (by decide +kernel)]; kernel_rfl) | (rw [if_neg (by decide +kernel)]; exact ⟨rfl, rfl⟩))
    (fun os started H enc _ => lifted os started H enc)

/-- The statement. -/
theorem proved : Rows.MailSameSaid := over
end mailSameDone
end Go.Proofs.Ytefgcknnnglkpaa
