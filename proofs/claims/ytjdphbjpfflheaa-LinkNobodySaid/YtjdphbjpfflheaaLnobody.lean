/- 'LinkNobody' returns true for every input: the row of this law, proved. No condition. -/
import Derived.Test.YtjdphbjpfflheaaLkB
import Derived.ProofKit
import Derived.OpenShut
import Derived.ShutString
import Derived.ChangeOld
import Derived.SizedLaws
namespace Go.Proofs.Ytjdphbjpfflheaa
open Go.RowKit
set_option linter.unusedVariables false
set_option linter.unusedSimpArgs false
theorem pkN_eq : pkN = PKV pk0.seq pk0.ack none 0 0 := rfl
set_option maxRecDepth 100000 in
set_option maxHeartbeats 6400000 in
theorem linkNobody_walk {w : World} (o0 : OpL) (A0 : Option Addr) (c0 : Nat) (ho0 : OpLAt w o0 A0 c0) :
    Calls Try.prog 7 #[.agg #[.int .i64 o0.k, .int .i64 o0.now, .int .i64 o0.p.seq, .int .i64 o0.p.ack, .slice A0 o0.p.body.length c0]] w fun e w' => e = .returned (.bool true) ∧ Below w.heap.size w w' := by
  obtain ⟨k, now, ⟨s, a, body⟩⟩ := o0
  dsimp only
  obtain ⟨n, hn⟩ : ∃ n, body.length = n := ⟨_, rfl⟩
  rw [hn]
  clear ho0 hn
  have hb1 := (Below.refl w.heap.size w).alloc (Nat.le_refl _) (.cells #[.int .i64 k, .int .i64 now, .int .i64 s, .int .i64 a, .slice A0 n c0] 34)
  have hx1 := Blk.new w 34 #[.int .i64 k, .int .i64 now, .int .i64 s, .int .i64 a, .slice A0 n c0]
  go_enter Try.func7, Try.ntmps7
  go_wp2_with fail
  refine (send_nil A0 n c0 now _).mono ?_
  rintro e w2 ⟨rfl, hx2⟩
  rw [pkN]
  have hb2 := hb1.trans (hx2.mono hb1.size)
  have hbx2 := hx1.kept (Keep.of_below hx2) (Nat.not_le.2 hx1.lt)
  clear hb1 hx1 hx2
  have hb3 := hb2.alloc hb2.size (.cells #[.int .i64 0, .int .i64 0, .slice none 0 0] 32)
  have hbx3 := hbx2.alloc (.cells #[.int .i64 0, .int .i64 0, .slice none 0 0] 32)
  have hp3 := Blk.new w2 32 #[.int .i64 0, .int .i64 0, .slice none 0 0]
  have g2 := hbx2.cell 2
  have g3 := hbx2.cell 3
  have g4 := hbx2.cell 4
  have hwl := hbx2.lt
  simp at g2 g3 g4
  go_wp2_with fail
  refine (on_nil s a A0 n c0 _).mono ?_
  rintro e w4 ⟨rfl, hx4⟩
  rw [pkN]
  have hb4 := hb3.trans (hx4.mono hb3.size)
  have hbx4 := hbx3.kept (Keep.of_below hx4) (Nat.not_le.2 hbx3.lt)
  have hp4 := hp3.kept (Keep.of_below hx4) (Nat.not_le.2 hp3.lt)
  clear hb2 hb3 hbx2 hbx3 hp3 hx4 g2 g3 g4
  have hb5 := hb4.alloc hb4.size (.cells #[.int .i64 0, .int .i64 0, .slice none 0 0] 32)
  have hbx5 := hbx4.alloc (.cells #[.int .i64 0, .int .i64 0, .slice none 0 0] 32)
  have hp5 := hp4.alloc (.cells #[.int .i64 0, .int .i64 0, .slice none 0 0] 32)
  have hq5 := Blk.new w4 32 #[.int .i64 0, .int .i64 0, .slice none 0 0]
  clear hb4 hbx4 hp4
  go_wp2_with fail
  refine (lives_any _).mono ?_
  rintro e w6 ⟨rfl, hx6⟩
  have hb6 := hb5.trans (hx6.mono hb5.size)
  have hbx6 := hbx5.kept (Keep.of_below hx6) (Nat.not_le.2 hbx5.lt)
  have hp6 := hp5.kept (Keep.of_below hx6) (Nat.not_le.2 hp5.lt)
  have hq6 := hq5.kept (Keep.of_below hx6) (Nat.not_le.2 hq5.lt)
  clear hb5 hbx5 hp5 hq5 hx6
  have p0 := hp6.cell 0
  have p1 := hp6.cell 1
  have p2 := hp6.cell 2
  simp at p0 p1 p2
  go_wp2_with fail
  refine (rsame_any pk0 pk0 none none 0 0 0 0 _ (RB.nil _ _) (RB.nil _ _)).mono ?_
  rintro e w7 ⟨rfl, hx7⟩
  rw [sameP_self]
  have hb7 := hb6.trans (hx7.mono hb6.size)
  have hbx7 := hbx6.kept (Keep.of_below hx7) (Nat.not_le.2 hbx6.lt)
  have hp7 := hp6.kept (Keep.of_below hx7) (Nat.not_le.2 hp6.lt)
  have hq7 := hq6.kept (Keep.of_below hx7) (Nat.not_le.2 hq6.lt)
  clear hb6 hbx6 hp6 hq6 hx7 p0 p1 p2
  have x1 := hbx7.cell 1
  simp at x1
  go_wp2_with fail
  refine (tick_nil now _).mono ?_
  rintro e w8 ⟨rfl, hx8⟩
  have hb8 := hb7.trans (hx8.mono hb7.size)
  have hp8 := hp7.kept (Keep.of_below hx8) (Nat.not_le.2 hp7.lt)
  have hq8 := hq7.kept (Keep.of_below hx8) (Nat.not_le.2 hq7.lt)
  clear hb7 hbx7 hp7 hq7 hx8 x1
  have p0 := hp8.cell 0
  have p1 := hp8.cell 1
  have p2 := hp8.cell 2
  have q0 := hq8.cell 0
  have q1 := hq8.cell 1
  have q2 := hq8.cell 2
  simp at p0 p1 p2 q0 q1 q2
  go_wp2_with fail
  refine (rsame_any pk0 pk0 none none 0 0 0 0 _ (RB.nil _ _) (RB.nil _ _)).mono ?_
  rintro e w9 ⟨rfl, hx9⟩
  rw [sameP_self]
  have hb9 := hb8.trans (hx9.mono hb8.size)
  clear hb8 hp8 hq8 hx9 p0 p1 p2 q0 q1 q2
  go_wp2_with (first | (go_at_call 20; refine (open_nil _).mono ?_; rintro e w' ⟨rfl, rfl⟩) | (go_at_call 21; refine (mark_nil _).mono ?_; rintro e w' ⟨rfl, rfl⟩) | (go_at_call 22; refine (sent_nil _).mono ?_; rintro e w' ⟨rfl, rfl⟩))
  go_ret
  exact ⟨rfl, hb9⟩

namespace linkNobodyDone
open Go.ChangeShapes Go.WideShapes Go.ChangeAt
set_option maxRecDepth 100000 in
theorem lifted (os : Os) (started : os.Started) (H : Type) (enc : TypeId × Value → H) :
    ReturnsInHanded {} Try.checked os 7 .any (Rows.linkNobodySpec.pre6 enc Try.prog Try.f7 Rows.linkNobodyRow.domain false) (Rows.linkNobodySpec.post enc Try.prog Try.f7 false true false false) := by
  refine returnsInHanded_of_change_sized (C := Try.checked) own started (by kernel_rfl) Try.func7
    (ChangeSpec.witness6 (enc := enc) (C := Try.checked) false ⟨#[], #[Value.agg #[.int .i64 0, .int .i64 0, .int .i64 0, .int .i64 0, .slice none 0 0]], []⟩ 8 (by kernel_rfl) (by kernel_rfl) (by kernel_rfl) (by kernel_rfl)) ?_
  intro W base args ds gs before hval0 hW hcnd hsz0 _
  have hsz : (DataW.weightsEach Try.prog (Try.f7.params.toList ++ Rows.linkNobodySpec.plain.varTypes Try.prog) (ds ++ gs)).all (· ≤ reachBytes) = true := hsz0
  clear hsz0
  have hval : ∀ (j : Nat) t v, Try.f7.params[j]? = some t → args[j]? = some v → Value.okWide Try.prog W .any base t v := hval0
  have hW' := hW
  obtain ⟨p, q, hA0, hV, rfl, hfz, hnd⟩ := hW
  have hA : DataW.TrodAll enc Try.prog W 0 (fun _ => true) true Try.f7.params.toList args.toList ds p := hA0
  rw [Try.params7] at hA hval hsz
  obtain ⟨v0, vs0, d0, ds0, p0, q0, hargs, rfl, rfl, h0, r0⟩ := trodAll_cons hA
  obtain ⟨rfl, rfl, rfl⟩ := trodAll_nil r0
  obtain rfl : args = #[v0] := by cases args; simp_all
  obtain ⟨rfl, rfl⟩ := trodVars_none hV
  obtain ⟨o0, A0, c0, rfl, ho0⟩ := opl_open (hval 0 34 v0 rfl rfl) h0
  have k0' := h0
  have lt0 : ∀ x ∈ p0, x.block < W.heap.size := by obtain ⟨m, hm⟩ := h0; exact DataW.trod_lt m _ _ _ hm
  clear hA0 hval0
  refine (linkNobody_walk (w := W) o0 A0 c0 ho0).mono fun e W' ⟨he, bel⟩ => ?_
  subst he
  exact ⟨_, rfl, _, _, _, [], _, [], hW', trodAll_mk1 (shut_bool Try.underlying4 _), (trodAll_cons_mk (Below.trod laidOut (by kernel_rfl) (of_decide_eq_true (by kernel_rfl)) k0' bel lt0) trodAll_mk0), rfl, bel.frame _, fun h => by cases h⟩

theorem over : Rows.linkNobodyRow.holds Try.pinned (OpenSpec.ofChange Rows.linkNobodySpec) :=
  OpenClaim.holds_of_wide 7 Try.f7 rfl rfl rfl rfl rfl rfl rfl ⟨rfl, rfl, rfl, rfl, rfl⟩ rfl rfl rfl rfl rfl (by kernel_rfl) Try.func7 (by kernel_rfl)
    (of_decide_eq_true (by kernel_rfl)) (by unfold Func.isWrapper; first | (rw [if_pos (by decide +kernel)]; kernel_rfl) | (rw [if_neg (by decide +kernel)]; exact ⟨rfl, rfl⟩))
    (fun os started H enc _ => lifted os started H enc)

/-- The statement. -/
theorem proved : Rows.LinkNobodySaid := over
end linkNobodyDone
end Go.Proofs.Ytjdphbjpfflheaa
