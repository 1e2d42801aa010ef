/- What the laws' rows take of their arguments; a device under a Stop. No condition. -/
import Derived.Test.YtakgmddmlcngoaaFlush
import Derived.ProofKit
import Derived.OpenShut
import Derived.ShutString
import Derived.ChangeOld
import Derived.SizedLaws
namespace Go.Proofs.Ytakgmddmlcngoaa
open Go.RowKit Go.Maps
set_option linter.unusedVariables false

theorem own : ownKnob Try.prog.godebug = none := by kernel_rfl
theorem laidOut : laidOutB Try.prog = true := by kernel_rfl
theorem wf_int {a : Int} (h : (Lit.int .i64 a).wf = true) : -9223372036854775808 ≤ a ∧ a ≤ 9223372036854775807 := by
  simpa [Lit.wf, IntKind.min, IntKind.max, IntKind.signed, IntKind.bits] using h
theorem nat_u8 {a : Int} (h : (Lit.int .u8 a).wf = true) : ∃ b : UInt8, a = (b.toNat : Int) := by
  simp [Lit.wf, IntKind.min, IntKind.max, IntKind.signed, IntKind.bits] at h
  exact ⟨UInt8.ofNat a.toNat, by simp; omega⟩

theorem DEV.with_db {w w' : World} {g n bm gs N : Nat} {left wt fl left' wt' fl' : Int} {sure : List (List UInt8)} {D : DataW Value} (h : DEV w g n bm gs left wt fl sure D N) (k : Keep (fun i => i = g) w w') (db : DB w' g (some ⟨gs, 0, none⟩) n n bm left' wt' fl') : DEV w' g n bm gs left' wt' fl' sure D N :=
  ⟨db, h.len, h.each, h.row.kept k (fun e => h.gg e.symm), ownsMap_kept h.mp k (fun e => h.gb e.symm), h.gb, h.gg, h.bg⟩
theorem spent_pos (m k : Nat) (h : k < m) (hm : m ≤ 1048576) : spent ((m : Int) - (k : Int)) = (m : Int) - ((k + 1 : Nat) : Int) := by
  unfold spent
  rw [if_pos (by omega), IntWalk.wrap64_in _ (by omega)]
  omega
end Go.Proofs.Ytakgmddmlcngoaa
