/- Block: 64 bytes of the statements' own. No condition. -/
import Derived.Test.YtakgmddmlcngoaaDirty
namespace Go.Proofs.Ytakgmddmlcngoaa
open Go.RowKit Go.Maps
set_option linter.unusedVariables false
set_option linter.unusedSimpArgs false

def blockAt (b : UInt8) (i : Nat) : UInt8 := b + UInt8.ofNat (i % 7)
def blockL (b : UInt8) : List UInt8 := (List.range 64).map (blockAt b)
theorem blockL_len (b : UInt8) : (blockL b).length = 64 := by simp [blockL]
theorem blockL_take (b : UInt8) (k : Nat) (h : k < 64) : (blockL b).take (k + 1) = (blockL b).take k ++ [blockAt b k] := by
  rw [List.take_add_one]
  simp [blockL, h]
theorem block_add (b : UInt8) (k : Nat) (z : Int) (hz : z = ((b.toNat : Int) + ((k : Int) % 7)) % 256) : z = ((blockAt b k).toNat : Int) := by
  subst hz
  unfold blockAt
  rw [UInt8.toNat_add, UInt8.toNat_ofNat']
  omega

set_option maxRecDepth 100000 in
theorem block_any (b : UInt8) (w : World) : Calls Try.prog 18 #[.int .u8 (b.toNat : Int)] w fun e w' => ∃ v, e = .returned v ∧ OB w.heap.size w' v (blockL b) ∧ Below w.heap.size w w' := by
  go_enter Try.func18, Try.ntmps18
  go_wp2
  go_loopw [3, 4] (fun v iv wr => ∃ k : Nat, iv = .int .i64 (k : Int) ∧ k ≤ 64 ∧ OB w.heap.size wr v ((blockL b).take k) ∧ Below w.heap.size w wr) (fun _ v _ => 64 - (intOf v).toNat)
  case atStart => exact ⟨0, by go_num, by omega, OB.nil _ _, Below.refl _ _⟩
  case round =>
    obtain ⟨k, rfl, hk, ho, hb⟩ := hrel
    by_cases hlt : k < 64
    · have hlz : (k : Int) < 64 := by omega
      have hbb : b.toNat < 256 := b.toNat_lt
      have hlen : ((blockL b).take k).length = k := by rw [List.length_take, blockL_len]; omega
      go_wp2_with (at_builtin; refine wpApp rfl (.tmp 9) (.tmp 15) rfl w.heap.size _ _ rfl (ho.alloc _) (some ⟨wr.heap.size, 0, none⟩) 1 1 [blockAt b k] rfl (RB.one_ wr _ (blockAt b k) (block_add b k _ (by first | rfl | (simp [IntKind.wrap, IntKind.bits, IntKind.signed]; done) | (simp [IntKind.wrap, IntKind.bits, IntKind.signed]; omega))) _) (by omega) (Nat.le_trans hb.size (by simp)) ?_; intro v2 w2 hg2; have hb2 := hb.trans (((Below.refl wr.heap.size wr).alloc (Nat.le_refl _) _ |>.mono hb.size).trans (hg2.below (ho.alloc _) (Nat.le_trans hb.size (by simp)))); have ho2 := hg2.own; rw [← blockL_take b k hlt] at ho2)
      go_roundw
      case measure => simp [intOf]; omega
      case rel => exact ⟨k + 1, by go_num, by omega, ho2, hb2⟩
    · have hlz : ¬ (k : Int) < 64 := by omega
      rw [List.take_of_length_le (by rw [blockL_len]; omega)] at ho
      go_wp2
      go_ret
      exact ⟨_, rfl, ho, hb⟩
end Go.Proofs.Ytakgmddmlcngoaa
