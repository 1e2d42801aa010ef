/- Moves: the iterators over a map by its keys in order, of maps that are. No condition but the maps' size. -/
import Derived.Test.YtligpmnpfdaknaaMvR
import Derived.Test.YtligpmnpfdaknaaRio
import Derived.Test.YtligpmnpfdaknaaApJ
namespace Go.Proofs.Ytligpmnpfdaknaa
open Go.RowKit Go.Maps Go.Shelf Go.Sort
set_option linter.unusedVariables false
set_option linter.unusedSimpArgs false
attribute [local go_sem] Oper.semAt_some

def sortI (l : List Int) : List Int := l.mergeSort (fun x y => decide (x ≤ y))
theorem sortI_perm {l l' : List Int} (h : l.Perm l') : sortI l = sortI l' := mergeSort_of_perm_i h
theorem sortI_len (l : List Int) : (sortI l).length = l.length := List.length_mergeSort l
theorem ownsMap_kx {n₀ : Nat} {S : Nat → Prop} {w w' : World} {R : Value → Option (DataW Value × List MemPlace)} {k : TypeId} {b n : Nat} {D : DataW Value} (h : w.ownsMap Try.prog k R b n D) (hk : KX n₀ S w w') (hb : b < n₀) (hs : ¬ S b) : w'.ownsMap Try.prog k R b n D := by
  obtain ⟨es, clock, hb', F, h2⟩ := h
  exact ⟨es, clock, (hk.block b hb hs).trans hb', F, h2⟩
theorem kx_own {β : Type} (S : Nat → Prop) (w : World) : OwnFrom w.heap.size (fun (_ : β) W => KX w.heap.size S w W) :=
  fun s A A' row hs hg hr => ⟨Nat.le_trans hs.size hg.size, fun k hk hn => (hg.block k (Nat.lt_of_lt_of_le hk hs.size) (fun e => by have := (hr k e.symm).1; omega)).trans (hs.block k hk hn)⟩
theorem KX.kx' {S : Nat → Prop} {a w w' : World} (h : KX a.heap.size S a w) (k : Keep S w w') : KX a.heap.size S a w' := h.trans ⟨k.size, fun i hi hs => k.block i (Nat.lt_of_lt_of_le hi h.size) hs⟩
set_option maxRecDepth 100000 in
set_option maxHeartbeats 3200000 in
theorem krise_gives (B mb N : Nat) (D0 : DataW Value) (S : Nat → Prop) (w : World) (hS : ∀ k, S k → k < w.heap.size) (hc : w.cell? ⟨B, 0, none⟩ = some (.map (some mb))) (hown : w.ownsMap Try.prog 3 rR mb N D0) (hN : Go.Maps.size D0 ≤ 1048576) :
    SeqO 56 #[.pointer (some ⟨B, 0, none⟩)] (fun x : Int => #[.int .i64 x]) (sortI (intKeys D0)) S w := fun l J Jx W hW hl0 hlW hJ hJx hY h0 => by
  have hc' := (hW.cell (World.block_lt_of_cell? _ _ hc)).trans hc
  have hown' := ownsMap_kept hown (Keep.of_below hW) (by have := hown.lt; omega)
  obtain ⟨L, hL⟩ : ∃ L, sortI (intKeys D0) = L := ⟨_, rfl⟩
  rw [hL] at hY ⊢
  have hso := sortedI_any mb N D0 rR W hown' (by unfold maxLen; omega) (by omega)
  refine callsIn_of_wp Try.func56 rfl trivial ?_ rfl
  simp only [Try.ntmps56, List.size_toArray, List.length_cons, List.length_nil, Nat.reduceAdd, Nat.reduceSub, Array.replicate_succ, Array.replicate_zero, List.push_toArray, List.append_toArray, List.nil_append, List.cons_append]
  gi_wp2_with (first | (refine ⟨trivial, ?_⟩; gi_at_call 58; refine (callsIn_wide.2 (keysI_any (some mb) W)).mono ?_; rintro e w1 ⟨rfl, rfl⟩) | (refine ⟨trivial, ?_⟩; gi_at_call 57; refine (callsIn_wide.2 hso).mono ?_; rintro e w2 ⟨v, ss, rfl, hperm, hrow, -, hb⟩; (have hrow' : OJ (W.alloc (.cells #[.map (some mb)] 59)).heap.size w2 v (sortI ss) := (by unfold OJ; rw [sortI_len]; exact hrow)); obtain ⟨A, cap, rfl, hcap1, hcap2, hIR, hAb⟩ := hrow'.form; clear hrow hrow'))
  have hb0 := ((Below.refl W.heap.size W).alloc (Nat.le_refl _) (.cells #[.map (some mb)] 59)).trans (hb.mono (by simp))
  have hJ2 := hJ _ _ _ none h0 (grown_below hb0) (fun r e => by cases e)
  have hz2 := hb0.size
  rw [sortI_perm hperm, hL] at hIR hcap1 ⊢
  have hAb2 : ∀ ad, A = some ad → W.heap.size ≤ ad.block := fun ad e => by have := (hAb ad e).1; simp at this; omega
  obtain ⟨n, hn⟩ : ∃ n, L.length = n := ⟨_, rfl⟩
  rw [hn] at hIR hcap1 ⊢
  have hn9 : n ≤ 9223372036854775807 := by unfold maxLen at hcap2; omega
  have hSW : ∀ k, S k → k < W.heap.size := fun k h => Nat.lt_of_lt_of_le (hS k h) hW.size
  clear hso h0 hc hc' hb hb0 hown hown' hperm hAb hL hS
  replace hn := Lib.hid hn
  gi_loopw [9] (fun i wr => ∃ k : Nat, i = .int .i64 (k : Int) ∧ k ≤ n ∧ J (L.take k) wr ∧ Cnt.IR wr A n L ∧ W.heap.size ≤ wr.heap.size) (fun i _ => n - (intOf i).toNat)
  case atStart => exact ⟨0, by go_num, by omega, by simpa using hJ2, hIR, hz2⟩
  case round =>
    clear hJ2 hIR hz2
    obtain ⟨k, rfl, hk, hJs, hIR, hz⟩ := hrel
    by_cases hlt : k < n
    · have hlz : (k : Int) < (n : Int) := by omega
      obtain ⟨b, off, x, rfl, hx, hcell⟩ := hIR.place hlt
      have ht : L.take (k + 1) = L.take k ++ [x] := by rw [List.take_add_one, hx]; rfl
      have hpre : L.take k ++ [x] <+: L := by rw [← ht]; exact List.take_prefix _ _
      obtain ⟨fn, tmps, assign, body, hy, hR⟩ := hY (L.take k) x wr hpre hz hJs
      have hbb := hAb2 _ rfl
      dsimp only at hbb
      rw [← ht] at hR
      clear hx ht hpre
      gi_wp2
      refine hR.mono ?_
      rintro e W3 ⟨hk3, ⟨rfl, hJ3⟩ | ⟨rfl, hJx3⟩⟩
      · have hIR3 := hIR.kept hk3 (fun ad e h => by
          cases e
          dsimp only at h
          rcases h with h | h
          · have := hSW _ h
            omega
          · omega)
        have hz3 := Nat.le_trans hz hk3.size
        gi_wp2
        go_roundw
        case rel => exact ⟨k + 1, by go_num, by omega, hJ3, hIR3, hz3⟩
        case measure => simp [intOf]; omega
      · gi_wp2
        refine bodyPost_ret (results_none rfl _ _ _) rfl ?_
        exact ⟨⟨_, rfl⟩, .inr ⟨_, List.take_prefix _ _, hJx3⟩⟩
    · have hlz : ¬ (k : Int) < (n : Int) := by omega
      have hkn : k = n := by omega
      subst hkn
      rw [List.take_of_length_le (by rw [hn.out]; exact Nat.le_refl _)] at hJs
      gi_wp2
      go_end0
      exact ⟨⟨_, rfl⟩, .inl hJs⟩
end Go.Proofs.Ytligpmnpfdaknaa
