/- Identities: going over a map of requests by its keys in order, each with what it has. No condition but the map's size. -/
import Derived.Test.YtpendcaefjbomaaIdT
import Derived.Test.YtpendcaefjbomaaRie
import Derived.Maps.OwnOps
import Derived.Shelf.SlIterI.Sorted
namespace Go.Proofs.Ytpendcaefjbomaa
open Go.RowKit Go.Maps Go.Shelf Go.Sort
set_option linter.unusedVariables false
set_option linter.unusedSimpArgs false
attribute [local go_sem] Oper.semAt_some

theorem kmap_make (q : Option Nat) (w : World) : Calls Try.prog 32 #[.map q] w fun e w' => e = .returned (.func (.func 52) #[] #[.pointer (some ⟨w.heap.size, 0, none⟩)]) ∧ w' = w.alloc (.cells #[.map q] 66) := by
  go_enter Try.func32, Try.ntmps32
  go_wp2
  go_ret
  exact ⟨rfl, rfl⟩
theorem krising_make (q : Option Nat) (w : World) : Calls Try.prog 53 #[.map q] w fun e w' => e = .returned (.func (.func 68) #[] #[.pointer (some ⟨w.heap.size, 0, none⟩)]) ∧ w' = w.alloc (.cells #[.map q] 65) := by
  go_enter Try.func53, Try.ntmps53
  go_wp2
  go_ret
  exact ⟨rfl, rfl⟩


theorem sortsI (m : Nat) : AnyZI.SortsIn Try.prog Try.sortedIrequest_ren Fence.wide m :=
  ⟨fun blk off cap ss W hH hblk hsz => callsIn_wide.2 (AnyM.slices_Sort_int Try.sortIrequest blk off cap ss W hH hblk hsz),
   fun p cap W => callsIn_wide.2 (AnyM.slices_Sort_int_none Try.sortIrequest p cap W)⟩
theorem keysI_any (mb : Option Nat) (W : World) : Calls Try.prog 70 #[.map mb] W fun e w' => e = .returned (.func (.func 81) #[] #[.pointer (some ⟨W.heap.size, 0, none⟩)]) ∧ w' = W.alloc (.cells #[.map mb] 65) :=
  callsIn_wide.1 (AnyZI.keys_in Try.keysIrequest Fence.wide 5 trivial rfl mb W)
set_option maxHeartbeats 1000000 in
theorem sortedI_any {H : Type} (b nn : Nat) (D0 : DataW H) (R : Value → Option (DataW H × List MemPlace)) (w : World) (hown : w.ownsMap Try.prog 3 R b nn D0) (hmax : Maps.size D0 ≤ maxLen) (hbytes : Maps.size D0 * 8 ≤ 140737488355328) :
    Calls Try.prog 69 #[.func (.func 81) #[] #[.pointer (some ⟨w.heap.size, 0, none⟩)]] (w.alloc (.cells #[.map (some b)] 65)) fun e w' => ∃ (v : Value) (ss : List Int), e = .returned v ∧ ss.Perm (intKeys D0) ∧
      w'.ownsRow (w.alloc (.cells #[.map (some b)] 65)).heap.size 3 1 v ss.length ((ss.mergeSort (fun x y => decide (x ≤ y))).map encZ) ∧ (v = .slice none 0 0 ↔ ss = []) ∧ Below (w.alloc (.cells #[.map (some b)] 65)).heap.size (w.alloc (.cells #[.map (some b)] 65)) w' := by
  have hbl := hown.lt
  have hseq : SeqGives Fence.wide 2 Try.prog 81 #[.pointer (some ⟨w.heap.size, 0, none⟩)] encZ (fun ss => ss.Perm (intKeys D0)) (Maps.size D0) (w.alloc (.cells #[.map (some b)] 65)) :=
    AnyZI.keys_gives (ρ := Try.keysIrequest_ren) { Try.keysIrequest with } Fence.wide _ trivial rfl (by omega) w.heap.size b nn D0 _ (by simp) (by simp) (by
      obtain ⟨es, clock, hb, Ft, hs, hD⟩ := hown
      exact ⟨es, clock, (Below.heap_alloc _ _ b hbl).trans hb, Ft, hs, hD⟩)
  exact callsIn_wide.1 (AnyZI.sorted_in Try.sortedIrequest Fence.wide 5 trivial trivial trivial trivial rfl (by omega) (sortsI _) (enters_of Try.func80 (by kernel_rfl) rfl) 81 #[.pointer (some ⟨w.heap.size, 0, none⟩)] trivial (enters_of Try.func81 (by kernel_rfl) rfl) _ _ hmax hbytes _ hseq)
set_option maxHeartbeats 1000000 in
/-- Of a nil map: nothing. -/
theorem sortedI_nil (w : World) :
    Calls Try.prog 69 #[.func (.func 81) #[] #[.pointer (some ⟨w.heap.size, 0, none⟩)]] (w.alloc (.cells #[.map none] 65)) fun e w' => e = .returned (.slice none 0 0) ∧ Below (w.alloc (.cells #[.map none] 65)).heap.size (w.alloc (.cells #[.map none] 65)) w' := by
  have hseq : SeqGives Fence.wide 2 Try.prog 81 #[.pointer (some ⟨w.heap.size, 0, none⟩)] encZ (fun ss => ss = []) 0 (w.alloc (.cells #[.map none] 65)) :=
    AnyZI.keys_gives_nil (ρ := Try.keysIrequest_ren) { Try.keysIrequest with } Fence.wide _ trivial rfl w.heap.size _ (by simp) (by simp)
  exact (callsIn_wide.1 (AnyZI.sorted_in Try.sortedIrequest Fence.wide 5 trivial trivial trivial trivial rfl (by omega) (sortsI _) (enters_of Try.func80 (by kernel_rfl) rfl) 81 #[.pointer (some ⟨w.heap.size, 0, none⟩)] trivial (enters_of Try.func81 (by kernel_rfl) rfl) _ _ (by omega) (by omega) _ hseq)).mono fun e w' ⟨v, ss, he, hs, _, hn, hb⟩ => ⟨by rw [he, hn.2 hs], hb⟩
theorem grown_below {w w' : World} (h : RowKit.Below w.heap.size w w') : w.grownBy w' none := ⟨h.os, h.tape, h.output, h.size, fun k hk _ => h.block k hk⟩
theorem bel_putD {n₀ D : Nat} {w W : World} (h : RowKit.Below n₀ w W) (hn : n₀ ≤ D) (hD : W.heap[D]? = some (.deferred (some []))) : RowKit.Below n₀ w (W.putObj D (.deferred none)) :=
  h.trans ((RowKit.Below.refl n₀ W).grown (grownBy_putObj' W D _) (by have := (Array.getElem?_eq_some_iff.1 hD).1; omega) (fun k e => by cases e; omega))


def sortI (l : List Int) : List Int := l.mergeSort (fun x y => decide (x ≤ y))
theorem sortI_perm {l l' : List Int} (h : l.Perm l') : sortI l = sortI l' := mergeSort_of_perm_i h
theorem sortI_len (l : List Int) : (sortI l).length = l.length := List.length_mergeSort l
theorem ownsMap_kx {n₀ : Nat} {S : Nat → Prop} {w w' : World} {R : Value → Option (DataW Value × List MemPlace)} {k : TypeId} {b n : Nat} {D : DataW Value} (h : w.ownsMap Try.prog k R b n D) (hk : KX n₀ S w w') (hb : b < n₀) (hs : ¬ S b) : w'.ownsMap Try.prog k R b n D := by
  obtain ⟨es, clock, hb', F, h2⟩ := h
  exact ⟨es, clock, (hk.block b hb hs).trans hb', F, h2⟩
theorem kx_own {β : Type} (S : Nat → Prop) (w : World) : OwnFrom w.heap.size (fun (_ : β) W => KX w.heap.size S w W) :=
  fun s A A' row hs hg hr => ⟨Nat.le_trans hs.size hg.size, fun k hk hn => (hg.block k (Nat.lt_of_lt_of_le hk hs.size) (fun e => by have := (hr k e.symm).1; omega)).trans (hs.block k hk hn)⟩
theorem KX.kx' {S : Nat → Prop} {a w w' : World} (h : KX a.heap.size S a w) (k : Keep S w w') : KX a.heap.size S a w' := h.trans ⟨k.size, fun i hi hs => k.block i (Nat.lt_of_lt_of_le hi h.size) hs⟩
set_option maxRecDepth 100000 in
set_option maxHeartbeats 3200000 in
theorem krise_gives (B mb N : Nat) (D0 : DataW Value) (S : Nat → Prop) (w : World) (hS : ∀ k, S k → k < w.heap.size) (hc : w.cell? ⟨B, 0, none⟩ = some (.map (some mb))) (hown : w.ownsMap Try.prog 3 rR mb N D0) (hN : Go.Maps.size D0 ≤ 1048576) :
    SeqO 68 #[.pointer (some ⟨B, 0, none⟩)] (fun x : Int => #[.int .i64 x]) (sortI (intKeys D0)) S w := fun l J Jx W hW hl0 hlW hJ hJx hY h0 => by
  have hc' := (hW.cell (World.block_lt_of_cell? _ _ hc)).trans hc
  have hown' := ownsMap_kept hown (Keep.of_below hW) (by have := hown.lt; omega)
  obtain ⟨L, hL⟩ : ∃ L, sortI (intKeys D0) = L := ⟨_, rfl⟩
  rw [hL] at hY ⊢
  have hso := sortedI_any mb N D0 rR W hown' (by unfold maxLen; omega) (by omega)
  refine callsIn_of_wp Try.func68 rfl trivial ?_ rfl
  simp only [Try.ntmps68, List.size_toArray, List.length_cons, List.length_nil, Nat.reduceAdd, Nat.reduceSub, Array.replicate_succ, Array.replicate_zero, List.push_toArray, List.append_toArray, List.nil_append, List.cons_append]
  gi_wp2_with (first | (refine ⟨trivial, ?_⟩; gi_at_call 70; refine (callsIn_wide.2 (keysI_any (some mb) W)).mono ?_; rintro e w1 ⟨rfl, rfl⟩) | (refine ⟨trivial, ?_⟩; gi_at_call 69; refine (callsIn_wide.2 hso).mono ?_; rintro e w2 ⟨v, ss, rfl, hperm, hrow, -, hb⟩; (have hrow' : OJ (W.alloc (.cells #[.map (some mb)] 65)).heap.size w2 v (sortI ss) := (by unfold OJ; rw [sortI_len]; exact hrow)); obtain ⟨A, cap, rfl, hcap1, hcap2, hIR, hAb⟩ := hrow'.form; clear hrow hrow'))
  have hb0 := ((Below.refl W.heap.size W).alloc (Nat.le_refl _) (.cells #[.map (some mb)] 65)).trans (hb.mono (by simp))
  have hJ2 := hJ _ _ _ none h0 (grown_below hb0) (fun r e => by cases e)
  have hz2 := hb0.size
  rw [sortI_perm hperm, hL] at hIR hcap1 ⊢
  have hAb2 : ∀ ad, A = some ad → W.heap.size ≤ ad.block := fun ad e => by have := (hAb ad e).1; simp at this; omega
  obtain ⟨n, hn⟩ : ∃ n, L.length = n := ⟨_, rfl⟩
  rw [hn] at hIR hcap1 ⊢
  have hn9 : n ≤ 9223372036854775807 := by unfold maxLen at hcap2; omega
  have hSW : ∀ k, S k → k < W.heap.size := fun k h => Nat.lt_of_lt_of_le (hS k h) hW.size
  clear hso h0 hc hc' hb hb0 hown hown' hperm hAb hL hS
  replace hn := Lib.hid hn
  gi_loopw [9] (fun i wr => ∃ k : Nat, i = .int .i64 (k : Int) ∧ k ≤ n ∧ J (L.take k) wr ∧ Cnt.IR wr A n L ∧ W.heap.size ≤ wr.heap.size) (fun i _ => n - (intOf i).toNat)
  case atStart => exact ⟨0, by go_num, by omega, by simpa using hJ2, hIR, hz2⟩
  case round =>
    clear hJ2 hIR hz2
    obtain ⟨k, rfl, hk, hJs, hIR, hz⟩ := hrel
    by_cases hlt : k < n
    · have hlz : (k : Int) < (n : Int) := by omega
      obtain ⟨b, off, x, rfl, hx, hcell⟩ := hIR.place hlt
      have ht : L.take (k + 1) = L.take k ++ [x] := by rw [List.take_add_one, hx]; rfl
      have hpre : L.take k ++ [x] <+: L := by rw [← ht]; exact List.take_prefix _ _
      obtain ⟨fn, tmps, assign, body, hy, hR⟩ := hY (L.take k) x wr hpre hz hJs
      have hbb := hAb2 _ rfl
      dsimp only at hbb
      rw [← ht] at hR
      clear hx ht hpre
      gi_wp2
      refine hR.mono ?_
      rintro e W3 ⟨hk3, ⟨rfl, hJ3⟩ | ⟨rfl, hJx3⟩⟩
      · have hIR3 := hIR.kept hk3 (fun ad e h => by
          cases e
          dsimp only at h
          rcases h with h | h
          · have := hSW _ h
            omega
          · omega)
        have hz3 := Nat.le_trans hz hk3.size
        gi_wp2
        go_roundw
        case rel => exact ⟨k + 1, by go_num, by omega, hJ3, hIR3, hz3⟩
        case measure => simp [intOf]; omega
      · gi_wp2
        refine bodyPost_ret (results_none rfl _ _ _) rfl ?_
        exact ⟨⟨_, rfl⟩, .inr ⟨_, List.take_prefix _ _, hJx3⟩⟩
    · have hlz : ¬ (k : Int) < (n : Int) := by omega
      have hkn : k = n := by omega
      subst hkn
      rw [List.take_of_length_le (by rw [hn.out]; exact Nat.le_refl _)] at hJs
      gi_wp2
      go_end0
      exact ⟨⟨_, rfl⟩, .inl hJs⟩


theorem look_kmap {w : World} {b N : Nat} {D : DataW Value} {f : Int → Rq} {ks : List Int} (hm : w.ownsMap Try.prog 3 rR b N D) (hD : PM rq0.v D (fun j => (f j).v) ks) {k : Int} (hk : (Lit.int .i64 k).wf = true) :
    (Instr.lookup 66 (.map (some b)) (.int .i64 k) false).run Try.prog w = .ok (f k).v w := by
  obtain ⟨v, ps, hrun, hv⟩ := hm.lookup (int_keyed Try.underlying3) Try.underlying66 (zero_rq w) (show rR rq0.v = some (.held rq0.v, []) from rfl) (keyI hk)
  rw [hD.val k] at hv
  generalize (f k).v = u at hv ⊢
  have e : some ((DataW.held v : DataW Value), ([] : List MemPlace)) = some (DataW.held u, ps) := hv
  simp only [Option.some.injEq, Prod.mk.injEq, DataW.held.injEq] at e
  obtain ⟨rfl, _⟩ := e
  exact hrun
theorem cell_put {w : World} {D : Nat} {o o' : Obj} {p : Addr} {u : Value} (hD : w.heap[D]? = some o) (hp : p.block ≠ D) (h : w.cell? p = some u) : (w.putObj D o').cell? p = some u :=
  (World.cell?_of_block (World.putObj_heap_other hp)).trans h
set_option maxRecDepth 100000 in
set_option maxHeartbeats 3200000 in
theorem kmap_gives (B mb N : Nat) (D0 : DataW Value) (f : Int → Rq) (ks : List Int) (S : Nat → Prop) (w : World) (hS : ∀ k, S k → k < w.heap.size) (hc : w.cell? ⟨B, 0, none⟩ = some (.map (some mb))) (hown : w.ownsMap Try.prog 3 rR mb N D0) (hD : PM rq0.v D0 (fun j => (f j).v) ks) (hN : ks.length ≤ 1048576) (hSB : ¬ S B) (hSm : ¬ S mb) :
    SeqO 52 #[.pointer (some ⟨B, 0, none⟩)] (fun x : Int => #[.int .i64 x, (f x).v]) (sortI (intKeys D0)) S w := fun l J Jx W hW hl0 hlW hJ hJx hY h0 => by
  have hwf : ∀ x ∈ sortI (intKeys D0), (Lit.int .i64 x).wf = true := fun x hx => intKeys_wf hown Try.underlying3 x ((List.mem_mergeSort).1 hx)
  have hBw := World.block_lt_of_cell? _ _ hc
  have hmw := hown.lt
  dsimp only at hBw
  have hc' := (hW.cell hBw).trans hc
  have hown' := ownsMap_kept hown (Keep.of_below hW) (by omega)
  have hzW := hW.size
  have hN0 : Go.Maps.size D0 ≤ 1048576 := by rw [hD.sz]; exact hN
  obtain ⟨L, hL⟩ : ∃ L, sortI (intKeys D0) = L := ⟨_, rfl⟩
  rw [hL] at hY hwf ⊢
  refine callsIn_wide.2 ((callsIn_wide (n := 9)).1 ?_)
  refine callsIn_of_wp_marks Try.func52 rfl trivial ?_ rfl
  simp only [Try.ntmps52, List.size_toArray, List.length_cons, List.length_nil, Nat.reduceAdd, Nat.reduceSub, Array.replicate_succ, Array.replicate_zero, List.push_toArray, List.append_toArray, List.nil_append, List.cons_append]
  have hc2 := cell_old (.cells #[.func (.yield l) #[] #[]] 111) hc'
  have hbx := Blk.new W 111 #[.func (.yield l) #[] #[]]
  have hm2 := hown'.alloc (.cells #[.func (.yield l) #[] #[]] 111)
  have hb2 := (Below.refl W.heap.size W).alloc (Nat.le_refl _) (.cells #[.func (.yield l) #[] #[]] 111)
  generalize hW2 : W.alloc (.cells #[.func (.yield l) #[] #[]] 111) = W2 at hc2 hb2 hbx hm2
  have hz2 : W2.heap.size = W.heap.size + 1 := by rw [← hW2]; simp
  gi_wp2_with (refine ⟨trivial, ?_⟩; gi_at_call 53; refine (callsIn_wide.2 (krising_make (some mb) W2)).mono ?_; rintro e w2 ⟨rfl, rfl⟩)
  have hI := (cell_new_a W2 (.map (some mb)) 65).1
  have hb3 := hb2.alloc hb2.size (.cells #[.map (some mb)] 65)
  have hc3 := cell_old (.cells #[.map (some mb)] 65) hc2
  have hbx3 := hbx.alloc (.cells #[.map (some mb)] 65)
  have hm3 := hm2.alloc (.cells #[.map (some mb)] 65)
  have hz3 : (W2.alloc (.cells #[.map (some mb)] 65)).heap.size = W.heap.size + 2 := by simp [hz2]
  have hJ3 := hJ _ _ _ none h0 (grown_below hb3) (fun r e => by cases e)
  have hkr := krise_gives W2.heap.size mb N D0 (fun k => S k ∨ k = l) (W2.alloc (.cells #[.map (some mb)] 65)) (fun k h => h.elim (fun h => by have := hS k h; omega) (fun h => by omega)) hI hm3 hN0
  rw [hL] at hkr
  obtain ⟨W3, hW3⟩ : ∃ W3, W2.alloc (.cells #[.map (some mb)] 65) = W3 := ⟨_, rfl⟩
  rw [hW3] at hI hb3 hc3 hbx3 hm3 hz3 hJ3 hkr ⊢
  have hbc := hbx3.cell 0
  simp only [List.getElem?_toArray, List.getElem?_cons_zero] at hbc
  have hnB : ¬ (S B ∨ B = l) := fun h => h.elim hSB (fun e => by omega)
  have hnm : ¬ (S mb ∨ mb = l) := fun h => h.elim hSm (fun e => by omega)
  have hnx : ¬ (S W.heap.size ∨ W.heap.size = l) := fun h => h.elim (fun h => by have := hS _ h; omega) (fun e => by omega)
  have hz8 : W2.heap.size < W3.heap.size := by omega
  clear hW2 hW3 hc2 hbx hm2 hb2 hc' hown' h0 hL hbx3
  refine range_own (a := _) (w := W3) (w0 := W3) (gf := 68) (lb := #[.pointer (some ⟨W2.heap.size, 0, none⟩)]) (by first | rfl | simp [go_sem]) (enters_of Try.func68 (by kernel_rfl) rfl) hkr (Below.refl _ _) (fun k h => h.elim (fun h => by have := hS k h; omega) (fun h => by omega)) (fun _ => rfl)
    (fun pre W' => J pre W' ∧ KX W3.heap.size (fun k => S k ∨ k = l) W3 W') (fun c pre W' => c = .ret ∧ Jx pre W') ?hI ?hIx ⟨hJ3, KX.refl _ _ _⟩ ?round ?done ?stop
  case hI => exact fun s A A' row h hg hr => ⟨ownFrom_mono hJ (by omega) s A A' row h.1 hg hr, kx_own (β := List Int) _ W3 s A A' row h.2 hg hr⟩
  case hIx => exact fun c s A A' row h hg hr => ⟨h.1, ownFrom_mono hJx (by omega) s A A' row h.2 hg hr⟩
  case round =>
    apply Exists.intro
    constructor
    · intro l' x W' K hK
      gi_wp2
      exact hK
    · rintro l' pre x W' hpre hz ⟨hJ', hkx⟩
      have hx : x ∈ L := hpre.subset (by simp)
      have c1 := hkx.cell (p := ⟨B, 0, none⟩) (by dsimp only; omega) hnB hc3
      have c2 := hkx.cell (p := ⟨W.heap.size, 0, none⟩) (by dsimp only; omega) hnx hbc
      have hlk := look_kmap (ownsMap_kx hm3 hkx (by omega) hnm) hD (hwf x hx)
      obtain ⟨⟨fn, tmps, assign, body, hy, hR⟩, -⟩ : YieldAt (Fence.wide.inRound l') 6 Try.prog l #[.int .i64 x, (f x).v] W' _ ∧ True := ⟨yieldAny 6 (hY pre x W' hpre (by omega) hJ'), trivial⟩
      obtain ⟨u, hu⟩ : ∃ u, (f x).v = u := ⟨_, rfl⟩
      rw [hu] at hy hlk
      clear hu
      gi_wp2
      refine hR.mono ?_
      rintro e W6 ⟨hk6, ⟨rfl, hJ6⟩ | ⟨rfl, hJx6⟩⟩
      · gi_wp2
        exact ⟨hk6, hJ6, hkx.kx' hk6⟩
      · gi_wp2
        exact ⟨hk6, rfl, hJx6⟩
  case done =>
    intro D W' hD8 ⟨hJ', hkx⟩ hDf
    gi_wp2
    refine ⟨by simp, .inl ⟨_, _, rfl, run_takeDeferred hDf, ?_⟩⟩
    exact ⟨_, results_none rfl _ _ _, ⟨_, rfl⟩, .inl (hJ.putObj _ hJ' (by omega) hDf rfl)⟩
  case stop =>
    rintro D c pre W' hD8 hpre ⟨rfl, hJx'⟩ hDf
    gi_wp2
    refine ⟨by simp, .inl ⟨_, _, rfl, run_takeDeferred hDf, ?_⟩⟩
    exact ⟨_, results_none rfl _ _ _, ⟨_, rfl⟩, .inr ⟨pre, hpre, hJx.putObj _ hJx' (by omega) hDf rfl⟩⟩
end Go.Proofs.Ytpendcaefjbomaa
