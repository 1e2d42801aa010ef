/- A map of goods to the stocks that know them: what it reads as; going over it in order while what is made grows. No condition but the map's size. -/
import Derived.Test.YtipmamgmcipbfaaGdC
import Derived.Test.YtipmamgmcipbfaaSmD
import Derived.Test.YtipmamgmcipbfaaSmF
namespace Go.Proofs.Ytipmamgmcipbfaa
open Go.RowKit Go.Maps Go.Shelf Go.Sort
set_option linter.unusedVariables false
set_option linter.unusedSimpArgs false
attribute [local go_sem] Oper.semAt_some

theorem KP.blk {Y : TypeId → Prop} {S : Nat → Prop} {w w' : World} {g : Nat} {t : TypeId} {cs : Array Value} (k : KP Y S w w') (h : Blk w g t cs) (hs : ¬ S g) (hy : ¬ Y t) : Blk w' g t cs :=
  (k.block g h.lt hs (fun cs' t' fr e => by rw [show w.heap[g]? = _ from h] at e; cases e; exact hy)).trans h
theorem KP.map {Y : TypeId → Prop} {S : Nat → Prop} {w w' : World} {R : Value → Option (DataW Value × List MemPlace)} {k : TypeId} {b n : Nat} {D : DataW Value} (hk : KP Y S w w') (h : w.ownsMap Try.prog k R b n D) (hs : ¬ S b) : w'.ownsMap Try.prog k R b n D := by
  obtain ⟨es, clock, hb, F, h2⟩ := h
  exact ⟨es, clock, (hk.block b (Array.getElem?_eq_some_iff.1 hb).1 hs (noCells hb)).trans hb, F, h2⟩
theorem Blk.row3 {W W' : World} {g : Nat} {t : TypeId} {cs : Array Value} {row : Option Nat} {n : Nat} (h : Blk W g t cs) (hg : W.grownBy W' row) (hr : ∀ r, row = some r → n ≤ r ∧ ∃ o : Obj, W.heap[r]? = some o ∧ o.isCells = false) : Blk W' g t cs :=
  h.kept (Keep.of_grown hg) (row_not hr h rfl)
/-- The map reads as: V, and just ks are known. -/
structure MR (D : DataW Value) (V : List UInt8 → Value) (ks : List (List UInt8)) : Prop where
  tidy : Tidy D
  val : ∀ g, D.atKey (.string g) (.held (.slice none 0 0)) = .held (V g)
  has_ : ∀ g, has D (.string g) = decide (g ∈ ks)
  sz : Go.Maps.size D = ks.length
  nd : ks.Nodup
theorem MR.start : MR (.map []) (fun _ => .slice none 0 0) [] := ⟨tidy_empty, fun g => rfl, fun g => rfl, rfl, List.nodup_nil⟩
theorem MR.put {D : DataW Value} {V : List UInt8 → Value} {ks : List (List UInt8)} (h : MR D V ks) (g : List UInt8) (v : Value) :
    MR (D.put (.string g) (.held v)) (fun k => if k = g then v else V k) (addS ks g) := by
  have hne : ∀ k, k ≠ g → Lit.string k ≠ Lit.string g := fun k hk e => hk (by injection e)
  refine ⟨h.tidy.put (str_lit _) _, fun k => ?_, fun k => ?_, ?_, addS_nodup h.nd g⟩
  · by_cases e : k = g
    · subst e
      rw [if_pos rfl]
      exact atKey_put_same h.tidy.isMap (str_lit _) _ _
    · rw [if_neg e, atKey_put_other (hne k e)]
      exact h.val k
  · by_cases e : k = g
    · subst e
      rw [has_put_same h.tidy.isMap (str_lit _)]
      exact (decide_eq_true (mem_addS.2 (.inr rfl))).symm
    · rw [has_put_other (hne k e), h.has_ k]
      exact decide_eq_decide.2 ⟨fun m => mem_addS.2 (.inl m), fun m => (mem_addS.1 m).resolve_right e⟩
  · rw [size_put h.tidy, h.has_ g, h.sz]
    unfold addS
    by_cases m : g ∈ ks
    · simp [m]
    · simp [m]
theorem zero_sl (w : World) : (zeroValue 23).run Try.prog w = .ok (.slice none 0 0) w := by kernel_rfl
theorem look_ml {w : World} {b N : Nat} {D : DataW Value} {V : List UInt8 → Value} {ks : List (List UInt8)} (hm : w.ownsMap Try.prog 9 rR b N D) (hD : MR D V ks) (g : List UInt8) (hg : g.length ≤ maxLen) :
    (Instr.lookup 81 (.map (some b)) (.string ⟨g.toArray⟩) false).run Try.prog w = .ok (V g) w := by
  obtain ⟨v, ps, hrun, hv⟩ := hm.lookup (string_keyed Try.underlying9) Try.underlying81 (zero_sl w) (show rR (.slice none 0 0) = some (.held (.slice none 0 0), []) from rfl) (key := .string ⟨g.toArray⟩) (kl := .string g) (keyS g hg)
  rw [hD.val g] at hv
  generalize V g = u at hv ⊢
  have e : some ((DataW.held v : DataW Value), ([] : List MemPlace)) = some (DataW.held u, ps) := hv
  simp only [Option.some.injEq, Prod.mk.injEq, DataW.held.injEq] at e
  obtain ⟨rfl, _⟩ := e
  exact hrun
theorem sortsSSt (m : Nat) : AnyZ.SortsIn Try.prog Try.sortedSStock_ren Fence.wide m :=
  ⟨fun blk off cap ss W hH hblk hsz => callsIn_wide.2 (AnyM.slices_Sort_string Try.sortSStock blk off cap ss W hH hblk hsz),
   fun p cap W => callsIn_wide.2 (AnyM.slices_Sort_string_none Try.sortSStock p cap W)⟩
theorem keysM_any (mb : Option Nat) (W : World) : Calls Try.prog 74 #[.map mb] W fun e w' => e = .returned (.func (.func 82) #[] #[.pointer (some ⟨W.heap.size, 0, none⟩)]) ∧ w' = W.alloc (.cells #[.map mb] 80) :=
  callsIn_wide.1 (AnyZ.keys_in Try.keysSStock Fence.wide 5 trivial rfl mb W)
set_option maxHeartbeats 1000000 in
theorem sortedM_any {H : Type} (b nn : Nat) (D0 : DataW H) (R : Value → Option (DataW H × List MemPlace)) (w : World) (hown : w.ownsMap Try.prog 9 R b nn D0) (hmax : Maps.size D0 ≤ maxLen) (hbytes : Maps.size D0 * 16 ≤ 140737488355328) :
    Calls Try.prog 73 #[.func (.func 82) #[] #[.pointer (some ⟨w.heap.size, 0, none⟩)]] (w.alloc (.cells #[.map (some b)] 80)) fun e w' => ∃ (v : Value) (ss : List (List UInt8)), e = .returned v ∧ ss.Perm (strKeys D0) ∧
      w'.ownsRow (w.alloc (.cells #[.map (some b)] 80)).heap.size 9 1 v ss.length ((ss.mergeSort (fun x y => decide (x ≤ y))).map encStr) ∧ (v = .slice none 0 0 ↔ ss = []) ∧ Below (w.alloc (.cells #[.map (some b)] 80)).heap.size (w.alloc (.cells #[.map (some b)] 80)) w' := by
  have hbl := hown.lt
  have hseq : SeqGives Fence.wide 2 Try.prog 82 #[.pointer (some ⟨w.heap.size, 0, none⟩)] encStr (fun ss => ss.Perm (strKeys D0)) (Maps.size D0) (w.alloc (.cells #[.map (some b)] 80)) :=
    AnyZ.keys_gives (ρ := Try.keysSStock_ren) { Try.keysSStock with } Fence.wide _ trivial rfl (by omega) w.heap.size b nn D0 _ (by simp) (by simp) (by
      obtain ⟨es, clock, hb, Ft, hs, hD⟩ := hown
      exact ⟨es, clock, (Below.heap_alloc _ _ b hbl).trans hb, Ft, hs, hD⟩)
  exact callsIn_wide.1 (AnyZ.sorted_in Try.sortedSStock Fence.wide 5 trivial trivial trivial trivial rfl (by omega) (sortsSSt _) (enters_of Try.func81 (by kernel_rfl) rfl) 82 #[.pointer (some ⟨w.heap.size, 0, none⟩)] trivial (enters_of Try.func82 (by kernel_rfl) rfl) _ _ hmax hbytes _ hseq)

set_option maxRecDepth 100000 in
set_option maxHeartbeats 3200000 in
theorem mrise_givesT (Y : TypeId → Prop) (hY : ¬ Y 9) (B mb N : Nat) (D0 : DataW Value) (S : Nat → Prop) (w : World) (hS : ∀ k, S k → k < w.heap.size) (hc : w.cell? ⟨B, 0, none⟩ = some (.map (some mb))) (hown : w.ownsMap Try.prog 9 rR mb N D0) (hN : Go.Maps.size D0 ≤ 1048576) :
    SeqT Y 72 #[.pointer (some ⟨B, 0, none⟩)] (fun x : List UInt8 => #[.string ⟨x.toArray⟩]) (sortU (strKeys D0)) S w := fun l J Jx W hW hl0 hlW hJ hJx hYi h0 => by
  have hc' := (hW.cell (World.block_lt_of_cell? _ _ hc)).trans hc
  have hown' := ownsMap_kept hown (Keep.of_below hW) (by have := hown.lt; omega)
  obtain ⟨L, hL⟩ : ∃ L, sortU (strKeys D0) = L := ⟨_, rfl⟩
  rw [hL] at hYi ⊢
  have hso := sortedM_any mb N D0 rR W hown' (by unfold maxLen; omega) (by omega)
  refine callsIn_of_wp Try.func72 rfl trivial ?_ rfl
  simp only [Try.ntmps72, List.size_toArray, List.length_cons, List.length_nil, Nat.reduceAdd, Nat.reduceSub, Array.replicate_succ, Array.replicate_zero, List.push_toArray, List.append_toArray, List.nil_append, List.cons_append]
  gi_wp2_with (first | (refine ⟨trivial, ?_⟩; gi_at_call 74; refine (callsIn_wide.2 (keysM_any (some mb) W)).mono ?_; rintro e w1 ⟨rfl, rfl⟩) | (refine ⟨trivial, ?_⟩; gi_at_call 73; refine (callsIn_wide.2 hso).mono ?_; rintro e w2 ⟨v, ss, rfl, hperm, hrow, -, hb⟩; (have hrow' : SO (W.alloc (.cells #[.map (some mb)] 80)).heap.size w2 v (sortU ss) := (by unfold SO; rw [sortU_len]; exact hrow)); obtain ⟨A, cap, rfl, hcap1, hcap2, hIR, hAb⟩ := hrow'.form; clear hrow hIR))
  have hb0 := ((Below.refl W.heap.size W).alloc (Nat.le_refl _) (.cells #[.map (some mb)] 80)).trans (hb.mono (by simp))
  have hJ2 := hJ _ _ _ none h0 (grown_below hb0) (fun r e => by cases e)
  have hz2 := hb0.size
  rw [sortU_perm hperm, hL] at hrow' hcap1 ⊢
  have hAb2 : ∀ ad, A = some ad → W.heap.size ≤ ad.block := fun ad e => by have := (hAb ad e).1; simp at this; omega
  obtain ⟨n, hn⟩ : ∃ n, L.length = n := ⟨_, rfl⟩
  rw [hn] at hrow' hcap1 ⊢
  obtain ⟨bs0, hbs0⟩ : ∃ bs0, (W.alloc (.cells #[.map (some mb)] 80)).heap.size = bs0 := ⟨_, rfl⟩
  rw [hbs0] at hrow'
  clear hbs0
  have hn9 : n ≤ 9223372036854775807 := by unfold maxLen at hcap2; omega
  have hSW : ∀ k, S k → k < W.heap.size := fun k h => Nat.lt_of_lt_of_le (hS k h) hW.size
  clear hso h0 hc hc' hb hb0 hown hown' hperm hAb hL hS
  replace hn := Lib.hid hn
  gi_loopw [9] (fun i wr => ∃ k : Nat, i = .int .i64 (k : Int) ∧ k ≤ n ∧ J (L.take k) wr ∧ SO bs0 wr (.slice A n cap) L ∧ W.heap.size ≤ wr.heap.size) (fun i _ => n - (intOf i).toNat)
  case atStart => exact ⟨0, by go_num, by omega, by simpa using hJ2, hrow', hz2⟩
  case round =>
    clear hJ2 hrow' hz2
    obtain ⟨k, rfl, hk, hJs, hIR, hz⟩ := hrel
    by_cases hlt : k < n
    · have hlz : (k : Int) < (n : Int) := by omega
      obtain ⟨A', cap', e9, -, -, hSL, -⟩ := hIR.form
      injection e9 with e9 e91 e92
      rw [← e9, ← e91] at hSL
      clear e9 e91 e92
      obtain ⟨b, off, x, rfl, hx, hcell⟩ := hSL.place hlt
      have ht : L.take (k + 1) = L.take k ++ [x] := by rw [List.take_add_one, hx]; rfl
      have hpre : L.take k ++ [x] <+: L := by rw [← ht]; exact List.take_prefix _ _
      obtain ⟨fn, tmps, assign, body, hy, hR⟩ := hYi (L.take k) x wr hpre hz hJs
      have hbb := hAb2 _ rfl
      dsimp only at hbb
      rw [← ht] at hR
      clear hx ht hpre hSL
      gi_wp2
      refine hR.mono ?_
      rintro e W3 ⟨hk3, ⟨rfl, hJ3⟩ | ⟨rfl, hJx3⟩⟩
      · have hIR3 := hIR.kp hk3 hY (fun gb e h => by
          cases e
          dsimp only at h
          rcases h with h | h
          · have := hSW _ h
            omega
          · omega)
        have hz3 := Nat.le_trans hz hk3.size
        gi_wp2
        go_roundw
        case rel => exact ⟨k + 1, by go_num, by omega, hJ3, hIR3, hz3⟩
        case measure => simp [intOf]; omega
      · gi_wp2
        refine bodyPost_ret (results_none rfl _ _ _) rfl ?_
        exact ⟨⟨_, rfl⟩, .inr ⟨_, List.take_prefix _ _, hJx3⟩⟩
    · have hlz : ¬ (k : Int) < (n : Int) := by omega
      have hkn : k = n := by omega
      subst hkn
      rw [List.take_of_length_le (by rw [hn.out]; exact Nat.le_refl _)] at hJs
      gi_wp2
      go_end0
      exact ⟨⟨_, rfl⟩, .inl hJs⟩
theorem mrising_make (v : Option Nat) (w : World) : Calls Try.prog 56 #[.map v] w fun e w' => e = .returned (.func (.func 72) #[] #[.pointer (some ⟨w.heap.size, 0, none⟩)]) ∧ w' = w.alloc (.cells #[.map v] 80) := by
  go_enter Try.func56, Try.ntmps56
  go_wp2
  go_ret
  exact ⟨rfl, rfl⟩
theorem mmap_make (v : Option Nat) (w : World) : Calls Try.prog 35 #[.map v] w fun e w' => e = .returned (.func (.func 55) #[] #[.pointer (some ⟨w.heap.size, 0, none⟩)]) ∧ w' = w.alloc (.cells #[.map v] 81) := by
  go_enter Try.func35, Try.ntmps35
  go_wp2
  go_ret
  exact ⟨rfl, rfl⟩
theorem mr_keys {w : World} {b N : Nat} {D : DataW Value} {V : List UInt8 → Value} {ks : List (List UInt8)} (hm : w.ownsMap Try.prog 9 rR b N D) (hD : MR D V ks) : sortU (strKeys D) = sortU ks := by
  obtain ⟨es, rfl, h1, h2⟩ := maps_form hm
  exact sortU_perm (perm_strKeys h1 h2 hD.nd fun x => by rw [hD.has_ x]; simp).symm
theorem map_row3 {W W' : World} {R : Value → Option (DataW Value × List MemPlace)} {k : TypeId} {b m : Nat} {D : DataW Value} {row : Option Nat} {n : Nat} (h : W.ownsMap Try.prog k R b m D) (hg : W.grownBy W' row) (hr : ∀ r, row = some r → n ≤ r ∧ ∃ o : Obj, W.heap[r]? = some o ∧ o.isCells = false) (hb : b < n) : W'.ownsMap Try.prog k R b m D :=
  ownsMap_kept h (Keep.of_grown hg) (row_not_lt hr hb)
set_option maxRecDepth 100000 in
set_option maxHeartbeats 3200000 in
theorem mmap_gives (Y : TypeId → Prop) (hYs : ¬ Y 9) (hYm : ¬ Y 81) (hYn : ¬ Y 80) (hYf : ¬ Y 108) (B mb N : Nat) (D0 : DataW Value) (V : List UInt8 → Value) (ks : List (List UInt8)) (S : Nat → Prop) (w : World) (hS : ∀ k, S k → k < w.heap.size) (hc : Blk w B 81 #[.map (some mb)]) (hown : w.ownsMap Try.prog 9 rR mb N D0) (hD : MR D0 V ks) (hN : ks.length ≤ 1048576) (hwf0 : ∀ g ∈ ks, g.length ≤ maxLen) (hSB : ¬ S B) (hSm : ¬ S mb) :
    SeqT Y 55 #[.pointer (some ⟨B, 0, none⟩)] (fun x : List UInt8 => #[.string ⟨x.toArray⟩, V x]) (sortU ks) S w := fun l J Jx W hW hl0 hlW hJ hJx hY h0 => by
  have hkq := mr_keys hown hD
  have hwf : ∀ x ∈ sortU ks, x.length ≤ maxLen := fun x hx => hwf0 x ((List.mem_mergeSort).1 hx)
  have hBw := hc.lt
  have hmw := hown.lt
  have hc' := hc.kept (Keep.of_below hW) (by omega)
  have hown' := ownsMap_kept hown (Keep.of_below hW) (by omega)
  have hzW := hW.size
  have hN0 : Go.Maps.size D0 ≤ 1048576 := by rw [hD.sz]; exact hN
  obtain ⟨L, hL⟩ : ∃ L, sortU ks = L := ⟨_, rfl⟩
  rw [hL] at hY hwf ⊢
  refine callsIn_wide.2 ((callsIn_wide (n := 9)).1 ?_)
  refine callsIn_of_wp_marks Try.func55 rfl trivial ?_ rfl
  simp only [Try.ntmps55, List.size_toArray, List.length_cons, List.length_nil, Nat.reduceAdd, Nat.reduceSub, Array.replicate_succ, Array.replicate_zero, List.push_toArray, List.append_toArray, List.nil_append, List.cons_append]
  have hc2 := hc'.alloc (.cells #[.func (.yield l) #[] #[]] 108)
  have hbx := Blk.new W 108 #[.func (.yield l) #[] #[]]
  have hm2 := hown'.alloc (.cells #[.func (.yield l) #[] #[]] 108)
  have hb2 := (Below.refl W.heap.size W).alloc (Nat.le_refl _) (.cells #[.func (.yield l) #[] #[]] 108)
  generalize hW2 : W.alloc (.cells #[.func (.yield l) #[] #[]] 108) = W2 at hc2 hb2 hbx hm2
  have hz2 : W2.heap.size = W.heap.size + 1 := by rw [← hW2]; simp
  have hcl2 := hc2.cell 0
  simp only [List.getElem?_toArray, List.getElem?_cons_zero] at hcl2
  gi_wp2_with (refine ⟨trivial, ?_⟩; gi_at_call 56; refine (callsIn_wide.2 (mrising_make (some mb) W2)).mono ?_; rintro e w2 ⟨rfl, rfl⟩)
  clear hcl2
  have hI := (cell_new_a W2 (.map (some mb)) 80).1
  have hb3 := hb2.alloc hb2.size (.cells #[.map (some mb)] 80)
  have hc3 := hc2.alloc (.cells #[.map (some mb)] 80)
  have hbx3 := hbx.alloc (.cells #[.map (some mb)] 80)
  have hm3 := hm2.alloc (.cells #[.map (some mb)] 80)
  have hz3 : (W2.alloc (.cells #[.map (some mb)] 80)).heap.size = W.heap.size + 2 := by simp [hz2]
  have hJ3 := hJ _ _ _ none h0 (grown_below hb3) (fun r e => by cases e)
  have hkr := mrise_givesT Y hYs W2.heap.size mb N D0 (fun k => S k ∨ k = l) (W2.alloc (.cells #[.map (some mb)] 80)) (fun k h => h.elim (fun h => by have := hS k h; omega) (fun h => by omega)) hI hm3 hN0
  rw [hkq, hL] at hkr
  obtain ⟨W3, hW3⟩ : ∃ W3, W2.alloc (.cells #[.map (some mb)] 80) = W3 := ⟨_, rfl⟩
  rw [hW3] at hI hb3 hc3 hbx3 hm3 hz3 hJ3 hkr ⊢
  have hnB : ¬ (S B ∨ B = l) := fun h => h.elim hSB (fun e => by omega)
  have hnm : ¬ (S mb ∨ mb = l) := fun h => h.elim hSm (fun e => by omega)
  have hnx : ¬ (S W.heap.size ∨ W.heap.size = l) := fun h => h.elim (fun h => by have := hS _ h; omega) (fun e => by omega)
  have hz8 : W2.heap.size < W3.heap.size := by omega
  clear hW2 hW3 hc2 hbx hm2 hb2 hc' hown' h0 hL
  refine range_ownT (a := _) (w := W3) (w0 := W3) (gf := 72) (lb := #[.pointer (some ⟨W2.heap.size, 0, none⟩)]) (by first | rfl | simp [go_sem]) (enters_of Try.func72 (by kernel_rfl) rfl) hkr (Below.refl _ _) (fun k h => h.elim (fun h => by have := hS k h; omega) (fun h => by omega)) (fun _ => rfl)
    (fun pre W' => J pre W' ∧ Blk W' B 81 #[.map (some mb)] ∧ Blk W' W.heap.size 108 #[.func (.yield l) #[] #[]] ∧ W'.ownsMap Try.prog 9 rR mb N D0) (fun c pre W' => c = .ret ∧ Jx pre W') ?hI ?hIx ⟨hJ3, hc3, hbx3, hm3⟩ ?round ?done ?stop
  case hI => exact fun s A A' row h hg hr => ⟨ownFrom_mono hJ (by omega) s A A' row h.1 hg hr, h.2.1.row3 hg hr, h.2.2.1.row3 hg hr, map_row3 h.2.2.2 hg hr (by omega)⟩
  case hIx => exact fun c s A A' row h hg hr => ⟨h.1, ownFrom_mono hJx (by omega) s A A' row h.2 hg hr⟩
  case round =>
    apply Exists.intro
    constructor
    · intro l' x W' K hK
      gi_wp2
      exact hK
    · rintro l' pre x W' hpre hz ⟨hJ', hB', hX', hm'⟩
      have hx : x ∈ L := hpre.subset (by simp)
      have c1 := hB'.cell 0
      have c2 := hX'.cell 0
      simp only [List.getElem?_toArray, List.getElem?_cons_zero] at c1 c2
      have hlk := look_ml hm' hD x (hwf x hx)
      obtain ⟨⟨fn, tmps, assign, body, hy, hR⟩, -⟩ : YieldAt (Fence.wide.inRound l') 6 Try.prog l #[.string ⟨x.toArray⟩, V x] W' _ ∧ True := ⟨yieldAny 6 (hY pre x W' hpre (by omega) hJ'), trivial⟩
      obtain ⟨u, hu⟩ : ∃ u, V x = u := ⟨_, rfl⟩
      rw [hu] at hy hlk
      clear hu
      gi_wp2
      refine hR.mono ?_
      rintro e W6 ⟨hk6, ⟨rfl, hJ6⟩ | ⟨rfl, hJx6⟩⟩
      · gi_wp2
        exact ⟨hk6, hJ6, hk6.blk hB' hnB hYm, hk6.blk hX' hnx hYf, hk6.map hm' hnm⟩
      · gi_wp2
        exact ⟨hk6, rfl, hJx6⟩
  case done =>
    intro D W' hD8 ⟨hJ', hB', hX', hm'⟩ hDf
    gi_wp2
    refine ⟨by simp, .inl ⟨_, _, rfl, run_takeDeferred hDf, ?_⟩⟩
    exact ⟨_, results_none rfl _ _ _, ⟨_, rfl⟩, .inl (hJ.putObj _ hJ' (by omega) hDf rfl)⟩
  case stop =>
    rintro D c pre W' hD8 hpre ⟨rfl, hJx'⟩ hDf
    gi_wp2
    refine ⟨by simp, .inl ⟨_, _, rfl, run_takeDeferred hDf, ?_⟩⟩
    exact ⟨_, results_none rfl _ _ _, ⟨_, rfl⟩, .inr ⟨pre, hpre, hJx.putObj _ hJx' (by omega) hDf rfl⟩⟩
end Go.Proofs.Ytipmamgmcipbfaa
