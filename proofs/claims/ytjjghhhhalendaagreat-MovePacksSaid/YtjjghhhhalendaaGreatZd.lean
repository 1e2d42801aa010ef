/- Texts of this proof in one: MvP, MvQ, MxA. No condition. -/
import Derived.Test.YtjjghhhhalendaaGreatZa
import Derived.Test.YtjjghhhhalendaaGreatZb
import Derived.Test.YtjjghhhhalendaaGreatApJ
namespace Go.Proofs.YtjjghhhhalendaaGreat
section
open Go.RowKit Go.Maps Go.Shelf Go.Sort
set_option linter.unusedVariables false
set_option linter.unusedSimpArgs false
attribute [local go_sem] Oper.semAt_some

def sortI (l : List Int) : List Int := l.mergeSort (fun x y => decide (x ≤ y))
theorem sortI_perm {l l' : List Int} (h : l.Perm l') : sortI l = sortI l' := mergeSort_of_perm_i h
theorem sortI_len (l : List Int) : (sortI l).length = l.length := List.length_mergeSort l
theorem ownsMap_kx {n₀ : Nat} {S : Nat → Prop} {w w' : World} {R : Value → Option (DataW Value × List MemPlace)} {k : TypeId} {b n : Nat} {D : DataW Value} (h : w.ownsMap Tryz.prog k R b n D) (hk : KX n₀ S w w') (hb : b < n₀) (hs : ¬ S b) : w'.ownsMap Tryz.prog k R b n D := by
  obtain ⟨es, clock, hb', F, h2⟩ := h
  exact ⟨es, clock, (hk.block b hb hs).trans hb', F, h2⟩
theorem kx_own {β : Type} (S : Nat → Prop) (w : World) : OwnFrom w.heap.size (fun (_ : β) W => KX w.heap.size S w W) :=
  fun s A A' row hs hg hr => ⟨Nat.le_trans hs.size hg.size, fun k hk hn => (hg.block k (Nat.lt_of_lt_of_le hk hs.size) (fun e => by have := (hr k e.symm).1; omega)).trans (hs.block k hk hn)⟩
theorem KX.kx' {S : Nat → Prop} {a w w' : World} (h : KX a.heap.size S a w) (k : Keep S w w') : KX a.heap.size S a w' := h.trans ⟨k.size, fun i hi hs => k.block i (Nat.lt_of_lt_of_le hi h.size) hs⟩
set_option maxRecDepth 100000 in
set_option maxHeartbeats 3200000 in
theorem krise_gives (B mb N : Nat) (D0 : DataW Value) (S : Nat → Prop) (w : World) (hS : ∀ k, S k → k < w.heap.size) (hc : w.cell? ⟨B, 0, none⟩ = some (.map (some mb))) (hown : w.ownsMap Tryz.prog 3 rR mb N D0) (hN : Go.Maps.size D0 ≤ 1048576) :
    SeqO 87 #[.pointer (some ⟨B, 0, none⟩)] (fun x : Int => #[.int .i64 x]) (sortI (intKeys D0)) S w := fun l J Jx W hW hl0 hlW hJ hJx hY h0 => by
  have hc' := (hW.cell (World.block_lt_of_cell? _ _ hc)).trans hc
  have hown' := ownsMap_kept hown (Keep.of_below hW) (by have := hown.lt; omega)
  obtain ⟨L, hL⟩ : ∃ L, sortI (intKeys D0) = L := ⟨_, rfl⟩
  rw [hL] at hY ⊢
  have hso := sortedI_any mb N D0 rR W hown' (by unfold maxLen; omega) (by omega)
  refine callsIn_of_wp Tryz.func87 rfl trivial ?_ rfl
  simp only [Tryz.ntmps87, List.size_toArray, List.length_cons, List.length_nil, Nat.reduceAdd, Nat.reduceSub, Array.replicate_succ, Array.replicate_zero, List.push_toArray, List.append_toArray, List.nil_append, List.cons_append]
  gi_wp2_with (first | (refine ⟨trivial, ?_⟩; gi_at_call 89; refine (callsIn_wide.2 (keysI_any (some mb) W)).mono ?_; rintro e w1 ⟨rfl, rfl⟩) | (refine ⟨trivial, ?_⟩; gi_at_call 88; refine (callsIn_wide.2 hso).mono ?_; rintro e w2 ⟨v, ss, rfl, hperm, hrow, -, hb⟩; (have hrow' : OJ (W.alloc (.cells #[.map (some mb)] 47)).heap.size w2 v (sortI ss) := (by unfold OJ; rw [sortI_len]; exact hrow)); obtain ⟨A, cap, rfl, hcap1, hcap2, hIR, hAb⟩ := hrow'.form; clear hrow hrow'))
  have hb0 := ((Below.refl W.heap.size W).alloc (Nat.le_refl _) (.cells #[.map (some mb)] 47)).trans (hb.mono (by simp))
  have hJ2 := hJ _ _ _ none h0 (grown_below hb0) (fun r e => by cases e)
  have hz2 := hb0.size
  rw [sortI_perm hperm, hL] at hIR hcap1 ⊢
  have hAb2 : ∀ ad, A = some ad → W.heap.size ≤ ad.block := fun ad e => by have := (hAb ad e).1; simp at this; omega
  obtain ⟨n, hn⟩ : ∃ n, L.length = n := ⟨_, rfl⟩
  rw [hn] at hIR hcap1 ⊢
  have hn9 : n ≤ 9223372036854775807 := by unfold maxLen at hcap2; omega
  have hSW : ∀ k, S k → k < W.heap.size := fun k h => Nat.lt_of_lt_of_le (hS k h) hW.size
  clear hso h0 hc hc' hb hb0 hown hown' hperm hAb hL hS
  replace hn := Lib.hid hn
  gi_loopw [9] (fun i wr => ∃ k : Nat, i = .int .i64 (k : Int) ∧ k ≤ n ∧ J (L.take k) wr ∧ Cnt.IR wr A n L ∧ W.heap.size ≤ wr.heap.size) (fun i _ => n - (intOf i).toNat)
  case atStart => exact ⟨0, by go_num, by omega, by simpa using hJ2, hIR, hz2⟩
  case round =>
    clear hJ2 hIR hz2
    obtain ⟨k, rfl, hk, hJs, hIR, hz⟩ := hrel
    by_cases hlt : k < n
    · have hlz : (k : Int) < (n : Int) := by omega
      obtain ⟨b, off, x, rfl, hx, hcell⟩ := hIR.place hlt
      have ht : L.take (k + 1) = L.take k ++ [x] := by rw [List.take_add_one, hx]; rfl
      have hpre : L.take k ++ [x] <+: L := by rw [← ht]; exact List.take_prefix _ _
      obtain ⟨fn, tmps, assign, body, hy, hR⟩ := hY (L.take k) x wr hpre hz hJs
      have hbb := hAb2 _ rfl
      dsimp only at hbb
      rw [← ht] at hR
      clear hx ht hpre
      gi_wp2
      refine hR.mono ?_
      rintro e W3 ⟨hk3, ⟨rfl, hJ3⟩ | ⟨rfl, hJx3⟩⟩
      · have hIR3 := hIR.kept hk3 (fun ad e h => by
          cases e
          dsimp only at h
          rcases h with h | h
          · have := hSW _ h
            omega
          · omega)
        have hz3 := Nat.le_trans hz hk3.size
        gi_wp2
        go_roundw
        case rel => exact ⟨k + 1, by go_num, by omega, hJ3, hIR3, hz3⟩
        case measure => simp [intOf]; omega
      · gi_wp2
        refine bodyPost_ret (results_none rfl _ _ _) rfl ?_
        exact ⟨⟨_, rfl⟩, .inr ⟨_, List.take_prefix _ _, hJx3⟩⟩
    · have hlz : ¬ (k : Int) < (n : Int) := by omega
      have hkn : k = n := by omega
      subst hkn
      rw [List.take_of_length_le (by rw [hn.out]; exact Nat.le_refl _)] at hJs
      gi_wp2
      go_end0
      exact ⟨⟨_, rfl⟩, .inl hJs⟩
end
section
open Go.RowKit Go.Maps Go.Shelf Go.Sort
set_option linter.unusedVariables false
set_option linter.unusedSimpArgs false
attribute [local go_sem] Oper.semAt_some

theorem look_kmap {w : World} {b N : Nat} {D : DataW Value} {f : Int → Rec} {ks : List Int} (hm : w.ownsMap Tryz.prog 3 rR b N D) (hD : PM D f ks) {k : Int} (hk : (Lit.int .i64 k).wf = true) :
    (Instr.lookup 107 (.map (some b)) (.int .i64 k) false).run Tryz.prog w = .ok (f k).v w := by
  obtain ⟨v, ps, hrun, hv⟩ := hm.lookup (int_keyed Tryz.underlying3) Tryz.underlying107 (zero_rec w) (show rR rec0.v = some (.held rec0.v, []) from rfl) (keyI hk)
  rw [hD.val k] at hv
  generalize (f k).v = u at hv ⊢
  have e : some ((DataW.held v : DataW Value), ([] : List MemPlace)) = some (DataW.held u, ps) := hv
  simp only [Option.some.injEq, Prod.mk.injEq, DataW.held.injEq] at e
  obtain ⟨rfl, _⟩ := e
  exact hrun
theorem cell_put {w : World} {D : Nat} {o o' : Obj} {p : Addr} {u : Value} (hD : w.heap[D]? = some o) (hp : p.block ≠ D) (h : w.cell? p = some u) : (w.putObj D o').cell? p = some u :=
  (World.cell?_of_block (World.putObj_heap_other hp)).trans h
set_option maxRecDepth 100000 in
set_option maxHeartbeats 3200000 in
theorem kmap_gives (B mb N : Nat) (D0 : DataW Value) (f : Int → Rec) (ks : List Int) (S : Nat → Prop) (w : World) (hS : ∀ k, S k → k < w.heap.size) (hc : w.cell? ⟨B, 0, none⟩ = some (.map (some mb))) (hown : w.ownsMap Tryz.prog 3 rR mb N D0) (hD : PM D0 f ks) (hN : ks.length ≤ 1048576) (hSB : ¬ S B) (hSm : ¬ S mb) :
    SeqO 77 #[.pointer (some ⟨B, 0, none⟩)] (fun x : Int => #[.int .i64 x, (f x).v]) (sortI (intKeys D0)) S w := fun l J Jx W hW hl0 hlW hJ hJx hY h0 => by
  have hwf : ∀ x ∈ sortI (intKeys D0), (Lit.int .i64 x).wf = true := fun x hx => intKeys_wf hown Tryz.underlying3 x ((List.mem_mergeSort).1 hx)
  have hBw := World.block_lt_of_cell? _ _ hc
  have hmw := hown.lt
  dsimp only at hBw
  have hc' := (hW.cell hBw).trans hc
  have hown' := ownsMap_kept hown (Keep.of_below hW) (by omega)
  have hzW := hW.size
  have hN0 : Go.Maps.size D0 ≤ 1048576 := by rw [hD.sz]; exact hN
  obtain ⟨L, hL⟩ : ∃ L, sortI (intKeys D0) = L := ⟨_, rfl⟩
  rw [hL] at hY hwf ⊢
  refine callsIn_wide.2 ((callsIn_wide (n := 9)).1 ?_)
  refine callsIn_of_wp_marks Tryz.func77 rfl trivial ?_ rfl
  simp only [Tryz.ntmps77, List.size_toArray, List.length_cons, List.length_nil, Nat.reduceAdd, Nat.reduceSub, Array.replicate_succ, Array.replicate_zero, List.push_toArray, List.append_toArray, List.nil_append, List.cons_append]
  have hc2 := cell_old (.cells #[.func (.yield l) #[] #[]] 126) hc'
  have hbx := Blk.new W 126 #[.func (.yield l) #[] #[]]
  have hm2 := hown'.alloc (.cells #[.func (.yield l) #[] #[]] 126)
  have hb2 := (Below.refl W.heap.size W).alloc (Nat.le_refl _) (.cells #[.func (.yield l) #[] #[]] 126)
  generalize hW2 : W.alloc (.cells #[.func (.yield l) #[] #[]] 126) = W2 at hc2 hb2 hbx hm2
  have hz2 : W2.heap.size = W.heap.size + 1 := by rw [← hW2]; simp
  gi_wp2_with (refine ⟨trivial, ?_⟩; gi_at_call 78; refine (callsIn_wide.2 (krising_make (some mb) W2)).mono ?_; rintro e w2 ⟨rfl, rfl⟩)
  have hI := (cell_new_a W2 (.map (some mb)) 47).1
  have hb3 := hb2.alloc hb2.size (.cells #[.map (some mb)] 47)
  have hc3 := cell_old (.cells #[.map (some mb)] 47) hc2
  have hbx3 := hbx.alloc (.cells #[.map (some mb)] 47)
  have hm3 := hm2.alloc (.cells #[.map (some mb)] 47)
  have hz3 : (W2.alloc (.cells #[.map (some mb)] 47)).heap.size = W.heap.size + 2 := by simp [hz2]
  have hJ3 := hJ _ _ _ none h0 (grown_below hb3) (fun r e => by cases e)
  have hkr := krise_gives W2.heap.size mb N D0 (fun k => S k ∨ k = l) (W2.alloc (.cells #[.map (some mb)] 47)) (fun k h => h.elim (fun h => by have := hS k h; omega) (fun h => by omega)) hI hm3 hN0
  rw [hL] at hkr
  obtain ⟨W3, hW3⟩ : ∃ W3, W2.alloc (.cells #[.map (some mb)] 47) = W3 := ⟨_, rfl⟩
  rw [hW3] at hI hb3 hc3 hbx3 hm3 hz3 hJ3 hkr ⊢
  have hbc := hbx3.cell 0
  simp only [List.getElem?_toArray, List.getElem?_cons_zero] at hbc
  have hnB : ¬ (S B ∨ B = l) := fun h => h.elim hSB (fun e => by omega)
  have hnm : ¬ (S mb ∨ mb = l) := fun h => h.elim hSm (fun e => by omega)
  have hnx : ¬ (S W.heap.size ∨ W.heap.size = l) := fun h => h.elim (fun h => by have := hS _ h; omega) (fun e => by omega)
  have hz8 : W2.heap.size < W3.heap.size := by omega
  clear hW2 hW3 hc2 hbx hm2 hb2 hc' hown' h0 hL hbx3
  refine range_own (a := _) (w := W3) (w0 := W3) (gf := 87) (lb := #[.pointer (some ⟨W2.heap.size, 0, none⟩)]) (by first | rfl | simp [go_sem]) (enters_of Tryz.func87 (by kernel_rfl) rfl) hkr (Below.refl _ _) (fun k h => h.elim (fun h => by have := hS k h; omega) (fun h => by omega)) (fun _ => rfl)
    (fun pre W' => J pre W' ∧ KX W3.heap.size (fun k => S k ∨ k = l) W3 W') (fun c pre W' => c = .ret ∧ Jx pre W') ?hI ?hIx ⟨hJ3, KX.refl _ _ _⟩ ?round ?done ?stop
  case hI => exact fun s A A' row h hg hr => ⟨ownFrom_mono hJ (by omega) s A A' row h.1 hg hr, kx_own (β := List Int) _ W3 s A A' row h.2 hg hr⟩
  case hIx => exact fun c s A A' row h hg hr => ⟨h.1, ownFrom_mono hJx (by omega) s A A' row h.2 hg hr⟩
  case round =>
    apply Exists.intro
    constructor
    · intro l' x W' K hK
      gi_wp2
      exact hK
    · rintro l' pre x W' hpre hz ⟨hJ', hkx⟩
      have hx : x ∈ L := hpre.subset (by simp)
      have c1 := hkx.cell (p := ⟨B, 0, none⟩) (by dsimp only; omega) hnB hc3
      have c2 := hkx.cell (p := ⟨W.heap.size, 0, none⟩) (by dsimp only; omega) hnx hbc
      have hlk := look_kmap (ownsMap_kx hm3 hkx (by omega) hnm) hD (hwf x hx)
      obtain ⟨⟨fn, tmps, assign, body, hy, hR⟩, -⟩ : YieldAt (Fence.wide.inRound l') 6 Tryz.prog l #[.int .i64 x, (f x).v] W' _ ∧ True := ⟨yieldAny 6 (hY pre x W' hpre (by omega) hJ'), trivial⟩
      obtain ⟨u, hu⟩ : ∃ u, (f x).v = u := ⟨_, rfl⟩
      rw [hu] at hy hlk
      clear hu
      gi_wp2
      refine hR.mono ?_
      rintro e W6 ⟨hk6, ⟨rfl, hJ6⟩ | ⟨rfl, hJx6⟩⟩
      · gi_wp2
        exact ⟨hk6, hJ6, hkx.kx' hk6⟩
      · gi_wp2
        exact ⟨hk6, rfl, hJx6⟩
  case done =>
    intro D W' hD8 ⟨hJ', hkx⟩ hDf
    gi_wp2
    refine ⟨by simp, .inl ⟨_, _, rfl, run_takeDeferred hDf, ?_⟩⟩
    exact ⟨_, results_none rfl _ _ _, ⟨_, rfl⟩, .inl (hJ.putObj _ hJ' (by omega) hDf rfl)⟩
  case stop =>
    rintro D c pre W' hD8 hpre ⟨rfl, hJx'⟩ hDf
    gi_wp2
    refine ⟨by simp, .inl ⟨_, _, rfl, run_takeDeferred hDf, ?_⟩⟩
    exact ⟨_, results_none rfl _ _ _, ⟨_, rfl⟩, .inr ⟨pre, hpre, hJx.putObj _ hJx' (by omega) hDf rfl⟩⟩
end
section
open Go.RowKit Go.Maps Go.Shelf Go.Sort
set_option linter.unusedVariables false
set_option linter.unusedSimpArgs false
attribute [local go_sem] Oper.semAt_some

theorem OJ.kp {base : Nat} {Y : TypeId → Prop} {S : Nat → Prop} {w w' : World} {v : Value} {l : List Int} (h : OJ base w v l) (k : KP Y S w w') (hy : ¬ Y 3) (hs : ∀ g, v.ownBlock = some g → ¬ S g) : OJ base w' v l := by
  refine ⟨h.1, ?_⟩
  rcases h.2 with hn | ⟨g, cap, cur, rfl, hb, hgg, rest⟩
  · exact .inl hn
  · exact .inr ⟨g, cap, cur, rfl, hb, (k.block g (Array.getElem?_eq_some_iff.1 hgg).1 (hs g rfl) (fun cs t fr e => by rw [hgg] at e; cases e; exact hy)).trans hgg, rest⟩
theorem Blk.kp {Y : TypeId → Prop} {S : Nat → Prop} {w w' : World} {b : Nat} {t : TypeId} {cs : Array Value} (h : Blk w b t cs) (k : KP Y S w w') (hs : ¬ S b) (hy : ¬ Y t) : Blk w' b t cs :=
  (k.block b h.lt hs (fun cs' t' fr e => by rw [show w.heap[b]? = _ from h] at e; cases e; exact hy)).trans h
theorem ownsMap_kp {Y : TypeId → Prop} {S : Nat → Prop} {w w' : World} {R : Value → Option (DataW Value × List MemPlace)} {k : TypeId} {b n : Nat} {D : DataW Value} (h : w.ownsMap Tryz.prog k R b n D) (hk : KP Y S w w') (hs : ¬ S b) : w'.ownsMap Tryz.prog k R b n D := by
  obtain ⟨es, clock, hb, F, h2⟩ := h
  exact ⟨es, clock, (hk.block b (Array.getElem?_eq_some_iff.1 hb).1 hs (fun cs t fr e => by rw [hb] at e; cases e)).trans hb, F, h2⟩
theorem kp_own {β : Type} (Y : TypeId → Prop) (S : Nat → Prop) (w : World) : OwnFrom w.heap.size (fun (_ : β) W => KP Y S w W) :=
  fun s A A' row hs hg hr => ⟨hg.os.trans hs.os, hg.tape.trans hs.tape, hg.output.trans hs.output, Nat.le_trans hs.size hg.size, fun k hk hn hy => (hg.block k (Nat.lt_of_lt_of_le hk hs.size) (fun e => by have := (hr k e.symm).1; omega)).trans (hs.block k hk hn hy)⟩
set_option maxRecDepth 100000 in
set_option maxHeartbeats 3200000 in
theorem krise_givesT (Y : TypeId → Prop) (hY : ¬ Y 3) (B mb N : Nat) (D0 : DataW Value) (S : Nat → Prop) (w : World) (hS : ∀ k, S k → k < w.heap.size) (hc : w.cell? ⟨B, 0, none⟩ = some (.map (some mb))) (hown : w.ownsMap Tryz.prog 3 rR mb N D0) (hN : Go.Maps.size D0 ≤ 1048576) :
    SeqT Y 87 #[.pointer (some ⟨B, 0, none⟩)] (fun x : Int => #[.int .i64 x]) (sortI (intKeys D0)) S w := fun l J Jx W hW hl0 hlW hJ hJx hYi h0 => by
  have hc' := (hW.cell (World.block_lt_of_cell? _ _ hc)).trans hc
  have hown' := ownsMap_kept hown (Keep.of_below hW) (by have := hown.lt; omega)
  obtain ⟨L, hL⟩ : ∃ L, sortI (intKeys D0) = L := ⟨_, rfl⟩
  rw [hL] at hYi ⊢
  have hso := sortedI_any mb N D0 rR W hown' (by unfold maxLen; omega) (by omega)
  refine callsIn_of_wp Tryz.func87 rfl trivial ?_ rfl
  simp only [Tryz.ntmps87, List.size_toArray, List.length_cons, List.length_nil, Nat.reduceAdd, Nat.reduceSub, Array.replicate_succ, Array.replicate_zero, List.push_toArray, List.append_toArray, List.nil_append, List.cons_append]
  gi_wp2_with (first | (refine ⟨trivial, ?_⟩; gi_at_call 89; refine (callsIn_wide.2 (keysI_any (some mb) W)).mono ?_; rintro e w1 ⟨rfl, rfl⟩) | (refine ⟨trivial, ?_⟩; gi_at_call 88; refine (callsIn_wide.2 hso).mono ?_; rintro e w2 ⟨v, ss, rfl, hperm, hrow, -, hb⟩; (have hrow' : OJ (W.alloc (.cells #[.map (some mb)] 47)).heap.size w2 v (sortI ss) := (by unfold OJ; rw [sortI_len]; exact hrow)); obtain ⟨A, cap, rfl, hcap1, hcap2, hIR, hAb⟩ := hrow'.form; clear hrow hIR))
  have hb0 := ((Below.refl W.heap.size W).alloc (Nat.le_refl _) (.cells #[.map (some mb)] 47)).trans (hb.mono (by simp))
  have hJ2 := hJ _ _ _ none h0 (grown_below hb0) (fun r e => by cases e)
  have hz2 := hb0.size
  rw [sortI_perm hperm, hL] at hrow' hcap1 ⊢
  have hAb2 : ∀ ad, A = some ad → W.heap.size ≤ ad.block := fun ad e => by have := (hAb ad e).1; simp at this; omega
  obtain ⟨n, hn⟩ : ∃ n, L.length = n := ⟨_, rfl⟩
  rw [hn] at hrow' hcap1 ⊢
  obtain ⟨bs0, hbs0⟩ : ∃ bs0, (W.alloc (.cells #[.map (some mb)] 47)).heap.size = bs0 := ⟨_, rfl⟩
  rw [hbs0] at hrow'
  clear hbs0
  have hn9 : n ≤ 9223372036854775807 := by unfold maxLen at hcap2; omega
  have hSW : ∀ k, S k → k < W.heap.size := fun k h => Nat.lt_of_lt_of_le (hS k h) hW.size
  clear hso h0 hc hc' hb hb0 hown hown' hperm hAb hL hS
  replace hn := Lib.hid hn
  gi_loopw [9] (fun i wr => ∃ k : Nat, i = .int .i64 (k : Int) ∧ k ≤ n ∧ J (L.take k) wr ∧ OJ bs0 wr (.slice A n cap) L ∧ W.heap.size ≤ wr.heap.size) (fun i _ => n - (intOf i).toNat)
  case atStart => exact ⟨0, by go_num, by omega, by simpa using hJ2, hrow', hz2⟩
  case round =>
    clear hJ2 hrow' hz2
    obtain ⟨k, rfl, hk, hJs, hIR, hz⟩ := hrel
    by_cases hlt : k < n
    · have hlz : (k : Int) < (n : Int) := by omega
      obtain ⟨A', cap', e9, -, -, hSL, -⟩ := hIR.form
      injection e9 with e9 e91 e92
      rw [← e9, ← e91] at hSL
      clear e9 e91 e92
      obtain ⟨b, off, x, rfl, hx, hcell⟩ := hSL.place hlt
      have ht : L.take (k + 1) = L.take k ++ [x] := by rw [List.take_add_one, hx]; rfl
      have hpre : L.take k ++ [x] <+: L := by rw [← ht]; exact List.take_prefix _ _
      obtain ⟨fn, tmps, assign, body, hy, hR⟩ := hYi (L.take k) x wr hpre hz hJs
      have hbb := hAb2 _ rfl
      dsimp only at hbb
      rw [← ht] at hR
      clear hx ht hpre hSL
      gi_wp2
      refine hR.mono ?_
      rintro e W3 ⟨hk3, ⟨rfl, hJ3⟩ | ⟨rfl, hJx3⟩⟩
      · have hIR3 := hIR.kp hk3 hY (fun gb e h => by
          cases e
          dsimp only at h
          rcases h with h | h
          · have := hSW _ h
            omega
          · omega)
        have hz3 := Nat.le_trans hz hk3.size
        gi_wp2
        go_roundw
        case rel => exact ⟨k + 1, by go_num, by omega, hJ3, hIR3, hz3⟩
        case measure => simp [intOf]; omega
      · gi_wp2
        refine bodyPost_ret (results_none rfl _ _ _) rfl ?_
        exact ⟨⟨_, rfl⟩, .inr ⟨_, List.take_prefix _ _, hJx3⟩⟩
    · have hlz : ¬ (k : Int) < (n : Int) := by omega
      have hkn : k = n := by omega
      subst hkn
      rw [List.take_of_length_le (by rw [hn.out]; exact Nat.le_refl _)] at hJs
      gi_wp2
      go_end0
      exact ⟨⟨_, rfl⟩, .inl hJs⟩
set_option maxRecDepth 100000 in
set_option maxHeartbeats 3200000 in
theorem kmap_givesT (Y : TypeId → Prop) (hYi : ¬ Y 3) (hYm : ¬ Y 107) (hYf : ¬ Y 126) (B mb N : Nat) (D0 : DataW Value) (f : Int → Rec) (ks : List Int) (S : Nat → Prop) (w : World) (hS : ∀ k, S k → k < w.heap.size) (hB : Blk w B 107 #[.map (some mb)]) (hown : w.ownsMap Tryz.prog 3 rR mb N D0) (hD : PM D0 f ks) (hN : ks.length ≤ 1048576) (hSB : ¬ S B) (hSm : ¬ S mb) :
    SeqT Y 77 #[.pointer (some ⟨B, 0, none⟩)] (fun x : Int => #[.int .i64 x, (f x).v]) (sortI (intKeys D0)) S w := fun l J Jx W hW hl0 hlW hJ hJx hY h0 => by
  have hwf : ∀ x ∈ sortI (intKeys D0), (Lit.int .i64 x).wf = true := fun x hx => intKeys_wf hown Tryz.underlying3 x ((List.mem_mergeSort).1 hx)
  have hc := hB.cell 0
  simp only [List.getElem?_toArray, List.getElem?_cons_zero] at hc
  have hBw := World.block_lt_of_cell? _ _ hc
  have hmw := hown.lt
  dsimp only at hBw
  have hc' := (hW.cell hBw).trans hc
  have hB1 := hB.kept (Keep.of_below hW) (Nat.not_le.2 hB.lt)
  have hown' := ownsMap_kept hown (Keep.of_below hW) (by omega)
  have hzW := hW.size
  have hN0 : Go.Maps.size D0 ≤ 1048576 := by rw [hD.sz]; exact hN
  obtain ⟨L, hL⟩ : ∃ L, sortI (intKeys D0) = L := ⟨_, rfl⟩
  rw [hL] at hY hwf ⊢
  refine callsIn_wide.2 ((callsIn_wide (n := 9)).1 ?_)
  refine callsIn_of_wp_marks Tryz.func77 rfl trivial ?_ rfl
  simp only [Tryz.ntmps77, List.size_toArray, List.length_cons, List.length_nil, Nat.reduceAdd, Nat.reduceSub, Array.replicate_succ, Array.replicate_zero, List.push_toArray, List.append_toArray, List.nil_append, List.cons_append]
  have hc2 := cell_old (.cells #[.func (.yield l) #[] #[]] 126) hc'
  have hB2 := hB1.alloc (.cells #[.func (.yield l) #[] #[]] 126)
  have hbx := Blk.new W 126 #[.func (.yield l) #[] #[]]
  have hm2 := hown'.alloc (.cells #[.func (.yield l) #[] #[]] 126)
  have hb2 := (Below.refl W.heap.size W).alloc (Nat.le_refl _) (.cells #[.func (.yield l) #[] #[]] 126)
  generalize hW2 : W.alloc (.cells #[.func (.yield l) #[] #[]] 126) = W2 at hc2 hb2 hbx hm2 hB2
  have hz2 : W2.heap.size = W.heap.size + 1 := by rw [← hW2]; simp
  gi_wp2_with (refine ⟨trivial, ?_⟩; gi_at_call 78; refine (callsIn_wide.2 (krising_make (some mb) W2)).mono ?_; rintro e w2 ⟨rfl, rfl⟩)
  have hI := (cell_new_a W2 (.map (some mb)) 47).1
  have hb3 := hb2.alloc hb2.size (.cells #[.map (some mb)] 47)
  have hc3 := cell_old (.cells #[.map (some mb)] 47) hc2
  have hB3 := hB2.alloc (.cells #[.map (some mb)] 47)
  have hbx3 := hbx.alloc (.cells #[.map (some mb)] 47)
  have hm3 := hm2.alloc (.cells #[.map (some mb)] 47)
  have hz3 : (W2.alloc (.cells #[.map (some mb)] 47)).heap.size = W.heap.size + 2 := by simp [hz2]
  have hJ3 := hJ _ _ _ none h0 (grown_below hb3) (fun r e => by cases e)
  have hkr := krise_givesT Y hYi W2.heap.size mb N D0 (fun k => S k ∨ k = l) (W2.alloc (.cells #[.map (some mb)] 47)) (fun k h => h.elim (fun h => by have := hS k h; omega) (fun h => by omega)) hI hm3 hN0
  rw [hL] at hkr
  obtain ⟨W3, hW3⟩ : ∃ W3, W2.alloc (.cells #[.map (some mb)] 47) = W3 := ⟨_, rfl⟩
  rw [hW3] at hI hb3 hc3 hbx3 hm3 hz3 hJ3 hkr hB3 ⊢
  have hbc := hbx3.cell 0
  simp only [List.getElem?_toArray, List.getElem?_cons_zero] at hbc
  have hnB : ¬ (S B ∨ B = l) := fun h => h.elim hSB (fun e => by omega)
  have hnm : ¬ (S mb ∨ mb = l) := fun h => h.elim hSm (fun e => by omega)
  have hnx : ¬ (S W.heap.size ∨ W.heap.size = l) := fun h => h.elim (fun h => by have := hS _ h; omega) (fun e => by omega)
  have hz8 : W2.heap.size < W3.heap.size := by omega
  clear hW2 hW3 hc2 hbx hm2 hb2 hc' hown' h0 hL hB1 hB2 hbc hc3
  refine range_ownT (a := _) (w := W3) (w0 := W3) (gf := 87) (lb := #[.pointer (some ⟨W2.heap.size, 0, none⟩)]) (by first | rfl | simp [go_sem]) (enters_of Tryz.func87 (by kernel_rfl) rfl) hkr (Below.refl _ _) (fun k h => h.elim (fun h => by have := hS k h; omega) (fun h => by omega)) (fun _ => rfl)
    (fun pre W' => J pre W' ∧ KP Y (fun k => S k ∨ k = l) W3 W') (fun c pre W' => c = .ret ∧ Jx pre W') ?hI ?hIx ⟨hJ3, KP.refl _ _ _⟩ ?round ?done ?stop
  case hI => exact fun s A A' row h hg hr => ⟨ownFrom_mono hJ (by omega) s A A' row h.1 hg hr, kp_own (β := List Int) Y _ W3 s A A' row h.2 hg hr⟩
  case hIx => exact fun c s A A' row h hg hr => ⟨h.1, ownFrom_mono hJx (by omega) s A A' row h.2 hg hr⟩
  case round =>
    apply Exists.intro
    constructor
    · intro l' x W' K hK
      gi_wp2
      exact hK
    · rintro l' pre x W' hpre hz ⟨hJ', hkx⟩
      have hx : x ∈ L := hpre.subset (by simp)
      have c1 := (hB3.kp hkx hnB hYm).cell 0
      have c2 := (hbx3.kp hkx hnx hYf).cell 0
      simp only [List.getElem?_toArray, List.getElem?_cons_zero] at c1 c2
      have hlk := look_kmap (ownsMap_kp hm3 hkx hnm) hD (hwf x hx)
      obtain ⟨⟨fn, tmps, assign, body, hy, hR⟩, -⟩ : YieldAt (Fence.wide.inRound l') 6 Tryz.prog l #[.int .i64 x, (f x).v] W' _ ∧ True := ⟨yieldAny 6 (hY pre x W' hpre (by omega) hJ'), trivial⟩
      obtain ⟨u, hu⟩ : ∃ u, (f x).v = u := ⟨_, rfl⟩
      rw [hu] at hy hlk
      clear hu
      gi_wp2
      refine hR.mono ?_
      rintro e W6 ⟨hk6, ⟨rfl, hJ6⟩ | ⟨rfl, hJx6⟩⟩
      · gi_wp2
        exact ⟨hk6, hJ6, hkx.trans hk6 (fun _ _ e => e)⟩
      · gi_wp2
        exact ⟨hk6, rfl, hJx6⟩
  case done =>
    intro D W' hD8 ⟨hJ', hkx⟩ hDf
    gi_wp2
    refine ⟨by simp, .inl ⟨_, _, rfl, run_takeDeferred hDf, ?_⟩⟩
    exact ⟨_, results_none rfl _ _ _, ⟨_, rfl⟩, .inl (hJ.putObj _ hJ' (by omega) hDf rfl)⟩
  case stop =>
    rintro D c pre W' hD8 hpre ⟨rfl, hJx'⟩ hDf
    gi_wp2
    refine ⟨by simp, .inl ⟨_, _, rfl, run_takeDeferred hDf, ?_⟩⟩
    exact ⟨_, results_none rfl _ _ _, ⟨_, rfl⟩, .inr ⟨pre, hpre, hJx.putObj _ hJx' (by omega) hDf rfl⟩⟩
end
end Go.Proofs.YtjjghhhhalendaaGreat
