/- Identities: Low. No condition but that the table lies in memory. -/
import Derived.Test.YtpendcaefjbomaaIdO
import Derived.Test.YtpendcaefjbomaaIdQ
import Derived.Test.YtpendcaefjbomaaBkF
namespace Go.Proofs.Ytpendcaefjbomaa
open Go.RowKit Go.Maps Go.Shelf Go.Sort
set_option linter.unusedVariables false
set_option linter.unusedSimpArgs false
attribute [local go_sem] Oper.semAt_some

theorem keep_own {β : Type} (S : Nat → Prop) (w : World) : OwnFrom w.heap.size (fun (_ : β) W => Keep S w W) :=
  fun s A A' row hs hg hr => ⟨hg.os.trans hs.os, hg.tape.trans hs.tape, hg.output.trans hs.output, Nat.le_trans hs.size hg.size, fun k hk hn => (hg.block k (Nat.lt_of_lt_of_le hk hs.size) (fun e => by have := (hr k e.symm).1; omega)).trans (hs.block k hk hn)⟩
theorem blk_row {B : Nat} {A A' : World} {row : Option Nat} {g : Nat} {t : TypeId} {cs : Array Value} (h : Blk A g t cs) (hg : A.grownBy A' row) (hr : ∀ r, row = some r → B ≤ r ∧ ∃ o : Obj, A.heap[r]? = some o ∧ o.isCells = false) : Blk A' g t cs :=
  (hg.block g h.lt (fun e => by
    obtain ⟨o, ho, hc⟩ := (hr g e.symm).2
    rw [show A.heap[g]? = _ from h] at ho
    cases ho
    cases hc)).trans h
theorem wp_calm {c : Code} {Q : Exit → Act → World → Prop} {P : Program} {a : Act} {w : World} (h : c.wp P (Exit.then (Q .normal) (fun _ _ _ => False)) a w) : c.wp P Q a w :=
  wp_mono h fun e a w h => by cases e <;> first | exact h | exact h.elim
theorem then_normal {K : Act → World → Prop} {Q : Exit → Act → World → Prop} {a : Act} {w : World} : Exit.then K Q .normal a w = K a w := rfl
theorem keep_turned {w w' : World} {b : Nat} (h : w.mapTurned w' b) : Keep (fun i => i = b) w w' := by
  obtain ⟨es, clock, es', clock', hb, rfl⟩ := h
  exact ⟨rfl, rfl, rfl, by simp [ChangeMaps.setBlock], fun i _ hi => ChangeMaps.heap_setBlock_other hb _ hi⟩
theorem heap_row {W W' : World} {row : Option Nat} {D B : Nat} {o : Obj} (h : W.heap[D]? = some o) (hg : W.grownBy W' row) (hD : D < B) (hr : ∀ r, row = some r → B ≤ r ∧ ∃ o : Obj, W.heap[r]? = some o ∧ o.isCells = false) : W'.heap[D]? = some o :=
  (hg.block D (Array.getElem?_eq_some_iff.1 h).1 fun e => by have := (hr _ e.symm).1; omega).trans h
theorem mem_opens {g : Int → Rq} {l : List Int} {x : Int} : x ∈ opens g l ↔ x ∈ l ∧ (g x).d = false := by
  unfold opens
  rw [List.mem_filter]
  simp
theorem mem_sortI {l : List Int} {x : Int} : x ∈ sortI l ↔ x ∈ l := List.mem_mergeSort
theorem range_ownU {g : Operand} {ps : Array Tmp} {assign body : Code} {Q : Exit → Act → World → Prop} {a : Act} {w w0 : World} {gf : Nat} {lb : Array Value} {L : List Int} {S : Nat → Prop} {P : World → Prop}
    (hg : a.eval g = .func (.func gf) #[] lb) (eg : ∀ args w, (callFunc gf args).run Try.prog w = .ok (.enter gf args) w)
    (hseq : SeqP gf lb (fun (x : Int) args _ => ∃ u, args = #[.int .i64 x, u]) L S P w0) (hb0 : Below w0.heap.size w0 w) (hS : ∀ k, S k → k < w.heap.size) (hps : ps.size = 2)
    (I : List Int → World → Prop) (Ix : Code → List Int → World → Prop) (hI : OwnFrom w.heap.size I) (hIx : ∀ c, OwnFrom w.heap.size (Ix c)) (h0 : I [] w) (hPI : ∀ pre W, I pre W → P W)
    (hround : ∃ mk : Int → Value → Act, (∀ (l : Nat) (x : Int) (u : Value) (W : World) (K : Act → World → Prop), K (mk x u) W →
      assign.wpIn (Fence.wide.inRound l) 7 Try.prog (Exit.then K (fun _ _ _ => False)) { tmps := (ps.zip #[.int .i64 x, u]).foldl (fun t (p, v) => t.setIfInBounds p v) a.tmps, defers := [] } W) ∧
      (∀ (l : Nat) (pre : List Int) (x : Int) (u : Value) (W : World), pre ++ [x] <+: L → w.heap.size ≤ W.heap.size → I pre W → body.wpIn (Fence.wide.inRound l) 7 Try.prog (postO S I Ix (pre ++ [x]) W) (mk x u) W))
    (hdone : ∀ (D : Nat) (W : World), w.heap.size ≤ D → I L W → W.heap[D]? = some (.deferred (some [])) → Q .normal { a with defers := { target := .collected D, args := #[] } :: a.defers } W)
    (hstop : ∀ (D : Nat) (c : Code) (pre : List Int) (W : World), w.heap.size ≤ D → pre <+: L → Ix c pre W → W.heap[D]? = some (.deferred (some [])) → c.wpIn Fence.wide 9 Try.prog Q { a with defers := { target := .collected D, args := #[] } :: a.defers } W) :
    (Code.rangeFunc g ps assign body).wpIn Fence.wide 9 Try.prog Q a w := by
  obtain ⟨mk, hassign, hbody⟩ := hround
  refine range_ownP hg eg hseq hb0 hS (fun x args W hE => by obtain ⟨u, rfl⟩ := hE; exact hps.symm) I Ix hI hIx h0 hPI ⟨fun x a' _ => ∃ u, a' = mk x u, fun x a' _ _ _ _ h _ _ => h, fun l pre x args W K _ _ hi hE hK => ?_, fun l pre x a' W hpre hz hi h => ?_⟩ hdone hstop
  · obtain ⟨u, rfl⟩ := hE
    exact hassign l x u W K (hK _ _ (Keep.refl _ _) hi ⟨u, rfl⟩)
  · obtain ⟨u, rfl⟩ := h
    exact hbody l pre x u W hpre hz hi
/-- What is left of the map behind some of its numbers. -/
def LowI (c : Cl) (m : Int) (pre : List Int) (f' : Int → Value) (ks' : List Int) : Prop := (∀ y, y ∈ ks' ↔ y ∈ c.ns ∧ ¬ (y ∈ pre ∧ y < m)) ∧ ∀ y, f' y = if y ∈ pre ∧ y < m then rq0.v else (c.g y).v
/-- An open number is below that mark. -/
def badL (c : Cl) (m : Int) : Prop := ∃ x, x ∈ c.ns ∧ (c.g x).d = false ∧ x < m
/-- What Low does. -/
def LowPost (F : Nat → Prop) (w : World) (p b K : Nat) (cl : Int → Cl) (cs : List Int) (c m : Int) (e : Ending) (w' : World) : Prop :=
  (e = .returned (.int .i64 80) ∧ badL (cl c) m ∧ Below w.heap.size w w') ∨ (e = .returned (.int .i64 0) ∧ ¬ badL (cl c) m ∧ m ≤ (cl c).k ∧ Below w.heap.size w w') ∨
    (e = .returned (.int .i64 0) ∧ ¬ badL (cl c) m ∧ (cl c).k < m ∧ ∃ mb g' ns', (F mb ∨ w.heap.size ≤ mb) ∧ TS (fun k => F k ∨ k = mb) w' p b (K + 1) (fun i => if i = c then ⟨m, mb, g', ns'⟩ else cl i) (addK cs c) ∧ Keep F w w' ∧ ns'.Nodup ∧ (∀ y, y ∈ ns' ↔ y ∈ (cl c).ns ∧ ¬ y < m) ∧ ∀ y, y ∈ ns' → g' y = (cl c).g y)
set_option maxRecDepth 100000 in
set_option maxHeartbeats 6400000 in
theorem low_any {F : Nat → Prop} {w : World} {p b K : Nat} {cl : Int → Cl} {cs : List Int} (h : TS F w p b K cl cs) (c m : Int) (wc : (Lit.int .i64 c).wf = true) (hc : mayC c) (hm1 : 1 ≤ m ∧ m ≤ 4294967297) (hfew : (cl c).ns.length ≤ 1048576) (hK : K < maxLen) (hF : ∀ g, F g → g < w.heap.size) :
    Calls Try.prog 15 #[.pointer (some ⟨p, 0, none⟩), .int .i64 c, .int .i64 m] w (LowPost F w p b K cl cs c m) := by
  have hlt0 := h.lt
  obtain ⟨B, hB⟩ : ∃ B, w.heap.size = B := ⟨_, rfl⟩
  have e5 := (Blk.new w 3 #[.int .i64 m]).alloc (.cells #[.int .i64 0] 33)
  have e6 := Blk.new (w.alloc (.cells #[.int .i64 m] 3)) 33 #[.int .i64 0]
  rw [World.size_alloc] at e6
  have hb0 := ((Below.refl w.heap.size w).alloc (Nat.le_refl _) (.cells #[.int .i64 m] 3)).alloc (by simp) (.cells #[.int .i64 0] 33)
  have h0 := (h.alloc (.cells #[.int .i64 m] 3)).alloc (.cells #[.int .i64 0] 33)
  have hz0 : ((w.alloc (.cells #[.int .i64 m] 3)).alloc (.cells #[.int .i64 0] 33)).heap.size = w.heap.size + 2 := by simp
  have a5 := e5.cell 0
  have d1 : decide (m < (1 : Int)) = false := decide_eq_false (by omega)
  have d2 : decide ((4294967297 : Int) < m) = false := decide_eq_false (by omega)
  have hof := of_any h0 c wc
  simp only [List.getElem?_toArray, List.getElem?_cons_succ, List.getElem?_cons_zero] at a5
  rw [hB] at e5 e6 a5 hz0
  refine (callsIn_wide (n := 9)).1 ?_
  refine callsIn_of_wp_marks Try.func15 rfl trivial ?_ rfl
  simp only [Try.ntmps15, List.size_toArray, List.length_cons, List.length_nil, Nat.reduceAdd, Nat.reduceSub, Array.replicate_succ, Array.replicate_zero, List.push_toArray, List.append_toArray, List.nil_append, List.cons_append]
  gi_wp2_with (refine ⟨trivial, ?_⟩; gi_at_call 24; refine (callsIn_wide.2 (client_yes hc _)).mono ?_; rintro e w' ⟨rfl, rfl⟩)
  obtain ⟨w0, hw0⟩ : ∃ w0, (w.alloc (.cells #[.int .i64 m] 3)).alloc (.cells #[.int .i64 0] 33) = w0 := ⟨_, rfl⟩
  rw [hw0] at e5 e6 hb0 h0 hz0 hof a5 ⊢
  clear hw0 a5
  gi_wp2_with (refine ⟨trivial, ?_⟩; gi_at_call 26; refine (callsIn_wide.2 hof).mono ?_; rintro e w1 ⟨mb, rfl, ⟨⟨N, hN, hm⟩, hr⟩, hb1⟩)
  clear hof
  have hmbp : mb ≠ p ∧ mb ≠ b := by
    rcases hr with ⟨h1, h2⟩ | ⟨_, h2⟩
    · rw [h2]; exact (h.ok c h1).2.2
    · omega
  have hmb5 : mb ≠ B ∧ mb ≠ B + 1 := by
    rcases hr with ⟨h1, h2⟩ | ⟨_, h2⟩
    · have := (h.ok c h1).1.lt; omega
    · omega
  have hr2 : (c ∈ cs ∧ mb = (cl c).b) ∨ (c ∉ cs ∧ w.heap.size ≤ mb) := hr.elim .inl (fun e => .inr ⟨e.1, by have := e.2; omega⟩)
  obtain ⟨k, hk⟩ : ∃ k, (cl c).k = k := ⟨_, rfl⟩
  rw [hk]
  have hb1' := hb0.trans (hb1.mono hb0.size)
  have hT1 := h0.below hb1
  have e51 := e5.kept (Keep.of_below hb1) (by omega)
  have e61 := e6.kept (Keep.of_below hb1) (by omega)
  have hq1 := hb1'.size
  have hmq := hm.lt
  have hz1 := hb1.size
  clear hr hb0 hb1 h0 e5 e6
  -- the record, and its copy for open
  have hR := (Blk.new w1 68 #[.int .i64 k, .map (some mb)]).alloc (.cells #[.int .i64 k, .map (some mb)] 68)
  have hC := Blk.new (w1.alloc (.cells #[.int .i64 k, .map (some mb)] 68)) 68 #[.int .i64 k, .map (some mb)]
  rw [World.size_alloc] at hC
  have e52 := (e51.alloc (.cells #[.int .i64 k, .map (some mb)] 68)).alloc (.cells #[.int .i64 k, .map (some mb)] 68)
  have e62 := (e61.alloc (.cells #[.int .i64 k, .map (some mb)] 68)).alloc (.cells #[.int .i64 k, .map (some mb)] 68)
  have hm2 := (hm.alloc (.cells #[.int .i64 k, .map (some mb)] 68)).alloc (.cells #[.int .i64 k, .map (some mb)] 68)
  have hT2 := (hT1.alloc (.cells #[.int .i64 k, .map (some mb)] 68)).alloc (.cells #[.int .i64 k, .map (some mb)] 68)
  have hb2 := (hb1'.alloc hb1'.size (.cells #[.int .i64 k, .map (some mb)] 68)).alloc (by simp; omega) (.cells #[.int .i64 k, .map (some mb)] 68)
  have hz2 : ((w1.alloc (.cells #[.int .i64 k, .map (some mb)] 68)).alloc (.cells #[.int .i64 k, .map (some mb)] 68)).heap.size = w1.heap.size + 2 := by simp
  clear hm hT1 hb1' e51 e61
  gi_wp2_with (refine ⟨trivial, ?_⟩; gi_at_call 31; refine (callsIn_wide.2 (open_make k (some mb) _)).mono ?_; rintro e w' ⟨rfl, rfl⟩)
  obtain ⟨q1, hq1e⟩ : ∃ q1, w1.heap.size = q1 := ⟨_, rfl⟩
  obtain ⟨W1, hW1⟩ : ∃ W1, (w1.alloc (.cells #[.int .i64 k, .map (some mb)] 68)).alloc (.cells #[.int .i64 k, .map (some mb)] 68) = W1 := ⟨_, rfl⟩
  rw [hW1] at hR hC e52 e62 hm2 hT2 hb2 hz2 ⊢
  rw [hq1e] at hR hC hz2 hmq hq1 hz1
  try rw [World.size_alloc]
  try rw [hq1e]
  clear hW1 hq1e
  obtain ⟨D0, hown, hD⟩ := hm2
  have hcc := hC.cell 1
  simp only [List.getElem?_toArray, List.getElem?_cons_succ, List.getElem?_cons_zero] at hcc
  have hg1 := open_gives (q1 + 1) mb N D0 (cl c).g (cl c).ns (fun k => k = B + 1) W1 (fun k e => by omega) hcc hown hD hfew (fun e => by omega) hmb5.2
  have hsrt : sortI (intKeys D0) = sortI (cl c).ns := hD.sorted
  rw [hsrt] at hg1
  refine range_own (a := _) (w := W1) (w0 := W1) (gf := 51) (lb := #[.pointer (some ⟨q1 + 1, 0, none⟩)]) (by first | rfl | simp [go_sem]) (enters_of Try.func51 (by kernel_rfl) rfl) hg1 (Below.refl _ _) (fun k e => by omega) (fun _ => rfl)
    (fun pre W' => (∀ x, x ∈ pre → ¬ x < m) ∧ Keep (fun k => k = B + 1) W1 W' ∧ Blk W' (B + 1) 33 #[.int .i64 0])
    (fun cd pre W' => cd = .ret ∧ (∃ x, x ∈ pre ∧ x < m) ∧ Keep (fun k => k = B + 1) W1 W' ∧ Blk W' (B + 1) 33 #[.int .i64 80]) ?hI ?hIx ⟨(fun x hx => by cases hx), Keep.refl _ _, e62⟩ ?round ?done ?stop
  case hI => exact fun s A A' row h hg hr => ⟨h.1, keep_own (β := List Int) _ W1 s A A' row h.2.1 hg hr, blk_row h.2.2 hg hr⟩
  case hIx => exact fun cd s A A' row h hg hr => ⟨h.1, h.2.1, keep_own (β := List Int) _ W1 s A A' row h.2.2.1 hg hr, blk_row h.2.2.2 hg hr⟩
  case round =>
    apply Exists.intro
    constructor
    · intro l' x W' K hK
      gi_wp2
      exact hK
    · rintro l' pre x W' hpre hz ⟨hp1, hk1, he1⟩
      have f5 := (e52.kept hk1 (by omega)).cell 0
      have f6 := he1.cell 0
      have f6f := he1.frozen 0
      simp only [List.getElem?_toArray, List.getElem?_cons_succ, List.getElem?_cons_zero] at f5 f6
      by_cases hxm : x < m
      · have dx : decide (x < m) = true := decide_eq_true hxm
        have hs := he1.set_ 0 (.int .i64 80)
        simp only [List.setIfInBounds_toArray, List.set_cons_zero] at hs
        have kS : Keep (fun k => k = B + 1) W' (W'.setCell ⟨B + 1, 0, none⟩ (.int .i64 80)) := Keep.setCell (S := fun k => k = B + 1) (Keep.refl _ _) (p := ⟨B + 1, 0, none⟩) (fun _ => rfl) _
        gi_wp2
        exact ⟨kS, rfl, ⟨x, by simp, hxm⟩, hk1.trans kS (fun _ _ e => e), hs⟩
      · have dx : decide (x < m) = false := decide_eq_false hxm
        have hp2 : ∀ y, y ∈ pre ++ [x] → ¬ y < m := fun y hy => by
          rcases List.mem_append.1 hy with hy | hy
          · exact hp1 y hy
          · rw [List.mem_singleton.1 hy]; exact hxm
        gi_wp2
        exact ⟨Keep.refl _ _, hp2, hk1, he1⟩
  case stop =>
    rintro D cd pre W hDz hpre ⟨rfl, ⟨x, hx, hxm⟩, hk1, he1⟩ hDf
    have hbad : badL (cl c) m := by
      have := mem_opens.1 (hpre.subset hx)
      exact ⟨x, mem_sortI.1 this.1, this.2, hxm⟩
    have hbW := hb2.trans (hk1.below (B := w.heap.size) hb2.size (fun i hi e => by omega))
    have hrD : Blk (W.putObj D (.deferred none)) (B + 1) 33 #[.int .i64 80] := blk_row (B := 0) he1 (grownBy_putObj' W D _) (fun r e => by cases e; exact ⟨Nat.zero_le _, _, hDf, rfl⟩)
    have E0 := hrD.cell 0
    simp only [List.getElem?_toArray, List.getElem?_cons_succ, List.getElem?_cons_zero] at E0
    gi_wp2
    refine ⟨by simp, .inl ⟨_, _, rfl, run_takeDeferred hDf, ?_⟩⟩
    exact ⟨.int .i64 80, by simp [results, Try.results15, go_sem, E0], .inl ⟨rfl, hbad, bel_putD hbW (by omega) hDf⟩⟩
  case done =>
    rintro D W hDz ⟨hp1, hk1, he1⟩ hDf
    have hbad : ¬ badL (cl c) m := fun ⟨x, h1, h2, h3⟩ => hp1 x (mem_opens.2 ⟨mem_sortI.2 h1, h2⟩) h3
    have hbW := hb2.trans (hk1.below (B := w.heap.size) hb2.size (fun i hi e => by omega))
    have hR1 := hR.kept hk1 (by omega)
    have e53 := e52.kept hk1 (by omega)
    have hzW := hk1.size
    have f5 := e53.cell 0
    have r0 := hR1.cell 0
    have r1 := hR1.cell 1
    have f6 := he1.cell 0
    have f6f := he1.frozen 0
    simp only [List.getElem?_toArray, List.getElem?_cons_succ, List.getElem?_cons_zero] at f5 r0 r1 f6
    by_cases hmk : m ≤ k
    · have dm : decide (m ≤ k) = true := decide_eq_true hmk
      have hs := he1.set_ 0 (.int .i64 0)
      simp only [List.setIfInBounds_toArray, List.set_cons_zero] at hs
      have hDf2 : (W.setCell ⟨B + 1, 0, none⟩ (.int .i64 0)).heap[D]? = some (.deferred (some [])) := (Below.heap_setCell _ _ _ D (by dsimp only; omega)).trans hDf
      have hbS := hbW.setCell (p := ⟨B + 1, 0, none⟩) (by dsimp only; omega) (.int .i64 0)
      gi_wp2
      generalize W.setCell ⟨B + 1, 0, none⟩ (.int .i64 0) = WE at *
      have hrD : Blk (WE.putObj D (.deferred none)) (B + 1) 33 #[.int .i64 0] := blk_row (B := 0) hs (grownBy_putObj' WE D _) (fun r e => by cases e; exact ⟨Nat.zero_le _, _, hDf2, rfl⟩)
      have E0 := hrD.cell 0
      simp only [List.getElem?_toArray, List.getElem?_cons_succ, List.getElem?_cons_zero] at E0
      refine ⟨by simp, .inl ⟨_, _, rfl, run_takeDeferred hDf2, ?_⟩⟩
      exact ⟨.int .i64 0, by simp [results, Try.results15, go_sem, E0], .inr (.inl ⟨rfl, hbad, by rw [hk]; exact hmk, bel_putD hbS (by omega) hDf2⟩)⟩
    · have dm : decide (m ≤ k) = false := decide_eq_false hmk
      have hownW := ownsMap_kept hown hk1 hmb5.2
      gi_wp2_with (refine ⟨trivial, ?_⟩; gi_at_call 32; refine (callsIn_wide.2 (kmap_make (some mb) _)).mono ?_; rintro e w' ⟨rfl, rfl⟩)
      have hcW := (cell_new_a W (.map (some mb)) 66).1
      have hR2 := hR1.alloc (.cells #[.map (some mb)] 66)
      have e54 := e53.alloc (.cells #[.map (some mb)] 66)
      have he2 := he1.alloc (.cells #[.map (some mb)] 66)
      have hown2 := hownW.alloc (.cells #[.map (some mb)] 66)
      have hbW2 := hbW.alloc hbW.size (.cells #[.map (some mb)] 66)
      have hzD : D < W.heap.size := (Array.getElem?_eq_some_iff.1 hDf).1
      have hD2 : (W.alloc (.cells #[.map (some mb)] 66)).heap[D]? = some (.deferred (some [])) := (Below.heap_alloc _ _ D hzD).trans hDf
      have kA : Keep (fun k => k = B + 1) W1 (W.alloc (.cells #[.map (some mb)] 66)) := hk1.alloc _
      have hgP := kmap_givesP W.heap.size mb N D0 (cl c).g (cl c).ns (fun k => k = mb) (W.alloc (.cells #[.map (some mb)] 66)) (fun k e => by simp; omega) hcW hown2 hD hfew (fun e => by omega)
      rw [hsrt] at hgP
      have hwfx : ∀ x, x ∈ sortI (cl c).ns → (Lit.int .i64 x).wf = true := fun x hx => intKeys_wf hown Try.underlying3 x (by rw [← hsrt] at hx; exact mem_sortI.1 hx)
      obtain ⟨W4, hW4⟩ : ∃ W4, W.alloc (.cells #[.map (some mb)] 66) = W4 := ⟨_, rfl⟩
      have hz4 : W4.heap.size = W.heap.size + 1 := by rw [← hW4]; simp
      rw [hW4] at hcW hR2 e54 he2 hown2 hbW2 hD2 kA hgP ⊢
      clear hW4 hR1 e53 he1 hownW f5 r0 r1 f6 f6f
      refine range_ownU (a := _) (w := W4) (w0 := W4) (gf := 52) (lb := #[.pointer (some ⟨W.heap.size, 0, none⟩)]) (by first | rfl | simp [go_sem]) (enters_of Try.func52 (by kernel_rfl) rfl) hgP (Below.refl _ _) (fun k e => by omega) rfl
        (fun pre W' => W'.heap[D]? = some (.deferred (some [])) ∧ Keep (fun k => k = mb) W4 W' ∧ ∃ f' ks', MO rq0.v W' mb N f' ks' ∧ LowI (cl c) m pre f' ks')
        (fun cd pre W' => False) ?hI2 ?hIx2 ⟨hD2, Keep.refl _ _, _, _, ⟨D0, hown2, hD⟩, fun y => by simp, fun y => by simp⟩ (fun pre W' hI => by obtain ⟨_, _, f', ks', hM, _⟩ := hI; exact ⟨N, f', ks', hM⟩) ?round2 ?done2 ?stop2
      case hI2 =>
        rintro s A A' row ⟨h1, h2, f', ks', h3, h4⟩ hg hr
        exact ⟨heap_row h1 hg (by omega) hr, keep_own (β := List Int) _ W4 s A A' row h2 hg hr, f', ks', h3.kept (Keep.of_grown hg) (fun e => by have := (hr _ e).1; omega), h4⟩
      case hIx2 => exact fun cd s A A' row h hg hr => h
      case round2 =>
        apply Exists.intro
        constructor
        · intro l' x u W' K hK
          gi_wp2
          exact hK
        · rintro l' pre x u W' hpre hz ⟨h1, h2, f', ks', ⟨D1, hown3, hD3⟩, hLI⟩
          have f5 := (e54.kept h2 (by omega)).cell 0
          have r1 := (hR2.kept h2 (by omega)).cell 1
          simp only [List.getElem?_toArray, List.getElem?_cons_succ, List.getElem?_cons_zero] at f5 r1
          have wx := hwfx x (hpre.subset (by simp))
          obtain ⟨h4, h5⟩ := hLI
          have hnd3 := hD3.nd
          by_cases hxm : x < m
          · have dx : decide (x < m) = true := decide_eq_true hxm
            have h6 : ∀ y, y ∈ ks'.erase x ↔ y ∈ (cl c).ns ∧ ¬ (y ∈ pre ++ [x] ∧ y < m) := fun y => by
              rw [hnd3.mem_erase_iff, h4 y, List.mem_append, List.mem_singleton]
              constructor
              · rintro ⟨a1, a2, a3⟩
                exact ⟨a2, fun ⟨b1, b2⟩ => b1.elim (fun b1 => a3 ⟨b1, b2⟩) (fun b1 => a1 b1)⟩
              · rintro ⟨a1, a2⟩
                exact ⟨fun e => a2 ⟨.inr e, by rw [e]; exact hxm⟩, a1, fun ⟨b1, b2⟩ => a2 ⟨.inl b1, b2⟩⟩
            have h7 : ∀ y, (if y = x then rq0.v else f' y) = if y ∈ pre ++ [x] ∧ y < m then rq0.v else ((cl c).g y).v := fun y => by
              by_cases e : y = x
              · rw [if_pos e, if_pos ⟨by rw [e]; simp, by rw [e]; exact hxm⟩]
              · rw [if_neg e, h5 y]
                by_cases e2 : y ∈ pre ∧ y < m
                · rw [if_pos e2, if_pos ⟨List.mem_append_left _ e2.1, e2.2⟩]
                · rw [if_neg e2, if_neg (fun ⟨b1, b2⟩ => (List.mem_append.1 b1).elim (fun b1 => e2 ⟨b1, b2⟩) (fun b1 => e (List.mem_singleton.1 b1)))]
            have h8 : LowI (cl c) m (pre ++ [x]) (fun y => if y = x then rq0.v else f' y) (ks'.erase x) := ⟨h6, h7⟩
            clear h6 h7 h4 h5
            gi_wp2_with (gi_at_delete; refine wpListIn_delete_own _ rfl _ _ 66 3 rfl 72 (int_keyed Try.underlying3) Try.underlying66 rR mb N D1 rfl hown3 _ _ rfl (keyI wx) ?_; intro w4 hm4 hturn4)
            have kt := keep_turned hturn4
            exact ⟨kt, (kt.block D (Array.getElem?_eq_some_iff.1 h1).1 (by omega)).trans h1, h2.trans kt (fun _ _ e => e), _, _, ⟨_, hm4, hD3.del x⟩, h8⟩
          · have dx : decide (x < m) = false := decide_eq_false hxm
            have h6 : ∀ y, y ∈ ks' ↔ y ∈ (cl c).ns ∧ ¬ (y ∈ pre ++ [x] ∧ y < m) := fun y => by
              rw [h4 y, List.mem_append, List.mem_singleton]
              constructor
              · rintro ⟨a1, a2⟩
                exact ⟨a1, fun ⟨b1, b2⟩ => b1.elim (fun b1 => a2 ⟨b1, b2⟩) (fun b1 => hxm (by rw [← b1]; exact b2))⟩
              · rintro ⟨a1, a2⟩
                exact ⟨a1, fun ⟨b1, b2⟩ => a2 ⟨.inl b1, b2⟩⟩
            have h7 : ∀ y, f' y = if y ∈ pre ++ [x] ∧ y < m then rq0.v else ((cl c).g y).v := fun y => by
              rw [h5 y]
              by_cases e2 : y ∈ pre ∧ y < m
              · rw [if_pos e2, if_pos ⟨List.mem_append_left _ e2.1, e2.2⟩]
              · rw [if_neg e2, if_neg (fun ⟨b1, b2⟩ => (List.mem_append.1 b1).elim (fun b1 => e2 ⟨b1, b2⟩) (fun b1 => hxm (by rw [← List.mem_singleton.1 b1]; exact b2)))]
            have h8 : LowI (cl c) m (pre ++ [x]) f' ks' := ⟨h6, h7⟩
            clear h6 h7 h4 h5
            gi_wp2
            exact ⟨Keep.refl _ _, h1, h2, _, _, ⟨D1, hown3, hD3⟩, h8⟩
      case stop2 => exact fun D c pre W h1 h2 h3 => h3.elim
      case done2 =>
        rintro D2 W5 hD2z ⟨hDD, kB, f', ks', hM5, h4, h5⟩ hDf2
        replace h4 := Lib.hid h4
        replace h5 := Lib.hid h5
        gi_wp2
        have hM1 := hT2.mp
        obtain ⟨N1, hN1, hM1⟩ := hM1
        have hM6 := ((hM1.kept kA (by omega)).kept kB (fun e => hmbp.2 e.symm)).drew
        have hne : D ≠ D2 := by omega
        have p5 := (((hT2.pc.kept kA (by omega)).kept kB (fun e => hmbp.1 e.symm)).drew).cell 0
        have f5 := ((e54.kept kB (by omega)).drew).cell 0
        have r1 := ((hR2.kept kB (by omega)).drew).cell 1
        have he5 := (he2.kept kB (by omega)).drew
        simp only [List.getElem?_toArray, List.getElem?_cons_succ, List.getElem?_cons_zero] at p5 f5 r1
        have sd : (fun W => W.cell? ⟨p, 0, none⟩ = some (.map (some b)) ∧ W.cell? ⟨B, 0, none⟩ = some (.int .i64 m) ∧ W.cell? ⟨q1, 1, none⟩ = some (.map (some mb))) W5.drew := ⟨p5, f5, r1⟩
        have kd : Keep (fun i => i = b) W5 W5.drew := (Keep.refl _ W5).drew
        obtain ⟨W6, hrun6, hM7, hk6⟩ := hM6.upd Try.underlying61 (show N1 < maxLen by omega) wc (.agg #[.int .i64 m, .map (some mb)])
        have kC : Keep (fun i => i = b) W5 W6 := kd.trans hk6 (fun _ _ e => e)
        have sd2 : (fun W => W.cell? ⟨p, 0, none⟩ = some (.map (some b)) ∧ W.cell? ⟨B, 0, none⟩ = some (.int .i64 m) ∧ W.cell? ⟨q1, 1, none⟩ = some (.map (some mb))) W6 := ⟨hk6.cell p5 h.ne, hk6.cell f5 (by dsimp only; omega), hk6.cell r1 (by dsimp only; omega)⟩
        refine wpIn_wide.2 (wp_calm ?_)
        refine wp_region_held_drew (S := (fun W => W.cell? ⟨p, 0, none⟩ = some (.map (some b)) ∧ W.cell? ⟨B, 0, none⟩ = some (.int .i64 m) ∧ W.cell? ⟨q1, 1, none⟩ = some (.map (some mb)))) (by kernel_rfl) sd (fun hHeld => ?_)
        generalize W5.drew = wz at *
        (refine tkI 0 (by (simp only [List.getElem?_toArray, List.getElem?_cons_succ, List.getElem?_cons_zero]; rfl)) (by kernel_rfl) (by kernel_rfl) (by kernel_rfl) (by exact fun _ _ _ h => h) (by rfl) (by (intro w hSw; (try dsimp only at hSw); go_simp <;> with_reducible rfl)) (by assumption) ?_; try simp only [Act.put, List.setIfInBounds_toArray, List.set_cons_zero, List.set_cons_succ])
        (refine tkI 1 (by (simp only [List.getElem?_toArray, List.getElem?_cons_succ, List.getElem?_cons_zero]; rfl)) (by kernel_rfl) (by kernel_rfl) (by kernel_rfl) (by exact fun _ _ _ h => h) (by rfl) (by (intro w hSw; (try dsimp only at hSw); go_simp <;> with_reducible rfl)) (by assumption) ?_; try simp only [Act.put, List.setIfInBounds_toArray, List.set_cons_zero, List.set_cons_succ])
        (refine tkI 2 (by (simp only [List.getElem?_toArray, List.getElem?_cons_succ, List.getElem?_cons_zero]; rfl)) (by kernel_rfl) (by kernel_rfl) (by kernel_rfl) (by exact fun _ _ _ h => h) (by rfl) (by (intro w hSw; (try dsimp only at hSw); go_simp <;> with_reducible rfl)) (by assumption) ?_; try simp only [Act.put, List.setIfInBounds_toArray, List.set_cons_zero, List.set_cons_succ])
        (refine tkI 3 (by (simp only [List.getElem?_toArray, List.getElem?_cons_succ, List.getElem?_cons_zero]; rfl)) (by kernel_rfl) (by kernel_rfl) (by kernel_rfl) (by exact fun _ _ _ h => h) (by rfl) (by (intro w hSw; (try dsimp only at hSw); go_simp <;> with_reducible rfl)) (by assumption) ?_; try simp only [Act.put, List.setIfInBounds_toArray, List.set_cons_zero, List.set_cons_succ])
        (refine tkI 4 (by (simp only [List.getElem?_toArray, List.getElem?_cons_succ, List.getElem?_cons_zero]; rfl)) (by kernel_rfl) (by kernel_rfl) (by kernel_rfl) (by exact fun _ _ _ h => h) (by rfl) (by (intro w hSw; (try dsimp only at hSw); go_simp <;> with_reducible rfl)) (by assumption) ?_; try simp only [Act.put, List.setIfInBounds_toArray, List.set_cons_zero, List.set_cons_succ])
        (refine tkI 5 (by (simp only [List.getElem?_toArray, List.getElem?_cons_succ, List.getElem?_cons_zero]; rfl)) (by kernel_rfl) (by kernel_rfl) (by kernel_rfl) (by exact fun _ _ _ h => h) (by rfl) (by (intro w hSw; (try dsimp only at hSw); go_simp <;> with_reducible rfl)) (by assumption) ?_; try simp only [Act.put, List.setIfInBounds_toArray, List.set_cons_zero, List.set_cons_succ])
        (refine tkI 6 (by (simp only [List.getElem?_toArray, List.getElem?_cons_succ, List.getElem?_cons_zero]; rfl)) (by kernel_rfl) (by kernel_rfl) (by kernel_rfl) (by exact fun _ _ _ h => h) (by rfl) (by (intro w hSw; (try dsimp only at hSw); go_simp <;> with_reducible rfl)) (by assumption) ?_; try simp only [Act.put, List.setIfInBounds_toArray, List.set_cons_zero, List.set_cons_succ])
        (refine tkI 7 (by (simp only [List.getElem?_toArray, List.getElem?_cons_succ, List.getElem?_cons_zero]; rfl)) (by kernel_rfl) (by kernel_rfl) (by kernel_rfl) (by exact fun _ _ _ h => h) (by rfl) (by (intro w hSw; (try dsimp only at hSw); go_simp <;> with_reducible rfl)) (by assumption) ?_; try simp only [Act.put, List.setIfInBounds_toArray, List.set_cons_zero, List.set_cons_succ])
        (refine tkI 8 (by (simp only [List.getElem?_toArray, List.getElem?_cons_succ, List.getElem?_cons_zero]; rfl)) (by kernel_rfl) (by kernel_rfl) (by kernel_rfl) (by exact fun _ _ _ h => h) (by rfl) (by (intro w hSw; (try dsimp only at hSw); go_simp <;> with_reducible rfl)) (by assumption) ?_; try simp only [Act.put, List.setIfInBounds_toArray, List.set_cons_zero, List.set_cons_succ])
        refine wpAnyH_ready (rs := [9]) (by kernel_rfl) (by simp) ?_
        refine AllReadyH.cons (by (simp only [List.getElem?_toArray, List.getElem?_cons_succ, List.getElem?_cons_zero]; rfl)) (fun K hK => ?_) AllReadyH.nil
        go_simp
        refine hK.out _ _ sd2 (fun hHeld2 => ?_)
        clear hK K hHeld
        clear hHeld2
        try simp only [Act.put, List.setIfInBounds_toArray, List.set_cons_zero, List.set_cons_succ]
        refine wpAnyH_done (by kernel_rfl) ?_ _
        rw [then_normal]
        have e1 : f' = fun j => ((if j ∈ (cl c).ns ∧ j < m then rq0 else (cl c).g j : Rq)).v := by
          funext j
          rw [h5.out j]
          by_cases e : j ∈ sortI (cl c).ns ∧ j < m
          · rw [if_pos e, if_pos ⟨mem_sortI.1 e.1, e.2⟩]
          · rw [if_neg e, if_neg (fun e2 => e ⟨mem_sortI.2 e2.1, e2.2⟩)]
        rw [e1] at hM5
        obtain ⟨g1, g2, g3⟩ := TS.put h hr2 hbW2 kB kC (ck := m) (g' := fun j => if j ∈ (cl c).ns ∧ j < m then rq0 else (cl c).g j) (ns' := ks') ⟨N, by omega, hM5⟩ ⟨N1 + 1, by omega, hM7⟩
        have hDD6 : W6.heap[D]? = some (.deferred (some [])) := (kC.block D (Array.getElem?_eq_some_iff.1 hDD).1 (by omega)).trans hDD
        have hDf6 : W6.heap[D2]? = some (.deferred (some [])) := (kC.block D2 (Array.getElem?_eq_some_iff.1 hDf2).1 (by omega)).trans hDf2
        have he6 := he5.kept hk6 (by omega)
        have f6 := he6.cell 0
        have f6f := he6.frozen 0
        simp only [List.getElem?_toArray, List.getElem?_cons_succ, List.getElem?_cons_zero] at f6
        have hs := he6.set_ 0 (.int .i64 0)
        simp only [List.setIfInBounds_toArray, List.set_cons_zero] at hs
        have hDf7 : (W6.setCell ⟨B + 1, 0, none⟩ (.int .i64 0)).heap[D2]? = some (.deferred (some [])) := (Below.heap_setCell _ _ _ D2 (by dsimp only; omega)).trans hDf6
        have hDD7 : (W6.setCell ⟨B + 1, 0, none⟩ (.int .i64 0)).heap[D]? = some (.deferred (some [])) := (Below.heap_setCell _ _ _ D (by dsimp only; omega)).trans hDD6
        have kS : Keep (fun k => k = B + 1 ∨ k = D ∨ k = D2) W6 (W6.setCell ⟨B + 1, 0, none⟩ (.int .i64 0)) := Keep.setCell (S := fun k => k = B + 1 ∨ k = D ∨ k = D2) (Keep.refl _ _) (p := ⟨B + 1, 0, none⟩) (fun _ => .inl rfl) _
        have hnd5 := hM5.nd
        clear sd sd2 p5 f5 r1
        gi_wp2
        generalize W6.setCell ⟨B + 1, 0, none⟩ (.int .i64 0) = WE at *
        have hDD8 : (WE.putObj D2 (.deferred none)).heap[D]? = some (.deferred (some [])) := (World.putObj_heap_other hne).trans hDD7
        have hr1D : Blk (WE.putObj D2 (.deferred none)) (B + 1) 33 #[.int .i64 0] := blk_row (B := 0) hs (grownBy_putObj' WE D2 _) (fun r e => by cases e; exact ⟨Nat.zero_le _, _, hDf7, rfl⟩)
        have hr2D : Blk ((WE.putObj D2 (.deferred none)).putObj D (.deferred none)) (B + 1) 33 #[.int .i64 0] := blk_row (B := 0) hr1D (grownBy_putObj' _ D _) (fun r e => by cases e; exact ⟨Nat.zero_le _, _, hDD8, rfl⟩)
        have kF := (kS.putObj (l := D2) (.inr (.inr rfl)) (.deferred none)).putObj (l := D) (.inr (.inl rfl)) (.deferred none)
        have E0 := hr2D.cell 0
        simp only [List.getElem?_toArray, List.getElem?_cons_succ, List.getElem?_cons_zero] at E0
        have hnF : ∀ g, (F g ∨ g = mb) → ¬ (g = B + 1 ∨ g = D ∨ g = D2) := fun g hg e => by
          rcases hg with hg | hg
          · have := hF g hg; omega
          · omega
        refine ⟨by simp, .inl ⟨_, _, rfl, run_takeDeferred hDf7, by simp, .inl ⟨_, _, rfl, run_takeDeferred hDD8, ?_⟩⟩⟩
        refine ⟨.int .i64 0, by simp [results, Try.results15, go_sem, E0], .inr (.inr ⟨rfl, hbad, by rw [hk]; omega, mb, _, ks', g1, g2.kept kF hnF, g3.trans kF (fun i hi e => by omega), hnd5, fun y => ?_, fun y hy => ?_⟩)⟩
        · rw [h4.out y, mem_sortI]
          exact ⟨fun ⟨a1, a2⟩ => ⟨a1, fun e => a2 ⟨a1, e⟩⟩, fun ⟨a1, a2⟩ => ⟨a1, fun e => a2 e.2⟩⟩
        · have := ((h4.out y).1 hy).2
          rw [mem_sortI] at this
          exact if_neg this
end Go.Proofs.Ytpendcaefjbomaa
