/- walks: moves beside the document's. No condition but that both lie in memory and say the same. -/
import Derived.Test.YtjjghhhhalendaaGreatMwA
import Derived.Test.YtjjghhhhalendaaGreatBkF
namespace Go.Proofs.YtjjghhhhalendaaGreat
open Go.RowKit Go.Maps Go.Shelf Go.Sort
set_option linter.unusedVariables false
set_option linter.unusedSimpArgs false
attribute [local go_sem] Oper.semAt_some

theorem wp_calm {c : Code} {Q : Exit → Act → World → Prop} {P : Program} {a : Act} {w : World} (h : c.wp P (Exit.then (Q .normal) (fun _ _ _ => False)) a w) : c.wp P Q a w :=
  wp_mono h fun e a w h => by cases e <;> first | exact h | exact h.elim
theorem then_normal {K : Act → World → Prop} {Q : Exit → Act → World → Prop} {a : Act} {w : World} : Exit.then K Q .normal a w = K a w := rfl
theorem il_row {B : Nat} {A A' : World} {row : Option Nat} {Ad : Option Addr} {n : Nat} {l : List It} (h : IL A Ad n l) (hg : A.grownBy A' row) (hr : ∀ r, row = some r → B ≤ r ∧ ∃ o : Obj, A.heap[r]? = some o ∧ o.isCells = false) : IL A' Ad n l :=
  h.kept (Keep.of_grown hg) fun ad e hn => by
    obtain ⟨b, off, x, e2, _, h1, _⟩ := h.place hn
    rw [e] at e2
    cases e2
    exact row_not_cell hr h1
theorem range_ownF {α : Type} {g : Operand} {ps : Array Tmp} {assign body : Code} {Q : Exit → Act → World → Prop} {a : Act} {w w0 : World} {gf : Nat} {lb : Array Value} {Enc : α → Array Value → World → Prop} {L : List α} {S : Nat → Prop}
    (hg : a.eval g = .func (.func gf) #[] lb) (eg : ∀ args w, (callFunc gf args).run Tryz.prog w = .ok (.enter gf args) w)
    (hseq : SeqE gf lb Enc L S w0) (hb0 : Below w0.heap.size w0 w) (hS : ∀ k, S k → k < w.heap.size) (hps : ∀ x args W, Enc x args W → args.size = ps.size)
    (I : List α → World → Prop) (Ix : Code → List α → World → Prop) (hI : OwnFrom w.heap.size I) (hIx : ∀ c, OwnFrom w.heap.size (Ix c)) (h0 : I [] w)
    (hone : ∀ x args W, Enc x args W → ∃ u, args = #[u]) (Ok : α → Value → Nat → World → Prop) (hOk : ∀ x u Bx, OwnFrom w.heap.size (fun (_ : Unit) W => w.heap.size ≤ Bx ∧ Ok x u Bx W))
    (hround : ∃ mk : Nat → Value → Act, (∀ (l : Nat) (pre : List α) (x : α) (u : Value) (W : World) (K : Act → World → Prop), pre ++ [x] <+: L → w.heap.size ≤ W.heap.size → I pre W → Enc x #[u] W → (∀ Bx W', Keep S W W' → I pre W' → w.heap.size ≤ Bx → Ok x u Bx W' → K (mk Bx u) W') →
      assign.wpIn (Fence.wide.inRound l) 7 Tryz.prog (Exit.then K (fun _ _ _ => False)) { tmps := (ps.zip #[u]).foldl (fun t (p, v) => t.setIfInBounds p v) a.tmps, defers := [] } W) ∧
      (∀ (l : Nat) (pre : List α) (x : α) (u : Value) (Bx : Nat) (W : World), pre ++ [x] <+: L → w.heap.size ≤ W.heap.size → I pre W → w.heap.size ≤ Bx → Ok x u Bx W → body.wpIn (Fence.wide.inRound l) 7 Tryz.prog (postO S I Ix (pre ++ [x]) W) (mk Bx u) W))
    (hdone : ∀ (D : Nat) (W : World), w.heap.size ≤ D → I L W → W.heap[D]? = some (.deferred (some [])) → Q .normal { a with defers := { target := .collected D, args := #[] } :: a.defers } W)
    (hstop : ∀ (D : Nat) (c : Code) (pre : List α) (W : World), w.heap.size ≤ D → pre <+: L → Ix c pre W → W.heap[D]? = some (.deferred (some [])) → c.wpIn Fence.wide 9 Tryz.prog Q { a with defers := { target := .collected D, args := #[] } :: a.defers } W) :
    (Code.rangeFunc g ps assign body).wpIn Fence.wide 9 Tryz.prog Q a w := by
  obtain ⟨mk, hassign, hbody⟩ := hround
  refine range_ownE hg eg hseq hb0 hS hps I Ix hI hIx h0 ⟨fun x a' W => ∃ u Bx, (w.heap.size ≤ Bx ∧ Ok x u Bx W) ∧ a' = mk Bx u, fun x a' s A A' row hs hgr hr => ?_, fun l pre x args W K hpre hz hi hen hK => ?_, fun l pre x a' W hpre hz hi h => ?_⟩ hdone hstop
  · obtain ⟨u, Bx, h1, h2⟩ := hs
    exact ⟨u, Bx, hOk x u Bx () A A' row h1 hgr hr, h2⟩
  · obtain ⟨u, rfl⟩ := hone x args W hen
    exact hassign l pre x u W K hpre hz hi hen fun Bx W' h1 h2 h3 h4 => hK _ _ h1 h2 ⟨u, Bx, ⟨h3, h4⟩, rfl⟩
  · obtain ⟨u, Bx, ⟨h1, h2⟩, rfl⟩ := h
    exact hbody l pre x u Bx W hpre hz hi h1 h2
def OkW (f : Int → Rec) (x : Int) (u : Value) (Bx : Nat) (W : World) : Prop := ∃ A c n0 rm rf rt rc, u = .agg #[.int .i64 rm, .int .i64 rf, .int .i64 rt, .slice A n0 c, .bool rc] ∧ Blk W Bx 59 #[.int .i64 rm, .int .i64 rf, .int .i64 rt, .slice A n0 c, .bool rc] ∧ (rm, rf, rt, n0, rc) = ((f x).m, (f x).f, (f x).t, (f x).l.l.length, (f x).c) ∧ IL W A n0 (f x).l.l
set_option maxRecDepth 100000 in
set_option maxHeartbeats 6400000 in
theorem walks_any {F G : Nat → Prop} {w : World} {p b N0 q : Nat} {f : Int → Rec} {ks : List Int} {rs : List Rec} (h : PS F w p b N0 f ks) (hq : QK G w q rs) (hJ : WJ f ks rs) (hl : rs.length ≤ 1048576) (hls : ∀ r ∈ rs, IL w r.l.A r.l.n r.l.l ∧ MY r.l.l) :
    Calls Tryz.prog 16 #[.pointer (some ⟨p, 0, none⟩), .pointer (some ⟨q, 0, none⟩)] w fun e w' => e = .returned (.bool true) ∧ RowKit.Below w.heap.size w w' := by
  have hfn := func_eq_nilW
  obtain ⟨vx, hV⟩ := hq
  obtain ⟨Ax, cx, rfl, _⟩ := hV.own.form
  have hkn := hJ.len
  obtain ⟨N, hN⟩ : ∃ N, rs.length = N := ⟨_, rfl⟩
  rw [hN] at hV hl hkn
  have hql := hV.pc.lt
  have hpl := h.lt
  refine (callsIn_wide (n := 9)).1 ?_
  refine callsIn_of_wp_marks Tryz.func16 rfl trivial ?_ rfl
  simp only [Tryz.ntmps16, List.size_toArray, List.length_cons, List.length_nil, Nat.reduceAdd, Nat.reduceSub, Array.replicate_succ, Array.replicate_zero, List.push_toArray, List.append_toArray, List.nil_append, List.cons_append]
  gi_wp2_with (refine ⟨trivial, ?_⟩; gi_at_call 18; refine (callsIn_wide.2 (pall_make (some ⟨p, 0, none⟩) _)).mono ?_; rintro e w2 ⟨rfl, rfl⟩)
  have e0 := ((Blk.new w 25 #[.pointer (some ⟨q, 0, none⟩)]).alloc (.cells #[.bool false] 4)).alloc (.cells #[.pointer (some ⟨p, 0, none⟩)] 23)
  have e1 := (Blk.new (w.alloc (.cells #[.pointer (some ⟨q, 0, none⟩)] 25)) 4 #[.bool false]).alloc (.cells #[.pointer (some ⟨p, 0, none⟩)] 23)
  have e2 := Blk.new ((w.alloc (.cells #[.pointer (some ⟨q, 0, none⟩)] 25)).alloc (.cells #[.bool false] 4)) 23 #[.pointer (some ⟨p, 0, none⟩)]
  rw [World.size_alloc] at e1
  rw [World.size_alloc, World.size_alloc] at e2
  have hb4 := (((RowKit.Below.refl w.heap.size w).alloc (Nat.le_refl _) (.cells #[.pointer (some ⟨q, 0, none⟩)] 25)).alloc (by simp) (.cells #[.bool false] 4)).alloc (by simp; omega) (.cells #[.pointer (some ⟨p, 0, none⟩)] 23)
  have hz4 : (((w.alloc (.cells #[.pointer (some ⟨q, 0, none⟩)] 25)).alloc (.cells #[.bool false] 4)).alloc (.cells #[.pointer (some ⟨p, 0, none⟩)] 23)).heap.size = w.heap.size + 3 := by simp
  generalize hW : ((w.alloc (.cells #[.pointer (some ⟨q, 0, none⟩)] 25)).alloc (.cells #[.bool false] 4)).alloc (.cells #[.pointer (some ⟨p, 0, none⟩)] 23) = W0 at *
  clear hW
  have hP0 := h.below hb4
  have hV0 := hV.below hb4
  have hlen := mlen_any hP0.drew
  rw [← hkn] at hlen
  have x0 := hV0.field
  have b0 := e0.cell 0
  simp at b0
  have hS4 : (fun W => W.cell? ⟨w.heap.size, 0, none⟩ = some (.pointer (some ⟨q, 0, none⟩)) ∧ W.cell? ⟨q, 0, none⟩ = some (.slice Ax N cx)) W0.drew := ⟨b0, x0⟩
  refine wpIn_wide.2 (wp_calm ?_)
  refine wp_region_held_drew (S := (fun W => W.cell? ⟨w.heap.size, 0, none⟩ = some (.pointer (some ⟨q, 0, none⟩)) ∧ W.cell? ⟨q, 0, none⟩ = some (.slice Ax N cx))) (by kernel_rfl) hS4 (fun hHeld => ?_)
  refine wpAnyH_take (i := 0) (oi := ?oi0a) (v := ?v0a) ?hi0a (by kernel_rfl) (by kernel_rfl) (by kernel_rfl) ?hq0a (Or.inl ⟨?hw0a, ?hy0a⟩) (by assumption) ?rest0a
  case hi0a => (simp only [List.getElem?_toArray, List.getElem?_cons_succ, List.getElem?_cons_zero]; rfl)
  case hq0a => exact fun _ _ _ h => h
  case hw0a => rfl
  case hy0a => (intro w hSw; (try dsimp only at hSw); go_simp <;> with_reducible rfl)
  try simp only [Act.put, List.setIfInBounds_toArray, List.set_cons_zero, List.set_cons_succ]
  refine wpAnyH_take (i := 1) (oi := ?oi1a) (v := ?v1a) ?hi1a (by kernel_rfl) (by kernel_rfl) (by kernel_rfl) ?hq1a (Or.inl ⟨?hw1a, ?hy1a⟩) (by assumption) ?rest1a
  case hi1a => (simp only [List.getElem?_toArray, List.getElem?_cons_succ, List.getElem?_cons_zero]; rfl)
  case hq1a => exact fun _ _ _ h => h
  case hw1a => rfl
  case hy1a => (intro w hSw; (try dsimp only at hSw); go_simp <;> with_reducible rfl)
  try simp only [Act.put, List.setIfInBounds_toArray, List.set_cons_zero, List.set_cons_succ]
  refine wpAnyH_take (i := 2) (oi := ?oi2a) (v := ?v2a) ?hi2a (by kernel_rfl) (by kernel_rfl) (by kernel_rfl) ?hq2a (Or.inl ⟨?hw2a, ?hy2a⟩) (by assumption) ?rest2a
  case hi2a => (simp only [List.getElem?_toArray, List.getElem?_cons_succ, List.getElem?_cons_zero]; rfl)
  case hq2a => exact fun _ _ _ h => h
  case hw2a => rfl
  case hy2a => (intro w hSw; (try dsimp only at hSw); go_simp <;> with_reducible rfl)
  try simp only [Act.put, List.setIfInBounds_toArray, List.set_cons_zero, List.set_cons_succ]
  refine wpAnyH_take (i := 3) (oi := ?oi3a) (v := ?v3a) ?hi3a (by kernel_rfl) (by kernel_rfl) (by kernel_rfl) ?hq3a (Or.inl ⟨?hw3a, ?hy3a⟩) (by assumption) ?rest3a
  case hi3a => (simp only [List.getElem?_toArray, List.getElem?_cons_succ, List.getElem?_cons_zero]; rfl)
  case hq3a => exact fun _ _ _ h => h
  case hw3a => rfl
  case hy3a => (intro w hSw; (try dsimp only at hSw); go_simp <;> with_reducible rfl)
  try simp only [Act.put, List.setIfInBounds_toArray, List.set_cons_zero, List.set_cons_succ]
  refine wpAnyH_take (i := 5) (oi := ?oi5a) (v := ?v5a) ?hi5a (by kernel_rfl) (by kernel_rfl) (by kernel_rfl) ?hq5a (Or.inl ⟨?hw5a, ?hy5a⟩) (by assumption) ?rest5a
  case hi5a => (simp only [List.getElem?_toArray, List.getElem?_cons_succ, List.getElem?_cons_zero]; rfl)
  case hq5a => exact fun _ _ _ h => h
  case hw5a => rfl
  case hy5a => (intro w hSw; (try dsimp only at hSw); go_simp <;> with_reducible rfl)
  try simp only [Act.put, List.setIfInBounds_toArray, List.set_cons_zero, List.set_cons_succ]
  refine wpAnyH_take (i := 6) (oi := ?oi6a) (v := ?v6a) ?hi6a (by kernel_rfl) (by kernel_rfl) (by kernel_rfl) ?hq6a (Or.inl ⟨?hw6a, ?hy6a⟩) (by assumption) ?rest6a
  case hi6a => (simp only [List.getElem?_toArray, List.getElem?_cons_succ, List.getElem?_cons_zero]; rfl)
  case hq6a => exact fun _ _ _ h => h
  case hw6a => rfl
  case hy6a => (intro w hSw; (try dsimp only at hSw); go_simp <;> with_reducible rfl)
  try simp only [Act.put, List.setIfInBounds_toArray, List.set_cons_zero, List.set_cons_succ]
  refine wpAnyH_take (i := 7) (oi := ?oi7a) (v := ?v7a) ?hi7a (by kernel_rfl) (by kernel_rfl) (by kernel_rfl) ?hq7a (Or.inl ⟨?hw7a, ?hy7a⟩) (by assumption) ?rest7a
  case hi7a => (simp only [List.getElem?_toArray, List.getElem?_cons_succ, List.getElem?_cons_zero]; rfl)
  case hq7a => exact fun _ _ _ h => h
  case hw7a => rfl
  case hy7a => (intro w hSw; (try dsimp only at hSw); go_simp <;> with_reducible rfl)
  try simp only [Act.put, List.setIfInBounds_toArray, List.set_cons_zero, List.set_cons_succ]
  refine wpAnyH_take (i := 8) (oi := ?oi8a) (v := ?v8a) ?hi8a (by kernel_rfl) (by kernel_rfl) (by kernel_rfl) ?hq8a (Or.inl ⟨?hw8a, ?hy8a⟩) (by assumption) ?rest8a
  case hi8a => (simp only [List.getElem?_toArray, List.getElem?_cons_succ, List.getElem?_cons_zero]; rfl)
  case hq8a => exact fun _ _ _ h => h
  case hw8a => rfl
  case hy8a => (intro w hSw; (try dsimp only at hSw); go_simp <;> with_reducible rfl)
  try simp only [Act.put, List.setIfInBounds_toArray, List.set_cons_zero, List.set_cons_succ]
  refine wpAnyH_take (i := 9) (oi := ?oi9a) (v := ?v9a) ?hi9a (by kernel_rfl) (by kernel_rfl) (by kernel_rfl) ?hq9a (Or.inl ⟨?hw9a, ?hy9a⟩) (by assumption) ?rest9a
  case hi9a => (simp only [List.getElem?_toArray, List.getElem?_cons_succ, List.getElem?_cons_zero]; rfl)
  case hq9a => exact fun _ _ _ h => h
  case hw9a => rfl
  case hy9a => (intro w hSw; (try dsimp only at hSw); go_simp <;> with_reducible rfl)
  try simp only [Act.put, List.setIfInBounds_toArray, List.set_cons_zero, List.set_cons_succ]
  refine wpAnyH_ready (rs := [4]) (by kernel_rfl) (by simp) ?_
  refine AllReadyH.cons (o := ?o4a) ?hi4a (fun K hK => ?st4a) AllReadyH.nil
  case hi4a => (simp only [List.getElem?_toArray, List.getElem?_cons_succ, List.getElem?_cons_zero]; rfl)
  go_simp
  refine hlen.mono ?_
  rintro e w' ⟨rfl, hww⟩
  subst w'
  refine hK.out _ _ hS4 (fun hHeld2 => ?_)
  clear hK K hHeld
  have hHeld := hHeld2
  clear hHeld2
  try simp only [Act.put, List.setIfInBounds_toArray, List.set_cons_zero, List.set_cons_succ]
  refine wpAnyH_take (i := 10) (oi := ?oi10a) (v := ?v10a) ?hi10a (by kernel_rfl) (by kernel_rfl) (by kernel_rfl) ?hq10a (Or.inl ⟨?hw10a, ?hy10a⟩) (by assumption) ?rest10a
  case hi10a => (simp only [List.getElem?_toArray, List.getElem?_cons_succ, List.getElem?_cons_zero]; rfl)
  case hq10a => exact fun _ _ _ h => h
  case hw10a => rfl
  case hy10a => (intro w hSw; (try dsimp only at hSw); go_simp <;> with_reducible rfl)
  try simp only [Act.put, List.setIfInBounds_toArray, List.set_cons_zero, List.set_cons_succ]
  refine wpAnyH_take (i := 11) (oi := ?oi11a) (v := ?v11a) ?hi11a (by kernel_rfl) (by kernel_rfl) (by kernel_rfl) ?hq11a (Or.inl ⟨?hw11a, ?hy11a⟩) (by assumption) ?rest11a
  case hi11a => (simp only [List.getElem?_toArray, List.getElem?_cons_succ, List.getElem?_cons_zero]; rfl)
  case hq11a => exact fun _ _ _ h => h
  case hw11a => rfl
  case hy11a => (intro w hSw; (try dsimp only at hSw); go_simp <;> with_reducible rfl)
  try simp only [Act.put, List.setIfInBounds_toArray, List.set_cons_zero, List.set_cons_succ]
  refine wpAnyH_done (by kernel_rfl) ?_ _
  rw [then_normal]
  gi_wp2
  have e3 := (Blk.new W0 3 #[.int .i64 0]).drew
  rw [hz4] at e3
  have e0' := (e0.alloc (.cells #[.int .i64 0] 3)).drew
  have e1' := (e1.alloc (.cells #[.int .i64 0] 3)).drew
  have b2' : (W0.alloc (.cells #[.int .i64 0] 3)).drew.cell? ⟨w.heap.size + 2, 0, none⟩ = some (.pointer (some ⟨p, 0, none⟩)) := by
    have := (e2.alloc (.cells #[.int .i64 0] 3)).drew.cell 0
    simpa using this
  have hb5 := (hb4.alloc (by omega) (.cells #[.int .i64 0] 3)).drew
  have hz5 : (W0.alloc (.cells #[.int .i64 0] 3)).drew.heap.size = w.heap.size + 4 := by
    show (W0.alloc (.cells #[.int .i64 0] 3)).heap.size = _
    rw [World.size_alloc, hz4]
  generalize hW5 : (W0.alloc (.cells #[.int .i64 0] 3)).drew = W5 at *
  clear hW5 e0 e1 e2 hS4 hlen x0 b0 hP0 hV0 hb4 hHeld
  have hP5 := (h.mono (G := fun k => F k ∧ k < w.heap.size) (fun k h1 h2 => ⟨h2, h1⟩)).below hb5
  have hV5 := (hV.mono (G := fun k => G k ∧ k < w.heap.size) (fun k h1 h2 => ⟨h2, h1⟩)).below hb5
  have hall := all_gives hP5 (by omega) b2' (fun k => k = w.heap.size + 3) (fun k e => by omega) (fun k hk => ⟨by have := hk.2; omega, fun e => by have := hk.2; omega⟩) (by omega)
  obtain ⟨LL, hLL⟩ : ∃ LL, sortI ks = LL := ⟨_, rfl⟩
  have hms := hJ.ms
  have heq := hJ.eq
  rw [hLL] at hall hms
  have hLN : LL.length = N := by rw [← hms, List.length_map, hN]
  clear hLL hJ hP5 h b2' hkn
  refine range_ownF (a := _) (w := W5) (w0 := W5) (gf := 48) (lb := #[.pointer (some ⟨w.heap.size + 2, 0, none⟩)]) (by first | rfl | simp [go_sem]) (enters_of Tryz.func48 (by kernel_rfl) rfl) hall (Below.refl _ _) (fun k e => by omega) (fun x args W hE => by obtain ⟨u, A, c, rfl, _⟩ := hE; rfl)
    (fun pre W => pre <+: LL ∧ Keep (fun k => k = w.heap.size + 3) W5 W ∧ Blk W (w.heap.size + 3) 3 #[.int .i64 (pre.length : Int)])
    (fun c pre W => False) ?hI ?hIx ⟨List.nil_prefix, Keep.refl _ _, e3⟩ (fun x args W hE => by obtain ⟨u, A, c, rfl, _⟩ := hE; exact ⟨u, rfl⟩) (OkW f) ?ok ?round ?done ?stop
  case hI => exact fun s A A' row h hg hr => ⟨h.1, keep_own (β := List Int) _ W5 s A A' row h.2.1 hg hr, blk_row h.2.2 hg hr⟩
  case hIx => exact fun c s A A' row h hg hr => h
  case ok =>
    rintro x u Bx s A A' row ⟨h0, A1, c, n0, rm, rf, rt, rc, h1, h2, h3, h4⟩ hg hr
    exact ⟨h0, A1, c, n0, rm, rf, rt, rc, h1, blk_row h2 hg hr, h3, il_row h4 hg hr⟩
  case round =>
    apply Exists.intro
    constructor
    · rintro l' pre x u W' K hpre hz ⟨hp1, hk, hi⟩ ⟨u', A, c, e0, e1, hil⟩ hK
      obtain rfl : u = u' := by simpa using e0
      obtain ⟨rm, hrm⟩ : ∃ rm, (f x).m = rm := ⟨_, rfl⟩
      obtain ⟨rf, hrf⟩ : ∃ rf, (f x).f = rf := ⟨_, rfl⟩
      obtain ⟨rt, hrt⟩ : ∃ rt, (f x).t = rt := ⟨_, rfl⟩
      obtain ⟨rc, hrc⟩ : ∃ rc, (f x).c = rc := ⟨_, rfl⟩
      obtain ⟨n0, hn0⟩ : ∃ n0, (f x).l.l.length = n0 := ⟨_, rfl⟩
      rw [hrm, hrf, hrt, hrc, hn0] at e1
      rw [hn0] at hil
      rw [e1]
      obtain ⟨Bx, hBx⟩ : ∃ Bx, Bx = W'.heap.size := ⟨_, rfl⟩
      have hK2 := hK Bx (W'.alloc (.cells #[.int .i64 rm, .int .i64 rf, .int .i64 rt, .slice A n0 c, .bool rc] 59)) ((Keep.refl _ W').alloc _) ⟨hp1, hk.alloc _, hi.alloc _⟩ (by omega) ⟨A, c, n0, rm, rf, rt, rc, e1, by rw [hBx]; exact Blk.new W' _ _, by rw [hrm, hrf, hrt, hrc, hn0], hil.alloc _⟩
      gi_wp2
      rw [← hBx, ← e1]
      exact hK2
    · rintro l' pre x u Bx W' hpre hz ⟨hp1, hk, hi⟩ hBx ⟨A, c, n0, rm, rf, rt, rc, hu, hB, h3, hil⟩
      obtain ⟨j, hj⟩ : ∃ j, pre.length = j := ⟨_, rfl⟩
      rw [hj] at hi
      have hlx : LL[j]? = some x := by
        obtain ⟨r, hr⟩ := hpre
        rw [← hr, ← hj]
        simp
      have hjn : j < N := by
        have := (List.getElem?_eq_some_iff.1 hlx).1
        omega
      have hjz : decide (N ≤ j) = false := decide_eq_false (by omega)
      have hjz2 : decide ((N : Int) ≤ (j : Int)) = false := decide_eq_false (by omega)
      have hVW := hV5.kept hk (fun g hg e => by have := hg.2; omega)
      obtain ⟨g, y, rfl, hy, d0, d1, d2, d3, d4⟩ := hVW.own.place hjn
      have hym : y.m = x := by
        rw [← hms, List.getElem?_map, hy] at hlx
        simpa using hlx
      have hcy := heq y (List.mem_of_getElem? hy)
      obtain ⟨hil2, hmy2⟩ := hls y (List.mem_of_getElem? hy)
      rw [hym] at hcy
      have hgG := hVW.fv g rfl
      have hgl := hgG.2
      unfold core at hcy
      simp only [Prod.mk.injEq] at hcy h3
      obtain ⟨q0, q1, q2, q3, q4⟩ := hcy
      obtain ⟨p0, p1, p2, p3, p4⟩ := h3
      obtain ⟨ym, yf, yt, ⟨A2, n2, c2, l2⟩, yc⟩ := y
      dsimp only at d0 d1 d2 d4 q0 q1 q2 q3 q4 hil2 hmy2
      change _ = some (Value.slice A2 n2 c2) at d3
      have hn2 : n2 = n0 := by rw [← hil2.len, q3, p3]
      rw [← q0] at p0
      rw [← q1] at p1
      rw [← q2] at p2
      rw [← q4] at p4
      subst hn2
      subst p0
      subst p1
      subst p2
      subst p4
      rw [← q3] at hil
      have hbW := hb5.trans (hk.below (B := w.heap.size) hb5.size (fun i hi e => by omega))
      have hil2W := hil2.below hbW
      have hsm := rsame_yes rm rf rt A A2 n2 c c2 rc l2 W'.drew hil.drew hil2W.drew (by have h1 := hil2.len; have h2 := hmy2.len; omega)
      have he0 := e0'.kept hk (by omega)
      have x0 := hVW.field
      have v0 := he0.cell 0
      have i0 := hi.cell 0
      have ifz := hi.frozen 0
      have y0 := hB.cell 0
      have y1 := hB.cell 1
      have y2 := hB.cell 2
      have y3 := hB.cell 3
      have y4 := hB.cell 4
      simp only [List.getElem?_toArray, List.getElem?_cons_succ, List.getElem?_cons_zero] at v0 i0 y0 y1 y2 y3 y4
      have hS8 : (fun W' => W'.cell? ⟨w.heap.size + 3, 0, none⟩ = some (.int .i64 (j : Int)) ∧ W'.cell? ⟨w.heap.size, 0, none⟩ = some (.pointer (some ⟨q, 0, none⟩)) ∧ W'.cell? ⟨q, 0, none⟩ = some (.slice (some ⟨g, 0, none⟩) N cx) ∧ W'.cell? ⟨g, j * 5, none⟩ = some (.int .i64 rm) ∧ W'.cell? ⟨g, j * 5 + 1, none⟩ = some (.int .i64 rf) ∧ W'.cell? ⟨g, j * 5 + 2, none⟩ = some (.int .i64 rt) ∧ W'.cell? ⟨g, j * 5 + 3, none⟩ = some (.slice A2 n2 c2) ∧ W'.cell? ⟨g, j * 5 + 4, none⟩ = some (.bool rc) ∧ W'.cell? ⟨Bx, 0, none⟩ = some (.int .i64 rm) ∧ W'.cell? ⟨Bx, 1, none⟩ = some (.int .i64 rf) ∧ W'.cell? ⟨Bx, 2, none⟩ = some (.int .i64 rt) ∧ W'.cell? ⟨Bx, 3, none⟩ = some (.slice A n2 c) ∧ W'.cell? ⟨Bx, 4, none⟩ = some (.bool rc)) W'.drew := ⟨i0, v0, x0, d0, d1, d2, d3, d4, y0, y1, y2, y3, y4⟩
      have hSB : ∀ W3, RowKit.Below W'.drew.heap.size W'.drew W3 → (fun W' => W'.cell? ⟨w.heap.size + 3, 0, none⟩ = some (.int .i64 (j : Int)) ∧ W'.cell? ⟨w.heap.size, 0, none⟩ = some (.pointer (some ⟨q, 0, none⟩)) ∧ W'.cell? ⟨q, 0, none⟩ = some (.slice (some ⟨g, 0, none⟩) N cx) ∧ W'.cell? ⟨g, j * 5, none⟩ = some (.int .i64 rm) ∧ W'.cell? ⟨g, j * 5 + 1, none⟩ = some (.int .i64 rf) ∧ W'.cell? ⟨g, j * 5 + 2, none⟩ = some (.int .i64 rt) ∧ W'.cell? ⟨g, j * 5 + 3, none⟩ = some (.slice A2 n2 c2) ∧ W'.cell? ⟨g, j * 5 + 4, none⟩ = some (.bool rc) ∧ W'.cell? ⟨Bx, 0, none⟩ = some (.int .i64 rm) ∧ W'.cell? ⟨Bx, 1, none⟩ = some (.int .i64 rf) ∧ W'.cell? ⟨Bx, 2, none⟩ = some (.int .i64 rt) ∧ W'.cell? ⟨Bx, 3, none⟩ = some (.slice A n2 c) ∧ W'.cell? ⟨Bx, 4, none⟩ = some (.bool rc)) W3 := fun W3 hb3 => by
        have ce : ∀ (ad : Addr) (v : Value), W'.drew.cell? ad = some v → W3.cell? ad = some v := fun ad v hv => (hb3.cell (World.block_lt_of_cell? _ _ hv)).trans hv
        obtain ⟨z0, z1, z2, z3, z4, z5, z6, z7, z8, z9, za, zb, zc⟩ := hS8
        exact ⟨ce _ _ z0, ce _ _ z1, ce _ _ z2, ce _ _ z3, ce _ _ z4, ce _ _ z5, ce _ _ z6, ce _ _ z7, ce _ _ z8, ce _ _ z9, ce _ _ za, ce _ _ zb, ce _ _ zc⟩
      have hlen2 : (pre ++ [x]).length = j + 1 := by rw [List.length_append, hj]; rfl
      clear q0 q1 q2 q3 q4 p3 hil hil2 hil2W hVW x0 v0 d0 d1 d2 d3 d4 y0 y1 y2 y3 y4 hlx hym hy
      gi_wp2
      refine wpIn_region_round (S := (fun W' => W'.cell? ⟨w.heap.size + 3, 0, none⟩ = some (.int .i64 (j : Int)) ∧ W'.cell? ⟨w.heap.size, 0, none⟩ = some (.pointer (some ⟨q, 0, none⟩)) ∧ W'.cell? ⟨q, 0, none⟩ = some (.slice (some ⟨g, 0, none⟩) N cx) ∧ W'.cell? ⟨g, j * 5, none⟩ = some (.int .i64 rm) ∧ W'.cell? ⟨g, j * 5 + 1, none⟩ = some (.int .i64 rf) ∧ W'.cell? ⟨g, j * 5 + 2, none⟩ = some (.int .i64 rt) ∧ W'.cell? ⟨g, j * 5 + 3, none⟩ = some (.slice A2 n2 c2) ∧ W'.cell? ⟨g, j * 5 + 4, none⟩ = some (.bool rc) ∧ W'.cell? ⟨Bx, 0, none⟩ = some (.int .i64 rm) ∧ W'.cell? ⟨Bx, 1, none⟩ = some (.int .i64 rf) ∧ W'.cell? ⟨Bx, 2, none⟩ = some (.int .i64 rt) ∧ W'.cell? ⟨Bx, 3, none⟩ = some (.slice A n2 c) ∧ W'.cell? ⟨Bx, 4, none⟩ = some (.bool rc))) (by kernel_rfl) (by kernel_rfl) (by rintro ⟨a, w, h⟩; exact h) hS8 (fun hHeld => ?_)
      refine wpAnyH_take (i := 0) (oi := ?oi0b) (v := ?v0b) ?hi0b (by kernel_rfl) (by kernel_rfl) (by kernel_rfl) ?hq0b (Or.inl ⟨?hw0b, ?hy0b⟩) (by assumption) ?rest0b
      case hi0b => (simp only [List.getElem?_toArray, List.getElem?_cons_succ, List.getElem?_cons_zero]; rfl)
      case hq0b => exact fun _ _ _ h => h
      case hw0b => rfl
      case hy0b => (intro w hSw; (try dsimp only at hSw); go_simp <;> with_reducible rfl)
      try simp only [Act.put, List.setIfInBounds_toArray, List.set_cons_zero, List.set_cons_succ]
      refine wpAnyH_take (i := 1) (oi := ?oi1b) (v := ?v1b) ?hi1b (by kernel_rfl) (by kernel_rfl) (by kernel_rfl) ?hq1b (Or.inl ⟨?hw1b, ?hy1b⟩) (by assumption) ?rest1b
      case hi1b => (simp only [List.getElem?_toArray, List.getElem?_cons_succ, List.getElem?_cons_zero]; rfl)
      case hq1b => exact fun _ _ _ h => h
      case hw1b => rfl
      case hy1b => (intro w hSw; (try dsimp only at hSw); go_simp <;> with_reducible rfl)
      try simp only [Act.put, List.setIfInBounds_toArray, List.set_cons_zero, List.set_cons_succ]
      refine wpAnyH_take (i := 2) (oi := ?oi2b) (v := ?v2b) ?hi2b (by kernel_rfl) (by kernel_rfl) (by kernel_rfl) ?hq2b (Or.inl ⟨?hw2b, ?hy2b⟩) (by assumption) ?rest2b
      case hi2b => (simp only [List.getElem?_toArray, List.getElem?_cons_succ, List.getElem?_cons_zero]; rfl)
      case hq2b => exact fun _ _ _ h => h
      case hw2b => rfl
      case hy2b => (intro w hSw; (try dsimp only at hSw); go_simp <;> with_reducible rfl)
      try simp only [Act.put, List.setIfInBounds_toArray, List.set_cons_zero, List.set_cons_succ]
      refine wpAnyH_take (i := 3) (oi := ?oi3b) (v := ?v3b) ?hi3b (by kernel_rfl) (by kernel_rfl) (by kernel_rfl) ?hq3b (Or.inl ⟨?hw3b, ?hy3b⟩) (by assumption) ?rest3b
      case hi3b => (simp only [List.getElem?_toArray, List.getElem?_cons_succ, List.getElem?_cons_zero]; rfl)
      case hq3b => exact fun _ _ _ h => h
      case hw3b => rfl
      case hy3b => (intro w hSw; (try dsimp only at hSw); go_simp <;> with_reducible rfl)
      try simp only [Act.put, List.setIfInBounds_toArray, List.set_cons_zero, List.set_cons_succ]
      refine wpAnyH_take (i := 4) (oi := ?oi4b) (v := ?v4b) ?hi4b (by kernel_rfl) (by kernel_rfl) (by kernel_rfl) ?hq4b (Or.inl ⟨?hw4b, ?hy4b⟩) (by assumption) ?rest4b
      case hi4b => (simp only [List.getElem?_toArray, List.getElem?_cons_succ, List.getElem?_cons_zero]; rfl)
      case hq4b => exact fun _ _ _ h => h
      case hw4b => rfl
      case hy4b => (intro w hSw; (try dsimp only at hSw); go_simp <;> with_reducible rfl)
      try simp only [Act.put, List.setIfInBounds_toArray, List.set_cons_zero, List.set_cons_succ]
      refine wpAnyH_take (i := 5) (oi := ?oi5b) (v := ?v5b) ?hi5b (by kernel_rfl) (by kernel_rfl) (by kernel_rfl) ?hq5b (Or.inl ⟨?hw5b, ?hy5b⟩) (by assumption) ?rest5b
      case hi5b => (simp only [List.getElem?_toArray, List.getElem?_cons_succ, List.getElem?_cons_zero]; rfl)
      case hq5b => exact fun _ _ _ h => h
      case hw5b => rfl
      case hy5b => (intro w hSw; (try dsimp only at hSw); go_simp <;> with_reducible rfl)
      try simp only [Act.put, List.setIfInBounds_toArray, List.set_cons_zero, List.set_cons_succ]
      refine wpAnyH_take (i := 6) (oi := ?oi6b) (v := ?v6b) ?hi6b (by kernel_rfl) (by kernel_rfl) (by kernel_rfl) ?hq6b (Or.inl ⟨?hw6b, ?hy6b⟩) (by assumption) ?rest6b
      case hi6b => (simp only [List.getElem?_toArray, List.getElem?_cons_succ, List.getElem?_cons_zero]; rfl)
      case hq6b => exact fun _ _ _ h => h
      case hw6b => rfl
      case hy6b => (intro w hSw; (try dsimp only at hSw); go_simp <;> with_reducible rfl)
      try simp only [Act.put, List.setIfInBounds_toArray, List.set_cons_zero, List.set_cons_succ]
      try simp only [hjz, hjz2]
      refine wpAnyH_take (i := 7) (oi := ?oi7b) (v := ?v7b) ?hi7b (by kernel_rfl) (by kernel_rfl) (by kernel_rfl) ?hq7b (Or.inl ⟨?hw7b, ?hy7b⟩) (by assumption) ?rest7b
      case hi7b => (simp only [List.getElem?_toArray, List.getElem?_cons_succ, List.getElem?_cons_zero]; rfl)
      case hq7b => exact fun _ _ _ h => h
      case hw7b => rfl
      case hy7b => (intro w hSw; (try dsimp only at hSw); go_simp <;> with_reducible rfl)
      try simp only [Act.put, List.setIfInBounds_toArray, List.set_cons_zero, List.set_cons_succ]
      refine wpAnyH_take (i := 8) (oi := ?oi8b) (v := ?v8b) ?hi8b (by kernel_rfl) (by kernel_rfl) (by kernel_rfl) ?hq8b (Or.inl ⟨?hw8b, ?hy8b⟩) (by assumption) ?rest8b
      case hi8b => (simp only [List.getElem?_toArray, List.getElem?_cons_succ, List.getElem?_cons_zero]; rfl)
      case hq8b => exact fun _ _ _ h => h
      case hw8b => rfl
      case hy8b => (intro w hSw; (try dsimp only at hSw); go_simp <;> with_reducible rfl)
      try simp only [Act.put, List.setIfInBounds_toArray, List.set_cons_zero, List.set_cons_succ]
      refine wpAnyH_take (i := 9) (oi := ?oi9b) (v := ?v9b) ?hi9b (by kernel_rfl) (by kernel_rfl) (by kernel_rfl) ?hq9b (Or.inl ⟨?hw9b, ?hy9b⟩) (by assumption) ?rest9b
      case hi9b => (simp only [List.getElem?_toArray, List.getElem?_cons_succ, List.getElem?_cons_zero]; rfl)
      case hq9b => exact fun _ _ _ h => h
      case hw9b => rfl
      case hy9b => (intro w hSw; (try dsimp only at hSw); go_simp <;> with_reducible rfl)
      try simp only [Act.put, List.setIfInBounds_toArray, List.set_cons_zero, List.set_cons_succ]
      refine wpAnyH_take (i := 10) (oi := ?oi10b) (v := ?v10b) ?hi10b (by kernel_rfl) (by kernel_rfl) (by kernel_rfl) ?hq10b (Or.inl ⟨?hw10b, ?hy10b⟩) (by assumption) ?rest10b
      case hi10b => (simp only [List.getElem?_toArray, List.getElem?_cons_succ, List.getElem?_cons_zero]; rfl)
      case hq10b => exact fun _ _ _ h => h
      case hw10b => rfl
      case hy10b => (intro w hSw; (try dsimp only at hSw); go_simp <;> with_reducible rfl)
      try simp only [Act.put, List.setIfInBounds_toArray, List.set_cons_zero, List.set_cons_succ]
      refine wpAnyH_take (i := 11) (oi := ?oi11b) (v := ?v11b) ?hi11b (by kernel_rfl) (by kernel_rfl) (by kernel_rfl) ?hq11b (Or.inl ⟨?hw11b, ?hy11b⟩) (by assumption) ?rest11b
      case hi11b => (simp only [List.getElem?_toArray, List.getElem?_cons_succ, List.getElem?_cons_zero]; rfl)
      case hq11b => exact fun _ _ _ h => h
      case hw11b => rfl
      case hy11b => (intro w hSw; (try dsimp only at hSw); go_simp <;> with_reducible rfl)
      try simp only [Act.put, List.setIfInBounds_toArray, List.set_cons_zero, List.set_cons_succ]
      refine wpAnyH_take (i := 12) (oi := ?oi12b) (v := ?v12b) ?hi12b (by kernel_rfl) (by kernel_rfl) (by kernel_rfl) ?hq12b (Or.inl ⟨?hw12b, ?hy12b⟩) (by assumption) ?rest12b
      case hi12b => (simp only [List.getElem?_toArray, List.getElem?_cons_succ, List.getElem?_cons_zero]; rfl)
      case hq12b => exact fun _ _ _ h => h
      case hw12b => rfl
      case hy12b => (intro w hSw; (try dsimp only at hSw); go_simp <;> with_reducible rfl)
      try simp only [Act.put, List.setIfInBounds_toArray, List.set_cons_zero, List.set_cons_succ]
      refine wpAnyH_take (i := 13) (oi := ?oi13b) (v := ?v13b) ?hi13b (by kernel_rfl) (by kernel_rfl) (by kernel_rfl) ?hq13b (Or.inl ⟨?hw13b, ?hy13b⟩) (by assumption) ?rest13b
      case hi13b => (simp only [List.getElem?_toArray, List.getElem?_cons_succ, List.getElem?_cons_zero]; rfl)
      case hq13b => exact fun _ _ _ h => h
      case hw13b => rfl
      case hy13b => (intro w hSw; (try dsimp only at hSw); go_simp <;> with_reducible rfl)
      try simp only [Act.put, List.setIfInBounds_toArray, List.set_cons_zero, List.set_cons_succ]
      refine wpAnyH_take (i := 14) (oi := ?oi14b) (v := ?v14b) ?hi14b (by kernel_rfl) (by kernel_rfl) (by kernel_rfl) ?hq14b (Or.inl ⟨?hw14b, ?hy14b⟩) (by assumption) ?rest14b
      case hi14b => (simp only [List.getElem?_toArray, List.getElem?_cons_succ, List.getElem?_cons_zero]; rfl)
      case hq14b => exact fun _ _ _ h => h
      case hw14b => rfl
      case hy14b => (intro w hSw; (try dsimp only at hSw); go_simp <;> with_reducible rfl)
      try simp only [Act.put, List.setIfInBounds_toArray, List.set_cons_zero, List.set_cons_succ]
      refine wpAnyH_take (i := 15) (oi := ?oi15b) (v := ?v15b) ?hi15b (by kernel_rfl) (by kernel_rfl) (by kernel_rfl) ?hq15b (Or.inl ⟨?hw15b, ?hy15b⟩) (by assumption) ?rest15b
      case hi15b => (simp only [List.getElem?_toArray, List.getElem?_cons_succ, List.getElem?_cons_zero]; rfl)
      case hq15b => exact fun _ _ _ h => h
      case hw15b => rfl
      case hy15b => (intro w hSw; (try dsimp only at hSw); go_simp <;> with_reducible rfl)
      try simp only [Act.put, List.setIfInBounds_toArray, List.set_cons_zero, List.set_cons_succ]
      refine wpAnyH_ready (rs := [16]) (by kernel_rfl) (by simp) ?_
      refine AllReadyH.cons (o := ?o16b) ?hi16b (fun K hK => ?st16b) AllReadyH.nil
      case hi16b => (simp only [List.getElem?_toArray, List.getElem?_cons_succ, List.getElem?_cons_zero]; rfl)
      go_simp
      refine hsm.mono ?_
      rintro e W3 ⟨rfl, hb3⟩
      have hS3 := hSB W3 hb3
      refine hK.out _ _ hS3 (fun hHeld2 => ?_)
      clear hK K hHeld
      have hHeld := hHeld2
      clear hHeld2
      try simp only [Act.put, List.setIfInBounds_toArray, List.set_cons_zero, List.set_cons_succ]
      refine wpAnyH_take (i := 17) (oi := ?oi17b) (v := ?v17b) ?hi17b (by kernel_rfl) (by kernel_rfl) (by kernel_rfl) ?hq17b (Or.inl ⟨?hw17b, ?hy17b⟩) (by assumption) ?rest17b
      case hi17b => (simp only [List.getElem?_toArray, List.getElem?_cons_succ, List.getElem?_cons_zero]; rfl)
      case hq17b => exact fun _ _ _ h => h
      case hw17b => rfl
      case hy17b => (intro w hSw; (try dsimp only at hSw); go_simp <;> with_reducible rfl)
      try simp only [Act.put, List.setIfInBounds_toArray, List.set_cons_zero, List.set_cons_succ]
      refine wpAnyH_take (i := 18) (oi := ?oi18b) (v := ?v18b) ?hi18b (by kernel_rfl) (by kernel_rfl) (by kernel_rfl) ?hq18b (Or.inl ⟨?hw18b, ?hy18b⟩) (by assumption) ?rest18b
      case hi18b => (simp only [List.getElem?_toArray, List.getElem?_cons_succ, List.getElem?_cons_zero]; rfl)
      case hq18b => exact fun _ _ _ h => h
      case hw18b => rfl
      case hy18b => (intro w hSw; (try dsimp only at hSw); go_simp <;> with_reducible rfl)
      try simp only [Act.put, List.setIfInBounds_toArray, List.set_cons_zero, List.set_cons_succ]
      refine wpAnyH_done (by kernel_rfl) ?_ _
      have hi3 := hi.drew.kept (Keep.of_below hb3) (Nat.not_le.2 hi.drew.lt)
      have k3 : Keep (fun k => k = w.heap.size + 3) W' W3 := (Keep.refl _ W').drew.trans (Keep.ofB hb3) (fun _ _ e => e)
      have kS := k3.setCell (p := ⟨w.heap.size + 3, 0, none⟩) (fun _ => rfl) (.int .i64 ((j : Int) + 1))
      have hiS := hi3.set_ 0 (.int .i64 ((j : Int) + 1))
      simp only [List.setIfInBounds_toArray, List.set_cons_zero] at hiS
      have n3 := hi3.cell 0
      have n3f := hi3.frozen 0
      simp only [List.getElem?_toArray, List.getElem?_cons_zero] at n3
      have hjw : wrap64 ((j : Int) + 1) = (j : Int) + 1 := by unfold wrap64; omega
      clear hS8 hHeld hS3 hSB hsm i0 ifz
      gi_wp2
      exact ⟨kS, hpre, hk.trans kS (fun _ _ e => e), by rw [hlen2]; exact hiS⟩
  case done =>
    rintro D W hD ⟨hpre, hk, hi⟩ hDf
    rw [hLN] at hi
    have hVW := hV5.kept hk (fun g hg e => by have := hg.2; omega)
    have x0 := hVW.field
    have he0 := e0'.kept hk (by omega)
    have he1 := e1'.kept hk (by omega)
    have hbW := hb5.trans (hk.below (B := w.heap.size) hb5.size (fun i hi e => by omega))
    have v1 := he0.cell 0
    have rf := he1.frozen 0
    have r0 := he1.cell 0
    have n0 := hi.cell 0
    simp at v1 r0 n0
    have hrE := (he1.set_ 0 (.bool true)).drew
    simp only [List.setIfInBounds_toArray, List.set_cons_zero] at hrE
    clear hVW
    gi_wp2
    refine wpIn_wide.2 (wp_calm ?_)
    go_region
    rw [then_normal]
    have hbE := (hbW.setCell (p := ⟨w.heap.size + 1, 0, none⟩) (by dsimp only; omega) (.bool true)).drew
    have kE : Keep (fun k => k = w.heap.size + 1) W (W.setCell ⟨w.heap.size + 1, 0, none⟩ (.bool true)).drew := ((Keep.refl (fun k => k = w.heap.size + 1) W).setCell (p := ⟨w.heap.size + 1, 0, none⟩) (fun _ => rfl) _).drew
    have hDE := (kE.block D (Array.getElem?_eq_some_iff.1 hDf).1 (by omega)).trans hDf
    generalize (W.setCell ⟨w.heap.size + 1, 0, none⟩ (.bool true)).drew = WE at *
    gi_wp2
    have hrD : Blk (WE.putObj D (.deferred none)) (w.heap.size + 1) 4 #[.bool true] := blk_row (B := 0) hrE (grownBy_putObj' WE D _) (fun r e => by cases e; exact ⟨Nat.zero_le _, _, hDE, rfl⟩)
    have E0 := hrD.cell 0
    simp at E0
    refine ⟨by simp, .inl ⟨_, _, rfl, run_takeDeferred hDE, ?_⟩⟩
    exact ⟨.bool true, by simp [results, Tryz.results16, go_sem, E0], rfl, bel_putD hbE (by omega) hDE⟩
  case stop =>
    rintro D c pre W hD hpre hno hDf
    exact hno.elim
end Go.Proofs.YtjjghhhhalendaaGreat
