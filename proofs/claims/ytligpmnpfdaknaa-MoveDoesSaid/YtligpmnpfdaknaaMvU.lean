/- Moves: Under. No condition but that they lie in memory. -/
import Derived.Test.YtligpmnpfdaknaaMvC
namespace Go.Proofs.Ytligpmnpfdaknaa
open Go.RowKit Go.Maps Go.Shelf Go.Sort
set_option linter.unusedVariables false
set_option linter.unusedSimpArgs false
attribute [local go_sem] Oper.semAt_some

/-- Is it on its way from the one to the other? -/
def onWay (r : Rec) (fr to : Int) : Bool := !r.c && (decide (r.f = fr) && decide (r.t = to))
/-- The sums over moves, up to the first that is refused. -/
def underO (f : Int → Rec) (fr to : Int) : List Int → List It → List It
  | [], acc => acc
  | x :: xs, acc => match onWay (f x) fr to with
    | false => underO f fr to xs acc
    | true => if plusE acc (f x).l.l = 0 then underO f fr to xs (plusR acc (f x).l.l) else acc
theorem keep_own {β : Type} (S : Nat → Prop) (w : World) : OwnFrom w.heap.size (fun (_ : β) W => Keep S w W) :=
  fun s A A' row hs hg hr => ⟨hg.os.trans hs.os, hg.tape.trans hs.tape, hg.output.trans hs.output, Nat.le_trans hs.size hg.size, fun k hk hn => (hg.block k (Nat.lt_of_lt_of_le hk hs.size) (fun e => by have := (hr k e.symm).1; omega)).trans (hs.block k hk hn)⟩
theorem oi_row {base B : Nat} {A A' : World} {row : Option Nat} {v : Value} {l : List It} (h : OI base A v l) (hg : A.grownBy A' row) (hr : ∀ r, row = some r → B ≤ r ∧ ∃ o : Obj, A.heap[r]? = some o ∧ o.isCells = false) : OI base A' v l := by
  refine h.kept (Keep.of_grown hg) fun g hgv e => ?_
  rcases h.2 with ⟨rfl, _⟩ | ⟨g', cap, cur, rfl, hb, hh, rest⟩
  · cases hgv
  · have : g' = g := Option.some.inj hgv
    subst this
    obtain ⟨o, ho, hc⟩ := (hr g' e).2
    rw [hh] at ho
    cases ho
    cases hc
theorem oi_notD {base D : Nat} {w : World} {v : Value} {l : List It} (h : OI base w v l) (hg : v.ownBlock = some D) {ds : Option (List Deferred)} (hD : w.heap[D]? = some (.deferred ds)) : False := by
  rcases h.2 with ⟨rfl, _⟩ | ⟨g', cap, cur, rfl, hb, hh, rest⟩
  · cases hg
  · have : g' = D := Option.some.inj hg
    subst this
    rw [hh] at hD
    cases hD
theorem blk_row {B : Nat} {A A' : World} {row : Option Nat} {g : Nat} {t : TypeId} {cs : Array Value} (h : Blk A g t cs) (hg : A.grownBy A' row) (hr : ∀ r, row = some r → B ≤ r ∧ ∃ o : Obj, A.heap[r]? = some o ∧ o.isCells = false) : Blk A' g t cs :=
  (hg.block g h.lt (fun e => by
    obtain ⟨o, ho, hc⟩ := (hr g e.symm).2
    rw [show A.heap[g]? = _ from h] at ho
    cases ho
    cases hc)).trans h
theorem my_wl {l : List It} (h : MY l) : WL l := fun x hx => by
  have h1 := h.num x hx
  have h2 := h.good x hx
  refine ⟨?_, by simp [Lit.wf, IntKind.min, IntKind.max, IntKind.signed, IntKind.bits]; omega⟩
  unfold gOK at h2
  simp only [Bool.and_eq_true, decide_eq_true_eq] at h2
  have h3 := h2.1.2
  unfold maxLen
  omega
set_option maxRecDepth 100000 in
set_option maxHeartbeats 6400000 in
theorem under_any {F : Nat → Prop} {w : World} {p b N : Nat} {f : Int → Rec} {ks : List Int} (h : PS F w p b N f ks) (hks : ks.length ≤ 1048576) (fr to : Int) :
    Calls Try.prog 19 #[.pointer (some ⟨p, 0, none⟩), .int .i64 fr, .int .i64 to] w fun e w' => ∃ v, e = .returned v ∧ OI w.heap.size w' v (underO f fr to (sortI ks) []) ∧ Below w.heap.size w w' := by
  obtain ⟨L, hL⟩ : ∃ L, sortI ks = L := ⟨_, rfl⟩
  rw [hL]
  replace hL := Lib.hid hL
  have hlt := h.lt
  have hb1 := (((Below.refl w.heap.size w).alloc (Nat.le_refl _) (.cells #[.int .i64 fr] 3)).alloc (by simp) (.cells #[.int .i64 to] 3)).alloc (by simp; omega) (.cells #[.slice none 0 0] 30)
  have e1 := ((Blk.new w 3 #[.int .i64 fr]).alloc (.cells #[.int .i64 to] 3)).alloc (.cells #[.slice none 0 0] 30)
  have e2 := (Blk.new (w.alloc (.cells #[.int .i64 fr] 3)) 3 #[.int .i64 to]).alloc (.cells #[.slice none 0 0] 30)
  have e3 := Blk.new ((w.alloc (.cells #[.int .i64 fr] 3)).alloc (.cells #[.int .i64 to] 3)) 30 #[.slice none 0 0]
  rw [World.size_alloc] at e2
  rw [World.size_alloc, World.size_alloc] at e3
  have hz1 : (((w.alloc (.cells #[.int .i64 fr] 3)).alloc (.cells #[.int .i64 to] 3)).alloc (.cells #[.slice none 0 0] 30)).heap.size = w.heap.size + 3 := by simp
  have hpr := prising_any (h.below hb1)
  replace hz1 := Lib.hid hz1
  refine (callsIn_wide (n := 9)).1 ?_
  refine callsIn_of_wp_marks Try.func19 rfl trivial ?_ rfl
  simp only [Try.ntmps19, List.size_toArray, List.length_cons, List.length_nil, Nat.reduceAdd, Nat.reduceSub, Array.replicate_succ, Array.replicate_zero, List.push_toArray, List.append_toArray, List.nil_append, List.cons_append]
  gi_wp2_with (refine ⟨trivial, ?_⟩; gi_at_call 34; refine (callsIn_wide.2 hpr).mono ?_; rintro e w2 ⟨W, D, rfl, rfl, hmD, hD, hbW⟩)
  rw [hz1.out] at hbW hmD
  rw [show w.heap.size + 1 + 1 + 1 = w.heap.size + 3 from rfl, show w.heap.size + 1 + 1 = w.heap.size + 2 from rfl]
  rw [show w.heap.size + 1 + 1 = w.heap.size + 2 from rfl] at e3
  have f1 := (e1.kept (Keep.of_below hbW) (by omega)).alloc (.cells #[.map (some (w.heap.size + 3))] 79)
  have f2 := (e2.kept (Keep.of_below hbW) (by omega)).alloc (.cells #[.map (some (w.heap.size + 3))] 79)
  have f3 := (e3.kept (Keep.of_below hbW) (by omega)).alloc (.cells #[.map (some (w.heap.size + 3))] 79)
  have hI := (cell_new_a W (.map (some (w.heap.size + 3))) 79).1
  have hm3 := hmD.alloc (.cells #[.map (some (w.heap.size + 3))] 79)
  have hzW := hbW.size
  rw [hz1.out] at hzW
  have hb3 := (hb1.trans (hbW.mono (by omega))).alloc (by omega) (.cells #[.map (some (w.heap.size + 3))] 79)
  have hz3 : (W.alloc (.cells #[.map (some (w.heap.size + 3))] 79)).heap.size = W.heap.size + 1 := by simp
  have hg := kmap_gives W.heap.size (w.heap.size + 3) N D f ks (fun k => k = w.heap.size + 2) (W.alloc (.cells #[.map (some (w.heap.size + 3))] 79)) (fun k e => by omega) hI hm3 hD hks (by omega) (by omega)
  have hsrt : sortI (intKeys D) = sortI ks := hD.sorted
  rw [hsrt, hL.out] at hg
  have hmem : ∀ x, x ∈ L → x ∈ ks := fun x hx => (List.mem_mergeSort).1 (show x ∈ sortI ks by rw [hL.out]; exact hx)
  clear e1 e2 e3 hb1 hbW hpr hsrt
  obtain ⟨w3, hw3⟩ : ∃ w3, W.alloc (.cells #[.map (some (w.heap.size + 3))] 79) = w3 := ⟨_, rfl⟩
  rw [hw3] at f1 f2 f3 hb3 hz3 hg ⊢
  clear hw3 hI hm3 hmD hD
  clear hL
  refine range_ownB (a := _) (w := w3) (w0 := w3) (gf := 51) (lb := #[.pointer (some ⟨W.heap.size, 0, none⟩)]) (by first | rfl | simp [go_sem]) (enters_of Try.func51 (by kernel_rfl) rfl) hg (Below.refl _ _) (fun k e => by omega) (fun _ => rfl)
    (fun pre W' => Keep (fun k => k = w.heap.size + 2) w3 W' ∧ ∃ acc A c, Blk W' (w.heap.size + 2) 30 #[.slice A acc.length c] ∧ OI w3.heap.size W' (.slice A acc.length c) acc ∧ MY acc ∧ ∀ rest, underO f fr to (pre ++ rest) [] = underO f fr to rest acc)
    (fun cd pre W' => cd = .exit 0 ∧ Keep (fun k => k = w.heap.size + 2) w3 W' ∧ ∃ acc A c, Blk W' (w.heap.size + 2) 30 #[.slice A acc.length c] ∧ OI w3.heap.size W' (.slice A acc.length c) acc ∧ ∀ rest, underO f fr to (pre ++ rest) [] = acc)
    ?hI ?hIx ⟨Keep.refl _ _, [], none, 0, f3, OI.nil _ _, MY.of_ (by decide), fun rest => rfl⟩ 42 (fun x => (f x).cs.toArray) ?round ?done ?stop
  case hI =>
    rintro s A A' row ⟨h1, acc, B, c, h2, h3, h4⟩ hg hr
    exact ⟨keep_own (β := List Int) _ w3 s A A' row h1 hg hr, acc, B, c, blk_row h2 hg hr, oi_row h3 hg hr, h4⟩
  case hIx =>
    rintro cd s A A' row ⟨h0, h1, acc, B, c, h2, h3, h4⟩ hg hr
    exact ⟨h0, keep_own (β := List Int) _ w3 s A A' row h1 hg hr, acc, B, c, blk_row h2 hg hr, oi_row h3 hg hr, h4⟩
  case round =>
    apply Exists.intro
    constructor
    · rintro l' pre x W' K hpre hz ⟨hk, acc, A, c, hS, hO, hMY, hu⟩ hK
      obtain ⟨r, hr⟩ : ∃ r, f x = r := ⟨_, rfl⟩
      obtain ⟨rm, rf, rt, ⟨A0, n0, c0, l0⟩, rc⟩ := r
      have hv : (f x).v = .agg #[.int .i64 rm, .int .i64 rf, .int .i64 rt, .slice A0 n0 c0, .bool rc] := by rw [hr]; rfl
      have hcs : (f x).cs.toArray = #[.int .i64 rm, .int .i64 rf, .int .i64 rt, .slice A0 n0 c0, .bool rc] := by rw [hr]; rfl
      rw [hv]
      rw [hcs] at hK
      have hz2 : w3.heap.size ≤ W'.heap.size := hz
      obtain ⟨Bx, hBx⟩ : ∃ Bx, Bx = W'.heap.size := ⟨_, rfl⟩
      have hK2 := hK Bx (W'.alloc (.cells #[.int .i64 rm, .int .i64 rf, .int .i64 rt, .slice A0 n0 c0, .bool rc] 42)) ((Keep.refl _ W').alloc _) ⟨hk.alloc _, acc, A, c, hS.alloc _, hO.alloc _, hMY, hu⟩ (by omega) (by rw [hBx]; exact Blk.new W' _ _)
      gi_wp2
      rw [← hBx, ← hv]
      exact hK2
    · rintro l' pre x Bx W' hpre hz ⟨hk, acc, A, c, hS, hO, hMY, hu⟩ hBx hB
      have hxks : x ∈ ks := hmem x (hpre.subset (by simp))
      have hrc := h.ok x hxks
      have hun := fun rest => hu (x :: rest)
      obtain ⟨r, hr⟩ : ∃ r, f x = r := ⟨_, rfl⟩
      rw [hr] at hrc
      simp only [underO, hr] at hun
      rw [hr] at hB
      obtain ⟨rm, rf, rt, ⟨A0, n0, c0, l0⟩, rc⟩ := r
      change Blk W' Bx 42 #[.int .i64 rm, .int .i64 rf, .int .i64 rt, .slice A0 n0 c0, .bool rc] at hB
      have c1 := (f1.kept hk (by omega)).cell 0
      have c2 := (f2.kept hk (by omega)).cell 0
      have c3 := hS.cell 0
      have cf := hS.frozen 0
      have cl := hS.lt
      have x1 := hB.cell 1
      have x2 := hB.cell 2
      have x3 := hB.cell 3
      have x4 := hB.cell 4
      simp at c1 c2 c3 x1 x2 x3 x4
      have hskip : onWay ⟨rm, rf, rt, ⟨A0, n0, c0, l0⟩, rc⟩ fr to = false → ∀ rest, underO f fr to ((pre ++ [x]) ++ rest) [] = underO f fr to rest acc := fun e rest => by
        rw [List.append_assoc, List.singleton_append, hun rest, e]
      have hgo : onWay ⟨rm, rf, rt, ⟨A0, n0, c0, l0⟩, rc⟩ fr to = true → ∀ rest, underO f fr to ((pre ++ [x]) ++ rest) [] = if plusE acc l0 = 0 then underO f fr to rest (plusR acc l0) else acc := fun e rest => by
        rw [List.append_assoc, List.singleton_append, hun rest, e]
      clear hun hr
      cases rc with
      | true =>
        have hs := hskip rfl
        clear hskip hgo
        gi_wp2
        exact ⟨Keep.refl _ _, hk, acc, A, c, hS, hO, hMY, hs⟩
      | false =>
      by_cases g1 : rf = fr
      case neg =>
        have b1 : (rf != fr) = true := by simp [g1]
        have hs := hskip (by unfold onWay; simp [g1])
        clear hskip hgo g1
        gi_wp2
        exact ⟨Keep.refl _ _, hk, acc, A, c, hS, hO, hMY, hs⟩
      by_cases g2 : rt = to
      case neg =>
        have b1 : (rf != fr) = false := by simp [g1]
        have b2 : (rt != to) = true := by simp [g2]
        have hs := hskip (by unfold onWay; simp [g2])
        clear hskip hgo g1 g2
        gi_wp2
        exact ⟨Keep.refl _ _, hk, acc, A, c, hS, hO, hMY, hs⟩
      have b1 : (rf != fr) = false := by simp [g1]
      have b2 : (rt != to) = false := by simp [g2]
      have hs := hgo (by unfold onWay; simp [g1, g2])
      clear hskip hgo g1 g2
      have hil0 : IL W' A0 n0 l0 := by
        have hwlt := hrc.l_.il.lt
        exact (hrc.l_.il.below hb3).kept hk (fun ad e hn e2 => by have := hwlt ad e hn; omega)
      have hilA := (hO.form)
      obtain ⟨A', c', hv, -, -, hilA, -⟩ := hilA
      simp only [Value.slice.injEq] at hv
      obtain ⟨rfl, -, -⟩ := hv
      have hmy0 := MY.of_ hrc.l_.may
      have hn0 : l0.length = n0 := hrc.l_.il.len
      have h16 := hmy0.len
      have h16' := hMY.len
      dsimp only at h16
      have hpl := plus_any A A0 acc.length c n0 c0 acc l0 W' hilA hil0 (by omega) (by omega) (my_wl hMY) hrc.l_.lit
      obtain ⟨pe, hpe⟩ : ∃ pe, plusE acc l0 = pe := ⟨_, rfl⟩
      rw [hpe] at hpl
      replace hpe := Lib.hid hpe
      replace hs := Lib.hid hs
      by_cases hp0 : pe = 0
      · subst hp0
        gi_wp2_with (refine ⟨trivial, ?_⟩; gi_at_call 35; refine (callsIn_wide.2 hpl).mono ?_; rintro e W5 ⟨v5, rfl, hO5, hx5⟩; obtain ⟨A5, c5, rfl, -, -, hil5, hal5⟩ := hO5.form; have hS5 := hS.kept (Keep.of_below hx5) (Nat.not_le.2 hS.lt); have q5 := hS5.cell 0; have qf := hS5.frozen 0; have ql := hS5.lt; simp at q5)
        have hmy5 := (plus_ok hMY hmy0 hpe.out).1
        have hs5 := fun rest => (hs.out rest).trans (if_pos hpe.out)
        have k5 := (Keep.ofB (S := fun k => k = w.heap.size + 2) hx5).setCell (p := ⟨w.heap.size + 2, 0, none⟩) (fun _ => rfl) (.slice A5 (plusR acc l0).length c5)
        have hS6 := hS5.set_ 0 (.slice A5 (plusR acc l0).length c5)
        simp at hS6
        have hO6 := (hO5.mono (show w3.heap.size ≤ W'.heap.size from hz)).kept ((Keep.refl (fun k => k = w.heap.size + 2) W5).setCell (p := ⟨w.heap.size + 2, 0, none⟩) (fun _ => rfl) (.slice A5 (plusR acc l0).length c5)) (fun g hg e => by have := ((hO5.mono (show w3.heap.size ≤ W'.heap.size from hz)).lt g hg).1; omega)
        exact ⟨k5, hk.trans k5 (fun _ _ e => e), plusR acc l0, A5, c5, hS6, hO6, hmy5, hs5⟩
      · have hpn : (pe != 0) = true := by simp [hp0]
        gi_wp2_with (refine ⟨trivial, ?_⟩; gi_at_call 35; refine (callsIn_wide.2 hpl).mono ?_; rintro e W5 ⟨v5, rfl, hO5, hx5⟩; obtain ⟨A5, c5, rfl, -, -, hil5, hal5⟩ := hO5.form; have hS5 := hS.kept (Keep.of_below hx5) (Nat.not_le.2 hS.lt); have q5 := hS5.cell 0; have qf := hS5.frozen 0; have ql := hS5.lt; simp at q5)
        have hs5 := fun rest => (hs.out rest).trans (if_neg (by rw [hpe.out]; exact hp0))
        have k5 := Keep.ofB (S := fun k => k = w.heap.size + 2) hx5
        exact ⟨k5, rfl, hk.trans k5 (fun _ _ e => e), acc, A, c, hS5, hO.below hx5, hs5⟩
  case done =>
    rintro E W' hE ⟨hk, acc, A, c, hS, hO, hMY, hu⟩ hDf
    have hres := hu []
    rw [List.append_nil] at hres
    have q0 := hS.cell 0
    simp at q0
    have hbF := hb3.trans (hk.below (B := w.heap.size) hb3.size (fun i hi e => by omega))
    have hz9 := hb3.size
    replace hres := Lib.hid hres
    gi_wp2
    refine ⟨by simp, .inl ⟨_, _, rfl, run_takeDeferred hDf, ?_⟩⟩
    exact ⟨_, results_tmp rfl _ _ _, _, rfl, (by rw [hres.out]; exact (hO.kept (S := fun k => k = E) (Keep.putObj (S := fun k => k = E) (Keep.refl _ W') rfl _) (fun g hg e => by subst e; exact oi_notD hO hg hDf)).mono hz9), bel_putD hbF (by omega) hDf⟩
  case stop =>
    rintro E cd pre W' hE hpre ⟨rfl, hk, acc, A, c, hS, hO, hu⟩ hDf
    obtain ⟨rest, hrest⟩ := hpre
    have hres := hu rest
    rw [hrest] at hres
    have q0 := hS.cell 0
    simp at q0
    have hbF := hb3.trans (hk.below (B := w.heap.size) hb3.size (fun i hi e => by omega))
    have hz9 := hb3.size
    replace hres := Lib.hid hres
    gi_wp2
    refine ⟨by simp, .inl ⟨_, _, rfl, run_takeDeferred hDf, ?_⟩⟩
    exact ⟨_, results_tmp rfl _ _ _, _, rfl, (by rw [hres.out]; exact (hO.kept (S := fun k => k = E) (Keep.putObj (S := fun k => k = E) (Keep.refl _ W') rfl _) (fun g hg e => by subst e; exact oi_notD hO hg hDf)).mono hz9), bel_putD hbF (by omega) hDf⟩
end Go.Proofs.Ytligpmnpfdaknaa
