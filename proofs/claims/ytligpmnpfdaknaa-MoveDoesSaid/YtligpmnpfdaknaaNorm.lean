/- Norm: a list's sums, in order. No condition but that the list is one of memory, of up to 2^20 items. -/
import Derived.Test.YtligpmnpfdaknaaAgainst
import Derived.Test.YtligpmnpfdaknaaCnt
namespace Go.Proofs.Ytligpmnpfdaknaa
open Go.RowKit Go.Maps Go.Shelf Go.Sort
set_option linter.unusedVariables false
set_option linter.unusedSimpArgs false
attribute [local go_sem] Oper.semAt_some

theorem wf_mk {a : Int} (h0 : -9223372036854775808 ≤ a) (h1 : a ≤ 9223372036854775807) : (Lit.int .i64 a).wf = true := by
  simpa [Lit.wf, IntKind.min, IntKind.max, IntKind.signed, IntKind.bits] using And.intro h0 h1
/-- Each has a good, and a count. -/
def okX (x : It) : Bool := gOK x.1 && cMay x.2
def okN (l : List It) : Bool := l.all okX
theorem okN_snoc (l : List It) (x : It) : okN (l ++ [x]) = (okN l && okX x) := by simp [okN, List.all_append]
theorem okN_not {l pre : List It} (hp : pre <+: l) (h : okN pre = false) : okN l = false := by
  obtain ⟨t, rfl⟩ := hp
  unfold okN at h ⊢
  rw [List.all_append, h]
  rfl
theorem okN_mem {l : List It} (h : okN l = true) {x : It} (hx : x ∈ l) : gOK x.1 = true ∧ 0 ≤ x.2 ∧ x.2 ≤ 1099511627776 := by
  have := List.all_eq_true.1 h x hx
  simp [okX, cMay] at this
  exact this
/-- A good has too many. -/
def overL (l : List It) : Bool := l.any fun x => decide (1099511627776 < tot l x.1)
theorem tot_none {g : List UInt8} : ∀ {l : List It}, (∀ x ∈ l, x.1 ≠ g) → tot l g = 0 := by
  intro l
  induction l using snoc_ind with
  | h0 => intro _; rfl
  | h1 l x ih =>
    intro h
    rw [tot_snoc, if_neg (h x (by simp)), ih fun y hy => h y (by simp [hy])]
theorem tot_nonneg (g : List UInt8) : ∀ {l : List It}, (∀ x ∈ l, 0 ≤ x.2) → 0 ≤ tot l g := by
  intro l
  induction l using snoc_ind with
  | h0 => intro _; exact Int.le_refl 0
  | h1 l x ih =>
    intro h
    have h1 := ih fun y hy => h y (by simp [hy])
    have h2 := h x (by simp)
    rw [tot_snoc]
    split <;> omega
theorem tot_mono (g : List UInt8) (pre : List It) : ∀ {t : List It}, (∀ x ∈ t, 0 ≤ x.2) → tot pre g ≤ tot (pre ++ t) g := by
  intro t
  induction t using snoc_ind with
  | h0 => intro _; simp
  | h1 t x ih =>
    intro h
    have h1 := ih fun y hy => h y (by simp [hy])
    have h2 := h x (by simp)
    rw [← List.append_assoc, tot_snoc]
    split <;> omega
theorem tot_bound {l : List It} (hok : okN l = true) (ho : overL l = false) (g : List UInt8) : 0 ≤ tot l g ∧ tot l g ≤ 1099511627776 := by
  refine ⟨tot_nonneg g fun x hx => (okN_mem hok hx).2.1, ?_⟩
  by_cases h : ∃ x ∈ l, x.1 = g
  · obtain ⟨x, hx, rfl⟩ := h
    have := List.any_eq_false.1 ho x hx
    simp at this
    exact this
  · rw [tot_none fun x hx e => h ⟨x, hx, e⟩]
    decide
theorem over_more {l pre : List It} (hp : pre <+: l) (hok : okN l = true) (h : overL pre = true) : overL l = true := by
  obtain ⟨t, rfl⟩ := hp
  obtain ⟨x, hx, h2⟩ := List.any_eq_true.1 h
  simp at h2
  refine List.any_eq_true.2 ⟨x, by simp [hx], ?_⟩
  have := tot_mono x.1 pre (t := t) fun y hy => (okN_mem hok (by simp [hy])).2.1
  simp
  omega
theorem over_snoc {pre : List It} {x : It} (ho : overL pre = false) (h : tot pre x.1 + x.2 ≤ 1099511627776) : overL (pre ++ [x]) = false := by
  refine List.any_eq_false.2 fun y hy => ?_
  simp only [decide_eq_true_eq]
  rw [tot_snoc]
  by_cases e : x.1 = y.1
  · rw [if_pos e, ← e]
    omega
  · rw [if_neg e]
    rcases List.mem_append.1 hy with hy | hy
    · have := List.any_eq_false.1 ho y hy
      simpa using this
    · simp at hy
      subst hy
      exact absurd rfl e
theorem over_now {pre : List It} {x : It} (h : ¬ tot pre x.1 + x.2 ≤ 1099511627776) : overL (pre ++ [x]) = true := by
  refine List.any_eq_true.2 ⟨x, by simp, ?_⟩
  rw [tot_snoc, if_pos rfl]
  simp
  omega

/-- The map of sums. -/
def valOf (D : DataW Unit) (g : List UInt8) : Int := match D.atKey (.string g) (.lit (.int .i64 0)) with | .lit (.int _ n) => n | _ => 0
def sumsN (l : List It) : DataW Unit := l.foldl (fun D x => D.put (.string x.1) (.lit (.int .i64 (valOf D x.1 + x.2)))) (.map [])
theorem sumsN_sm (l : List It) : SM (sumsN l) (tot l) (l.map (·.1)) := by
  induction l using snoc_ind with
  | h0 => exact SM.start
  | h1 l x ih =>
    have hs : sumsN (l ++ [x]) = (sumsN l).put (.string x.1) (.lit (.int .i64 (valOf (sumsN l) x.1 + x.2))) := by simp [sumsN]
    have hv : valOf (sumsN l) x.1 = tot l x.1 := by unfold valOf; rw [ih.val]
    rw [hs, hv, List.map_append]
    have h := ih.put x.1 (tot l x.1 + x.2)
    refine ⟨h.isMap, fun g => ?_, h.has_⟩
    rw [h.val g, tot_snoc]
    by_cases e : g = x.1
    · subst e
      simp
    · rw [if_neg e, if_neg (fun e' => e e'.symm)]
theorem sumsN_snoc (l : List It) (x : It) : sumsN (l ++ [x]) = (sumsN l).put (.string x.1) (.lit (.int .i64 (tot l x.1 + x.2))) := by
  have hv : valOf (sumsN l) x.1 = tot l x.1 := by unfold valOf; rw [(sumsN_sm l).val]
  rw [← hv]
  simp [sumsN]
def rowsN (l : List It) : List It := listedL ((strKeys (sumsN l)).mergeSort leB) (tot l)
def normE (l : List It) : Int := match okN l with
  | false => 60
  | true => match overL l with
    | true => 50
    | false => match decide (16 < (rowsN l).length) with
      | true => 3
      | false => 0
def normR (l : List It) : List It := match normE l with
  | 0 => rowsN l
  | _ => []
theorem heap_row {W W' : World} {row : Option Nat} {D B : Nat} {o : Obj} (h : W.heap[D]? = some o) (hg : W.grownBy W' row) (hD : D < B) (hr : ∀ r, row = some r → B ≤ r ∧ ∃ o : Obj, W.heap[r]? = some o ∧ o.isCells = false) : W'.heap[D]? = some o :=
  (hg.block D (Array.getElem?_eq_some_iff.1 h).1 fun e => by have := (hr _ e.symm).1; omega).trans h
theorem OI.set_ {base : Nat} {W : World} {v : Value} {l : List It} (h : OI base W v l) {b : Nat} (hb : b < base) (i : Nat) (u : Value) : OI base (W.setCell ⟨b, i, none⟩ u) v l :=
  h.kept ((Keep.refl (fun k => k = b) W).setCell (p := ⟨b, i, none⟩) (fun _ => rfl) u) fun g hg e => by have := (h.lt g hg).1; omega

set_option maxRecDepth 100000 in
set_option maxHeartbeats 6400000 in
theorem norm_any (A : Option Addr) (n c : Nat) (l : List It) (w : World) (hl : IL w A n l) (hn : n ≤ 1048576) (hsa : ∀ x ∈ l, x.1.length ≤ maxLen) :
    Calls Try.prog 46 #[.slice A n c] w fun e w' => ∃ v, e = .returned (.tuple #[v, .int .i64 (normE l)]) ∧ OI w.heap.size w' v (normR l) ∧ Below w.heap.size w w' := by
  have hlt := hl.lt
  refine (callsIn_wide (n := 9)).1 ?_
  refine callsIn_of_wp_marks Try.func46 rfl trivial ?_ rfl
  simp only [Try.ntmps46, List.size_toArray, List.length_cons, List.length_nil, Nat.reduceAdd, Nat.reduceSub, Array.replicate_succ, Array.replicate_zero, List.push_toArray, List.append_toArray, List.nil_append, List.cons_append]
  have hmm := @run_makeMap Try.prog
  gi_wp2_with (refine ⟨trivial, ?_⟩; gi_at_call 38; refine (callsIn_wide.2 (over_make A n c _)).mono ?_; rintro e w' ⟨rfl, rfl⟩)
  have h0 := ((CL.new w (.slice none 0 0) 30).alloc (.cells #[.int .i64 0] 33)).alloc (.cells #[.slice A n c] 30)
  have h1 := (CL.new (w.alloc (.cells #[.slice none 0 0] 30)) (.int .i64 0) 33).alloc (.cells #[.slice A n c] 30)
  have hC := CL.new ((w.alloc (.cells #[.slice none 0 0] 30)).alloc (.cells #[.int .i64 0] 33)) (.slice A n c) 30
  have hb3 := (((Below.refl w.heap.size w).alloc (Nat.le_refl _) (.cells #[.slice none 0 0] 30)).alloc (by simp) (.cells #[.int .i64 0] 33)).alloc (by simp; omega) (.cells #[.slice A n c] 30)
  rw [World.size_alloc] at h1
  rw [World.size_alloc, World.size_alloc] at hC
  generalize hW : ((w.alloc (.cells #[.slice none 0 0] 30)).alloc (.cells #[.int .i64 0] 33)).alloc (.cells #[.slice A n c] 30) = W0 at *
  have hz0 : W0.heap.size = w.heap.size + 1 + 1 + 1 := by rw [← hW]; simp
  clear hW
  refine range_over' A n c l (w.heap.size + 1 + 1) (fun k => k = w.heap.size ∨ k = w.heap.size + 1) rfl rfl hC.at_ (hl.below hb3) (fun ad h h' => by have := hlt ad h h'; omega) (by omega)
    (fun pre W => okN pre = true ∧ CL W w.heap.size (.slice none 0 0) ∧ CL W (w.heap.size + 1) (.int .i64 0) ∧ Below w.heap.size w W)
    (fun c pre W => c = .ret ∧ okN pre = false ∧ CL W w.heap.size (.slice none 0 0) ∧ CL W (w.heap.size + 1) (.int .i64 60) ∧ Below w.heap.size w W)
    (fun s X Y row h hg hr => ⟨h.1, h.2.1.row hg hr, h.2.2.1.row hg hr, below_row h.2.2.2 hg (by have := h.2.1.lt; omega) (by omega) hr⟩)
    (fun c s X Y row h hg hr => ⟨h.1, h.2.1, h.2.2.1.row hg hr, h.2.2.2.1.row hg hr, below_row h.2.2.2.2 hg (by have := h.2.2.1.lt; omega) (by omega) hr⟩)
    ⟨rfl, h0, h1, hb3⟩ ?round ?done ?stop
  case round =>
    apply Exists.intro
    constructor
    · intro l' x W K hx hK
      gi_wp2
      exact hK
    · rintro l' pre ⟨s, q⟩ W hx hzW ⟨hok, hr, he, hb⟩ hlen
      dsimp only at hx ⊢
      have hsn := okN_snoc pre (s, q)
      rw [hok, Bool.true_and] at hsn
      by_cases hg : gOK s = true
      case neg =>
        have hg : gOK s = false := by simpa using hg
        have hbad : okN (pre ++ [(s, q)]) = false := by rw [hsn]; simp [okX, hg]
        gi_wp2_with (first | (refine ⟨trivial, ?_⟩; gi_at_call 39; refine (CallsIn.inRound l' (callsIn_wide.2 (good_any s _))).mono ?_; rintro e W2 ⟨rfl, hb2⟩; rw [hg]; have hr2 := hr.below hb2; have he2 := he.below hb2; have hbw2 := hb.trans (hb2.mono hb.size); have r2 := hr2.at_; have f2 := hr2.fz; have c2 := he2.at_; have g2 := he2.fz) | (refine ⟨trivial, ?_⟩; gi_at_call 40; refine (CallsIn.inRound l' (callsIn_wide.2 (may_any q _))).mono ?_; rintro e W3 ⟨rfl, h3⟩; have h3 := h3.symm; subst h3; rw [hq]) | refine ⟨trivial, ?_⟩)
        exact ⟨((Keep.from_below hb2).trans ((KeepsOthers.setCell W2 _ _).from _)).trans ((KeepsOthers.setCell _ _ _).from _), rfl, hbad, (hr2.set_ _).other (by omega) _ _, (he2.other (by omega) _ _).set_ _, (hbw2.setCell (p := ⟨w.heap.size, 0, none⟩) (Nat.le_refl _) _).setCell (p := ⟨w.heap.size + 1, 0, none⟩) (by dsimp only; omega) _⟩
      by_cases hq : cMay q = true
      case neg =>
        have hq : cMay q = false := by simpa using hq
        have hbad : okN (pre ++ [(s, q)]) = false := by rw [hsn]; simp [okX, hq]
        gi_wp2_with (first | (refine ⟨trivial, ?_⟩; gi_at_call 39; refine (CallsIn.inRound l' (callsIn_wide.2 (good_any s _))).mono ?_; rintro e W2 ⟨rfl, hb2⟩; rw [hg]; have hr2 := hr.below hb2; have he2 := he.below hb2; have hbw2 := hb.trans (hb2.mono hb.size); have r2 := hr2.at_; have f2 := hr2.fz; have c2 := he2.at_; have g2 := he2.fz) | (refine ⟨trivial, ?_⟩; gi_at_call 40; refine (CallsIn.inRound l' (callsIn_wide.2 (may_any q _))).mono ?_; rintro e W3 ⟨rfl, h3⟩; have h3 := h3.symm; subst h3; rw [hq]) | refine ⟨trivial, ?_⟩)
        exact ⟨((Keep.from_below hb2).trans ((KeepsOthers.setCell W2 _ _).from _)).trans ((KeepsOthers.setCell _ _ _).from _), rfl, hbad, (hr2.set_ _).other (by omega) _ _, (he2.other (by omega) _ _).set_ _, (hbw2.setCell (p := ⟨w.heap.size, 0, none⟩) (Nat.le_refl _) _).setCell (p := ⟨w.heap.size + 1, 0, none⟩) (by dsimp only; omega) _⟩
      have hgood : okN (pre ++ [(s, q)]) = true := by rw [hsn]; simp [okX, hg, hq]
      gi_wp2_with (first | (refine ⟨trivial, ?_⟩; gi_at_call 39; refine (CallsIn.inRound l' (callsIn_wide.2 (good_any s _))).mono ?_; rintro e W2 ⟨rfl, hb2⟩; rw [hg]; have hr2 := hr.below hb2; have he2 := he.below hb2; have hbw2 := hb.trans (hb2.mono hb.size); have r2 := hr2.at_; have f2 := hr2.fz; have c2 := he2.at_; have g2 := he2.fz) | (refine ⟨trivial, ?_⟩; gi_at_call 40; refine (CallsIn.inRound l' (callsIn_wide.2 (may_any q _))).mono ?_; rintro e W3 ⟨rfl, h3⟩; have h3 := h3.symm; subst h3; rw [hq]) | refine ⟨trivial, ?_⟩)
      exact ⟨Keep.from_below hb2, KX.of_below (hb2.mono (by omega)), hgood, hr2, he2, hbw2⟩
  case stop =>
    rintro D c pre W hD hpre ⟨rfl, hbad, hr, he, hb⟩ hDf
    have hnot := okN_not hpre hbad
    have hE : normE l = 60 := by unfold normE; rw [hnot]
    have hR : normR l = [] := by unfold normR; rw [hE]; rfl
    dsimp only
    gi_wp2
    refine ⟨by simp, .inl ⟨_, _, rfl, run_takeDeferred hDf, ?_⟩⟩
    have c0 := (hr.iter D _ (.deferred none) hDf rfl).at_
    have c1 := (he.iter D _ (.deferred none) hDf rfl).at_
    refine ⟨.tuple #[.slice none 0 0, .int .i64 60], by simp [results, Try.f46, go_sem, c0, c1], _, by rw [hE], by rw [hR]; exact OI.nil _ _, below_putD hb (by omega) hDf⟩
  case done =>
    rintro D W hD ⟨hok, hr, he, hb⟩ hDf
    dsimp only
    have hDl := (Array.getElem?_eq_some_iff.1 hDf).1
    gi_wp2_with (refine ⟨trivial, ?_⟩; gi_at_call 38; refine (callsIn_wide.2 (over_make A n c _)).mono ?_; rintro e w' ⟨rfl, rfl⟩)
    have hzW := hb.size
    have q0 := ((hr.alloc (.map #[] 0)).alloc (.cells #[.map (some W.heap.size)] 89)).alloc (.cells #[.slice A n c] 30)
    have q1 := ((he.alloc (.map #[] 0)).alloc (.cells #[.map (some W.heap.size)] 89)).alloc (.cells #[.slice A n c] 30)
    have qM := (CL.new (W.alloc (.map #[] 0)) (.map (some W.heap.size)) 89).alloc (.cells #[.slice A n c] 30)
    have qC := CL.new ((W.alloc (.map #[] 0)).alloc (.cells #[.map (some W.heap.size)] 89)) (.slice A n c) 30
    have qb := ((hb.alloc hb.size (.map #[] 0)).alloc (by simp; omega) (.cells #[.map (some W.heap.size)] 89)).alloc (by simp; omega) (.cells #[.slice A n c] 30)
    have qo := ((World.ownsMap_made W Try.prog 9 (plainElem (H := Unit) Try.prog 3)).alloc (.cells #[.map (some W.heap.size)] 89)).alloc (.cells #[.slice A n c] 30)
    have qD : (((W.alloc (.map #[] 0)).alloc (.cells #[.map (some W.heap.size)] 89)).alloc (.cells #[.slice A n c] 30)).heap[D]? = some (.deferred (some [])) := (Below.heap_alloc _ _ D (by simp; omega)).trans ((Below.heap_alloc _ _ D (by simp; omega)).trans ((Below.heap_alloc _ _ D hDl).trans hDf))
    rw [World.size_alloc] at qM
    rw [World.size_alloc, World.size_alloc] at qC
    clear h0 h1 hC hb3 hmm
    generalize hW1 : ((W.alloc (.map #[] 0)).alloc (.cells #[.map (some W.heap.size)] 89)).alloc (.cells #[.slice A n c] 30) = W1 at *
    have hz1 : W1.heap.size = W.heap.size + 1 + 1 + 1 := by rw [← hW1]; simp
    clear hW1
    have hrle := hr.lt
    have hele := he.lt
    clear hr he hb hDf
    refine range_over' A n c l (W.heap.size + 1 + 1) (fun k => k = w.heap.size ∨ k = w.heap.size + 1 ∨ k = W.heap.size) rfl rfl qC.at_ (hl.below qb) (fun ad h h' => by have := hlt ad h h'; omega) (by omega)
      (fun pre W2 => okN pre = true ∧ overL pre = false ∧ CL W2 w.heap.size (.slice none 0 0) ∧ CL W2 (w.heap.size + 1) (.int .i64 0) ∧ CL W2 (W.heap.size + 1) (.map (some W.heap.size)) ∧ W2.ownsMap Try.prog 9 (plainElem (H := Unit) Try.prog 3) W.heap.size pre.length (sumsN pre) ∧ W2.heap[D]? = some (.deferred (some [])) ∧ Below w.heap.size w W2)
      (fun c pre W2 => c = .ret ∧ overL pre = true ∧ CL W2 w.heap.size (.slice none 0 0) ∧ CL W2 (w.heap.size + 1) (.int .i64 50) ∧ W2.heap[D]? = some (.deferred (some [])) ∧ Below w.heap.size w W2)
      (fun s X Y row h hg hr => ⟨h.1, h.2.1, h.2.2.1.row hg hr, h.2.2.2.1.row hg hr, h.2.2.2.2.1.row hg hr, maps_row h.2.2.2.2.2.1 hg (by omega) hr, heap_row h.2.2.2.2.2.2.1 hg (by omega) hr, below_row h.2.2.2.2.2.2.2 hg (by have := h.2.2.1.lt; omega) (by omega) hr⟩)
      (fun c s X Y row h hg hr => ⟨h.1, h.2.1, h.2.2.1.row hg hr, h.2.2.2.1.row hg hr, heap_row h.2.2.2.2.1 hg (by omega) hr, below_row h.2.2.2.2.2 hg (by have := h.2.2.1.lt; omega) (by omega) hr⟩)
      ⟨rfl, rfl, q0, q1, qM, qo, qD, qb⟩ ?round2 ?done2 ?stop2
    case round2 =>
      apply Exists.intro
      constructor
      · intro l' x W K hx hK
        gi_wp2
        exact hK
      · rintro l' pre ⟨s, q⟩ W2 hx hzW2 ⟨hokp, hov, hr, he, hM, hown, hDD, hb⟩ hlen
        dsimp only at hx ⊢
        have hsl := hsa _ hx
        have hmx := okN_mem hok hx
        have hokn : okN (pre ++ [(s, q)]) = true := by rw [okN_snoc, hokp]; simp [okX, cMay, hmx.1, hmx.2.1, hmx.2.2]
        have htb := tot_bound hokp hov s
        have hsnoc := sumsN_snoc pre (s, q)
        have hDl2 := (Array.getElem?_eq_some_iff.1 hDD).1
        dsimp only at hsl hmx hsnoc
        obtain ⟨v, hlk, hat, hwv⟩ := hown.lookup_int (string_keyed Try.underlying9) Try.underlying89 Try.underlying3 (Try.zeroValue3 _) (keyS s hsl)
        have hvt : v = tot pre s := by
          have h1 := (sumsN_sm pre).val s
          rw [h1] at hat
          injection hat with hat
          injection hat with _ hat
          exact hat.symm
        subst hvt
        have m0 := hM.at_
        by_cases hsum : tot pre s + q ≤ 1099511627776
        · have hov2 : overL (pre ++ [(s, q)]) = false := over_snoc hov hsum
          have hwf : (Lit.int .i64 (tot pre s + q)).wf = true := wf_mk (by omega) (by omega)
          gi_wp2_with (refine ⟨trivial, ?_⟩; gi_at_call 53; refine (CallsIn.inRound l' (callsIn_wide.2 (Cnt.add_ok (tot pre s) q htb.1 htb.2 hmx.2.1 hmx.2.2 _))).mono ?_; rintro e W3 ⟨rfl, hb3⟩; rw [if_pos hsum]; obtain ⟨W4, hup, hown4, hgr⟩ := (ownsMap_below' hown hb3).update (string_keyed Try.underlying9) Try.underlying89 (by simp only [maxLen]; omega) (keyS s hsl) (plainElem_int (H := Unit) Try.underlying3 hwf); have hM3 := hM.below hb3; have m3 := hM3.at_)
          have hk4 := Keep.of_grown hgr
          have hbW3 := hb.trans (hb3.mono hb.size)
          refine ⟨(Keep.from_below hb3).trans (hk4.from (fun k hk hB e => by simp at e; omega)), ⟨Nat.le_trans hb3.size hk4.size, fun k hk hS => ?_⟩, hokn, hov2, (hr.below hb3).kept hk4 (by simp; omega), (he.below hb3).kept hk4 (by simp; omega), hM3.kept hk4 (by simp), ?_, ?_, hbW3.trans (hk4.below hbW3.size (fun k hk e => by simp at e; omega))⟩
          · rw [hk4.block k (by have := hb3.size; omega) (fun e => by simp at e; omega)]
            exact hb3.block k (by omega)
          · rw [hsnoc, List.length_append]
            exact hown4
          · rw [hk4.block D (by have := hb3.size; omega) (fun e => by simp at e; omega), hb3.block D hDl2]
            exact hDD
        · have hov2 : overL (pre ++ [(s, q)]) = true := over_now hsum
          gi_wp2_with (refine ⟨trivial, ?_⟩; gi_at_call 53; refine (CallsIn.inRound l' (callsIn_wide.2 (Cnt.add_ok (tot pre s) q htb.1 htb.2 hmx.2.1 hmx.2.2 _))).mono ?_; rintro e W3 ⟨rfl, hb3⟩; rw [if_neg hsum]; have hr3 := hr.below hb3; have he3 := he.below hb3; have r3 := hr3.at_; have f3 := hr3.fz; have c3 := he3.at_; have g3 := he3.fz)
          have hbW3 := hb.trans (hb3.mono hb.size)
          refine ⟨((Keep.from_below hb3).trans ((KeepsOthers.setCell W3 _ _).from _)).trans ((KeepsOthers.setCell _ _ _).from _), rfl, hov2, (hr3.set_ _).other (by omega) _ _, (he3.other (by omega) _ _).set_ _, ?_, (hbW3.setCell (p := ⟨w.heap.size, 0, none⟩) (Nat.le_refl _) _).setCell (p := ⟨w.heap.size + 1, 0, none⟩) (by dsimp only; omega) _⟩
          exact (Below.heap_setCell _ _ _ D (by dsimp only; omega)).trans ((Below.heap_setCell _ _ _ D (by dsimp only; omega)).trans ((hb3.block D hDl2).trans hDD))
    case stop2 =>
      rintro D2 c pre W2 hD2 hpre ⟨rfl, hbad, hr, he, hDD, hb⟩ hDf2
      have hov := over_more hpre hok hbad
      have hE : normE l = 50 := by unfold normE; rw [hok, hov]
      have hR : normR l = [] := by unfold normR; rw [hE]; rfl
      have hne : D ≠ D2 := by omega
      dsimp only
      gi_wp2
      have hDD2 : (W2.putObj D2 (.deferred none)).heap[D]? = some (.deferred (some [])) := (World.putObj_heap_other hne).trans hDD
      refine ⟨by simp, .inl ⟨_, _, rfl, run_takeDeferred hDf2, by simp, .inl ⟨_, _, rfl, run_takeDeferred hDD2, ?_⟩⟩⟩
      have c0 := ((hr.iter D2 _ (.deferred none) hDf2 rfl).iter D _ (.deferred none) hDD2 rfl).at_
      have c1 := ((he.iter D2 _ (.deferred none) hDf2 rfl).iter D _ (.deferred none) hDD2 rfl).at_
      refine ⟨.tuple #[.slice none 0 0, .int .i64 50], by simp [results, Try.f46, go_sem, c0, c1], _, by rw [hE], by rw [hR]; exact OI.nil _ _, below_putD (below_putD hb (by omega) hDf2) (by omega) hDD2⟩
    case done2 =>
      rintro D2 W2 hD2 ⟨hokp, hov, hr, he, hM, hown, hDD, hb⟩ hDf2
      have m0 := hM.at_
      have hne : D ≠ D2 := by omega
      have hlz := hl.len
      have hDl2 := (Array.getElem?_eq_some_iff.1 hDD).1
      have hDl3 := (Array.getElem?_eq_some_iff.1 hDf2).1
      have hr2 := hr.lt
      have he2 := he.lt
      dsimp only
      by_cases h16 : 16 < (rowsN l).length
      · have hE : normE l = 3 := by unfold normE; rw [hok, hov]; simp [h16]
        have hR : normR l = [] := by unfold normR; rw [hE]; rfl
        gi_wp2_with (refine ⟨trivial, ?_⟩; gi_at_call 54; refine (callsIn_wide.2 (listed_any W.heap.size l.length _ _ W2 hown (sumsN_sm l).val (by have := hown.size_le; omega))).mono ?_; rintro e W4 ⟨v, rfl, ho4, hb4⟩; change OI _ _ _ (rowsN l) at ho4; obtain ⟨LA, lc, rfl, _⟩ := ho4.form; have hr4 := hr.below hb4; have he4 := he.below hb4; have r4 := hr4.at_; have f4 := hr4.fz; have c4 := he4.at_; have g4 := he4.fz; have hbW4 := hb.trans (hb4.mono hb.size))
        have hD4 := (hb4.block D hDl2).trans hDD
        have hD24 := (hb4.block D2 hDl3).trans hDf2
        have hDs : ((W4.setCell ⟨w.heap.size, 0, none⟩ (.slice none 0 0)).setCell ⟨w.heap.size + 1, 0, none⟩ (.int .i64 3)).heap[D2]? = some (.deferred (some [])) := (Below.heap_setCell _ _ _ D2 (by dsimp only; omega)).trans ((Below.heap_setCell _ _ _ D2 (by dsimp only; omega)).trans hD24)
        have hDs2 : (((W4.setCell ⟨w.heap.size, 0, none⟩ (.slice none 0 0)).setCell ⟨w.heap.size + 1, 0, none⟩ (.int .i64 3)).putObj D2 (.deferred none)).heap[D]? = some (.deferred (some [])) := (World.putObj_heap_other hne).trans ((Below.heap_setCell _ _ _ D (by dsimp only; omega)).trans ((Below.heap_setCell _ _ _ D (by dsimp only; omega)).trans hD4))
        refine ⟨by simp, .inl ⟨_, _, rfl, run_takeDeferred hDs, by simp, .inl ⟨_, _, rfl, run_takeDeferred hDs2, ?_⟩⟩⟩
        have c0 := ((((hr4.set_ (.slice none 0 0)).other (c := w.heap.size + 1) (by omega) 0 (.int .i64 3)).iter D2 _ (.deferred none) hDs rfl).iter D _ (.deferred none) hDs2 rfl).at_
        have c1 := ((((he4.other (c := w.heap.size) (by omega) 0 (.slice none 0 0)).set_ (.int .i64 3)).iter D2 _ (.deferred none) hDs rfl).iter D _ (.deferred none) hDs2 rfl).at_
        refine ⟨.tuple #[.slice none 0 0, .int .i64 3], by simp [results, Try.f46, go_sem, c0, c1], _, by rw [hE], by rw [hR]; exact OI.nil _ _, below_putD (below_putD ((hbW4.setCell (p := ⟨w.heap.size, 0, none⟩) (Nat.le_refl _) _).setCell (p := ⟨w.heap.size + 1, 0, none⟩) (by dsimp only; omega) _) (by omega) hDs) (by omega) hDs2⟩
      · have hE : normE l = 0 := by unfold normE; rw [hok, hov]; simp [h16]
        have hR : normR l = rowsN l := by unfold normR; rw [hE]; rfl
        gi_wp2_with (refine ⟨trivial, ?_⟩; gi_at_call 54; refine (callsIn_wide.2 (listed_any W.heap.size l.length _ _ W2 hown (sumsN_sm l).val (by have := hown.size_le; omega))).mono ?_; rintro e W4 ⟨v, rfl, ho4, hb4⟩; change OI _ _ _ (rowsN l) at ho4; obtain ⟨LA, lc, rfl, _⟩ := ho4.form; have hr4 := hr.below hb4; have he4 := he.below hb4; have r4 := hr4.at_; have f4 := hr4.fz; have c4 := he4.at_; have g4 := he4.fz; have hbW4 := hb.trans (hb4.mono hb.size))
        have hD4 := (hb4.block D hDl2).trans hDD
        have hD24 := (hb4.block D2 hDl3).trans hDf2
        have hDs : ((W4.setCell ⟨w.heap.size, 0, none⟩ (.slice LA (rowsN l).length lc)).setCell ⟨w.heap.size + 1, 0, none⟩ (.int .i64 0)).heap[D2]? = some (.deferred (some [])) := (Below.heap_setCell _ _ _ D2 (by dsimp only; omega)).trans ((Below.heap_setCell _ _ _ D2 (by dsimp only; omega)).trans hD24)
        have hDs2 : (((W4.setCell ⟨w.heap.size, 0, none⟩ (.slice LA (rowsN l).length lc)).setCell ⟨w.heap.size + 1, 0, none⟩ (.int .i64 0)).putObj D2 (.deferred none)).heap[D]? = some (.deferred (some [])) := (World.putObj_heap_other hne).trans ((Below.heap_setCell _ _ _ D (by dsimp only; omega)).trans ((Below.heap_setCell _ _ _ D (by dsimp only; omega)).trans hD4))
        refine ⟨by simp, .inl ⟨_, _, rfl, run_takeDeferred hDs, by simp, .inl ⟨_, _, rfl, run_takeDeferred hDs2, ?_⟩⟩⟩
        have c0 := ((((hr4.set_ (.slice LA (rowsN l).length lc)).other (c := w.heap.size + 1) (by omega) 0 (.int .i64 0)).iter D2 _ (.deferred none) hDs rfl).iter D _ (.deferred none) hDs2 rfl).at_
        have c1 := ((((he4.other (c := w.heap.size) (by omega) 0 (.slice LA (rowsN l).length lc)).set_ (.int .i64 0)).iter D2 _ (.deferred none) hDs rfl).iter D _ (.deferred none) hDs2 rfl).at_
        refine ⟨.tuple #[.slice LA (rowsN l).length lc, .int .i64 0], by simp [results, Try.f46, go_sem, c0, c1], _, by rw [hE], ?_, below_putD (below_putD ((hbW4.setCell (p := ⟨w.heap.size, 0, none⟩) (Nat.le_refl _) _).setCell (p := ⟨w.heap.size + 1, 0, none⟩) (by dsimp only; omega) _) (by omega) hDs) (by omega) hDs2⟩
        rw [hR]
        exact ((((ho4.set_ (b := w.heap.size) (by omega) 0 _).set_ (b := w.heap.size + 1) (by omega) 0 _).mono (by omega)).putD hDs).putD hDs2
end Go.Proofs.Ytligpmnpfdaknaa
