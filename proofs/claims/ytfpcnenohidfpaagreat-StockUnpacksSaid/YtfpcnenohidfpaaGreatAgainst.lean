/- against, Meet, Rest: what is left of each good of a list, over another. No condition but that the lists are ones of memory. -/
import Derived.Test.YtfpcnenohidfpaaGreatListed
namespace Go.Proofs.YtfpcnenohidfpaaGreat
open Go.RowKit Go.Maps Go.Shelf Go.Sort
set_option linter.unusedVariables false
set_option linter.unusedSimpArgs false
attribute [local go_sem] Oper.semAt_some

theorem OI.putD {base : Nat} {W : World} {v : Value} {l : List It} {D : Nat} (h : OI base W v l) (hD : W.heap[D]? = some (.deferred (some []))) : OI base (W.putObj D (.deferred none)) v l :=
  h.kept (Keep.of_grown (grownBy_putObj' W D _)) fun g hg e => by
    cases e
    obtain ⟨o, h1, h2⟩ := h.blk D hg
    rw [hD] at h1
    cases h1
    cases h2
theorem IL.row {W W' : World} {A : Option Addr} {n : Nat} {l : List It} {row : Option Nat} {B : Nat} (h : IL W A n l) (hg : W.grownBy W' row) (hA : ∀ ad, A = some ad → 0 < n → ad.block < B) (hr : ∀ r, row = some r → B ≤ r ∧ ∃ o : Obj, W.heap[r]? = some o ∧ o.isCells = false) : IL W' A n l :=
  h.kept (Keep.of_grown hg) fun ad h1 h2 e => by have := (hr _ e).1; have := hA ad h1 h2; omega
theorem maps_row {H : Type} {P : Program} {k : TypeId} {R : Value → Option (DataW H × List MemPlace)} {W W' : World} {b n B : Nat} {D : DataW H} {row : Option Nat} (h : W.ownsMap P k R b n D) (hg : W.grownBy W' row) (hb : b < B) (hr : ∀ r, row = some r → B ≤ r ∧ ∃ o : Obj, W.heap[r]? = some o ∧ o.isCells = false) : W'.ownsMap P k R b n D :=
  h.kept hg fun e => by have := (hr _ e.symm).1; omega

/-- The map of what is left. -/
def sumsOf (f : It → Int) (l : List It) : DataW Unit := l.foldl (fun D x => D.put (.string x.1) (.lit (.int .i64 (f x)))) (.map [])
theorem sumsOf_snoc (f : It → Int) (l : List It) (x : It) : sumsOf f (l ++ [x]) = (sumsOf f l).put (.string x.1) (.lit (.int .i64 (f x))) := by simp [sumsOf]
def lastV (f : It → Int) (l : List It) (g : List UInt8) : Int := l.foldl (fun s x => if x.1 = g then f x else s) 0
theorem lastV_snoc (f : It → Int) (l : List It) (x : It) (g : List UInt8) : lastV f (l ++ [x]) g = if x.1 = g then f x else lastV f l g := by simp [lastV]
theorem sumsOf_sm (f : It → Int) (l : List It) : SM (sumsOf f l) (lastV f l) (l.map (·.1)) := by
  induction l using snoc_ind with
  | h0 => exact SM.start
  | h1 l x ih =>
    rw [sumsOf_snoc]
    have h := ih.put x.1 (f x)
    rw [List.map_append]
    refine ⟨h.isMap, fun g => ?_, h.has_⟩
    rw [h.val g, lastV_snoc]
    by_cases e : g = x.1
    · subst e
      simp
    · rw [if_neg e, if_neg (fun e' => e e'.symm)]
theorem rising_pairwise : ∀ (l : List It) (last : List UInt8), mayFrom last l = true → (l.map (·.1)).Pairwise (fun a b => a < b) ∧ ∀ g ∈ l.map (·.1), last < g
  | [], _, _ => ⟨List.Pairwise.nil, fun g h => by simp at h⟩
  | x :: l, last, h => by
    rw [mayFrom, Bool.and_eq_true] at h
    obtain ⟨h1, h2⟩ := rising_pairwise l x.1 h.2
    have hx : last < x.1 := by
      have := h.1
      simp [okAt] at this
      exact this.1.1.2
    refine ⟨List.pairwise_cons.2 ⟨h2, h1⟩, fun g hg => ?_⟩
    rw [List.map_cons, List.mem_cons] at hg
    rcases hg with rfl | hg
    · exact hx
    · exact List.lt_trans hx (h2 g hg)
theorem mayL_from {l : List It} (h : mayL l = true) : l.length ≤ 16 ∧ mayFrom [] l = true := by simpa [mayL] using h
/-- A map's keys in order, where they rise. -/
theorem keys_sorted {H : Type} {D : DataW H} {f : List UInt8 → Int} {ks : List (List UInt8)} (h : SM D f ks) (hp : ks.Pairwise (fun a b => a < b)) (hD : ∃ es : List (Lit × DataW H), D = .map es ∧ es.Pairwise (fun p q => p.1 ≠ q.1) ∧ ∀ p ∈ es, ∃ x, p.1 = .string x) : (strKeys D).mergeSort leB = ks := by
  obtain ⟨es, rfl, h1, h2⟩ := hD
  have hnd : ks.Nodup := hp.imp fun hab e => by subst e; exact List.lt_irrefl _ hab
  have hperm : ks.Perm (strKeys (.map es)) := perm_strKeys h1 h2 hnd fun x => by rw [h.has_ x]; simp
  rw [mergeSort_of_perm hperm.symm]
  refine List.mergeSort_of_pairwise (hp.imp fun hab => ?_)
  simpa [leB] using List.le_of_lt hab
theorem maps_form {H : Type} {w : World} {R : Value → Option (DataW H × List MemPlace)} {b n : Nat} {D : DataW H} (h : w.ownsMap Tryz.prog 9 R b n D) : ∃ es : List (Lit × DataW H), D = .map es ∧ es.Pairwise (fun p q => p.1 ≠ q.1) ∧ ∀ p ∈ es, ∃ x, p.1 = .string x := by
  obtain ⟨es, rfl, hk⟩ := h.keysOf
  obtain ⟨es', he, hp⟩ := h.tidy (string_keyed Tryz.underlying9)
  cases he
  refine ⟨es, rfl, hp, fun p hp => ?_⟩
  obtain ⟨key, hkey⟩ := hk p hp
  obtain ⟨x, _, hx, _⟩ := Maps.keyOf_str Tryz.underlying9 hkey
  exact ⟨x, hx⟩
/-- .. of lists that may be; else nothing. -/
def ifMay (b : Bool) (l : List It) : List It := match b with | true => l | false => []
/-- What is left. -/
def leftL (f : It → Int) (l : List It) : List It := l.filterMap fun x => if f x = 0 then none else some (x.1, f x)
theorem lastV_mem (f : It → Int) : ∀ (l : List It), (l.map (·.1)).Pairwise (fun a b => a < b) → ∀ x ∈ l, lastV f l x.1 = f x := by
  intro l
  induction l using snoc_ind with
  | h0 => intro _ x h; simp at h
  | h1 l y ih =>
    intro hp x hx
    rw [lastV_snoc]
    rw [List.map_append, List.pairwise_append] at hp
    rcases List.mem_append.1 hx with hx | hx
    · have hlt := hp.2.2 x.1 (List.mem_map_of_mem hx) y.1 (by simp)
      rw [if_neg (fun e => by rw [e] at hlt; exact List.lt_irrefl _ hlt)]
      exact ih hp.1 x hx
    · simp at hx
      subst hx
      simp
theorem listed_left (f : It → Int) (l : List It) (hp : (l.map (·.1)).Pairwise (fun a b => a < b)) : listedL (l.map (·.1)) (lastV f l) = leftL f l := by
  unfold listedL leftL
  rw [List.filterMap_map]
  refine fm_congr fun x hx => ?_
  simp only [Function.comp]
  rw [lastV_mem f l hp x hx]

set_option maxRecDepth 100000 in
set_option maxHeartbeats 3200000 in
theorem against_meet (A A' : Option Addr) (n c n' c' : Nat) (la lb : List It) (w : World) (hla : IL w A n la) (hlb : IL w A' n' lb) (hn : n ≤ 9223372036854775807) (hn' : n' ≤ 9223372036854775807)
    (hsa : ∀ x ∈ la, x.1.length ≤ maxLen) (hwa : ∀ x ∈ la, (Lit.int .i64 (min x.2 (ofL lb x.1))).wf = true) :
    Calls Tryz.prog 71 #[.slice A n c, .slice A' n' c', .func (.func 72) #[] #[]] w fun e w' => ∃ v, e = .returned v ∧ OI w.heap.size w' v (ifMay (mayL la && mayL lb) (leftL (fun x => min x.2 (ofL lb x.1)) la)) ∧ Below w.heap.size w w' := by
  have hlt' := hlb.lt
  have hlt := hla.lt
  refine (callsIn_wide (n := 9)).1 ?_
  refine callsIn_of_wp_marks Tryz.func71 rfl trivial ?_ rfl
  simp only [Tryz.ntmps71, List.size_toArray, List.length_cons, List.length_nil, Nat.reduceAdd, Nat.reduceSub, Array.replicate_succ, Array.replicate_zero, List.push_toArray, List.append_toArray, List.nil_append, List.cons_append]
  have hB0 := (CL.new w (.slice A' n' c') 67).alloc (.cells #[.func (.func 72) #[] #[]] 37)
  have hF0 := CL.new (w.alloc (.cells #[.slice A' n' c'] 67)) (.func (.func 72) #[] #[]) 37
  rw [World.size_alloc] at hF0
  have hb0 := ((Below.refl w.heap.size w).alloc (Nat.le_refl _) (.cells #[.slice A' n' c'] 67)).alloc (by simp) (.cells #[.func (.func 72) #[] #[]] 37)
  have hla0 := hla.below hb0
  have hlb0 := hlb.below hb0
  have hmm := @run_makeMap Tryz.prog
  by_cases hmay : (mayL la && mayL lb) = true
  case neg =>
    have hmay : (mayL la && mayL lb) = false := by simpa using hmay
    gi_wp2_with (refine ⟨trivial, ?_⟩; gi_at_call 79; refine (callsIn_wide.2 (mayBoth_any A A' n c n' c' la lb _ hla0 hlb0 hn hn')).mono ?_; rintro e w1 ⟨rfl, hb1⟩; rw [hmay])
    refine ⟨_, results_tmp rfl _ _ _, _, rfl, ?_, hb0.trans (hb1.mono hb0.size)⟩
    first | exact OI.nil _ _ | (rw [hmay]; exact OI.nil _ _)
  gi_wp2_with (first | (refine ⟨trivial, ?_⟩; gi_at_call 79; refine (callsIn_wide.2 (mayBoth_any A A' n c n' c' la lb _ hla0 hlb0 hn hn')).mono ?_; rintro e w1 ⟨rfl, hb1⟩; rw [hmay]) | (refine ⟨trivial, ?_⟩; gi_at_call 66; refine (callsIn_wide.2 (over_make A n c _)).mono ?_; rintro e w' ⟨rfl, rfl⟩))
  have hz1 := hb1.size
  simp only [World.size_alloc] at hz1
  have hmA : mayL la = true := (Bool.and_eq_true _ _ ▸ hmay).1
  have hbw1 := hb0.trans (hb1.mono hb0.size)
  have hB1 := ((hB0.below hb1).alloc (.map #[] 0)).alloc (.cells #[.map (some w1.heap.size)] 138) |>.alloc (.cells #[.slice A n c] 67)
  have hF1 := ((hF0.below hb1).alloc (.map #[] 0)).alloc (.cells #[.map (some w1.heap.size)] 138) |>.alloc (.cells #[.slice A n c] 67)
  have hM1 := (CL.new (w1.alloc (.map #[] 0)) (.map (some w1.heap.size)) 138).alloc (.cells #[.slice A n c] 67)
  have hC := CL.new ((w1.alloc (.map #[] 0)).alloc (.cells #[.map (some w1.heap.size)] 138)) (.slice A n c) 67
  have hla1 := (((hla0.below hb1).alloc (.map #[] 0)).alloc (.cells #[.map (some w1.heap.size)] 138)).alloc (.cells #[.slice A n c] 67)
  have hlb1 := (((hlb0.below hb1).alloc (.map #[] 0)).alloc (.cells #[.map (some w1.heap.size)] 138)).alloc (.cells #[.slice A n c] 67)
  have hb3 := ((hbw1.alloc hbw1.size (.map #[] 0)).alloc (by have := hbw1.size; simp; omega) (.cells #[.map (some w1.heap.size)] 138)).alloc (by have := hbw1.size; simp; omega) (.cells #[.slice A n c] 67)
  have hown1 := ((World.ownsMap_made w1 Tryz.prog 9 (plainElem (H := Unit) Tryz.prog 3)).alloc (.cells #[.map (some w1.heap.size)] 138)).alloc (.cells #[.slice A n c] 67)
  rw [World.size_alloc] at hM1
  rw [World.size_alloc, World.size_alloc] at hC
  clear hb1 hb0 hla0 hlb0 hB0 hF0 hmm
  generalize hW : ((w1.alloc (.map #[] 0)).alloc (.cells #[.map (some w1.heap.size)] 138)).alloc (.cells #[.slice A n c] 67) = W0 at *
  have hz0 : W0.heap.size = w1.heap.size + 1 + 1 + 1 := by rw [← hW]; simp
  clear hW
  refine range_over' A n c la (w1.heap.size + 1 + 1) (fun k => k = w1.heap.size) rfl rfl hC.at_ hla1 (fun ad h h' => by have := hlt ad h h'; omega) hn
    (fun pre W => CL W w.heap.size (.slice A' n' c') ∧ CL W (w.heap.size + 1) (.func (.func 72) #[] #[]) ∧ CL W (w1.heap.size + 1) (.map (some w1.heap.size)) ∧ W.ownsMap Tryz.prog 9 (plainElem (H := Unit) Tryz.prog 3) w1.heap.size pre.length (sumsOf (fun x => min x.2 (ofL lb x.1)) pre) ∧ IL W A' n' lb ∧ Below w.heap.size w W)
    (fun c pre W => False)
    (fun s X Y row h hg hr => ⟨h.1.row hg hr, h.2.1.row hg hr, h.2.2.1.row hg hr, maps_row h.2.2.2.1 hg (by omega) hr, h.2.2.2.2.1.row hg (fun ad h1 h2 => by have := hlt' ad h1 h2; omega) hr, below_row h.2.2.2.2.2 hg (by have := h.1.lt; omega) (by omega) hr⟩)
    (fun c s X Y row h hg hr => h)
    ⟨hB1, hF1, hM1, hown1, hlb1, hb3⟩ ?round ?done ?stop
  case round =>
    apply Exists.intro
    constructor
    · intro l' x W K hx hK
      gi_wp2
      exact hK
    · rintro l' pre ⟨s, q⟩ W hx hzW ⟨hB, hF, hM, hown, hlb, hbw⟩ hlen
      dsimp only at hx ⊢
      have hsl := hsa _ hx
      have hwf := hwa _ hx
      dsimp only at hsl hwf
      have hlt16 := (mayL_from hmA).1
      have hlan := hla.len
      refine wpIn_block ?_
      refine draws_in_round (S := (fun w' => w'.cell? ⟨w1.heap.size + 1, 0, none⟩ = some (.map (some w1.heap.size)) ∧ w'.cell? ⟨w.heap.size + 1, 0, none⟩ = some (.func (.func 72) #[] #[]) ∧ w'.cell? ⟨w.heap.size, 0, none⟩ = some (.slice A' n' c'))) l' 7 (by kernel_rfl) (by kernel_rfl) ⟨hM.drew.at_, hF.drew.at_, hB.drew.at_⟩ (fun hHeld => ?_)
      refine wpAnyH_take (i := 0) (oi := ?oi0) (v := ?v0) ?hi0 (by kernel_rfl) (by kernel_rfl) (by kernel_rfl) ?hq0 (Or.inl ⟨?hw0, ?hy0⟩) (by assumption) ?rest0
      case hi0 => (simp only [List.getElem?_toArray, List.getElem?_cons_succ, List.getElem?_cons_zero]; rfl)
      case hq0 => exact fun _ _ _ h => h
      case hw0 => rfl
      case hy0 => (intro w hSw; (try dsimp only at hSw); go_simp <;> with_reducible rfl)
      try simp only [Act.put, List.setIfInBounds_toArray, List.set_cons_zero, List.set_cons_succ]
      refine wpAnyH_take (i := 1) (oi := ?oi1) (v := ?v1) ?hi1 (by kernel_rfl) (by kernel_rfl) (by kernel_rfl) ?hq1 (Or.inl ⟨?hw1, ?hy1⟩) (by assumption) ?rest1
      case hi1 => (simp only [List.getElem?_toArray, List.getElem?_cons_succ, List.getElem?_cons_zero]; rfl)
      case hq1 => exact fun _ _ _ h => h
      case hw1 => rfl
      case hy1 => (intro w hSw; (try dsimp only at hSw); go_simp <;> with_reducible rfl)
      try simp only [Act.put, List.setIfInBounds_toArray, List.set_cons_zero, List.set_cons_succ]
      refine wpAnyH_take (i := 2) (oi := ?oi2) (v := ?v2) ?hi2 (by kernel_rfl) (by kernel_rfl) (by kernel_rfl) ?hq2 (Or.inl ⟨?hw2, ?hy2⟩) (by assumption) ?rest2
      case hi2 => (simp only [List.getElem?_toArray, List.getElem?_cons_succ, List.getElem?_cons_zero]; rfl)
      case hq2 => exact fun _ _ _ h => h
      case hw2 => rfl
      case hy2 => (intro w hSw; (try dsimp only at hSw); go_simp <;> with_reducible rfl)
      try simp only [Act.put, List.setIfInBounds_toArray, List.set_cons_zero, List.set_cons_succ]
      refine wpAnyH_take (i := 3) (oi := ?oi3) (v := ?v3) ?hi3 (by kernel_rfl) (by kernel_rfl) (by kernel_rfl) ?hq3 (Or.inl ⟨?hw3, ?hy3⟩) (by assumption) ?rest3
      case hi3 => (simp only [List.getElem?_toArray, List.getElem?_cons_succ, List.getElem?_cons_zero]; rfl)
      case hq3 => exact fun _ _ _ h => h
      case hw3 => rfl
      case hy3 => (intro w hSw; (try dsimp only at hSw); go_simp <;> with_reducible rfl)
      try simp only [Act.put, List.setIfInBounds_toArray, List.set_cons_zero, List.set_cons_succ]
      refine wpAnyH_take (i := 4) (oi := ?oi4) (v := ?v4) ?hi4 (by kernel_rfl) (by kernel_rfl) (by kernel_rfl) ?hq4 (Or.inl ⟨?hw4, ?hy4⟩) (by assumption) ?rest4
      case hi4 => (simp only [List.getElem?_toArray, List.getElem?_cons_succ, List.getElem?_cons_zero]; rfl)
      case hq4 => exact fun _ _ _ h => h
      case hw4 => rfl
      case hy4 => (intro w hSw; (try dsimp only at hSw); go_simp <;> with_reducible rfl)
      try simp only [Act.put, List.setIfInBounds_toArray, List.set_cons_zero, List.set_cons_succ]
      refine wpAnyH_take (i := 5) (oi := ?oi5) (v := ?v5) ?hi5 (by kernel_rfl) (by kernel_rfl) (by kernel_rfl) ?hq5 (Or.inl ⟨?hw5, ?hy5⟩) (by assumption) ?rest5
      case hi5 => (simp only [List.getElem?_toArray, List.getElem?_cons_succ, List.getElem?_cons_zero]; rfl)
      case hq5 => exact fun _ _ _ h => h
      case hw5 => rfl
      case hy5 => (intro w hSw; (try dsimp only at hSw); go_simp <;> with_reducible rfl)
      try simp only [Act.put, List.setIfInBounds_toArray, List.set_cons_zero, List.set_cons_succ]
      refine wpAnyH_ready (rs := [6]) (by kernel_rfl) (by simp) ?_
      refine AllReadyH.cons (o := ?o6) ?hi6 (fun K hK => ?st6) AllReadyH.nil
      case hi6 => (simp only [List.getElem?_toArray, List.getElem?_cons_succ, List.getElem?_cons_zero]; rfl)
      go_simp
      refine (of_any A' n' c' lb s _ hlb.drew hn').mono ?_
      rintro e W2 ⟨rfl, hb2⟩
      have hb2d : Below W.heap.size W W2 := ((below_same' W).drew).trans hb2
      have hB2 := hB.below hb2d
      have hF2 := hF.below hb2d
      have hM2 := hM.below hb2d
      have hlb2 := hlb.below hb2d
      have hown2 := ownsMap_below' hown hb2d
      have hbw2 := hbw.trans (hb2d.mono hbw.size)
      go_wp2_with fail
      refine hK.out _ _ ⟨hM2.at_, hF2.at_, hB2.at_⟩ (fun hHeld2 => ?_)
      clear hK K hHeld
      have hHeld := hHeld2
      clear hHeld2
      try simp only [Act.put, List.setIfInBounds_toArray, List.set_cons_zero, List.set_cons_succ]
      refine wpAnyH_ready (rs := [7]) (by kernel_rfl) (by simp) ?_
      refine AllReadyH.cons (o := ?o7) ?hi7 (fun K hK => ?st7) AllReadyH.nil
      case hi7 => (simp only [List.getElem?_toArray, List.getElem?_cons_succ, List.getElem?_cons_zero]; rfl)
      go_simp
      refine (meet1_any q (ofL lb s) W2).mono ?_
      rintro e W3 ⟨rfl, h3⟩
      have h3 := h3.symm
      subst h3
      go_wp2_with fail
      refine hK.out _ _ ⟨hM2.at_, hF2.at_, hB2.at_⟩ (fun hHeld2 => ?_)
      clear hK K hHeld
      have hHeld := hHeld2
      clear hHeld2
      try simp only [Act.put, List.setIfInBounds_toArray, List.set_cons_zero, List.set_cons_succ]
      refine wpAnyH_ready (rs := [8]) (by kernel_rfl) (by simp) ?_
      refine AllReadyH.cons (o := ?o8) ?hi8 (fun K hK => ?st8) AllReadyH.nil
      case hi8 => (simp only [List.getElem?_toArray, List.getElem?_cons_succ, List.getElem?_cons_zero]; rfl)
      obtain ⟨W3, hrun, hown3, hgr⟩ := hown2.update (string_keyed Tryz.underlying9) Tryz.underlying138 (by simp only [maxLen]; omega) (keyS s hsl) (plainElem_int (H := Unit) Tryz.underlying3 hwf)
      have hk3 := Keep.of_grown hgr
      have hM3 := hM2.kept hk3 (by simp)
      have hF3 := hF2.kept hk3 (by simp; omega)
      have hB3 := hB2.kept hk3 (by simp; omega)
      have hlb3 := hlb2.kept hk3 (fun ad h h' => by have := hlt' ad h h'; simp; omega)
      have hbw3 := hbw2.trans (hk3.below hbw2.size (fun k hk e => by simp at e; omega))
      go_simp
      refine hK.out _ _ ⟨hM3.at_, hF3.at_, hB3.at_⟩ (fun hHeld2 => ?_)
      clear hK K hHeld
      have hHeld := hHeld2
      clear hHeld2
      try simp only [Act.put, List.setIfInBounds_toArray, List.set_cons_zero, List.set_cons_succ]
      refine wpAnyH_done (by kernel_rfl) ?_ _
      refine ⟨((Keep.from_below hb2d).trans (hk3.from (fun k hk hB e => by simp at e; omega))), ⟨Nat.le_trans hb2d.size hk3.size, fun k hk hS => ?_⟩, hB3, hF3, hM3, ?_, hlb3, hbw3⟩
      · rw [hk3.block k (by have := hb2d.size; omega) (fun e => by simp at e; omega)]
        exact hb2d.block k (by omega)
      · rw [sumsOf_snoc, List.length_append]
        exact hown3
  case done =>
    rintro D W hD ⟨hB, hF, hM, hown, hlb, hbw⟩ hDf
    have m0 := hM.at_
    have hsm := sumsOf_sm (fun x => min x.2 (ofL lb x.1)) la
    have hlt16 := (mayL_from hmA).1
    have hrise := (rising_pairwise la [] (mayL_from hmA).2).1
    have hks := keys_sorted hsm hrise (maps_form hown)
    have hll := listed_left (fun x => min x.2 (ofL lb x.1)) la hrise
    dsimp only
    gi_wp2_with (refine ⟨trivial, ?_⟩; gi_at_call 81; refine (callsIn_wide.2 (listed_any w1.heap.size la.length _ _ W hown hsm.val (by have := hown.size_le; omega))).mono ?_; rintro e W4 ⟨v, rfl, ho4, hb4⟩; have hD4 := (hb4.block D (Array.getElem?_eq_some_iff.1 hDf).1).trans hDf)
    refine ⟨by simp, .inl ⟨_, _, rfl, run_takeDeferred hD4, ?_⟩⟩
    rw [hks, hll] at ho4
    refine ⟨_, results_tmp rfl _ _ _, _, rfl, ?_, below_putD (hbw.trans (hb4.mono hbw.size)) (by omega) hD4⟩
    first | exact (ho4.mono hbw.size).putD hD4 | (rw [hmay]; exact (ho4.mono hbw.size).putD hD4)
  case stop => exact fun D c pre W hD hpre h hDf => h.elim

end Go.Proofs.YtfpcnenohidfpaaGreat
