/- The moves and the document's moves: what they have in common, behind each call; Same of two that are the same. No condition. -/
import Derived.Test.YtjjghhhhalendaaGreatMwH
namespace Go.Proofs.YtjjghhhhalendaaGreat
open Go.RowKit Go.Maps Go.Shelf Go.Sort
set_option linter.unusedVariables false
set_option linter.unusedSimpArgs false

theorem sortI_mem {ks : List Int} {x : Int} : x ∈ sortI ks ↔ x ∈ ks := List.mem_mergeSort
theorem sortI_le (ks : List Int) : (sortI ks).Pairwise (fun a b => a ≤ b) := by
  have h := List.pairwise_mergeSort (le := fun (x y : Int) => decide (x ≤ y)) (fun a b c h1 h2 => by simp at *; omega) (fun a b => by simp; omega) ks
  exact h.imp fun {a b} h => of_decide_eq_true h
theorem sortI_self {l : List Int} (h : l.Pairwise (fun a b => a ≤ b)) : sortI l = l := by
  unfold sortI
  exact List.mergeSort_of_pairwise (h.imp fun {a b} h => decide_eq_true h)
theorem sortI_to {l ks : List Int} (h : l.Pairwise (fun a b => a ≤ b)) (hp : l.Perm ks) : l = sortI ks := by
  rw [← sortI_perm hp, sortI_self h]
theorem sortI_p (ks : List Int) : (sortI ks).Perm ks := List.mergeSort_perm ks _
/-- What is told of a move. -/
def core (r : Rec) : Int × Int × Int × List It × Bool := (r.m, r.f, r.t, r.l.l, r.c)
/-- The map says what the rows say. -/
structure WJ (f : Int → Rec) (ks : List Int) (rs : List Rec) : Prop where
  nd : ks.Nodup
  ms : rs.map Rec.m = sortI ks
  eq : ∀ r ∈ rs, core r = core (f r.m)
theorem WJ.start (f : Int → Rec) : WJ f [] [] := ⟨List.nodup_nil, by simp [sortI], fun r h => by simp at h⟩
section
variable {f : Int → Rec} {ks : List Int} {rs : List Rec}
theorem WJ.len (h : WJ f ks rs) : rs.length = ks.length := by
  have := congrArg List.length h.ms
  rwa [List.length_map, sortI_len] at this
theorem WJ.mem (h : WJ f ks rs) {k : Int} : k ∈ ks ↔ ∃ r ∈ rs, r.m = k := by
  rw [← sortI_mem, ← h.ms, List.mem_map]
theorem WJ.not (h : WJ f ks rs) {k : Int} (hk : k ∉ ks) : placeR rs k = -1 := by
  refine idxR_end (Nat.le_of_not_lt fun hlt => ?_)
  have h3 := @List.findIdx_getElem Rec (fun x => decide (x.m = k)) rs hlt
  exact hk (h.mem.2 ⟨_, List.getElem_mem hlt, of_decide_eq_true h3⟩)
theorem WJ.at_ (h : WJ f ks rs) {k : Int} (hk : k ∈ ks) : ∃ i x, placeR rs k = ((i : Nat) : Int) ∧ rs[i]? = some x ∧ x.m = k ∧ core x = core (f k) := by
  obtain ⟨r, hr, hm⟩ := h.mem.1 hk
  have hlt : idxR rs k < rs.length := List.findIdx_lt_length_of_exists ⟨r, hr, decide_eq_true hm⟩
  have h3 := @List.findIdx_getElem Rec (fun x => decide (x.m = k)) rs hlt
  have h4 : (rs[idxR rs k]'hlt).m = k := of_decide_eq_true h3
  refine ⟨idxR rs k, rs[idxR rs k]'hlt, ?_, List.getElem?_eq_getElem hlt, h4, ?_⟩
  · unfold placeR
    rw [if_pos hlt]
  · have := h.eq _ (List.getElem_mem hlt)
    rw [h4] at this
    exact this
theorem WJ.place (h : WJ f ks rs) (k : Int) : 0 ≤ placeR rs k ↔ k ∈ ks := by
  constructor
  · intro h0
    refine Classical.byContradiction fun hk => ?_
    rw [h.not hk] at h0
    omega
  · intro hk
    obtain ⟨i, x, h1, _⟩ := h.at_ hk
    omega
theorem WJ.goW (h : WJ f ks rs) (k fr to : Int) (l : List It) : Go.Proofs.YtjjghhhhalendaaGreat.goW rs k fr to l = goE ks k fr to l := by
  unfold Go.Proofs.YtjjghhhhalendaaGreat.goW goE
  rw [h.len]
  simp only [h.place]
theorem WJ.under (h : WJ f ks rs) (fr to : Int) : underW fr to rs [] = underO f fr to (sortI ks) [] := by
  have key : ∀ (l : List Rec) (acc : List It), (∀ r ∈ l, core r = core (f r.m)) → underW fr to l acc = underO f fr to (l.map Rec.m) acc := by
    intro l
    induction l with
    | nil => intro acc _; rfl
    | cons r l ih =>
      intro acc hl
      have e := hl r (by simp)
      unfold core at e
      simp only [Prod.mk.injEq] at e
      obtain ⟨_, e1, e2, e3, e4⟩ := e
      have e5 : onWay (f r.m) fr to = onWay r fr to := by unfold onWay; rw [e1, e2, e4]
      unfold underW
      rw [List.map_cons]
      unfold underO
      rw [e5, ← e3]
      cases onWay r fr to with
      | false => exact ih acc fun x hx => hl x (by simp [hx])
      | true =>
        dsimp only
        split
        · exact ih _ fun x hx => hl x (by simp [hx])
        · rfl
  rw [← h.ms]
  exact key rs [] h.eq
theorem atR_split (l : List Rec) (k : Int) : l.take (atR l k) = l.takeWhile (fun x => decide (x.m < k)) ∧ l.drop (atR l k) = l.dropWhile (fun x => decide (x.m < k)) := by
  have h := List.takeWhile_append_dropWhile (p := fun x : Rec => decide (x.m < k)) (l := l)
  have hl : (l.takeWhile fun x => decide (x.m < k)).length = atR l k := rfl
  have h1 : ((l.takeWhile fun x => decide (x.m < k)) ++ l.dropWhile fun x => decide (x.m < k)).take (l.takeWhile fun x => decide (x.m < k)).length = l.takeWhile fun x => decide (x.m < k) := by first | exact List.take_left | exact List.take_left _ _ | exact List.take_left' rfl
  have h2 : ((l.takeWhile fun x => decide (x.m < k)) ++ l.dropWhile fun x => decide (x.m < k)).drop (l.takeWhile fun x => decide (x.m < k)).length = l.dropWhile fun x => decide (x.m < k) := by first | exact List.drop_left | exact List.drop_left _ _ | exact List.drop_left' rfl
  rw [h] at h1 h2
  exact ⟨h1, h2⟩
theorem insW_perm (l : List Rec) (r : Rec) : (insW l r).Perm (r :: l) := by
  unfold insW
  refine (List.perm_middle).trans ?_
  rw [List.take_append_drop]
theorem insW_sorted {l : List Rec} {r : Rec} (h : (l.map Rec.m).Pairwise (fun a b => a ≤ b)) : ((insW l r).map Rec.m).Pairwise (fun a b => a ≤ b) := by
  rw [List.pairwise_map] at h ⊢
  obtain ⟨h1, h2⟩ := atR_split l r.m
  unfold insW
  have ht : ∀ x ∈ l.take (atR l r.m), x.m < r.m := fun x hx => by
    rw [h1] at hx
    have h9 := List.all_eq_true.1 (List.all_takeWhile (p := fun x : Rec => decide (x.m < r.m)) (l := l)) x hx
    exact of_decide_eq_true h9
  have hd : ∀ x ∈ l.drop (atR l r.m), r.m ≤ x.m := by
    have hs : (l.drop (atR l r.m)).Pairwise (fun a b => a.m ≤ b.m) := h.sublist (List.drop_sublist _ _)
    rw [h2] at hs ⊢
    cases hc : l.dropWhile (fun x => decide (x.m < r.m)) with
    | nil => intro x hx; cases hx
    | cons y t =>
      have hy : ¬ y.m < r.m := by
        have h9 := List.head?_dropWhile_not (fun x : Rec => decide (x.m < r.m)) l
        rw [hc] at h9
        simpa using h9
      rw [hc] at hs
      intro x hx
      rcases List.mem_cons.1 hx with rfl | hx
      · omega
      · have := (List.pairwise_cons.1 hs).1 x hx
        omega
  refine List.pairwise_append.2 ⟨h.sublist (List.take_sublist _ _), List.pairwise_cons.2 ⟨hd, h.sublist (List.drop_sublist _ _)⟩, fun a ha b hb => ?_⟩
  have h3 := ht a ha
  rcases List.mem_cons.1 hb with rfl | hb
  · omega
  · have := hd b hb
    omega
theorem WJ.gone (h : WJ f ks rs) {k fr to : Int} {x y : Ls} (hk : k ∉ ks) (hxy : y.l = x.l) : WJ (fun i => if i = k then ⟨k, fr, to, x, false⟩ else f i) (addK ks k) (insW rs ⟨k, fr, to, y, false⟩) := by
  refine ⟨addK_nodup h.nd k, ?_, fun r hr => ?_⟩
  · refine sortI_to (insW_sorted (by rw [h.ms]; exact sortI_le ks)) ?_
    refine ((insW_perm rs _).map Rec.m).trans ?_
    rw [List.map_cons, h.ms]
    unfold addK
    rw [if_neg hk]
    exact ((sortI_p ks).cons k).trans (List.perm_append_singleton k ks).symm
  · rcases List.mem_cons.1 ((insW_perm rs _).mem_iff.1 hr) with rfl | hr
    · show core _ = core (if k = k then _ else _)
      rw [if_pos rfl]
      unfold core
      rw [hxy]
    · have e : ¬ r.m = k := fun e => hk (h.mem.2 ⟨r, hr, e⟩)
      show core _ = core (if r.m = k then _ else _)
      rw [if_neg e]
      exact h.eq r hr
theorem WJ.came (h : WJ f ks rs) {k : Int} {i : Nat} {x : Rec} (hi : rs[i]? = some x) (hx : x.m = k) : WJ (fun j => if j = k then ⟨(f k).m, (f k).f, (f k).t, (f k).l, true⟩ else f j) ks (rs.set i ⟨x.m, x.f, x.t, x.l, true⟩) := by
  obtain ⟨hil, hie⟩ := List.getElem?_eq_some_iff.1 hi
  have hms : (rs.set i ⟨x.m, x.f, x.t, x.l, true⟩).map Rec.m = rs.map Rec.m := by
    rw [List.map_set]
    show (rs.map Rec.m).set i x.m = _
    have : (rs.map Rec.m)[i]'(by simpa using hil) = x.m := by rw [List.getElem_map, hie]
    rw [← this]
    exact List.set_getElem_self _
  refine ⟨h.nd, by rw [hms]; exact h.ms, fun r hr => ?_⟩
  have hxm := h.eq x (List.mem_of_getElem? hi)
  rw [hx] at hxm
  unfold core at hxm
  simp only [Prod.mk.injEq] at hxm
  obtain ⟨e0, e1, e2, e3, e4⟩ := hxm
  rcases List.mem_or_eq_of_mem_set hr with hr | rfl
  · by_cases e : r.m = k
    · -- the row of that number is the one that was changed
      obtain ⟨j, hj⟩ := List.mem_iff_getElem?.1 ‹r ∈ rs.set i ⟨x.m, x.f, x.t, x.l, true⟩›
      have hij : i = j := by
        have hnd : (rs.map Rec.m).Nodup := by rw [h.ms]; exact ((sortI_p ks).nodup_iff).2 h.nd
        have hjl : j < rs.length := by simpa using (List.getElem?_eq_some_iff.1 hj).1
        refine Classical.byContradiction fun hne => ?_
        rw [List.getElem?_set_ne hne] at hj
        have h1 : (rs.map Rec.m)[i]'(by simpa using hil) = (rs.map Rec.m)[j]'(by simpa using hjl) := by
          rw [List.getElem_map, List.getElem_map, hie, (List.getElem?_eq_some_iff.1 hj).2, hx, e]
        exact hne ((List.getElem_inj hnd).1 h1)
      subst hij
      rw [List.getElem?_set_self hil] at hj
      obtain rfl := Option.some.inj hj
      show core _ = core (if x.m = k then _ else _)
      rw [if_pos hx]
      unfold core
      show (x.m, x.f, x.t, x.l.l, true) = ((f k).m, (f k).f, (f k).t, (f k).l.l, true)
      rw [e0, e1, e2, e3]
    · show core _ = core (if r.m = k then _ else _)
      rw [if_neg e]
      exact h.eq r hr
  · show core _ = core (if x.m = k then _ else _)
    rw [if_pos hx]
    unfold core
    show (x.m, x.f, x.t, x.l.l, true) = ((f k).m, (f k).f, (f k).t, (f k).l.l, true)
    rw [e0, e1, e2, e3]
theorem WJ.forgot (h : WJ f ks rs) {k : Int} {i : Nat} {x : Rec} (hi : rs[i]? = some x) (hx : x.m = k) (hk : k ∈ ks) : WJ (fun j => if j = k then rec0 else f j) (ks.erase k) (rs.eraseIdx i) := by
  obtain ⟨hil, hie⟩ := List.getElem?_eq_some_iff.1 hi
  have hnd : (rs.map Rec.m).Nodup := by rw [h.ms]; exact ((sortI_p ks).nodup_iff).2 h.nd
  have hp : rs.Perm (x :: rs.eraseIdx i) := by
    rw [List.eraseIdx_eq_take_drop_succ]
    have h1 : rs = rs.take i ++ x :: rs.drop (i + 1) := by rw [← drop_at hi, List.take_append_drop]
    exact (List.Perm.of_eq h1).trans List.perm_middle
  have hpm := hp.map Rec.m
  rw [List.map_cons, hx, h.ms] at hpm
  have hpk : (k :: (rs.eraseIdx i).map Rec.m).Perm (k :: ks.erase k) := hpm.symm.trans ((sortI_p ks).trans (List.perm_cons_erase hk))
  refine ⟨h.nd.erase k, sortI_to ?_ ((List.perm_cons k).1 hpk), fun r hr => ?_⟩
  · have h1 := sortI_le ks
    rw [← h.ms] at h1
    exact h1.sublist ((List.eraseIdx_sublist rs i).map Rec.m)
  · have hrs := (List.eraseIdx_sublist rs i).mem hr
    have e : ¬ r.m = k := fun e => by
      have h2 := (hpm.nodup_iff).1 (by rw [← h.ms]; exact hnd)
      exact (List.nodup_cons.1 h2).1 (by rw [← e]; exact List.mem_map_of_mem hr)
    show core _ = core (if r.m = k then _ else _)
    rw [if_neg e]
    exact h.eq r hrs
end
set_option maxRecDepth 100000 in
set_option maxHeartbeats 3200000 in
theorem rsame_yes (m fr to : Int) (A A' : Option Addr) (n c c' : Nat) (came : Bool) (l : List It) (w : World) (h1 : IL w A n l) (h2 : IL w A' n l) (hn : n ≤ 1048576) :
    Calls Tryz.prog 44 #[.agg #[.int .i64 m, .int .i64 fr, .int .i64 to, .slice A n c, .bool came], .agg #[.int .i64 m, .int .i64 fr, .int .i64 to, .slice A' n c', .bool came]] w fun e w' => e = .returned (.bool true) ∧ Below w.heap.size w w' := by
  have hs := fun (W : World) (hb : Below w.heap.size w W) => same_b A A' n c n c' l l W (h1.below hb) (h2.below hb) (by omega)
  rw [show decide (l = l) = true from decide_eq_true rfl] at hs
  have hb := ((Below.refl w.heap.size w).alloc (Nat.le_refl _) (.cells #[.int .i64 m, .int .i64 fr, .int .i64 to, .slice A n c, .bool came] 59)).alloc (by simp) (.cells #[.int .i64 m, .int .i64 fr, .int .i64 to, .slice A' n c', .bool came] 59)
  have eA := (Blk.new w 59 #[.int .i64 m, .int .i64 fr, .int .i64 to, .slice A n c, .bool came]).alloc (.cells #[.int .i64 m, .int .i64 fr, .int .i64 to, .slice A' n c', .bool came] 59)
  have eZ := Blk.new (w.alloc (.cells #[.int .i64 m, .int .i64 fr, .int .i64 to, .slice A n c, .bool came] 59)) 59 #[.int .i64 m, .int .i64 fr, .int .i64 to, .slice A' n c', .bool came]
  rw [World.size_alloc] at eZ
  have hz : ((w.alloc (.cells #[.int .i64 m, .int .i64 fr, .int .i64 to, .slice A n c, .bool came] 59)).alloc (.cells #[.int .i64 m, .int .i64 fr, .int .i64 to, .slice A' n c', .bool came] 59)).heap.size = w.heap.size + 2 := by simp
  have d1 : (m == m) = true := beq_self_eq_true m
  have d2 : (fr == fr) = true := beq_self_eq_true fr
  have d3 : (to == to) = true := beq_self_eq_true to
  have d4 : (came == came) = true := beq_self_eq_true came
  go_enter Tryz.func44, Tryz.ntmps44
  go_wp2_with fail
  refine (hs _ hb).mono ?_
  rintro e w1 ⟨rfl, h3⟩
  rw [hz] at h3
  replace hb := hb.trans (h3.mono (by omega))
  have a1 := (eA.kept (Keep.of_below h3) (by omega)).cell 4
  have a2 := (eZ.kept (Keep.of_below h3) (by omega)).cell 4
  simp at a1 a2
  go_wp2
  go_ret
  exact ⟨rfl, hb⟩
end Go.Proofs.YtjjghhhhalendaaGreat
