/- Stocks that send goods to one another keep all: in numbers. No condition. -/
import Derived.Test.YtipmamgmcipbfaaGdI
import Derived.Test.YtipmamgmcipbfaaStlE
namespace Go.Proofs.Ytipmamgmcipbfaa
open Go.RowKit Go.Maps Go.Shelf Go.Sort
set_option linter.unusedVariables false
set_option linter.unusedSimpArgs false

/-- What holds of a stock: its rows, what is out of it, how many goods. -/
structure SKO (f : List UInt8 → Row) (ks : List (List UInt8)) : Prop where
  sk : SK f ks
  out : ∀ g, g ∉ ks → f g = row0
  len64 : ks.length ≤ 64
theorem SKO.start : SKO (fun _ => row0) [] := ⟨SK.start, fun _ _ => rfl, by simp⟩
theorem putsK_size (ks : List (List UInt8)) (k : Int) (f : List UInt8 → Row) (l : List It) (hn : (l.map (·.1)).Nodup) : (putsK ks (pairsR k f l)).length = ks.length + freshN ks l := by
  induction l using snoc_ind with
  | h0 => rfl
  | h1 l x ih =>
    obtain ⟨s, q⟩ := x
    rw [List.map_append, List.nodup_append] at hn
    have hs : s ∉ l.map (·.1) := fun h => hn.2.2 s h s (by simp) rfl
    have hp : pairsR k f (l ++ [(s, q)]) = pairsR k f l ++ [(s, doneR k q (f s))] := by simp [pairsR]
    rw [hp, putsK_snoc, freshN_snoc]
    have hi := ih hn.1
    unfold addS
    by_cases hk : s ∈ ks
    · rw [if_pos hk, if_pos ((putsK_mem _ _ _).2 (.inl hk)), hi]
      omega
    · rw [if_neg hk, if_neg (fun e => ((putsK_mem _ _ _).1 e).elim hk (fun e => hs (by rw [pairs_map] at e; exact e))), List.length_append, hi]
      simp
      omega
theorem SKO.do_ {f : List UInt8 → Row} {ks : List (List UInt8)} (h : SKO f ks) (k : Int) (l : List It) : SKO (doF f ks k l) (doK f ks k l) := by
  refine ⟨h.sk.do_ k l, fun g hg => ?_, ?_⟩
  · by_cases h0 : doE f ks k l = 0
    · unfold doK at hg
      rw [if_pos h0, putsK_mem, pairs_map] at hg
      rw [doF_no (fun e => hg (.inr e))]
      exact h.out g (fun e => hg (.inl e))
    · unfold doK at hg
      rw [if_neg h0] at hg
      unfold doF
      rw [if_neg h0]
      exact h.out g hg
  · by_cases h0 : doE f ks k l = 0
    · obtain ⟨_, hm, _, _, _, hk⟩ := doE_zero h0
      unfold doK
      rw [if_pos h0, putsK_size _ _ _ _ (MY.of_ hm).nodup]
      exact hk
    · unfold doK
      rw [if_neg h0]
      exact h.len64
theorem SKO.cnt {f : List UInt8 → Row} {ks : List (List UInt8)} (h : SKO f ks) (s : List UInt8) (n : Int) : SKO (cntF f ks s n) ks := by
  refine ⟨h.sk.cnt s n, fun g hg => ?_, h.len64⟩
  by_cases h0 : cntE f ks s n = 0
  · have hs := cntE_in h0
    unfold cntF
    rw [if_pos h0]
    show (if g = s then _ else f g) = row0
    rw [if_neg (fun e => hg (by rw [e]; exact hs))]
    exact h.out g hg
  · unfold cntF
    rw [if_neg h0]
    exact h.out g hg
theorem hold_over {r : Row} {q : Int} (h : overR r = false) (h1 : 1 ≤ q) (h2 : q ≤ r.fr) : overR (doneR 2 q r) = false := by
  obtain ⟨⟨a, b, c, d⟩, s, fl⟩ := over_no h
  rw [done2, w64 (by omega), w64 (by omega)]
  exact over_mk (by dsimp only; omega) (by dsimp only; omega) (by dsimp only; omega) (by dsimp only; omega) (by dsimp only; omega) fl

/-- A row's balance. -/
def BalR (r : Row) : Prop := r.fr + r.he + r.pi + r.sa = r.re + r.rt + r.cn + r.cm - r.sh - r.sc - r.se
theorem bal_done {k q : Int} {r : Row} (h : BalR r) (ho : overR r = false) (hq : 1 ≤ q ∧ q ≤ 1099511627776) (ho2 : overR (doneR k q r) = false) : BalR (doneR k q r) := by
  obtain ⟨⟨a, b, c, d⟩, _, e⟩ := over_no ho
  obtain ⟨e1, e2, e3, e4, e5, e6⟩ := flowB_yes e
  by_cases hk : 1 ≤ k ∧ k ≤ 11
  · obtain ⟨x0, x1, x2, x3, x4, x5, x6, x7, x8, x9, x10⟩ := r
    unfold BalR at h ⊢
    dsimp only at *
    rcases doKinds hk with rfl | rfl | rfl | rfl | rfl | rfl | rfl | rfl | rfl | rfl | rfl
    · rw [show doneR 1 q (⟨x0, x1, x2, x3, x4, x5, x6, x7, x8, x9, x10⟩ : Row) = (⟨wrap64 (x0 + q), x1, x2, x3, wrap64 (x4 + q), x5, x6, x7, x8, x9, x10⟩ : Row) from rfl] at ho2 ⊢
      dsimp only
      unfold wrap64
      omega
    · rw [show doneR 2 q (⟨x0, x1, x2, x3, x4, x5, x6, x7, x8, x9, x10⟩ : Row) = (⟨wrap64 (x0 - q), wrap64 (x1 + q), x2, x3, x4, x5, x6, x7, x8, x9, x10⟩ : Row) from rfl] at ho2 ⊢
      dsimp only
      unfold wrap64
      omega
    · rw [show doneR 3 q (⟨x0, x1, x2, x3, x4, x5, x6, x7, x8, x9, x10⟩ : Row) = (⟨wrap64 (x0 + q), wrap64 (x1 - q), x2, x3, x4, x5, x6, x7, x8, x9, x10⟩ : Row) from rfl] at ho2 ⊢
      dsimp only
      unfold wrap64
      omega
    · rw [show doneR 4 q (⟨x0, x1, x2, x3, x4, x5, x6, x7, x8, x9, x10⟩ : Row) = (⟨x0, wrap64 (x1 - q), wrap64 (x2 + q), x3, x4, x5, x6, x7, x8, x9, x10⟩ : Row) from rfl] at ho2 ⊢
      dsimp only
      unfold wrap64
      omega
    · rw [show doneR 5 q (⟨x0, x1, x2, x3, x4, x5, x6, x7, x8, x9, x10⟩ : Row) = (⟨x0, wrap64 (x1 + q), wrap64 (x2 - q), x3, x4, x5, x6, x7, x8, x9, x10⟩ : Row) from rfl] at ho2 ⊢
      dsimp only
      unfold wrap64
      omega
    · rw [show doneR 6 q (⟨x0, x1, x2, x3, x4, x5, x6, x7, x8, x9, x10⟩ : Row) = (⟨x0, x1, wrap64 (x2 - q), x3, x4, x5, x6, x7, wrap64 (x8 + q), x9, x10⟩ : Row) from rfl] at ho2 ⊢
      dsimp only
      unfold wrap64
      omega
    · rw [show doneR 7 q (⟨x0, x1, x2, x3, x4, x5, x6, x7, x8, x9, x10⟩ : Row) = (⟨x0, x1, x2, wrap64 (x3 + q), x4, wrap64 (x5 + q), x6, x7, x8, x9, x10⟩ : Row) from rfl] at ho2 ⊢
      dsimp only
      unfold wrap64
      omega
    · rw [show doneR 8 q (⟨x0, x1, x2, x3, x4, x5, x6, x7, x8, x9, x10⟩ : Row) = (⟨wrap64 (x0 + q), x1, x2, wrap64 (x3 - q), x4, x5, x6, x7, x8, x9, x10⟩ : Row) from rfl] at ho2 ⊢
      dsimp only
      unfold wrap64
      omega
    · rw [show doneR 9 q (⟨x0, x1, x2, x3, x4, x5, x6, x7, x8, x9, x10⟩ : Row) = (⟨x0, x1, x2, wrap64 (x3 - q), x4, x5, x6, x7, x8, wrap64 (x9 + q), x10⟩ : Row) from rfl] at ho2 ⊢
      dsimp only
      unfold wrap64
      omega
    · rw [show doneR 10 q (⟨x0, x1, x2, x3, x4, x5, x6, x7, x8, x9, x10⟩ : Row) = (⟨wrap64 (x0 - q), x1, x2, x3, x4, x5, x6, x7, x8, x9, wrap64 (x10 + q)⟩ : Row) from rfl] at ho2 ⊢
      dsimp only
      unfold wrap64
      omega
    · rw [show doneR 11 q (⟨x0, x1, x2, x3, x4, x5, x6, x7, x8, x9, x10⟩ : Row) = (⟨wrap64 (x0 + q), x1, x2, x3, x4, x5, x6, wrap64 (x7 + q), x8, x9, x10⟩ : Row) from rfl] at ho2 ⊢
      dsimp only
      unfold wrap64
      omega
  · have e : doneR k q r = r := by
      unfold doneR doneA
      repeat rw [if_neg (by omega)]
      rfl
    rw [e]
    exact h
theorem done_way {k q : Int} {r : Row} (h10 : k ≠ 10) (h11 : k ≠ 11) : (doneR k q r).se = r.se ∧ (doneR k q r).cm = r.cm := by
  by_cases hk : 1 ≤ k ∧ k ≤ 11
  · rcases doKinds hk with rfl | rfl | rfl | rfl | rfl | rfl | rfl | rfl | rfl | rfl | rfl
    all_goals first | exact ⟨rfl, rfl⟩ | omega
  · have e : doneR k q r = r := by
      unfold doneR doneA
      repeat rw [if_neg (by omega)]
      rfl
    rw [e]
    exact ⟨rfl, rfl⟩
theorem done_send (q : Int) (r : Row) : (doneR 10 q r).se = wrap64 (r.se + q) ∧ (doneR 10 q r).cm = r.cm := ⟨rfl, rfl⟩
theorem done_come (q : Int) (r : Row) : (doneR 11 q r).se = r.se ∧ (doneR 11 q r).cm = wrap64 (r.cm + q) := ⟨rfl, rfl⟩
theorem bal_cnt {n : Int} {r : Row} (h : BalR r) (ho : overR r = false) (hn : cMay n = true) : BalR (cntR r n) := by
  obtain ⟨⟨a, b, c, d⟩, _, e⟩ := over_no ho
  obtain ⟨e1, e2, e3, e4, e5, e6⟩ := flowB_yes e
  have h1 := cMay_yes hn
  unfold BalR at h ⊢
  unfold cntR moreR
  dsimp only
  unfold wrap64
  omega
/-- What holds of a stock: its rows are balanced besides. -/
structure SB (f : List UInt8 → Row) (ks : List (List UInt8)) : Prop where
  sko : SKO f ks
  bal : ∀ g, BalR (f g)
theorem SB.start : SB (fun _ => row0) [] := ⟨SKO.start, fun g => rfl⟩
theorem SB.do_ {f : List UInt8 → Row} {ks : List (List UInt8)} (h : SB f ks) (k : Int) (l : List It) : SB (doF f ks k l) (doK f ks k l) := by
  refine ⟨h.sko.do_ k l, fun g => ?_⟩
  by_cases h0 : doE f ks k l = 0
  · have hm := (doE_zero h0).2.1
    have hmy := MY.of_ hm
    by_cases hg : g ∈ l.map (·.1)
    · obtain ⟨⟨s, q⟩, hx, rfl⟩ := List.mem_map.1 hg
      have h2 := (h.sko.do_ k l).sk.over s
      rw [doF_in h0 hx] at h2 ⊢
      exact bal_done (h.bal s) (h.sko.sk.over s) (hmy.num _ hx) h2
    · rw [doF_no hg]
      exact h.bal g
  · unfold doF
    rw [if_neg h0]
    exact h.bal g
theorem SB.cnt {f : List UInt8 → Row} {ks : List (List UInt8)} (h : SB f ks) (s : List UInt8) (n : Int) : SB (cntF f ks s n) ks := by
  refine ⟨h.sko.cnt s n, fun g => ?_⟩
  unfold cntF
  by_cases h0 : cntE f ks s n = 0
  · rw [if_pos h0]
    by_cases e : g = s
    · subst e
      rw [if_pos rfl]
      exact bal_cnt (h.bal g) (h.sko.sk.over g) (cntE_zero h0).1
    · rw [if_neg e]
      exact h.bal g
  · rw [if_neg h0]
    exact h.bal g
/-- What is sent, what came, of a good: behind each call. -/
theorem way_same {f : List UInt8 → Row} {ks : List (List UInt8)} {k : Int} {l : List It} (h10 : k ≠ 10) (h11 : k ≠ 11) (g : List UInt8) : (doF f ks k l g).se = (f g).se ∧ (doF f ks k l g).cm = (f g).cm := by
  by_cases h0 : doE f ks k l = 0
  · by_cases hg : g ∈ l.map (·.1)
    · obtain ⟨⟨s, q⟩, hx, rfl⟩ := List.mem_map.1 hg
      rw [doF_in h0 hx]
      exact done_way h10 h11
    · rw [doF_no hg]
      exact ⟨rfl, rfl⟩
  · unfold doF
    rw [if_neg h0]
    exact ⟨rfl, rfl⟩
theorem way_cnt {f : List UInt8 → Row} {ks : List (List UInt8)} {s : List UInt8} {n : Int} (g : List UInt8) : (cntF f ks s n g).se = (f g).se ∧ (cntF f ks s n g).cm = (f g).cm := by
  unfold cntF
  split
  · dsimp only
    split
    · rename_i e
      subst e
      exact ⟨rfl, rfl⟩
    · exact ⟨rfl, rfl⟩
  · exact ⟨rfl, rfl⟩
/-- What is sent of a good, by a list. -/
def numL (l : List It) (g : List UInt8) : Int := (l.map fun x => if x.1 = g then x.2 else 0).sum
theorem numL_no {g : List UInt8} : ∀ {l : List It}, g ∉ l.map (·.1) → numL l g = 0
  | [], _ => rfl
  | x :: l, h => by
    simp only [List.map_cons, List.mem_cons, not_or] at h
    unfold numL
    rw [List.map_cons, List.sum_cons, if_neg (fun e => h.1 e.symm)]
    have := numL_no (l := l) h.2
    unfold numL at this
    omega
theorem numL_in {g : List UInt8} {q : Int} : ∀ {l : List It}, (l.map (·.1)).Nodup → (g, q) ∈ l → numL l g = q
  | [], _, h => by cases h
  | x :: l, hn, h => by
    rw [List.map_cons, List.nodup_cons] at hn
    unfold numL
    rw [List.map_cons, List.sum_cons]
    rcases List.mem_cons.1 h with rfl | h
    · rw [if_pos rfl]
      have := numL_no (g := g) (l := l) hn.1
      unfold numL at this
      dsimp only at this ⊢
      omega
    · have hne : ¬ x.1 = g := fun e => hn.1 (e ▸ List.mem_map.2 ⟨_, h, rfl⟩)
      rw [if_neg hne]
      have := numL_in (l := l) hn.2 h
      unfold numL at this
      omega
theorem way_send {f : List UInt8 → Row} {ks : List (List UInt8)} {l : List It} (h : SB f ks) (h0 : doE f ks 10 l = 0) (g : List UInt8) : (doF f ks 10 l g).se = (f g).se + numL l g ∧ (doF f ks 10 l g).cm = (f g).cm := by
  have hmy := MY.of_ (doE_zero h0).2.1
  by_cases hg : g ∈ l.map (·.1)
  · obtain ⟨⟨s, q⟩, hx, rfl⟩ := List.mem_map.1 hg
    have e := over_no (h.sko.sk.over s)
    obtain ⟨e1, e2, e3, e4, e5, e6⟩ := flowB_yes e.2.2
    have hq := hmy.num _ hx
    dsimp only at hq e6 ⊢
    rw [doF_in h0 hx, numL_in hmy.nodup hx, (done_send q (f s)).1, (done_send q (f s)).2]
    exact ⟨w64 (by omega), rfl⟩
  · rw [doF_no hg, numL_no hg]
    exact ⟨by omega, rfl⟩
theorem way_come {f : List UInt8 → Row} {ks : List (List UInt8)} {l : List It} (h : SB f ks) (hm : mayL l = true) (g : List UInt8) : (doF f ks 11 l g).se = (f g).se ∧ (doF f ks 11 l g).cm ≤ (f g).cm + numL l g := by
  have hmy := MY.of_ hm
  by_cases hg : g ∈ l.map (·.1)
  · obtain ⟨⟨s, q⟩, hx, rfl⟩ := List.mem_map.1 hg
    have e := over_no (h.sko.sk.over s)
    obtain ⟨e1, e2, e3, e4, e5, e6⟩ := flowB_yes e.2.2
    have hq := hmy.num _ hx
    dsimp only at hq e3 ⊢
    rw [numL_in hmy.nodup hx]
    by_cases h0 : doE f ks 11 l = 0
    · rw [doF_in h0 hx, (done_come q (f s)).1, (done_come q (f s)).2, w64 (by omega)]
      exact ⟨rfl, Int.le_refl _⟩
    · unfold doF
      rw [if_neg h0]
      exact ⟨rfl, by omega⟩
  · rw [doF_no hg, numL_no hg]
    exact ⟨rfl, by omega⟩
/-! Sums over stocks. -/
theorem sum_mod (π : Row → Int) (h0 : π row0 = 0) (ha : ∀ a b, π (addR a b) = wrap64 (π a + π b)) (rs : List Row) : ∃ c : Int, π (sumR rs) = (rs.map π).sum + 18446744073709551616 * c := by
  induction rs using snoc_ind with
  | h0 => exact ⟨0, by rw [show sumR [] = row0 from rfl, h0]; rfl⟩
  | h1 rs r ih =>
    obtain ⟨c, hc⟩ := ih
    rw [sumR_snoc, ha, hc, List.map_append, List.sum_append, List.map_cons, List.map_nil, List.sum_cons, List.sum_nil]
    generalize (rs.map π).sum = S
    generalize π r = x
    refine ⟨c - (S + 18446744073709551616 * c + x + 9223372036854775808) / 18446744073709551616, ?_⟩
    unfold wrap64
    omega
theorem sum_le (π : Row → Int) : ∀ rs : List Row, (∀ r ∈ rs, 0 ≤ π r ∧ π r ≤ 72057594037927936) → 0 ≤ (rs.map π).sum ∧ (rs.map π).sum ≤ 72057594037927936 * rs.length
  | [], _ => by simp
  | r :: rs, h => by
    have h1 := h r (by simp)
    have h2 := sum_le π rs fun x hx => h x (by simp [hx])
    rw [List.map_cons, List.sum_cons, List.length_cons]
    omega
theorem sum_bal : ∀ rs : List Row, (∀ r ∈ rs, BalR r) → (rs.map (·.fr)).sum + (rs.map (·.he)).sum + (rs.map (·.pi)).sum + (rs.map (·.sa)).sum = (rs.map (·.re)).sum + (rs.map (·.rt)).sum + (rs.map (·.cn)).sum + (rs.map (·.cm)).sum - (rs.map (·.sh)).sum - (rs.map (·.sc)).sum - (rs.map (·.se)).sum
  | [], _ => rfl
  | r :: rs, h => by
    have h1 := h r (by simp)
    have h2 := sum_bal rs fun x hx => h x (by simp [hx])
    unfold BalR at h1
    simp only [List.map_cons, List.sum_cons]
    omega
theorem who_sum (π : Row → Int) (g : List UInt8) : ∀ l : List Sk, (∀ x ∈ l, g ∉ x.ks → π (x.f g) = 0) → (((whoL l g).map fun x => x.f g).map π).sum = (l.map fun x => π (x.f g)).sum
  | [], _ => rfl
  | x :: l, h => by
    have h2 := who_sum π g l fun y hy => h y (by simp [hy])
    unfold whoL at h2 ⊢
    by_cases e : g ∈ x.ks
    · rw [List.filter_cons_of_pos (by simpa using e)]
      simp only [List.map_cons, List.sum_cons]
      rw [h2]
    · rw [List.filter_cons_of_neg (by simpa using e)]
      simp only [List.map_cons, List.sum_cons]
      rw [h2, h x (by simp) e]
      omega
/-- The sums of what was sent, what came. -/
def seS (l : List Sk) (g : List UInt8) : Int := (l.map fun x => (x.f g).se).sum
def cmS (l : List Sk) (g : List UInt8) : Int := (l.map fun x => (x.f g).cm).sum
theorem allK_sys (l : List Sk) (h : ∀ x ∈ l, SB x.f x.ks) (hn : l.length ≤ 5) (hw : ∀ g, cmS l g ≤ seS l g) : allK l = true := by
  unfold allK
  rw [Bool.not_eq_true', List.any_eq_false]
  intro t ht
  obtain ⟨g, -, rfl⟩ := List.mem_map.1 ht
  obtain ⟨rs, hrs⟩ : ∃ rs, (whoL l g).map (fun x => x.f g) = rs := ⟨_, rfl⟩
  have hsb : ∀ r ∈ rs, BalR r ∧ overR r = false := fun r hr => by
    rw [← hrs] at hr
    obtain ⟨x, hx, rfl⟩ := List.mem_map.1 hr
    have hx' := (List.mem_filter.1 hx).1
    exact ⟨(h x hx').bal g, (h x hx').sko.sk.over g⟩
  have hlen : rs.length ≤ 5 := by
    rw [← hrs, List.length_map]
    exact Nat.le_trans (List.length_filter_le _ _) hn
  have hse := who_sum (·.se) g l fun x hx hg => by rw [(h x hx).sko.out g hg]; rfl
  have hcm := who_sum (·.cm) g l fun x hx hg => by rw [(h x hx).sko.out g hg]; rfl
  have hwg := hw g
  unfold seS cmS at hwg
  rw [hrs] at hse hcm
  have hbal := sum_bal rs fun r hr => (hsb r hr).1
  have lse := sum_le (·.se) rs fun r hr => (flowB_yes (over_no (hsb r hr).2).2.2).2.2.2.2.2
  have lcm := sum_le (·.cm) rs fun r hr => (flowB_yes (over_no (hsb r hr).2).2.2).2.2.1
  obtain ⟨cfr, hfr⟩ := sum_mod (·.fr) rfl (fun _ _ => rfl) rs
  obtain ⟨che, hhe⟩ := sum_mod (·.he) rfl (fun _ _ => rfl) rs
  obtain ⟨cpi, hpi⟩ := sum_mod (·.pi) rfl (fun _ _ => rfl) rs
  obtain ⟨csa, hsa⟩ := sum_mod (·.sa) rfl (fun _ _ => rfl) rs
  obtain ⟨cre, hre⟩ := sum_mod (·.re) rfl (fun _ _ => rfl) rs
  obtain ⟨crt, hrt⟩ := sum_mod (·.rt) rfl (fun _ _ => rfl) rs
  obtain ⟨ccn, hcn⟩ := sum_mod (·.cn) rfl (fun _ _ => rfl) rs
  obtain ⟨ccm, hcm⟩ := sum_mod (·.cm) rfl (fun _ _ => rfl) rs
  obtain ⟨csh, hsh⟩ := sum_mod (·.sh) rfl (fun _ _ => rfl) rs
  obtain ⟨csc, hsc⟩ := sum_mod (·.sc) rfl (fun _ _ => rfl) rs
  obtain ⟨cse, hse⟩ := sum_mod (·.se) rfl (fun _ _ => rfl) rs
  unfold unkept totOf keptB
  rw [hrs]
  dsimp only at *
  clear hrs hsb hw h ht
  generalize (sumR rs).fr = Sfr at *
  generalize (sumR rs).he = She at *
  generalize (sumR rs).pi = Spi at *
  generalize (sumR rs).sa = Ssa at *
  generalize (sumR rs).re = Sre at *
  generalize (sumR rs).rt = Srt at *
  generalize (sumR rs).cn = Scn at *
  generalize (sumR rs).cm = Scm at *
  generalize (sumR rs).sh = Ssh at *
  generalize (sumR rs).sc = Ssc at *
  generalize (sumR rs).se = Sse at *
  generalize (rs.map (·.fr)).sum = Tfr at *
  generalize (rs.map (·.he)).sum = The at *
  generalize (rs.map (·.pi)).sum = Tpi at *
  generalize (rs.map (·.sa)).sum = Tsa at *
  generalize (rs.map (·.re)).sum = Tre at *
  generalize (rs.map (·.rt)).sum = Trt at *
  generalize (rs.map (·.cn)).sum = Tcn at *
  generalize (rs.map (·.cm)).sum = Tcm at *
  generalize (rs.map (·.sh)).sum = Tsh at *
  generalize (rs.map (·.sc)).sum = Tsc at *
  generalize (rs.map (·.se)).sum = Tse at *
  simp only [Bool.not_eq_true, Bool.not_eq_false', Bool.and_eq_true, decide_eq_true_eq]
  unfold wrap64
  omega
theorem sum_set (φ : Sk → Int) : ∀ (l : List Sk) (i : Nat) (x y : Sk), l[i]? = some x → ((l.set i y).map φ).sum = (l.map φ).sum + φ y - φ x
  | [], i, x, y, h => by simp at h
  | z :: l, 0, x, y, h => by
    simp at h
    subst h
    simp only [List.set_cons_zero, List.map_cons, List.sum_cons]
    omega
  | z :: l, i + 1, x, y, h => by
    have := sum_set φ l i x y (by simpa using h)
    simp only [List.set_cons_succ, List.map_cons, List.sum_cons]
    omega
end Go.Proofs.Ytipmamgmcipbfaa
