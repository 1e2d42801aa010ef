/- Lists of goods: what the document says of them, as functions; how they lie in memory; appends. No condition. -/
import Derived.Test.YtfpcnenohidfpaaGreatBase
import Derived.Test.YtfpcnenohidfpaaGreatSeq
import Derived.Sort.KeysCollected
import Derived.Maps.Views
import Derived.Maps.OwnSet
import Derived.Maps.OwnIn
import Derived.RangeFuncBox
import Derived.Lib.OthersKept
namespace Go.Proofs.YtfpcnenohidfpaaGreat
open Go.RowKit Go.Maps Go.Shelf
set_option linter.unusedVariables false
set_option linter.unusedSimpArgs false

abbrev It := List UInt8 × Int
/-- A letter of a good. -/
def letOK (b : UInt8) : Bool := (decide (97 ≤ b.toNat) && decide (b.toNat ≤ 122)) || (decide (48 ≤ b.toNat) && decide (b.toNat ≤ 57)) || decide (b.toNat = 45)
def gOK (s : List UInt8) : Bool := decide (1 ≤ s.length) && decide (s.length ≤ 16) && s.all letOK
def cMay (n : Int) : Bool := decide (0 ≤ n) && decide (n ≤ 1099511627776)
def okAt (last : List UInt8) (x : It) : Bool := gOK x.1 && !decide (x.1 ≤ last) && !decide (x.2 = 0) && cMay x.2
def mayFrom : List UInt8 → List It → Bool
  | _, [] => true
  | last, x :: l => okAt last x && mayFrom x.1 l
def mayL (l : List It) : Bool := decide (l.length ≤ 16) && mayFrom [] l
def lastOf (l : List It) : List UInt8 := (l.getLast?.map (·.1)).getD []
theorem mayFrom_snoc (x : It) : ∀ (l : List It) (last : List UInt8), mayFrom last (l ++ [x]) = (mayFrom last l && okAt ((l.getLast?.map (·.1)).getD last) x)
  | [], last => by simp [mayFrom]
  | y :: l, last => by
    rw [List.cons_append, mayFrom, mayFrom_snoc x l, mayFrom, Bool.and_assoc]
    congr 3
    cases l <;> simp [List.getLast?_cons]
theorem lastOf_snoc (l : List It) (x : It) : lastOf (l ++ [x]) = x.1 := by simp [lastOf]
/-- The sum of a good's numbers, as ints go round. -/
def ofL (l : List It) (g : List UInt8) : Int := l.foldl (fun s x => if x.1 = g then wrap64 (s + x.2) else s) 0
theorem ofL_snoc (l : List It) (x : It) (g : List UInt8) : ofL (l ++ [x]) g = if x.1 = g then wrap64 (ofL l g + x.2) else ofL l g := by simp [ofL]
def totalL (l : List It) : Int := l.foldl (fun s x => wrap64 (s + x.2)) 0
theorem totalL_snoc (l : List It) (x : It) : totalL (l ++ [x]) = wrap64 (totalL l + x.2) := by simp [totalL]
/-- The sum of a good's numbers. -/
def tot (l : List It) (g : List UInt8) : Int := l.foldl (fun s x => if x.1 = g then s + x.2 else s) 0
theorem tot_snoc (l : List It) (x : It) (g : List UInt8) : tot (l ++ [x]) g = if x.1 = g then tot l g + x.2 else tot l g := by simp [tot]
/-- What a map of sums has of each key, but for those of 0. -/
def listedL (ks : List (List UInt8)) (f : List UInt8 → Int) : List It := ks.filterMap fun g => if f g = 0 then none else some (g, f g)
theorem listedL_snoc (ks : List (List UInt8)) (g : List UInt8) (f : List UInt8 → Int) : listedL (ks ++ [g]) f = if f g = 0 then listedL ks f else listedL ks f ++ [(g, f g)] := by
  unfold listedL
  rw [List.filterMap_append]
  by_cases h : f g = 0 <;> simp [h]
/-- A map of sums: each good's number; which are there. -/
structure SM {H : Type} (D : DataW H) (f : List UInt8 → Int) (ks : List (List UInt8)) : Prop where
  isMap : IsMap D
  val : ∀ g, D.atKey (.string g) (.lit (.int .i64 0)) = .lit (.int .i64 (f g))
  has_ : ∀ g, has D (.string g) = decide (g ∈ ks)
theorem str_lit (g : List UInt8) : WideAt.IsKeyLit (Lit.string g) := by simp [WideAt.IsKeyLit]
theorem SM.start {H : Type} : SM (.map [] : DataW H) (fun _ => 0) [] := ⟨isMap_empty, fun g => rfl, fun g => rfl⟩
theorem SM.put {H : Type} {D : DataW H} {f : List UInt8 → Int} {ks : List (List UInt8)} (h : SM D f ks) (g : List UInt8) (n : Int) :
    SM (D.put (.string g) (.lit (.int .i64 n))) (fun k => if k = g then n else f k) (ks ++ [g]) := by
  have hne : ∀ k, k ≠ g → Lit.string k ≠ Lit.string g := fun k hk e => hk (by injection e)
  refine ⟨h.isMap.put _ _, fun k => ?_, fun k => ?_⟩
  · by_cases e : k = g
    · subst e
      rw [if_pos rfl]
      exact atKey_put_same h.isMap (str_lit _) _ _
    · rw [if_neg e, atKey_put_other (hne k e)]
      exact h.val k
  · by_cases e : k = g
    · subst e
      rw [has_put_same h.isMap (str_lit _)]
      simp
    · rw [has_put_other (hne k e), h.has_ k]
      simp [e]

/-- The slice value with address A and n elements reads as the items l. -/
structure IL (w : World) (A : Option Addr) (n : Nat) (l : List It) : Prop where
  len : l.length = n
  at_ : ∀ (j : Nat) (x : It), l[j]? = some x → ∃ b off, A = some ⟨b, off, none⟩ ∧ w.cell? ⟨b, off + j * 2, none⟩ = some (.string ⟨x.1.toArray⟩) ∧ w.cell? ⟨b, off + j * 2 + 1, none⟩ = some (.int .i64 x.2)
section
variable {w w' : World} {A : Option Addr} {n : Nat} {l : List It}
theorem IL.nil (w : World) (A : Option Addr) : IL w A 0 [] := ⟨rfl, fun j x h => by simp at h⟩
theorem IL.kept {S : Nat → Prop} (h : IL w A n l) (k : Keep S w w') (hs : ∀ ad, A = some ad → 0 < n → ¬ S ad.block) : IL w' A n l :=
  ⟨h.len, fun j x hx => by
    obtain ⟨b, off, e, h1, h2⟩ := h.at_ j x hx
    have hj := (List.getElem?_eq_some_iff.1 hx).1
    rw [h.len] at hj
    have hb := hs ⟨b, off, none⟩ e (by omega)
    exact ⟨b, off, e, k.cell h1 hb, k.cell h2 hb⟩⟩
theorem IL.below (h : IL w A n l) (k : Below w.heap.size w w') : IL w' A n l :=
  ⟨h.len, fun j x hx => by
    obtain ⟨b, off, e, h1, h2⟩ := h.at_ j x hx
    exact ⟨b, off, e, (k.cell (p := ⟨b, off + j * 2, none⟩) (World.block_lt_of_cell? _ _ h1)).trans h1, (k.cell (p := ⟨b, off + j * 2 + 1, none⟩) (World.block_lt_of_cell? _ _ h2)).trans h2⟩⟩
theorem IL.alloc (h : IL w A n l) (o : Obj) : IL (w.alloc o) A n l := h.below ((Below.refl _ w).alloc (Nat.le_refl _) o)
theorem IL.drew (h : IL w A n l) : IL w.drew A n l := ⟨h.len, h.at_⟩
theorem IL.drewN (h : IL w A n l) (k : Nat) : IL (w.drewN k) A n l := ⟨h.len, h.at_⟩
theorem IL.kx {n₀ : Nat} {S : Nat → Prop} (h : IL w A n l) (k : KX n₀ S w w') (hs : ∀ ad, A = some ad → 0 < n → ad.block < n₀ ∧ ¬ S ad.block) : IL w' A n l :=
  ⟨h.len, fun j x hx => by
    obtain ⟨b, off, e, h1, h2⟩ := h.at_ j x hx
    have hj := (List.getElem?_eq_some_iff.1 hx).1
    rw [h.len] at hj
    have hb := hs ⟨b, off, none⟩ e (by omega)
    exact ⟨b, off, e, k.cell (p := ⟨b, off + j * 2, none⟩) hb.1 hb.2 h1, k.cell (p := ⟨b, off + j * 2 + 1, none⟩) hb.1 hb.2 h2⟩⟩
theorem IL.lt (h : IL w A n l) (ad : Addr) (ha : A = some ad) (hn : 0 < n) : ad.block < w.heap.size := by
  have hl : 0 < l.length := by rw [h.len]; exact hn
  obtain ⟨b, off, e, h1, _⟩ := h.at_ 0 _ (List.getElem?_eq_getElem hl)
  rw [ha] at e
  cases e
  exact World.block_lt_of_cell? _ _ h1
theorem IL.place (h : IL w A n l) {k : Nat} (hk : k < n) : ∃ b off x, A = some ⟨b, off, none⟩ ∧ l[k]? = some x ∧ w.cell? ⟨b, off + k * 2, none⟩ = some (.string ⟨x.1.toArray⟩) ∧ w.cell? ⟨b, off + k * 2 + 1, none⟩ = some (.int .i64 x.2) := by
  have hl : k < l.length := by rw [h.len]; exact hk
  obtain ⟨b, off, e, h1, h2⟩ := h.at_ k _ (List.getElem?_eq_getElem hl)
  exact ⟨b, off, _, e, List.getElem?_eq_getElem hl, h1, h2⟩
end

/-- An item's two cells. -/
def itc (x : It) : List Value := [.string ⟨x.1.toArray⟩, .int .i64 x.2]
theorem item_info : (Tryz.prog.info? 66).map (fun i => (i.zero, i.size, i.bytes)) = some (some (.agg #[.string ⟨#[]⟩, .int .i64 0]), 2, 24) := by kernel_rfl
/-- The value v owns the items l. -/
def OI (base : Nat) (w : World) (v : Value) (l : List It) : Prop := w.ownsRow base 66 2 v l.length (l.flatMap itc)
theorem itc_len (l : List It) : (l.flatMap itc).length = l.length * 2 := by
  induction l with
  | nil => rfl
  | cons x l ih => rw [List.flatMap_cons, List.length_append, ih, List.length_cons]; simp [itc]; omega
theorem itc_get : ∀ (l : List It) (j : Nat) (x : It), l[j]? = some x → (l.flatMap itc)[j * 2]? = some (.string ⟨x.1.toArray⟩) ∧ (l.flatMap itc)[j * 2 + 1]? = some (.int .i64 x.2)
  | [], j, x, h => by simp at h
  | y :: l, 0, x, h => by
    simp at h
    subst h
    simp [itc]
  | y :: l, j + 1, x, h => by
    have := itc_get l j x (by simpa using h)
    rw [List.flatMap_cons, show (j + 1) * 2 = (itc y).length + j * 2 by simp [itc]; omega, show (itc y).length + j * 2 + 1 = (itc y).length + (j * 2 + 1) by omega, List.getElem?_append_right (by omega), List.getElem?_append_right (by omega)]
    simpa using this
section
variable {base : Nat} {w w' : World} {v : Value} {l : List It}
theorem OI.nil (base : Nat) (w : World) : OI base w (.slice none 0 0) [] := World.ownsRow_nil _ _ _ _
theorem OI.form (h : OI base w v l) : ∃ A cap, v = .slice A l.length cap ∧ l.length ≤ cap ∧ cap ≤ maxLen ∧ IL w A l.length l ∧ ∀ ad, A = some ad → base ≤ ad.block ∧ ad.block < w.heap.size ∧ v.ownBlock = some ad.block := by
  rcases h.2 with ⟨rfl, h0⟩ | ⟨g, cap, cur, rfl, hb, hh, hl, hm, hs, ht⟩
  · have : l = [] := List.eq_nil_of_length_eq_zero h0
    subst this
    exact ⟨none, 0, rfl, Nat.le_refl _, by simp [maxLen], IL.nil _ _, fun _ h => by cases h⟩
  · refine ⟨_, cap, rfl, hl, hm, ⟨rfl, fun j x hx => ⟨g, 0, rfl, ?_, ?_⟩⟩, fun ad had => ?_⟩
    · have hj := World.ownsRow.cells h (g := g) rfl _ _ (itc_get l j x hx).1
      rwa [Addr.add_lit] at hj
    · have hj := World.ownsRow.cells h (g := g) rfl _ _ (itc_get l j x hx).2
      rwa [Addr.add_lit] at hj
    · cases had
      exact ⟨hb, (Array.getElem?_eq_some_iff.1 hh).1, rfl⟩
theorem OI.kept {S : Nat → Prop} (h : OI base w v l) (k : Keep S w w') (hs : ∀ g, v.ownBlock = some g → ¬ S g) : OI base w' v l := by
  refine ⟨h.1, ?_⟩
  rcases h.2 with hn | ⟨g, cap, cur, rfl, hb, hgg, rest⟩
  · exact .inl hn
  · refine .inr ⟨g, cap, cur, rfl, hb, ?_, rest⟩
    rw [k.block g (Array.getElem?_eq_some_iff.1 hgg).1 (hs g rfl)]
    exact hgg
theorem OI.lt (h : OI base w v l) : ∀ k, v.ownBlock = some k → base ≤ k ∧ k < w.heap.size := World.ownsRow.lt h
theorem OI.alloc (h : OI base w v l) (o : Obj) : OI base (w.alloc o) v l := h.kept ((Keep.refl (fun _ => False) w).alloc o) fun _ _ => id
theorem OI.drew (h : OI base w v l) : OI base w.drew v l := h
theorem OI.below (h : OI base w v l) (k : Below w.heap.size w w') : OI base w' v l := h.kept (Keep.of_below k) fun g hg => by have := (h.lt g hg).2; omega
theorem OI.mono {b' : Nat} (h : OI base w v l) (hb : b' ≤ base) : OI b' w v l := by
  refine ⟨h.1, ?_⟩
  rcases h.2 with hn | ⟨g, cap, cur, hv, hbb, rest⟩
  · exact .inl hn
  · exact .inr ⟨g, cap, cur, hv, by omega, rest⟩
/-- Its block is one of cells. -/
theorem OI.blk (h : OI base w v l) : ∀ g, v.ownBlock = some g → ∃ o : Obj, w.heap[g]? = some o ∧ o.isCells = true := by
  intro g hg
  rcases h.2 with ⟨rfl, _⟩ | ⟨g', cap, cur, rfl, _, hgg, _⟩
  · simp [Value.ownBlock] at hg
  · simp [Value.ownBlock] at hg
    subst hg
    exact ⟨_, hgg, rfl⟩
end

/-- append(v, x..), x items that are read. -/
theorem run_appI (w : World) (base : Nat) (ty : TypeId) (v : Value) (l : List It) (hown : OI base w v l) (A : Option Addr) (m c : Nat) (news : List It) (hr : IL w A m news) (hmn : A = none → m = 0)
    (hn : (l.length + m) * 24 ≤ 140737488355328) (hbase : base ≤ w.heap.size) :
    ∃ v' w', (Builtin.append_ #[67, 67] ty #[v, .slice A m c]).run Tryz.prog w = .ok v' w' ∧ OI base w' v' (l ++ news) ∧ Keep (fun k => v.ownBlock = some k) w w' ∧ (v'.ownBlock = v.ownBlock ∨ v'.ownBlock = some w.heap.size) := by
  obtain ⟨i, hi, hz, hs, hb⟩ := info_parts item_info
  rcases A with _ | ad
  · have hm := hmn rfl
    subst hm
    have hnw : news = [] := List.eq_nil_of_length_eq_zero hr.len
    subst hnw
    refine ⟨v, w, ?_, by simpa using hown, Keep.refl _ _, .inl rfl⟩
    rcases hown.2 with ⟨rfl, hn0⟩ | ⟨g, cap, cur, rfl, _, _, hnc, _⟩
    · simp [Builtin.append_, run_underlying Tryz.underlying67, sizeOf, typeInfo, hi, Builtin.lenOf, Builtin.firstCells]
    · simp [Builtin.append_, run_underlying Tryz.underlying67, sizeOf, typeInfo, hi, Builtin.lenOf, Builtin.firstCells, hnc, storeCells]
  · have hcells : ∀ j u, (news.flatMap itc)[j]? = some u → w.cell? (ad.add j) = some u := by
      intro j u hu
      have hj := (List.getElem?_eq_some_iff.1 hu).1
      rw [itc_len] at hj
      have hl : j / 2 < news.length := by omega
      obtain ⟨b, off, he, h1, h2⟩ := hr.at_ (j / 2) _ (List.getElem?_eq_getElem hl)
      cases he
      have hg := itc_get news (j / 2) _ (List.getElem?_eq_getElem hl)
      rw [Addr.add_lit]
      rcases Nat.mod_two_eq_zero_or_one j with e | e
      · have e' : j / 2 * 2 = j := by omega
        rw [e'] at hg h1
        rw [hu] at hg
        rw [h1, hg.1]
      · have e' : j / 2 * 2 + 1 = j := by omega
        rw [e'] at hg
        rw [show off + j / 2 * 2 + 1 = off + j by omega] at h2
        rw [hu] at hg
        rw [h2, hg.2]
    have h1 : ∀ u ∈ news.flatMap itc, u.oneCell' = true := by
      intro u hu
      obtain ⟨x, _, hx⟩ := List.mem_flatMap.1 hu
      simp [itc] at hx
      rcases hx with rfl | rfl <;> rfl
    obtain ⟨v', w', hrun, h2, h3, _, h5⟩ := run_append_own_at (P := Tryz.prog) w base 67 ty 66 i (.agg #[.string ⟨#[]⟩, .int .i64 0]) 2 24 Tryz.underlying67 hi hz hs hb rfl (by decide) v l.length (l.flatMap itc) hown ad m c (news.flatMap itc)
      (by rw [itc_len, hr.len]) hcells h1 (by simp only [maxLen]; omega) (by omega) hbase
    refine ⟨v', w', hrun, ?_, Keep.of_grown h3, h5⟩
    show w'.ownsRow base 66 2 v' (l ++ news).length ((l ++ news).flatMap itc)
    rw [List.length_append, hr.len, List.flatMap_append]
    exact h2
end Go.Proofs.YtfpcnenohidfpaaGreat
