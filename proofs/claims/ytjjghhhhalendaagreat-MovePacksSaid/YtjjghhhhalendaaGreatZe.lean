/- Texts of this proof in one: Keys, Listed, Against, Norm, Concat, Two. No condition. -/
import Derived.Test.YtjjghhhhalendaaGreatShelf
import Derived.Test.YtjjghhhhalendaaGreatOfI
import Derived.Maps.OwnOps
import Derived.StringKeys
import Derived.Test.YtjjghhhhalendaaGreatCnt
import Derived.Lib.AppendZeros
import Derived.Lib.SliceRun
namespace Go.Proofs.YtjjghhhhalendaaGreat
section
open Go.RowKit Go.Maps Go.Shelf Go.Sort
set_option linter.unusedVariables false
set_option linter.unusedSimpArgs false

theorem sortsS (m : Nat) : AnyZ.SortsIn Tryz.prog Tryz.sortedS_ren Fence.wide m :=
  ⟨fun blk off cap ss W hH hblk hsz => callsIn_wide.2 (AnyM.slices_Sort_string Tryz.sortS blk off cap ss W hH hblk hsz),
   fun p cap W => callsIn_wide.2 (AnyM.slices_Sort_string_none Tryz.sortS p cap W)⟩
theorem keys_any (mb : Option Nat) (W : World) : Calls Tryz.prog 93 #[.map mb] W fun e w' => e = .returned (.func (.func 100) #[] #[.pointer (some ⟨W.heap.size, 0, none⟩)]) ∧ w' = W.alloc (.cells #[.map mb] 135) :=
  callsIn_wide.1 (AnyZ.keys_in Tryz.keysS Fence.wide 5 trivial rfl mb W)
set_option maxHeartbeats 1000000 in
theorem sorted_any {H : Type} (b nn : Nat) (D0 : DataW H) (R : Value → Option (DataW H × List MemPlace)) (w : World) (hown : w.ownsMap Tryz.prog 9 R b nn D0) (hmax : Maps.size D0 ≤ maxLen) (hbytes : Maps.size D0 * 16 ≤ 140737488355328) :
    Calls Tryz.prog 92 #[.func (.func 100) #[] #[.pointer (some ⟨w.heap.size, 0, none⟩)]] (w.alloc (.cells #[.map (some b)] 135)) fun e w' => ∃ (v : Value) (ss : List (List UInt8)), e = .returned v ∧ ss.Perm (strKeys D0) ∧
      w'.ownsRow (w.alloc (.cells #[.map (some b)] 135)).heap.size 9 1 v ss.length ((ss.mergeSort (fun x y => decide (x ≤ y))).map encStr) ∧ (v = .slice none 0 0 ↔ ss = []) ∧ Below (w.alloc (.cells #[.map (some b)] 135)).heap.size (w.alloc (.cells #[.map (some b)] 135)) w' := by
  have hbl := hown.lt
  have hseq : SeqGives Fence.wide 2 Tryz.prog 100 #[.pointer (some ⟨w.heap.size, 0, none⟩)] encStr (fun ss => ss.Perm (strKeys D0)) (Maps.size D0) (w.alloc (.cells #[.map (some b)] 135)) :=
    AnyZ.keys_gives (ρ := Tryz.keysS_ren) { Tryz.keysS with } Fence.wide _ trivial rfl (by omega) w.heap.size b nn D0 _ (by simp) (by simp) (by
      obtain ⟨es, clock, hb, Ft, hs, hD⟩ := hown
      exact ⟨es, clock, (Below.heap_alloc _ _ b hbl).trans hb, Ft, hs, hD⟩)
  exact callsIn_wide.1 (AnyZ.sorted_in Tryz.sortedS Fence.wide 5 trivial trivial trivial trivial rfl (by omega) (sortsS _) (enters_of Tryz.func99 (by kernel_rfl) rfl) 100 #[.pointer (some ⟨w.heap.size, 0, none⟩)] trivial (enters_of Tryz.func100 (by kernel_rfl) rfl) _ _ hmax hbytes _ hseq)

/-- A row of strings that the call owns. -/
def KS (w : World) (v : Value) (ks : List (List UInt8)) : Prop := w.ownsRow 0 9 1 v ks.length (ks.map encStr)
theorem KS.kept {S : Nat → Prop} {w w' : World} {v : Value} {ks : List (List UInt8)} (h : KS w v ks) (k : Keep S w w') (hs : ∀ g, v.ownBlock = some g → ¬ S g) : KS w' v ks := by
  refine ⟨h.1, ?_⟩
  rcases h.2 with hn | ⟨g, cap, cur, rfl, hb, hgg, rest⟩
  · exact .inl hn
  · refine .inr ⟨g, cap, cur, rfl, hb, ?_, rest⟩
    rw [k.block g (Array.getElem?_eq_some_iff.1 hgg).1 (hs g rfl)]
    exact hgg
theorem KS.ne {base : Nat} {w : World} {v u : Value} {ks : List (List UInt8)} {l : List It} (h : KS w v ks) (ho : OI base w u l) : ∀ g, v.ownBlock = some g → ¬ u.ownBlock = some g := by
  intro g hv hu
  rcases h.2 with ⟨rfl, _⟩ | ⟨g1, cap, cur, rfl, _, hgg, _⟩
  · simp [Value.ownBlock] at hv
  · have e : g1 = g := by simpa [Value.ownBlock] using hv
    subst e
    rcases ho.2 with ⟨rfl, _⟩ | ⟨g2, cap2, cur2, rfl, _, hg2, _⟩
    · simp [Value.ownBlock] at hu
    · have e : g2 = g1 := by simpa [Value.ownBlock] using hu
      subst e
      rw [hgg] at hg2
      injection hg2 with h1
      injection h1 with _ h3
      exact absurd h3 (by decide)
theorem KS.at_ {w : World} {A : Option Addr} {n c : Nat} {ks : List (List UInt8)} (h : KS w (.slice A n c) ks) {k : Nat} (hk : k < n) (hn : ks.length = n) : ∃ b off s, A = some ⟨b, off, none⟩ ∧ ks[k]? = some s ∧ w.cell? ⟨b, off + k, none⟩ = some (.string ⟨s.toArray⟩) := by
  rcases h.2 with ⟨e, h0⟩ | ⟨g, cap, cur, e, _, hgg, _⟩
  · omega
  · injection e with e1 e2 e3
    subst e1
    have hl : k < ks.length := by omega
    refine ⟨g, 0, ks[k], rfl, List.getElem?_eq_getElem hl, ?_⟩
    have hj := World.ownsRow.cells h (g := g) (by simp [Value.ownBlock]) k (encStr ks[k]) (by rw [List.getElem?_map, List.getElem?_eq_getElem hl]; rfl)
    rwa [Addr.add_lit] at hj
end
section
open Go.RowKit Go.Maps Go.Shelf Go.Sort
set_option linter.unusedVariables false
set_option linter.unusedSimpArgs false

theorem IL.one (w : World) (s : List UInt8) (q : Int) (t : TypeId) : IL (w.alloc (.cells #[.string ⟨s.toArray⟩, .int .i64 q] t)) (some ⟨w.heap.size, 0, none⟩) 1 [(s, q)] := by
  have hB := Blk.new w t #[.string ⟨s.toArray⟩, .int .i64 q]
  refine ⟨rfl, fun j x hx => ?_⟩
  match j, hx with
  | 0, hx =>
    simp at hx
    subst hx
    exact ⟨_, 0, rfl, hB.cell 0, hB.cell 1⟩
section
variable {w : World} {ops : Array Oper} {rest : List Oper} {o : Oper} {a : Act} {Q : Exit → Act → World → Prop}
theorem wpAppI (hgd : o.guard = none) (s x : Operand) (ho : o.op = .call { callee := .builtin .append, args := #[s, x], argTypes := #[30, 30] })
    (base : Nat) (v : Value) (l : List It) (hs : a.eval s = v) (hown : OI base w v l) (A : Option Addr) (m c : Nat) (news : List It) (hx : a.eval x = .slice A m c) (hr : IL w A m news) (hmn : A = none → m = 0)
    (hn : (l.length + m) * 24 ≤ 140737488355328) (hbase : base ≤ w.heap.size)
    (h : ∀ v' w', OI base w' v' (l ++ news) → Keep (fun k => v.ownBlock = some k) w w' → (v'.ownBlock = v.ownBlock ∨ v'.ownBlock = some w.heap.size) → wpList Tryz.prog ops Q rest (a.put o.dst v') w') : wpList Tryz.prog ops Q (o :: rest) a w := by
  refine wpList_plain hgd fun K hK => ?_
  obtain ⟨v', w', hrun, h2, h3, h4⟩ := run_appI w base o.type v l hown A m c news hr hmn hn hbase
  unfold Oper.wp execOp
  simp only [ho, resolve, invoke, builtin, Sem.run_bind, Sem.run_pure, Result.andThen_ok, List.map_toArray, List.map_cons, List.map_nil, hs, hx, hrun]
  exact hK _ _ (h v' w' h2 h3 h4)
end
theorem KS.of {base : Nat} {w : World} {v : Value} {ks : List (List UInt8)} (h : w.ownsRow base 9 1 v ks.length (ks.map encStr)) : KS w v ks ∧ ∃ A cap, v = .slice A ks.length cap ∧ ∀ g, v.ownBlock = some g → base ≤ g := by
  rcases h.2 with ⟨rfl, h0⟩ | ⟨g, cap, cur, rfl, hb, rest⟩
  · exact ⟨⟨h.1, .inl ⟨rfl, h0⟩⟩, none, 0, by rw [h0], fun g hg => by simp [Value.ownBlock] at hg⟩
  · exact ⟨⟨h.1, .inr ⟨g, cap, cur, rfl, by omega, rest⟩⟩, _, cap, rfl, fun g' hg => by simp [Value.ownBlock] at hg; omega⟩
theorem keyS (s : List UInt8) (h : s.length ≤ maxLen) : keyOf Tryz.prog 9 (.string ⟨s.toArray⟩) = some (.string s) := by
  have := WideMaps.keyOf_string_mk (P := Tryz.prog) (s := ⟨s.toArray⟩) Tryz.underlying9 (by rw [str_size]; exact h)
  simpa using this
theorem listedL_take (ks : List (List UInt8)) (f : List UInt8 → Int) (k : Nat) (s : List UInt8) (h : ks[k]? = some s) : listedL (ks.take (k + 1)) f = if f s = 0 then listedL (ks.take k) f else listedL (ks.take k) f ++ [(s, f s)] := by
  rw [List.take_add_one, h]
  exact listedL_snoc _ _ _
theorem ownsMap_below' {H : Type} {P : Program} {k : TypeId} {R : Value → Option (DataW H × List MemPlace)} {w w' : World} {b n : Nat} {D : DataW H} (h : w.ownsMap P k R b n D) (hb : Below w.heap.size w w') : w'.ownsMap P k R b n D := by
  obtain ⟨es, clock, h1, Ft, hs, hD⟩ := h
  exact ⟨es, clock, (hb.block b (Array.getElem?_eq_some_iff.1 h1).1).trans h1, Ft, hs, hD⟩
theorem listedL_len (ks : List (List UInt8)) (f : List UInt8 → Int) : (listedL ks f).length ≤ ks.length := List.length_filterMap_le _ _

set_option maxRecDepth 100000 in
set_option maxHeartbeats 3200000 in
theorem listed_any {H : Type} (b nn : Nat) (D0 : DataW H) (f : List UInt8 → Int) (w : World) (hown : w.ownsMap Tryz.prog 9 (plainElem (H := H) Tryz.prog 3) b nn D0) (hv : ∀ g, D0.atKey (.string g) (.lit (.int .i64 0)) = .lit (.int .i64 (f g))) (hmax : Maps.size D0 ≤ 1048576) :
    Calls Tryz.prog 84 #[.map (some b)] w fun e w' => ∃ v, e = .returned v ∧ OI w.heap.size w' v (listedL ((strKeys D0).mergeSort leB) f) ∧ Below w.heap.size w w' := by
  have hkle := strKeys_le hown Tryz.underlying9
  have hbl := hown.lt
  have hsl : (strKeys D0).length = Maps.size D0 := by
    obtain ⟨es, rfl, _⟩ := hown.keysOf
    simp [strKeys, Maps.size_eq]
  generalize hks2 : (strKeys D0).mergeSort leB = ks
  have hmem : ∀ s ∈ ks, s.length ≤ maxLen := fun s hs => hkle s (by rw [← hks2] at hs; simpa using hs)
  have hsz : ks.length ≤ 1048576 := by
    rw [← hks2, List.length_mergeSort, hsl]
    exact hmax
  go_enter Tryz.func84, Tryz.ntmps84
  go_wp2_with fail
  refine (keys_any (some b) _).mono ?_
  rintro e w1 ⟨rfl, rfl⟩
  go_wp2_with fail
  refine (sorted_any b nn D0 _ w hown (by simp only [maxLen]; omega) (by omega)).mono ?_
  rintro e w2 ⟨kv, ss, rfl, hS, hrow, hnil, hb⟩
  have hb2 : Below w.heap.size w w2 := ((Below.refl w.heap.size w).alloc (Nat.le_refl _) _).trans (hb.mono (by simp))
  have hss : ss.mergeSort (fun x y => decide (x ≤ y)) = ks := by rw [← hks2]; exact mergeSort_of_perm hS
  have hlen : ss.length = ks.length := by rw [← hss, List.length_mergeSort]
  rw [hss, hlen] at hrow
  clear hnil hS hb hss hlen hks2 hkle hsl
  obtain ⟨hK, KA, kc, rfl, hKb⟩ := KS.of hrow
  clear hrow
  rw [World.size_alloc] at hKb
  have hown2 : w2.ownsMap Tryz.prog 9 (plainElem (H := H) Tryz.prog 3) b nn D0 := ownsMap_below' hown hb2
  go_wp2
  go_loopw [3, 5, 6, 11] (fun v u5 u6 i wr => ∃ k : Nat, i = .int .i64 (k : Int) ∧ k ≤ ks.length ∧ OI w.heap.size wr v (listedL (ks.take k) f) ∧ KS wr (.slice KA ks.length kc) ks ∧ Below w.heap.size w wr ∧ Below b.succ w wr) (fun _ _ _ i _ => ks.length - (intOf i).toNat)
  case atStart => exact ⟨0, by go_num, by omega, OI.nil _ _, hK, hb2, hb2.mono hbl⟩
  case round =>
    obtain ⟨k, rfl, hk, hO, hKr, hbw, hbb⟩ := hrel
    by_cases hlt : k < ks.length
    · have hlz : (k : Int) < (ks.length : Int) := by omega
      obtain ⟨kb, off, s, rfl, hs, hcell⟩ := hKr.at_ hlt rfl
      have hownr := ownsMap_below' hown hbw
      have hml := hmem s (List.mem_of_getElem? hs)
      obtain ⟨q, hlk, hat, hwq⟩ := hownr.lookup_int (string_keyed Tryz.underlying9) Tryz.underlying135 Tryz.underlying3 (Tryz.zeroValue3 _) (keyS s hml)
      have hfs : f s = q := by
        have h1 := hv s
        rw [h1] at hat
        injection hat with hat
        injection hat
      have htk := listedL_take ks f k s hs
      rw [hfs] at htk
      have hlen2 := listedL_len (ks.take k) f
      rw [List.length_take] at hlen2
      by_cases hq : q = 0
      · subst hq
        rw [if_pos rfl] at htk
        go_wp2
        go_roundw
        case measure => simp [intOf]; omega
        case rel => exact ⟨k + 1, by go_num, by omega, by rw [htk]; exact hO, hKr, hbw, hbb⟩
      · rw [if_neg hq] at htk
        have hqb : (q == 0) = false := beq_eq_false_iff_ne.2 hq
        have hzr := hbw.size
        go_wp2_with (at_builtin; refine wpAppI rfl _ _ rfl w.heap.size _ _ rfl (hO.alloc _) _ 1 1 [(s, q)] rfl (IL.one wr s q _) (fun h => by cases h) (by omega) (by simp; omega) ?_; rintro v' w3 hO3 hk3 hl3)
        go_roundw
        case measure => simp [intOf]; omega
        case rel =>
          have hk3' := ((Keep.refl (fun j => u3.ownBlock = some j) wr).alloc (.cells #[.string ⟨s.toArray⟩, .int .i64 q] 54)).trans hk3 (fun _ _ h => h)
          have hbw3 := hbw.trans (hk3'.below hbw.size (fun j hj e => by have := (hO.lt j e).1; omega))
          exact ⟨k + 1, by go_num, by omega, by rw [htk]; exact hO3, hKr.kept hk3' (fun g hg hu => hKr.ne hO g hg hu), hbw3, hbw3.mono hbl⟩
    · have hlz : ¬ (k : Int) < (ks.length : Int) := by omega
      rw [List.take_of_length_le (by omega)] at hO
      go_wp2
      go_ret
      exact ⟨_, rfl, hO, hbw⟩
end
section
open Go.RowKit Go.Maps Go.Shelf Go.Sort
set_option linter.unusedVariables false
set_option linter.unusedSimpArgs false
attribute [local go_sem] Oper.semAt_some

theorem OI.putD {base : Nat} {W : World} {v : Value} {l : List It} {D : Nat} (h : OI base W v l) (hD : W.heap[D]? = some (.deferred (some []))) : OI base (W.putObj D (.deferred none)) v l :=
  h.kept (Keep.of_grown (grownBy_putObj' W D _)) fun g hg e => by
    cases e
    obtain ⟨o, h1, h2⟩ := h.blk D hg
    rw [hD] at h1
    cases h1
    cases h2
theorem IL.row {W W' : World} {A : Option Addr} {n : Nat} {l : List It} {row : Option Nat} {B : Nat} (h : IL W A n l) (hg : W.grownBy W' row) (hA : ∀ ad, A = some ad → 0 < n → ad.block < B) (hr : ∀ r, row = some r → B ≤ r ∧ ∃ o : Obj, W.heap[r]? = some o ∧ o.isCells = false) : IL W' A n l :=
  h.kept (Keep.of_grown hg) fun ad h1 h2 e => by have := (hr _ e).1; have := hA ad h1 h2; omega
theorem maps_row {H : Type} {P : Program} {k : TypeId} {R : Value → Option (DataW H × List MemPlace)} {W W' : World} {b n B : Nat} {D : DataW H} {row : Option Nat} (h : W.ownsMap P k R b n D) (hg : W.grownBy W' row) (hb : b < B) (hr : ∀ r, row = some r → B ≤ r ∧ ∃ o : Obj, W.heap[r]? = some o ∧ o.isCells = false) : W'.ownsMap P k R b n D :=
  h.kept hg fun e => by have := (hr _ e.symm).1; omega

/-- The map of what is left. -/
def sumsOf (f : It → Int) (l : List It) : DataW Unit := l.foldl (fun D x => D.put (.string x.1) (.lit (.int .i64 (f x)))) (.map [])
theorem sumsOf_snoc (f : It → Int) (l : List It) (x : It) : sumsOf f (l ++ [x]) = (sumsOf f l).put (.string x.1) (.lit (.int .i64 (f x))) := by simp [sumsOf]
def lastV (f : It → Int) (l : List It) (g : List UInt8) : Int := l.foldl (fun s x => if x.1 = g then f x else s) 0
theorem lastV_snoc (f : It → Int) (l : List It) (x : It) (g : List UInt8) : lastV f (l ++ [x]) g = if x.1 = g then f x else lastV f l g := by simp [lastV]
theorem sumsOf_sm (f : It → Int) (l : List It) : SM (sumsOf f l) (lastV f l) (l.map (·.1)) := by
  induction l using snoc_ind with
  | h0 => exact SM.start
  | h1 l x ih =>
    rw [sumsOf_snoc]
    have h := ih.put x.1 (f x)
    rw [List.map_append]
    refine ⟨h.isMap, fun g => ?_, h.has_⟩
    rw [h.val g, lastV_snoc]
    by_cases e : g = x.1
    · subst e
      simp
    · rw [if_neg e, if_neg (fun e' => e e'.symm)]
theorem rising_pairwise : ∀ (l : List It) (last : List UInt8), mayFrom last l = true → (l.map (·.1)).Pairwise (fun a b => a < b) ∧ ∀ g ∈ l.map (·.1), last < g
  | [], _, _ => ⟨List.Pairwise.nil, fun g h => by simp at h⟩
  | x :: l, last, h => by
    rw [mayFrom, Bool.and_eq_true] at h
    obtain ⟨h1, h2⟩ := rising_pairwise l x.1 h.2
    have hx : last < x.1 := by
      have := h.1
      simp [okAt] at this
      exact this.1.1.2
    refine ⟨List.pairwise_cons.2 ⟨h2, h1⟩, fun g hg => ?_⟩
    rw [List.map_cons, List.mem_cons] at hg
    rcases hg with rfl | hg
    · exact hx
    · exact List.lt_trans hx (h2 g hg)
theorem mayL_from {l : List It} (h : mayL l = true) : l.length ≤ 16 ∧ mayFrom [] l = true := by simpa [mayL] using h
/-- A map's keys in order, where they rise. -/
theorem keys_sorted {H : Type} {D : DataW H} {f : List UInt8 → Int} {ks : List (List UInt8)} (h : SM D f ks) (hp : ks.Pairwise (fun a b => a < b)) (hD : ∃ es : List (Lit × DataW H), D = .map es ∧ es.Pairwise (fun p q => p.1 ≠ q.1) ∧ ∀ p ∈ es, ∃ x, p.1 = .string x) : (strKeys D).mergeSort leB = ks := by
  obtain ⟨es, rfl, h1, h2⟩ := hD
  have hnd : ks.Nodup := hp.imp fun hab e => by subst e; exact List.lt_irrefl _ hab
  have hperm : ks.Perm (strKeys (.map es)) := perm_strKeys h1 h2 hnd fun x => by rw [h.has_ x]; simp
  rw [mergeSort_of_perm hperm.symm]
  refine List.mergeSort_of_pairwise (hp.imp fun hab => ?_)
  simpa [leB] using List.le_of_lt hab
theorem maps_form {H : Type} {w : World} {R : Value → Option (DataW H × List MemPlace)} {b n : Nat} {D : DataW H} (h : w.ownsMap Tryz.prog 9 R b n D) : ∃ es : List (Lit × DataW H), D = .map es ∧ es.Pairwise (fun p q => p.1 ≠ q.1) ∧ ∀ p ∈ es, ∃ x, p.1 = .string x := by
  obtain ⟨es, rfl, hk⟩ := h.keysOf
  obtain ⟨es', he, hp⟩ := h.tidy (string_keyed Tryz.underlying9)
  cases he
  refine ⟨es, rfl, hp, fun p hp => ?_⟩
  obtain ⟨key, hkey⟩ := hk p hp
  obtain ⟨x, _, hx, _⟩ := Maps.keyOf_str Tryz.underlying9 hkey
  exact ⟨x, hx⟩
/-- .. of lists that may be; else nothing. -/
def ifMay (b : Bool) (l : List It) : List It := match b with | true => l | false => []
/-- What is left. -/
def leftL (f : It → Int) (l : List It) : List It := l.filterMap fun x => if f x = 0 then none else some (x.1, f x)
theorem lastV_mem (f : It → Int) : ∀ (l : List It), (l.map (·.1)).Pairwise (fun a b => a < b) → ∀ x ∈ l, lastV f l x.1 = f x := by
  intro l
  induction l using snoc_ind with
  | h0 => intro _ x h; simp at h
  | h1 l y ih =>
    intro hp x hx
    rw [lastV_snoc]
    rw [List.map_append, List.pairwise_append] at hp
    rcases List.mem_append.1 hx with hx | hx
    · have hlt := hp.2.2 x.1 (List.mem_map_of_mem hx) y.1 (by simp)
      rw [if_neg (fun e => by rw [e] at hlt; exact List.lt_irrefl _ hlt)]
      exact ih hp.1 x hx
    · simp at hx
      subst hx
      simp
theorem listed_left (f : It → Int) (l : List It) (hp : (l.map (·.1)).Pairwise (fun a b => a < b)) : listedL (l.map (·.1)) (lastV f l) = leftL f l := by
  unfold listedL leftL
  rw [List.filterMap_map]
  refine fm_congr fun x hx => ?_
  simp only [Function.comp]
  rw [lastV_mem f l hp x hx]

end
section
open Go.RowKit Go.Maps Go.Shelf Go.Sort
set_option linter.unusedVariables false
set_option linter.unusedSimpArgs false
attribute [local go_sem] Oper.semAt_some

theorem wf_mk {a : Int} (h0 : -9223372036854775808 ≤ a) (h1 : a ≤ 9223372036854775807) : (Lit.int .i64 a).wf = true := by
  simpa [Lit.wf, IntKind.min, IntKind.max, IntKind.signed, IntKind.bits] using And.intro h0 h1
/-- Each has a good, and a count. -/
def okX (x : It) : Bool := gOK x.1 && cMay x.2
def okN (l : List It) : Bool := l.all okX
theorem okN_snoc (l : List It) (x : It) : okN (l ++ [x]) = (okN l && okX x) := by simp [okN, List.all_append]
theorem okN_not {l pre : List It} (hp : pre <+: l) (h : okN pre = false) : okN l = false := by
  obtain ⟨t, rfl⟩ := hp
  unfold okN at h ⊢
  rw [List.all_append, h]
  rfl
theorem okN_mem {l : List It} (h : okN l = true) {x : It} (hx : x ∈ l) : gOK x.1 = true ∧ 0 ≤ x.2 ∧ x.2 ≤ 1099511627776 := by
  have := List.all_eq_true.1 h x hx
  simp [okX, cMay] at this
  exact this
/-- A good has too many. -/
def overL (l : List It) : Bool := l.any fun x => decide (1099511627776 < tot l x.1)
theorem tot_none {g : List UInt8} : ∀ {l : List It}, (∀ x ∈ l, x.1 ≠ g) → tot l g = 0 := by
  intro l
  induction l using snoc_ind with
  | h0 => intro _; rfl
  | h1 l x ih =>
    intro h
    rw [tot_snoc, if_neg (h x (by simp)), ih fun y hy => h y (by simp [hy])]
theorem tot_nonneg (g : List UInt8) : ∀ {l : List It}, (∀ x ∈ l, 0 ≤ x.2) → 0 ≤ tot l g := by
  intro l
  induction l using snoc_ind with
  | h0 => intro _; exact Int.le_refl 0
  | h1 l x ih =>
    intro h
    have h1 := ih fun y hy => h y (by simp [hy])
    have h2 := h x (by simp)
    rw [tot_snoc]
    split <;> omega
theorem tot_mono (g : List UInt8) (pre : List It) : ∀ {t : List It}, (∀ x ∈ t, 0 ≤ x.2) → tot pre g ≤ tot (pre ++ t) g := by
  intro t
  induction t using snoc_ind with
  | h0 => intro _; simp
  | h1 t x ih =>
    intro h
    have h1 := ih fun y hy => h y (by simp [hy])
    have h2 := h x (by simp)
    rw [← List.append_assoc, tot_snoc]
    split <;> omega
theorem tot_bound {l : List It} (hok : okN l = true) (ho : overL l = false) (g : List UInt8) : 0 ≤ tot l g ∧ tot l g ≤ 1099511627776 := by
  refine ⟨tot_nonneg g fun x hx => (okN_mem hok hx).2.1, ?_⟩
  by_cases h : ∃ x ∈ l, x.1 = g
  · obtain ⟨x, hx, rfl⟩ := h
    have := List.any_eq_false.1 ho x hx
    simp at this
    exact this
  · rw [tot_none fun x hx e => h ⟨x, hx, e⟩]
    decide
theorem over_more {l pre : List It} (hp : pre <+: l) (hok : okN l = true) (h : overL pre = true) : overL l = true := by
  obtain ⟨t, rfl⟩ := hp
  obtain ⟨x, hx, h2⟩ := List.any_eq_true.1 h
  simp at h2
  refine List.any_eq_true.2 ⟨x, by simp [hx], ?_⟩
  have := tot_mono x.1 pre (t := t) fun y hy => (okN_mem hok (by simp [hy])).2.1
  simp
  omega
theorem over_snoc {pre : List It} {x : It} (ho : overL pre = false) (h : tot pre x.1 + x.2 ≤ 1099511627776) : overL (pre ++ [x]) = false := by
  refine List.any_eq_false.2 fun y hy => ?_
  simp only [decide_eq_true_eq]
  rw [tot_snoc]
  by_cases e : x.1 = y.1
  · rw [if_pos e, ← e]
    omega
  · rw [if_neg e]
    rcases List.mem_append.1 hy with hy | hy
    · have := List.any_eq_false.1 ho y hy
      simpa using this
    · simp at hy
      subst hy
      exact absurd rfl e
theorem over_now {pre : List It} {x : It} (h : ¬ tot pre x.1 + x.2 ≤ 1099511627776) : overL (pre ++ [x]) = true := by
  refine List.any_eq_true.2 ⟨x, by simp, ?_⟩
  rw [tot_snoc, if_pos rfl]
  simp
  omega

/-- The map of sums. -/
def valOf (D : DataW Unit) (g : List UInt8) : Int := match D.atKey (.string g) (.lit (.int .i64 0)) with | .lit (.int _ n) => n | _ => 0
def sumsN (l : List It) : DataW Unit := l.foldl (fun D x => D.put (.string x.1) (.lit (.int .i64 (valOf D x.1 + x.2)))) (.map [])
theorem sumsN_sm (l : List It) : SM (sumsN l) (tot l) (l.map (·.1)) := by
  induction l using snoc_ind with
  | h0 => exact SM.start
  | h1 l x ih =>
    have hs : sumsN (l ++ [x]) = (sumsN l).put (.string x.1) (.lit (.int .i64 (valOf (sumsN l) x.1 + x.2))) := by simp [sumsN]
    have hv : valOf (sumsN l) x.1 = tot l x.1 := by unfold valOf; rw [ih.val]
    rw [hs, hv, List.map_append]
    have h := ih.put x.1 (tot l x.1 + x.2)
    refine ⟨h.isMap, fun g => ?_, h.has_⟩
    rw [h.val g, tot_snoc]
    by_cases e : g = x.1
    · subst e
      simp
    · rw [if_neg e, if_neg (fun e' => e e'.symm)]
theorem sumsN_snoc (l : List It) (x : It) : sumsN (l ++ [x]) = (sumsN l).put (.string x.1) (.lit (.int .i64 (tot l x.1 + x.2))) := by
  have hv : valOf (sumsN l) x.1 = tot l x.1 := by unfold valOf; rw [(sumsN_sm l).val]
  rw [← hv]
  simp [sumsN]
def rowsN (l : List It) : List It := listedL ((strKeys (sumsN l)).mergeSort leB) (tot l)
def normE (l : List It) : Int := match okN l with
  | false => 60
  | true => match overL l with
    | true => 50
    | false => match decide (16 < (rowsN l).length) with
      | true => 3
      | false => 0
def normR (l : List It) : List It := match normE l with
  | 0 => rowsN l
  | _ => []
theorem heap_row {W W' : World} {row : Option Nat} {D B : Nat} {o : Obj} (h : W.heap[D]? = some o) (hg : W.grownBy W' row) (hD : D < B) (hr : ∀ r, row = some r → B ≤ r ∧ ∃ o : Obj, W.heap[r]? = some o ∧ o.isCells = false) : W'.heap[D]? = some o :=
  (hg.block D (Array.getElem?_eq_some_iff.1 h).1 fun e => by have := (hr _ e.symm).1; omega).trans h
theorem OI.set_ {base : Nat} {W : World} {v : Value} {l : List It} (h : OI base W v l) {b : Nat} (hb : b < base) (i : Nat) (u : Value) : OI base (W.setCell ⟨b, i, none⟩ u) v l :=
  h.kept ((Keep.refl (fun k => k = b) W).setCell (p := ⟨b, i, none⟩) (fun _ => rfl) u) fun g hg e => by have := (h.lt g hg).1; omega

set_option maxRecDepth 100000 in
set_option maxHeartbeats 6400000 in
theorem norm_any (A : Option Addr) (n c : Nat) (l : List It) (w : World) (hl : IL w A n l) (hn : n ≤ 1048576) (hsa : ∀ x ∈ l, x.1.length ≤ maxLen) :
    Calls Tryz.prog 72 #[.slice A n c] w fun e w' => ∃ v, e = .returned (.tuple #[v, .int .i64 (normE l)]) ∧ OI w.heap.size w' v (normR l) ∧ Below w.heap.size w w' := by
  have hlt := hl.lt
  refine (callsIn_wide (n := 9)).1 ?_
  refine callsIn_of_wp_marks Tryz.func72 rfl trivial ?_ rfl
  simp only [Tryz.ntmps72, List.size_toArray, List.length_cons, List.length_nil, Nat.reduceAdd, Nat.reduceSub, Array.replicate_succ, Array.replicate_zero, List.push_toArray, List.append_toArray, List.nil_append, List.cons_append]
  have hmm := @run_makeMap Tryz.prog
  gi_wp2_with (refine ⟨trivial, ?_⟩; gi_at_call 51; refine (callsIn_wide.2 (over_make A n c _)).mono ?_; rintro e w' ⟨rfl, rfl⟩)
  have h0 := ((CL.new w (.slice none 0 0) 30).alloc (.cells #[.int .i64 0] 33)).alloc (.cells #[.slice A n c] 30)
  have h1 := (CL.new (w.alloc (.cells #[.slice none 0 0] 30)) (.int .i64 0) 33).alloc (.cells #[.slice A n c] 30)
  have hC := CL.new ((w.alloc (.cells #[.slice none 0 0] 30)).alloc (.cells #[.int .i64 0] 33)) (.slice A n c) 30
  have hb3 := (((Below.refl w.heap.size w).alloc (Nat.le_refl _) (.cells #[.slice none 0 0] 30)).alloc (by simp) (.cells #[.int .i64 0] 33)).alloc (by simp; omega) (.cells #[.slice A n c] 30)
  rw [World.size_alloc] at h1
  rw [World.size_alloc, World.size_alloc] at hC
  generalize hW : ((w.alloc (.cells #[.slice none 0 0] 30)).alloc (.cells #[.int .i64 0] 33)).alloc (.cells #[.slice A n c] 30) = W0 at *
  have hz0 : W0.heap.size = w.heap.size + 1 + 1 + 1 := by rw [← hW]; simp
  clear hW
  refine range_over' A n c l (w.heap.size + 1 + 1) (fun k => k = w.heap.size ∨ k = w.heap.size + 1) rfl rfl hC.at_ (hl.below hb3) (fun ad h h' => by have := hlt ad h h'; omega) (by omega)
    (fun pre W => okN pre = true ∧ CL W w.heap.size (.slice none 0 0) ∧ CL W (w.heap.size + 1) (.int .i64 0) ∧ Below w.heap.size w W)
    (fun c pre W => c = .ret ∧ okN pre = false ∧ CL W w.heap.size (.slice none 0 0) ∧ CL W (w.heap.size + 1) (.int .i64 60) ∧ Below w.heap.size w W)
    (fun s X Y row h hg hr => ⟨h.1, h.2.1.row hg hr, h.2.2.1.row hg hr, below_row h.2.2.2 hg (by have := h.2.1.lt; omega) (by omega) hr⟩)
    (fun c s X Y row h hg hr => ⟨h.1, h.2.1, h.2.2.1.row hg hr, h.2.2.2.1.row hg hr, below_row h.2.2.2.2 hg (by have := h.2.2.1.lt; omega) (by omega) hr⟩)
    ⟨rfl, h0, h1, hb3⟩ ?round ?done ?stop
  case round =>
    apply Exists.intro
    constructor
    · intro l' x W K hx hK
      gi_wp2
      exact hK
    · rintro l' pre ⟨s, q⟩ W hx hzW ⟨hok, hr, he, hb⟩ hlen
      dsimp only at hx ⊢
      have hsn := okN_snoc pre (s, q)
      rw [hok, Bool.true_and] at hsn
      by_cases hg : gOK s = true
      case neg =>
        have hg : gOK s = false := by simpa using hg
        have hbad : okN (pre ++ [(s, q)]) = false := by rw [hsn]; simp [okX, hg]
        gi_wp2_with (first | (refine ⟨trivial, ?_⟩; gi_at_call 52; refine (CallsIn.inRound l' (callsIn_wide.2 (good_any s _))).mono ?_; rintro e W2 ⟨rfl, hb2⟩; rw [hg]; have hr2 := hr.below hb2; have he2 := he.below hb2; have hbw2 := hb.trans (hb2.mono hb.size); have r2 := hr2.at_; have f2 := hr2.fz; have c2 := he2.at_; have g2 := he2.fz) | (refine ⟨trivial, ?_⟩; gi_at_call 53; refine (CallsIn.inRound l' (callsIn_wide.2 (may_any q _))).mono ?_; rintro e W3 ⟨rfl, h3⟩; have h3 := h3.symm; subst h3; rw [hq]) | refine ⟨trivial, ?_⟩)
        exact ⟨((Keep.from_below hb2).trans ((KeepsOthers.setCell W2 _ _).from _)).trans ((KeepsOthers.setCell _ _ _).from _), rfl, hbad, (hr2.set_ _).other (by omega) _ _, (he2.other (by omega) _ _).set_ _, (hbw2.setCell (p := ⟨w.heap.size, 0, none⟩) (Nat.le_refl _) _).setCell (p := ⟨w.heap.size + 1, 0, none⟩) (by dsimp only; omega) _⟩
      by_cases hq : cMay q = true
      case neg =>
        have hq : cMay q = false := by simpa using hq
        have hbad : okN (pre ++ [(s, q)]) = false := by rw [hsn]; simp [okX, hq]
        gi_wp2_with (first | (refine ⟨trivial, ?_⟩; gi_at_call 52; refine (CallsIn.inRound l' (callsIn_wide.2 (good_any s _))).mono ?_; rintro e W2 ⟨rfl, hb2⟩; rw [hg]; have hr2 := hr.below hb2; have he2 := he.below hb2; have hbw2 := hb.trans (hb2.mono hb.size); have r2 := hr2.at_; have f2 := hr2.fz; have c2 := he2.at_; have g2 := he2.fz) | (refine ⟨trivial, ?_⟩; gi_at_call 53; refine (CallsIn.inRound l' (callsIn_wide.2 (may_any q _))).mono ?_; rintro e W3 ⟨rfl, h3⟩; have h3 := h3.symm; subst h3; rw [hq]) | refine ⟨trivial, ?_⟩)
        exact ⟨((Keep.from_below hb2).trans ((KeepsOthers.setCell W2 _ _).from _)).trans ((KeepsOthers.setCell _ _ _).from _), rfl, hbad, (hr2.set_ _).other (by omega) _ _, (he2.other (by omega) _ _).set_ _, (hbw2.setCell (p := ⟨w.heap.size, 0, none⟩) (Nat.le_refl _) _).setCell (p := ⟨w.heap.size + 1, 0, none⟩) (by dsimp only; omega) _⟩
      have hgood : okN (pre ++ [(s, q)]) = true := by rw [hsn]; simp [okX, hg, hq]
      gi_wp2_with (first | (refine ⟨trivial, ?_⟩; gi_at_call 52; refine (CallsIn.inRound l' (callsIn_wide.2 (good_any s _))).mono ?_; rintro e W2 ⟨rfl, hb2⟩; rw [hg]; have hr2 := hr.below hb2; have he2 := he.below hb2; have hbw2 := hb.trans (hb2.mono hb.size); have r2 := hr2.at_; have f2 := hr2.fz; have c2 := he2.at_; have g2 := he2.fz) | (refine ⟨trivial, ?_⟩; gi_at_call 53; refine (CallsIn.inRound l' (callsIn_wide.2 (may_any q _))).mono ?_; rintro e W3 ⟨rfl, h3⟩; have h3 := h3.symm; subst h3; rw [hq]) | refine ⟨trivial, ?_⟩)
      exact ⟨Keep.from_below hb2, KX.of_below (hb2.mono (by omega)), hgood, hr2, he2, hbw2⟩
  case stop =>
    rintro D c pre W hD hpre ⟨rfl, hbad, hr, he, hb⟩ hDf
    have hnot := okN_not hpre hbad
    have hE : normE l = 60 := by unfold normE; rw [hnot]
    have hR : normR l = [] := by unfold normR; rw [hE]; rfl
    dsimp only
    gi_wp2
    refine ⟨by simp, .inl ⟨_, _, rfl, run_takeDeferred hDf, ?_⟩⟩
    have c0 := (hr.iter D _ (.deferred none) hDf rfl).at_
    have c1 := (he.iter D _ (.deferred none) hDf rfl).at_
    refine ⟨.tuple #[.slice none 0 0, .int .i64 60], by simp [results, Tryz.f72, go_sem, c0, c1], _, by rw [hE], by rw [hR]; exact OI.nil _ _, below_putD hb (by omega) hDf⟩
  case done =>
    rintro D W hD ⟨hok, hr, he, hb⟩ hDf
    dsimp only
    have hDl := (Array.getElem?_eq_some_iff.1 hDf).1
    gi_wp2_with (refine ⟨trivial, ?_⟩; gi_at_call 51; refine (callsIn_wide.2 (over_make A n c _)).mono ?_; rintro e w' ⟨rfl, rfl⟩)
    have hzW := hb.size
    have q0 := ((hr.alloc (.map #[] 0)).alloc (.cells #[.map (some W.heap.size)] 135)).alloc (.cells #[.slice A n c] 30)
    have q1 := ((he.alloc (.map #[] 0)).alloc (.cells #[.map (some W.heap.size)] 135)).alloc (.cells #[.slice A n c] 30)
    have qM := (CL.new (W.alloc (.map #[] 0)) (.map (some W.heap.size)) 135).alloc (.cells #[.slice A n c] 30)
    have qC := CL.new ((W.alloc (.map #[] 0)).alloc (.cells #[.map (some W.heap.size)] 135)) (.slice A n c) 30
    have qb := ((hb.alloc hb.size (.map #[] 0)).alloc (by simp; omega) (.cells #[.map (some W.heap.size)] 135)).alloc (by simp; omega) (.cells #[.slice A n c] 30)
    have qo := ((World.ownsMap_made W Tryz.prog 9 (plainElem (H := Unit) Tryz.prog 3)).alloc (.cells #[.map (some W.heap.size)] 135)).alloc (.cells #[.slice A n c] 30)
    have qD : (((W.alloc (.map #[] 0)).alloc (.cells #[.map (some W.heap.size)] 135)).alloc (.cells #[.slice A n c] 30)).heap[D]? = some (.deferred (some [])) := (Below.heap_alloc _ _ D (by simp; omega)).trans ((Below.heap_alloc _ _ D (by simp; omega)).trans ((Below.heap_alloc _ _ D hDl).trans hDf))
    rw [World.size_alloc] at qM
    rw [World.size_alloc, World.size_alloc] at qC
    clear h0 h1 hC hb3 hmm
    generalize hW1 : ((W.alloc (.map #[] 0)).alloc (.cells #[.map (some W.heap.size)] 135)).alloc (.cells #[.slice A n c] 30) = W1 at *
    have hz1 : W1.heap.size = W.heap.size + 1 + 1 + 1 := by rw [← hW1]; simp
    clear hW1
    have hrle := hr.lt
    have hele := he.lt
    clear hr he hb hDf
    refine range_over' A n c l (W.heap.size + 1 + 1) (fun k => k = w.heap.size ∨ k = w.heap.size + 1 ∨ k = W.heap.size) rfl rfl qC.at_ (hl.below qb) (fun ad h h' => by have := hlt ad h h'; omega) (by omega)
      (fun pre W2 => okN pre = true ∧ overL pre = false ∧ CL W2 w.heap.size (.slice none 0 0) ∧ CL W2 (w.heap.size + 1) (.int .i64 0) ∧ CL W2 (W.heap.size + 1) (.map (some W.heap.size)) ∧ W2.ownsMap Tryz.prog 9 (plainElem (H := Unit) Tryz.prog 3) W.heap.size pre.length (sumsN pre) ∧ W2.heap[D]? = some (.deferred (some [])) ∧ Below w.heap.size w W2)
      (fun c pre W2 => c = .ret ∧ overL pre = true ∧ CL W2 w.heap.size (.slice none 0 0) ∧ CL W2 (w.heap.size + 1) (.int .i64 50) ∧ W2.heap[D]? = some (.deferred (some [])) ∧ Below w.heap.size w W2)
      (fun s X Y row h hg hr => ⟨h.1, h.2.1, h.2.2.1.row hg hr, h.2.2.2.1.row hg hr, h.2.2.2.2.1.row hg hr, maps_row h.2.2.2.2.2.1 hg (by omega) hr, heap_row h.2.2.2.2.2.2.1 hg (by omega) hr, below_row h.2.2.2.2.2.2.2 hg (by have := h.2.2.1.lt; omega) (by omega) hr⟩)
      (fun c s X Y row h hg hr => ⟨h.1, h.2.1, h.2.2.1.row hg hr, h.2.2.2.1.row hg hr, heap_row h.2.2.2.2.1 hg (by omega) hr, below_row h.2.2.2.2.2 hg (by have := h.2.2.1.lt; omega) (by omega) hr⟩)
      ⟨rfl, rfl, q0, q1, qM, qo, qD, qb⟩ ?round2 ?done2 ?stop2
    case round2 =>
      apply Exists.intro
      constructor
      · intro l' x W K hx hK
        gi_wp2
        exact hK
      · rintro l' pre ⟨s, q⟩ W2 hx hzW2 ⟨hokp, hov, hr, he, hM, hown, hDD, hb⟩ hlen
        dsimp only at hx ⊢
        have hsl := hsa _ hx
        have hmx := okN_mem hok hx
        have hokn : okN (pre ++ [(s, q)]) = true := by rw [okN_snoc, hokp]; simp [okX, cMay, hmx.1, hmx.2.1, hmx.2.2]
        have htb := tot_bound hokp hov s
        have hsnoc := sumsN_snoc pre (s, q)
        have hDl2 := (Array.getElem?_eq_some_iff.1 hDD).1
        dsimp only at hsl hmx hsnoc
        obtain ⟨v, hlk, hat, hwv⟩ := hown.lookup_int (string_keyed Tryz.underlying9) Tryz.underlying135 Tryz.underlying3 (Tryz.zeroValue3 _) (keyS s hsl)
        have hvt : v = tot pre s := by
          have h1 := (sumsN_sm pre).val s
          rw [h1] at hat
          injection hat with hat
          injection hat with _ hat
          exact hat.symm
        subst hvt
        have m0 := hM.at_
        by_cases hsum : tot pre s + q ≤ 1099511627776
        · have hov2 : overL (pre ++ [(s, q)]) = false := over_snoc hov hsum
          have hwf : (Lit.int .i64 (tot pre s + q)).wf = true := wf_mk (by omega) (by omega)
          gi_wp2_with (refine ⟨trivial, ?_⟩; gi_at_call 83; refine (CallsIn.inRound l' (callsIn_wide.2 (Cnt.add_ok (tot pre s) q htb.1 htb.2 hmx.2.1 hmx.2.2 _))).mono ?_; rintro e W3 ⟨rfl, hb3⟩; rw [if_pos hsum]; obtain ⟨W4, hup, hown4, hgr⟩ := (ownsMap_below' hown hb3).update (string_keyed Tryz.underlying9) Tryz.underlying135 (by simp only [maxLen]; omega) (keyS s hsl) (plainElem_int (H := Unit) Tryz.underlying3 hwf); have hM3 := hM.below hb3; have m3 := hM3.at_)
          have hk4 := Keep.of_grown hgr
          have hbW3 := hb.trans (hb3.mono hb.size)
          refine ⟨(Keep.from_below hb3).trans (hk4.from (fun k hk hB e => by simp at e; omega)), ⟨Nat.le_trans hb3.size hk4.size, fun k hk hS => ?_⟩, hokn, hov2, (hr.below hb3).kept hk4 (by simp; omega), (he.below hb3).kept hk4 (by simp; omega), hM3.kept hk4 (by simp), ?_, ?_, hbW3.trans (hk4.below hbW3.size (fun k hk e => by simp at e; omega))⟩
          · rw [hk4.block k (by have := hb3.size; omega) (fun e => by simp at e; omega)]
            exact hb3.block k (by omega)
          · rw [hsnoc, List.length_append]
            exact hown4
          · rw [hk4.block D (by have := hb3.size; omega) (fun e => by simp at e; omega), hb3.block D hDl2]
            exact hDD
        · have hov2 : overL (pre ++ [(s, q)]) = true := over_now hsum
          gi_wp2_with (refine ⟨trivial, ?_⟩; gi_at_call 83; refine (CallsIn.inRound l' (callsIn_wide.2 (Cnt.add_ok (tot pre s) q htb.1 htb.2 hmx.2.1 hmx.2.2 _))).mono ?_; rintro e W3 ⟨rfl, hb3⟩; rw [if_neg hsum]; have hr3 := hr.below hb3; have he3 := he.below hb3; have r3 := hr3.at_; have f3 := hr3.fz; have c3 := he3.at_; have g3 := he3.fz)
          have hbW3 := hb.trans (hb3.mono hb.size)
          refine ⟨((Keep.from_below hb3).trans ((KeepsOthers.setCell W3 _ _).from _)).trans ((KeepsOthers.setCell _ _ _).from _), rfl, hov2, (hr3.set_ _).other (by omega) _ _, (he3.other (by omega) _ _).set_ _, ?_, (hbW3.setCell (p := ⟨w.heap.size, 0, none⟩) (Nat.le_refl _) _).setCell (p := ⟨w.heap.size + 1, 0, none⟩) (by dsimp only; omega) _⟩
          exact (Below.heap_setCell _ _ _ D (by dsimp only; omega)).trans ((Below.heap_setCell _ _ _ D (by dsimp only; omega)).trans ((hb3.block D hDl2).trans hDD))
    case stop2 =>
      rintro D2 c pre W2 hD2 hpre ⟨rfl, hbad, hr, he, hDD, hb⟩ hDf2
      have hov := over_more hpre hok hbad
      have hE : normE l = 50 := by unfold normE; rw [hok, hov]
      have hR : normR l = [] := by unfold normR; rw [hE]; rfl
      have hne : D ≠ D2 := by omega
      dsimp only
      gi_wp2
      have hDD2 : (W2.putObj D2 (.deferred none)).heap[D]? = some (.deferred (some [])) := (World.putObj_heap_other hne).trans hDD
      refine ⟨by simp, .inl ⟨_, _, rfl, run_takeDeferred hDf2, by simp, .inl ⟨_, _, rfl, run_takeDeferred hDD2, ?_⟩⟩⟩
      have c0 := ((hr.iter D2 _ (.deferred none) hDf2 rfl).iter D _ (.deferred none) hDD2 rfl).at_
      have c1 := ((he.iter D2 _ (.deferred none) hDf2 rfl).iter D _ (.deferred none) hDD2 rfl).at_
      refine ⟨.tuple #[.slice none 0 0, .int .i64 50], by simp [results, Tryz.f72, go_sem, c0, c1], _, by rw [hE], by rw [hR]; exact OI.nil _ _, below_putD (below_putD hb (by omega) hDf2) (by omega) hDD2⟩
    case done2 =>
      rintro D2 W2 hD2 ⟨hokp, hov, hr, he, hM, hown, hDD, hb⟩ hDf2
      have m0 := hM.at_
      have hne : D ≠ D2 := by omega
      have hlz := hl.len
      have hDl2 := (Array.getElem?_eq_some_iff.1 hDD).1
      have hDl3 := (Array.getElem?_eq_some_iff.1 hDf2).1
      have hr2 := hr.lt
      have he2 := he.lt
      dsimp only
      by_cases h16 : 16 < (rowsN l).length
      · have hE : normE l = 3 := by unfold normE; rw [hok, hov]; simp [h16]
        have hR : normR l = [] := by unfold normR; rw [hE]; rfl
        gi_wp2_with (refine ⟨trivial, ?_⟩; gi_at_call 84; refine (callsIn_wide.2 (listed_any W.heap.size l.length _ _ W2 hown (sumsN_sm l).val (by have := hown.size_le; omega))).mono ?_; rintro e W4 ⟨v, rfl, ho4, hb4⟩; change OI _ _ _ (rowsN l) at ho4; obtain ⟨LA, lc, rfl, _⟩ := ho4.form; have hr4 := hr.below hb4; have he4 := he.below hb4; have r4 := hr4.at_; have f4 := hr4.fz; have c4 := he4.at_; have g4 := he4.fz; have hbW4 := hb.trans (hb4.mono hb.size))
        have hD4 := (hb4.block D hDl2).trans hDD
        have hD24 := (hb4.block D2 hDl3).trans hDf2
        have hDs : ((W4.setCell ⟨w.heap.size, 0, none⟩ (.slice none 0 0)).setCell ⟨w.heap.size + 1, 0, none⟩ (.int .i64 3)).heap[D2]? = some (.deferred (some [])) := (Below.heap_setCell _ _ _ D2 (by dsimp only; omega)).trans ((Below.heap_setCell _ _ _ D2 (by dsimp only; omega)).trans hD24)
        have hDs2 : (((W4.setCell ⟨w.heap.size, 0, none⟩ (.slice none 0 0)).setCell ⟨w.heap.size + 1, 0, none⟩ (.int .i64 3)).putObj D2 (.deferred none)).heap[D]? = some (.deferred (some [])) := (World.putObj_heap_other hne).trans ((Below.heap_setCell _ _ _ D (by dsimp only; omega)).trans ((Below.heap_setCell _ _ _ D (by dsimp only; omega)).trans hD4))
        refine ⟨by simp, .inl ⟨_, _, rfl, run_takeDeferred hDs, by simp, .inl ⟨_, _, rfl, run_takeDeferred hDs2, ?_⟩⟩⟩
        have c0 := ((((hr4.set_ (.slice none 0 0)).other (c := w.heap.size + 1) (by omega) 0 (.int .i64 3)).iter D2 _ (.deferred none) hDs rfl).iter D _ (.deferred none) hDs2 rfl).at_
        have c1 := ((((he4.other (c := w.heap.size) (by omega) 0 (.slice none 0 0)).set_ (.int .i64 3)).iter D2 _ (.deferred none) hDs rfl).iter D _ (.deferred none) hDs2 rfl).at_
        refine ⟨.tuple #[.slice none 0 0, .int .i64 3], by simp [results, Tryz.f72, go_sem, c0, c1], _, by rw [hE], by rw [hR]; exact OI.nil _ _, below_putD (below_putD ((hbW4.setCell (p := ⟨w.heap.size, 0, none⟩) (Nat.le_refl _) _).setCell (p := ⟨w.heap.size + 1, 0, none⟩) (by dsimp only; omega) _) (by omega) hDs) (by omega) hDs2⟩
      · have hE : normE l = 0 := by unfold normE; rw [hok, hov]; simp [h16]
        have hR : normR l = rowsN l := by unfold normR; rw [hE]; rfl
        gi_wp2_with (refine ⟨trivial, ?_⟩; gi_at_call 84; refine (callsIn_wide.2 (listed_any W.heap.size l.length _ _ W2 hown (sumsN_sm l).val (by have := hown.size_le; omega))).mono ?_; rintro e W4 ⟨v, rfl, ho4, hb4⟩; change OI _ _ _ (rowsN l) at ho4; obtain ⟨LA, lc, rfl, _⟩ := ho4.form; have hr4 := hr.below hb4; have he4 := he.below hb4; have r4 := hr4.at_; have f4 := hr4.fz; have c4 := he4.at_; have g4 := he4.fz; have hbW4 := hb.trans (hb4.mono hb.size))
        have hD4 := (hb4.block D hDl2).trans hDD
        have hD24 := (hb4.block D2 hDl3).trans hDf2
        have hDs : ((W4.setCell ⟨w.heap.size, 0, none⟩ (.slice LA (rowsN l).length lc)).setCell ⟨w.heap.size + 1, 0, none⟩ (.int .i64 0)).heap[D2]? = some (.deferred (some [])) := (Below.heap_setCell _ _ _ D2 (by dsimp only; omega)).trans ((Below.heap_setCell _ _ _ D2 (by dsimp only; omega)).trans hD24)
        have hDs2 : (((W4.setCell ⟨w.heap.size, 0, none⟩ (.slice LA (rowsN l).length lc)).setCell ⟨w.heap.size + 1, 0, none⟩ (.int .i64 0)).putObj D2 (.deferred none)).heap[D]? = some (.deferred (some [])) := (World.putObj_heap_other hne).trans ((Below.heap_setCell _ _ _ D (by dsimp only; omega)).trans ((Below.heap_setCell _ _ _ D (by dsimp only; omega)).trans hD4))
        refine ⟨by simp, .inl ⟨_, _, rfl, run_takeDeferred hDs, by simp, .inl ⟨_, _, rfl, run_takeDeferred hDs2, ?_⟩⟩⟩
        have c0 := ((((hr4.set_ (.slice LA (rowsN l).length lc)).other (c := w.heap.size + 1) (by omega) 0 (.int .i64 0)).iter D2 _ (.deferred none) hDs rfl).iter D _ (.deferred none) hDs2 rfl).at_
        have c1 := ((((he4.other (c := w.heap.size) (by omega) 0 (.slice LA (rowsN l).length lc)).set_ (.int .i64 0)).iter D2 _ (.deferred none) hDs rfl).iter D _ (.deferred none) hDs2 rfl).at_
        refine ⟨.tuple #[.slice LA (rowsN l).length lc, .int .i64 0], by simp [results, Tryz.f72, go_sem, c0, c1], _, by rw [hE], ?_, below_putD (below_putD ((hbW4.setCell (p := ⟨w.heap.size, 0, none⟩) (Nat.le_refl _) _).setCell (p := ⟨w.heap.size + 1, 0, none⟩) (by dsimp only; omega) _) (by omega) hDs) (by omega) hDs2⟩
        rw [hR]
        exact ((((ho4.set_ (b := w.heap.size) (by omega) 0 _).set_ (b := w.heap.size + 1) (by omega) 0 _).mono (by omega)).putD hDs).putD hDs2
end
section
open Go.RowKit Go.Maps Go.Shelf Go.Sort
set_option linter.unusedVariables false
set_option linter.unusedSimpArgs false

theorem IL.none_zero {w : World} {A : Option Addr} {n : Nat} {l : List It} (h : IL w A n l) (ha : A = none) : n = 0 := by
  rcases Nat.eq_zero_or_pos n with h0 | h0
  · exact h0
  · obtain ⟨b, off, x, e, _⟩ := h.place h0
    rw [ha] at e
    cases e
theorem OI.made (base : Nat) (w : World) (hb : base ≤ w.heap.size) : OI base (w.alloc (.cells #[] 54)) (.slice (some ⟨w.heap.size, 0, none⟩) 0 0) [] :=
  ⟨rfl, .inr ⟨w.heap.size, 0, #[], rfl, hb, heap_alloc_new w _, Nat.le_refl _, by simp [maxLen], rfl, rfl⟩⟩

theorem own_lt {v : Value} {b n c : Nat} (hv : v = .slice (some ⟨b, 0, none⟩) n c) : ∀ k, k < b → ¬ v.ownBlock = some k := by
  subst hv
  intro k hk e
  have e' : b = k := by simpa [Value.ownBlock] using e
  omega
set_option maxRecDepth 100000 in
set_option maxHeartbeats 1600000 in
theorem clone_any (A : Option Addr) (n c : Nat) (l : List It) (w : World) (hl : IL w A n l) (hn : n * 24 ≤ 140737488355328) :
    Calls Tryz.prog 26 #[.slice A n c] w fun e w' => ∃ v, e = .returned v ∧ OI w.heap.size w' v l ∧ Below w.heap.size w w' := by
  have hq := fun w => Lib.run_eql_slice_nil (P := Tryz.prog) w _ _ A n c 0 0 Tryz.underlying30
  have hlen := hl.len
  cases A with
  | none =>
    have h0 := hl.none_zero rfl
    subst h0
    obtain rfl : l = [] := List.eq_nil_of_length_eq_zero hlen
    go_enter Tryz.func26, Tryz.ntmps26
    go_wp2
    go_ret
    exact ⟨_, rfl, OI.nil _ _, Below.refl _ _⟩
  | some ad =>
    go_enter Tryz.func26, Tryz.ntmps26
    go_wp2_with (at_builtin; refine wpAppI rfl _ _ rfl w.heap.size _ [] rfl (OI.made _ _ (Nat.le_refl _)) (some ad) n c l rfl (hl.alloc _) (fun h => by cases h) (by simp; omega) (by simp) ?_; rintro v' w3 hO3 hk3 hl3)
    go_ret
    rw [List.nil_append] at hO3
    refine ⟨_, rfl, hO3, ((Below.refl w.heap.size w).alloc (Nat.le_refl _) _).trans (hk3.below (by simp) (own_lt rfl))⟩

set_option maxRecDepth 100000 in
set_option maxHeartbeats 1600000 in
theorem grow_nil (k : Nat) (w : World) (hk : k ≤ 1048576) :
    Calls Tryz.prog 85 #[.slice none 0 0, .int .i64 (k : Int)] w fun e w' => ∃ v, e = .returned v ∧ OI w.heap.size w' v [] ∧ Below w.heap.size w w' := by
  obtain ⟨i, hi, hz, hs, hb⟩ := info_parts item_info
  have h1 : ¬ (k : Int) < 0 := by omega
  have hw1 : wrap64 ((k : Int) - 0) = (k : Int) := by unfold wrap64; omega
  by_cases h0 : k = 0
  · subst h0
    go_enter Tryz.func85, Tryz.ntmps85
    go_wp2
    go_ret
    exact ⟨_, rfl, OI.nil _ _, Below.refl _ _⟩
  · have h2 : 0 < (k : Int) := by omega
    have hrun := fun ty => Lib.run_append_nil_zeros (P := Tryz.prog) w 30 3 ty 54 i _ .i64 .i64 Tryz.underlying30 Tryz.underlying3 hi hz k (by omega) (by omega) (by omega) (by rw [hb]; omega)
    have hcl := grownCap_le_maxLen w k 0 54 (by simp only [maxLen]; omega)
    have hcg := grownCap_ge w k 0 54
    generalize grownCap w k 0 54 = cap at *
    have hcap0 : (0 : Int) ≤ (cap : Int) := by omega
    go_enter Tryz.func85, Tryz.ntmps85
    go_wp2_with (at_builtin; refine Lib.wpList_append_run _ rfl _ _ _ _ rfl _ _ rfl rfl _ _ (hrun _) ?_)
    go_ret
    refine ⟨_, rfl, ⟨rfl, .inr ⟨w.heap.size, cap, _, rfl, Nat.le_refl _, heap_alloc_new w.drew _, Nat.zero_le _, hcl, ?_, by simp⟩⟩, (Below.refl w.heap.size w).drew.alloc (Nat.le_refl _) _⟩
    simp [Builtin.zeroCells, Value.cells]
    omega

/-- How many items lie ahead of list k of two. -/
def upTo2 (n n' k : Nat) : Nat := match k with | 0 => 0 | 1 => n | _ => n + n'
def lists2 (l l' : List It) (k : Nat) : List It := match k with | 0 => [] | 1 => l | _ => l ++ l'

set_option maxRecDepth 100000 in
set_option maxHeartbeats 3200000 in
theorem concat_two (g : Nat) (A A' : Option Addr) (n c n' c' : Nat) (l l' : List It) (w : World) (h0 : w.cell? ⟨g, 0, none⟩ = some (.slice A n c)) (h1 : w.cell? ⟨g, 1, none⟩ = some (.slice A' n' c')) (hl : IL w A n l) (hl' : IL w A' n' l') (hn : n ≤ 500000) (hn' : n' ≤ 500000) :
    Calls Tryz.prog 73 #[.slice (some ⟨g, 0, none⟩) 2 2] w fun e w' => ∃ v, e = .returned v ∧ OI w.heap.size w' v (l ++ l') ∧ Below w.heap.size w w' := by
  have hlen := hl.len
  have hlen' := hl'.len
  have hg := World.block_lt_of_cell? _ _ h0
  dsimp only at hg
  go_enter Tryz.func73, Tryz.ntmps73
  go_wp2
  go_loopw [3, 5, 11] (fun sz s i wr => wr = w ∧ ∃ k : Nat, i = .int .i64 (k : Int) ∧ k ≤ 2 ∧ sz = .int .i64 (upTo2 n n' k : Int)) (fun _ _ i _ => 2 - (intOf i).toNat)
  case atStart => exact ⟨rfl, 0, by go_num, by omega, rfl⟩
  case round =>
    obtain ⟨hw, k, rfl, hk, rfl⟩ := hrel
    have hw' := hw.symm
    subst hw'
    rcases (by omega : k = 0 ∨ k = 1 ∨ k = 2) with rfl | rfl | rfl
    · have hnn : ¬ (n : Int) < 0 := by omega
      have hw0 : wrap64 (0 + (n : Int)) = (n : Int) := by unfold wrap64; omega
      simp only [upTo2]
      go_wp2
      go_roundw
      case measure => simp [intOf]
      case rel => exact ⟨trivial, 1, by go_num, by omega, rfl⟩
    · have hnn : ¬ ((n : Int) + (n' : Int)) < 0 := by omega
      have hw0 : wrap64 ((n : Int) + (n' : Int)) = (n : Int) + (n' : Int) := by unfold wrap64; omega
      simp only [upTo2]
      go_wp2
      go_roundw
      case measure => simp [intOf]
      case rel => exact ⟨trivial, 2, by go_num, by omega, by simp [upTo2]⟩
    · simp only [upTo2]
      go_wp2_with (go_at_call 85; refine (grow_nil (n + n') _ (by omega)).mono ?_; rintro e w2 ⟨v, rfl, ho2, hb2⟩; have h02 := (hb2.cell (p := ⟨g, 0, none⟩) hg).trans h0; have h12 := (hb2.cell (p := ⟨g, 1, none⟩) hg).trans h1)
      go_loopw [6, 8, 27] (fun v s i w3 => ∃ k : Nat, i = .int .i64 (k : Int) ∧ k ≤ 2 ∧ OI w.heap.size w3 v (lists2 l l' k) ∧ Below w.heap.size w w3) (fun _ _ i _ => 2 - (intOf i).toNat)
      case atStart => exact ⟨0, by go_num, by omega, ho2, hb2⟩
      case round =>
        obtain ⟨k, rfl, hk, hO, hB⟩ := hrel
        have hl3 := hl.below hB
        have hl3' := hl'.below hB
        have h03 := (hB.cell (p := ⟨g, 0, none⟩) hg).trans h0
        have h13 := (hB.cell (p := ⟨g, 1, none⟩) hg).trans h1
        have hzB := hB.size
        rcases (by omega : k = 0 ∨ k = 1 ∨ k = 2) with rfl | rfl | rfl
        · go_wp2_with (at_builtin; refine wpAppI rfl _ _ rfl w.heap.size _ [] rfl hO A n c l rfl hl3 hl3.none_zero (by simp; omega) hzB ?_; rintro v' w4 hO4 hk4 hl4)
          go_roundw
          case measure => simp [intOf]
          case rel => exact ⟨1, by go_num, by omega, hO4, hB.trans (hk4.below hzB (fun j hj e => by have := (hO.lt j e).1; omega))⟩
        · go_wp2_with (at_builtin; refine wpAppI rfl _ _ rfl w.heap.size _ l rfl hO A' n' c' l' rfl hl3' hl3'.none_zero (by omega) hzB ?_; rintro v' w4 hO4 hk4 hl4)
          go_roundw
          case measure => simp [intOf]
          case rel => exact ⟨2, by go_num, by omega, hO4, hB.trans (hk4.below hzB (fun j hj e => by have := (hO.lt j e).1; omega))⟩
        · go_wp2
          go_ret
          exact ⟨_, rfl, hO, hB⟩
end
section
open Go.RowKit Go.Maps Go.Shelf Go.Sort
set_option linter.unusedVariables false
set_option linter.unusedSimpArgs false

/-- Goods are texts, numbers are ints. -/
def WL (l : List It) : Prop := ∀ x ∈ l, x.1.length ≤ maxLen ∧ (Lit.int .i64 x.2).wf = true
theorem wf_of {a : Int} (h : (Lit.int .i64 a).wf = true) : -9223372036854775808 ≤ a ∧ a ≤ 9223372036854775807 := by
  simpa [Lit.wf, IntKind.min, IntKind.max, IntKind.signed, IntKind.bits] using h
theorem wrap64_in (a : Int) : -9223372036854775808 ≤ wrap64 a ∧ wrap64 a ≤ 9223372036854775807 := by
  unfold wrap64
  omega
theorem ofL_in (l : List It) (g : List UInt8) : -9223372036854775808 ≤ ofL l g ∧ ofL l g ≤ 9223372036854775807 := by
  induction l using snoc_ind with
  | h0 => exact ⟨by show _ ≤ (0 : Int); decide, by show (0 : Int) ≤ _; decide⟩
  | h1 l x ih =>
    rw [ofL_snoc]
    split
    · exact wrap64_in _
    · exact ih
theorem WL.sa {l : List It} (h : WL l) : ∀ x ∈ l, x.1.length ≤ maxLen := fun x hx => (h x hx).1
theorem WL.min {l : List It} (h : WL l) (lb : List It) : ∀ x ∈ l, (Lit.int .i64 (min x.2 (ofL lb x.1))).wf = true := fun x hx => by
  have h1 := wf_of (h x hx).2
  have h2 := ofL_in lb x.1
  exact wf_mk (by omega) (by omega)
theorem WL.max {l : List It} (h : WL l) (lb : List It) : ∀ x ∈ l, (Lit.int .i64 (max 0 (wrap64 (x.2 - ofL lb x.1)))).wf = true := fun x hx => by
  have h2 := wrap64_in (x.2 - ofL lb x.1)
  exact wf_mk (by omega) (by omega)
theorem WL.app {l l' : List It} (h : WL l) (h' : WL l') : WL (l ++ l') := fun x hx => (List.mem_append.1 hx).elim (h x) (h' x)

def meetL (a b : List It) : List It := ifMay (mayL a && mayL b) (leftL (fun x => min x.2 (ofL b x.1)) a)
def restL (a b : List It) : List It := ifMay (mayL a && mayL b) (leftL (fun x => max 0 (wrap64 (x.2 - ofL b x.1))) a)
def coversL (a b : List It) : Bool := (mayL a && mayL b) && decide ((restL b a).length = 0)
def plusE (a b : List It) : Int := match mayL a && mayL b with | true => normE (a ++ b) | false => 60
def plusR (a b : List It) : List It := ifMay (mayL a && mayL b) (normR (a ++ b))
def minusE (a b : List It) : Int := match mayL a && mayL b with | true => (match coversL a b with | true => 0 | false => 51) | false => 60
def minusR (a b : List It) : List It := match minusE a b with | 0 => restL a b | _ => []

section
variable (A A' : Option Addr) (n c n' c' : Nat) (la lb : List It) (w : World)
set_option maxRecDepth 100000 in
theorem plus_any (hla : IL w A n la) (hlb : IL w A' n' lb) (hn : n ≤ 500000) (hn' : n' ≤ 500000) (hw : WL la) (hw' : WL lb) :
    Calls Tryz.prog 50 #[.slice A n c, .slice A' n' c'] w fun e w' => ∃ v, e = .returned (.tuple #[v, .int .i64 (plusE la lb)]) ∧ OI w.heap.size w' v (plusR la lb) ∧ Below w.heap.size w w' := by
  have hlen := hla.len
  have hlen' := hlb.len
  cases hm : (mayL la && mayL lb) with
  | false =>
    have hE : plusE la lb = 60 := by unfold plusE; rw [hm]
    have hR : plusR la lb = [] := by unfold plusR; rw [hm]; rfl
    go_enter Tryz.func50, Tryz.ntmps50
    go_wp2_with (go_at_call 71; refine (mayBoth_any A A' n c n' c' la lb _ hla hlb (by omega) (by omega)).mono ?_; rintro e w1 ⟨rfl, hb1⟩; rw [hm])
    go_ret2
    exact ⟨.slice none 0 0, by rw [hE]; rfl, by rw [hR]; exact OI.nil _ _, hb1⟩
  | true =>
    have hE : plusE la lb = normE (la ++ lb) := by unfold plusE; rw [hm]
    have hR : plusR la lb = normR (la ++ lb) := by unfold plusR; rw [hm]; rfl
    go_enter Tryz.func50, Tryz.ntmps50
    go_wp2_with fail
    refine (mayBoth_any A A' n c n' c' la lb _ hla hlb (by omega) (by omega)).mono ?_
    rintro e w1 ⟨rfl, hb1⟩
    rw [hm]
    have hB := Blk.new w1 30 #[.slice A n c, .slice A' n' c']
    have hla1 := (hla.below hb1).alloc (.cells #[.slice A n c, .slice A' n' c'] 30)
    have hlb1 := (hlb.below hb1).alloc (.cells #[.slice A n c, .slice A' n' c'] 30)
    have hb1' := hb1.alloc hb1.size (.cells #[.slice A n c, .slice A' n' c'] 30)
    go_wp2_with fail
    refine (concat_two w1.heap.size A A' n c n' c' la lb _ (hB.cell 0) (hB.cell 1) hla1 hlb1 hn hn').mono ?_
    rintro e w2 ⟨v, rfl, ho2, hb2⟩
    obtain ⟨CA, cc, hv, hlc, hcm, hil2, _⟩ := ho2.form
    obtain ⟨N, hN⟩ : ∃ N, (la ++ lb).length = N := ⟨_, rfl⟩
    have hNl : N ≤ 1048576 := by rw [← hN, List.length_append]; omega
    rw [hN] at hv hil2
    subst hv
    clear hlc hcm hN
    go_wp2_with fail
    refine (norm_any CA N cc (la ++ lb) w2 hil2 hNl ((hw.app hw').sa)).mono ?_
    rintro e w3 ⟨v, rfl, ho3, hb3⟩
    go_wp2_with fail
    go_ret2
    have hb12 := hb1'.trans (hb2.mono hb1'.size)
    exact ⟨v, by rw [hE]; rfl, by rw [hR]; exact ho3.mono hb12.size, hb12.trans (hb3.mono hb12.size)⟩
end
end
end Go.Proofs.YtjjghhhhalendaaGreat
