/- listed: what a map of sums has, in order. No condition but the map's size. -/
import Derived.Test.YtfpcnenohidfpaaGreatKeys
import Derived.StringKeys
namespace Go.Proofs.YtfpcnenohidfpaaGreat
open Go.RowKit Go.Maps Go.Shelf Go.Sort
set_option linter.unusedVariables false
set_option linter.unusedSimpArgs false

theorem IL.one (w : World) (s : List UInt8) (q : Int) (t : TypeId) : IL (w.alloc (.cells #[.string ⟨s.toArray⟩, .int .i64 q] t)) (some ⟨w.heap.size, 0, none⟩) 1 [(s, q)] := by
  have hB := Blk.new w t #[.string ⟨s.toArray⟩, .int .i64 q]
  refine ⟨rfl, fun j x hx => ?_⟩
  match j, hx with
  | 0, hx =>
    simp at hx
    subst hx
    exact ⟨_, 0, rfl, hB.cell 0, hB.cell 1⟩
section
variable {w : World} {ops : Array Oper} {rest : List Oper} {o : Oper} {a : Act} {Q : Exit → Act → World → Prop}
theorem wpAppI (hgd : o.guard = none) (s x : Operand) (ho : o.op = .call { callee := .builtin .append, args := #[s, x], argTypes := #[67, 67] })
    (base : Nat) (v : Value) (l : List It) (hs : a.eval s = v) (hown : OI base w v l) (A : Option Addr) (m c : Nat) (news : List It) (hx : a.eval x = .slice A m c) (hr : IL w A m news) (hmn : A = none → m = 0)
    (hn : (l.length + m) * 24 ≤ 140737488355328) (hbase : base ≤ w.heap.size)
    (h : ∀ v' w', OI base w' v' (l ++ news) → Keep (fun k => v.ownBlock = some k) w w' → (v'.ownBlock = v.ownBlock ∨ v'.ownBlock = some w.heap.size) → wpList Tryz.prog ops Q rest (a.put o.dst v') w') : wpList Tryz.prog ops Q (o :: rest) a w := by
  refine wpList_plain hgd fun K hK => ?_
  obtain ⟨v', w', hrun, h2, h3, h4⟩ := run_appI w base o.type v l hown A m c news hr hmn hn hbase
  unfold Oper.wp execOp
  simp only [ho, resolve, invoke, builtin, Sem.run_bind, Sem.run_pure, Result.andThen_ok, List.map_toArray, List.map_cons, List.map_nil, hs, hx, hrun]
  exact hK _ _ (h v' w' h2 h3 h4)
end
theorem KS.of {base : Nat} {w : World} {v : Value} {ks : List (List UInt8)} (h : w.ownsRow base 9 1 v ks.length (ks.map encStr)) : KS w v ks ∧ ∃ A cap, v = .slice A ks.length cap ∧ ∀ g, v.ownBlock = some g → base ≤ g := by
  rcases h.2 with ⟨rfl, h0⟩ | ⟨g, cap, cur, rfl, hb, rest⟩
  · exact ⟨⟨h.1, .inl ⟨rfl, h0⟩⟩, none, 0, by rw [h0], fun g hg => by simp [Value.ownBlock] at hg⟩
  · exact ⟨⟨h.1, .inr ⟨g, cap, cur, rfl, by omega, rest⟩⟩, _, cap, rfl, fun g' hg => by simp [Value.ownBlock] at hg; omega⟩
theorem keyS (s : List UInt8) (h : s.length ≤ maxLen) : keyOf Tryz.prog 9 (.string ⟨s.toArray⟩) = some (.string s) := by
  have := WideMaps.keyOf_string_mk (P := Tryz.prog) (s := ⟨s.toArray⟩) Tryz.underlying9 (by rw [str_size]; exact h)
  simpa using this
theorem listedL_take (ks : List (List UInt8)) (f : List UInt8 → Int) (k : Nat) (s : List UInt8) (h : ks[k]? = some s) : listedL (ks.take (k + 1)) f = if f s = 0 then listedL (ks.take k) f else listedL (ks.take k) f ++ [(s, f s)] := by
  rw [List.take_add_one, h]
  exact listedL_snoc _ _ _
theorem ownsMap_below' {H : Type} {P : Program} {k : TypeId} {R : Value → Option (DataW H × List MemPlace)} {w w' : World} {b n : Nat} {D : DataW H} (h : w.ownsMap P k R b n D) (hb : Below w.heap.size w w') : w'.ownsMap P k R b n D := by
  obtain ⟨es, clock, h1, Ft, hs, hD⟩ := h
  exact ⟨es, clock, (hb.block b (Array.getElem?_eq_some_iff.1 h1).1).trans h1, Ft, hs, hD⟩
theorem listedL_len (ks : List (List UInt8)) (f : List UInt8 → Int) : (listedL ks f).length ≤ ks.length := List.length_filterMap_le _ _

set_option maxRecDepth 100000 in
set_option maxHeartbeats 3200000 in
theorem listed_any {H : Type} (b nn : Nat) (D0 : DataW H) (f : List UInt8 → Int) (w : World) (hown : w.ownsMap Tryz.prog 9 (plainElem (H := H) Tryz.prog 3) b nn D0) (hv : ∀ g, D0.atKey (.string g) (.lit (.int .i64 0)) = .lit (.int .i64 (f g))) (hmax : Maps.size D0 ≤ 1048576) :
    Calls Tryz.prog 81 #[.map (some b)] w fun e w' => ∃ v, e = .returned v ∧ OI w.heap.size w' v (listedL ((strKeys D0).mergeSort leB) f) ∧ Below w.heap.size w w' := by
  have hkle := strKeys_le hown Tryz.underlying9
  have hbl := hown.lt
  have hsl : (strKeys D0).length = Maps.size D0 := by
    obtain ⟨es, rfl, _⟩ := hown.keysOf
    simp [strKeys, Maps.size_eq]
  generalize hks2 : (strKeys D0).mergeSort leB = ks
  have hmem : ∀ s ∈ ks, s.length ≤ maxLen := fun s hs => hkle s (by rw [← hks2] at hs; simpa using hs)
  have hsz : ks.length ≤ 1048576 := by
    rw [← hks2, List.length_mergeSort, hsl]
    exact hmax
  go_enter Tryz.func81, Tryz.ntmps81
  go_wp2_with fail
  refine (keys_any (some b) _).mono ?_
  rintro e w1 ⟨rfl, rfl⟩
  go_wp2_with fail
  refine (sorted_any b nn D0 _ w hown (by simp only [maxLen]; omega) (by omega)).mono ?_
  rintro e w2 ⟨kv, ss, rfl, hS, hrow, hnil, hb⟩
  have hb2 : Below w.heap.size w w2 := ((Below.refl w.heap.size w).alloc (Nat.le_refl _) _).trans (hb.mono (by simp))
  have hss : ss.mergeSort (fun x y => decide (x ≤ y)) = ks := by rw [← hks2]; exact mergeSort_of_perm hS
  have hlen : ss.length = ks.length := by rw [← hss, List.length_mergeSort]
  rw [hss, hlen] at hrow
  clear hnil hS hb hss hlen hks2 hkle hsl
  obtain ⟨hK, KA, kc, rfl, hKb⟩ := KS.of hrow
  clear hrow
  rw [World.size_alloc] at hKb
  have hown2 : w2.ownsMap Tryz.prog 9 (plainElem (H := H) Tryz.prog 3) b nn D0 := ownsMap_below' hown hb2
  go_wp2
  go_loopw [3, 5, 6, 11] (fun v u5 u6 i wr => ∃ k : Nat, i = .int .i64 (k : Int) ∧ k ≤ ks.length ∧ OI w.heap.size wr v (listedL (ks.take k) f) ∧ KS wr (.slice KA ks.length kc) ks ∧ Below w.heap.size w wr ∧ Below b.succ w wr) (fun _ _ _ i _ => ks.length - (intOf i).toNat)
  case atStart => exact ⟨0, by go_num, by omega, OI.nil _ _, hK, hb2, hb2.mono hbl⟩
  case round =>
    obtain ⟨k, rfl, hk, hO, hKr, hbw, hbb⟩ := hrel
    by_cases hlt : k < ks.length
    · have hlz : (k : Int) < (ks.length : Int) := by omega
      obtain ⟨kb, off, s, rfl, hs, hcell⟩ := hKr.at_ hlt rfl
      have hownr := ownsMap_below' hown hbw
      have hml := hmem s (List.mem_of_getElem? hs)
      obtain ⟨q, hlk, hat, hwq⟩ := hownr.lookup_int (string_keyed Tryz.underlying9) Tryz.underlying138 Tryz.underlying3 (Tryz.zeroValue3 _) (keyS s hml)
      have hfs : f s = q := by
        have h1 := hv s
        rw [h1] at hat
        injection hat with hat
        injection hat
      have htk := listedL_take ks f k s hs
      rw [hfs] at htk
      have hlen2 := listedL_len (ks.take k) f
      rw [List.length_take] at hlen2
      by_cases hq : q = 0
      · subst hq
        rw [if_pos rfl] at htk
        go_wp2
        go_roundw
        case measure => simp [intOf]; omega
        case rel => exact ⟨k + 1, by go_num, by omega, by rw [htk]; exact hO, hKr, hbw, hbb⟩
      · rw [if_neg hq] at htk
        have hqb : (q == 0) = false := beq_eq_false_iff_ne.2 hq
        have hzr := hbw.size
        go_wp2_with (at_builtin; refine wpAppI rfl _ _ rfl w.heap.size _ _ rfl (hO.alloc _) _ 1 1 [(s, q)] rfl (IL.one wr s q _) (fun h => by cases h) (by omega) (by simp; omega) ?_; rintro v' w3 hO3 hk3 hl3)
        go_roundw
        case measure => simp [intOf]; omega
        case rel =>
          have hk3' := ((Keep.refl (fun j => u3.ownBlock = some j) wr).alloc (.cells #[.string ⟨s.toArray⟩, .int .i64 q] 66)).trans hk3 (fun _ _ h => h)
          have hbw3 := hbw.trans (hk3'.below hbw.size (fun j hj e => by have := (hO.lt j e).1; omega))
          exact ⟨k + 1, by go_num, by omega, by rw [htk]; exact hO3, hKr.kept hk3' (fun g hg hu => hKr.ne hO g hg hu), hbw3, hbw3.mono hbl⟩
    · have hlz : ¬ (k : Int) < (ks.length : Int) := by omega
      rw [List.take_of_length_le (by omega)] at hO
      go_wp2
      go_ret
      exact ⟨_, rfl, hO, hbw⟩
end Go.Proofs.YtfpcnenohidfpaaGreat
