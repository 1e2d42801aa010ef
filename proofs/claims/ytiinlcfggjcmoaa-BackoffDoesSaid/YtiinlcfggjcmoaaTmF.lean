/- What the document says of timers, on lists in memory: rows read, rows that a slice owns, Drop, Set. No condition but that the lists are not huge. -/
import Derived.Test.YtiinlcfggjcmoaaTmL
namespace Go.Proofs.Ytiinlcfggjcmoaa
open Go.RowKit Go.Maps Go.Sort Go.Shelf
set_option linter.unusedVariables false
set_option linter.unusedSimpArgs false

theorem TF_info : (Try.prog.info? 34).map (fun i => (i.zero, i.size, i.bytes)) = some (some (.agg #[.int .i64 0, .int .i64 0]), 2, 16) := by kernel_rfl
/-- The value v owns the rows l. -/
def TF (base : Nat) (w : World) (v : Value) (l : List Tm) : Prop := w.ownsRow base 34 2 v l.length (l.flatMap tmC)
section
variable {base : Nat} {w w' : World} {v : Value} {l : List Tm}
theorem TF.nil (base : Nat) (w : World) : TF base w (.slice none 0 0) [] := World.ownsRow_nil _ _ _ _
theorem TF.form (h : TF base w v l) : ∃ A cap, v = .slice A l.length cap ∧ l.length ≤ cap ∧ cap ≤ maxLen ∧ (∀ ad, A = some ad → ∃ b, ad = ⟨b, 0, none⟩ ∧ base ≤ b ∧ b < w.heap.size ∧ v.ownBlock = some b) ∧ (A = none → l = [] ∧ cap = 0) ∧ ∀ (j : Nat) (x : Tm), l[j]? = some x → ∃ b, A = some ⟨b, 0, none⟩ ∧ ∀ i c, (tmC x)[i]? = some c → w.cell? ⟨b, j * 2 + i, none⟩ = some c := by
  rcases h.2 with ⟨rfl, h0⟩ | ⟨g, cap, cur, rfl, hb, hh, hl, hm, hs, ht⟩
  · have : l = [] := List.eq_nil_of_length_eq_zero h0
    subst this
    exact ⟨none, 0, rfl, Nat.le_refl _, by simp [maxLen], fun ad h => (by cases h), fun _ => ⟨rfl, rfl⟩, fun j x hx => by simp at hx⟩
  · refine ⟨_, cap, rfl, hl, hm, fun ad h => ?_, fun h => (by cases h), fun j x hx => ⟨g, rfl, fun i c hc => ?_⟩⟩
    · cases h
      exact ⟨g, rfl, hb, (Array.getElem?_eq_some_iff.1 hh).1, rfl⟩
    · have hj := World.ownsRow.cells h (g := g) rfl _ _ (TO_get l j x i c hx hc)
      rw [Addr.add_lit, Nat.zero_add] at hj
      exact hj
theorem TF.kept {S : Nat → Prop} (h : TF base w v l) (k : Keep S w w') (hs : ∀ g, v.ownBlock = some g → ¬ S g) : TF base w' v l := by
  refine ⟨h.1, ?_⟩
  rcases h.2 with hn | ⟨g, cap, cur, rfl, hb, hgg, rest⟩
  · exact .inl hn
  · refine .inr ⟨g, cap, cur, rfl, hb, ?_, rest⟩
    rw [k.block g (Array.getElem?_eq_some_iff.1 hgg).1 (hs g rfl)]
    exact hgg
theorem TF.lt (h : TF base w v l) : ∀ k, v.ownBlock = some k → base ≤ k ∧ k < w.heap.size := World.ownsRow.lt h
theorem TF.alloc (h : TF base w v l) (o : Obj) : TF base (w.alloc o) v l := h.kept ((Keep.refl (fun _ => False) w).alloc o) fun _ _ => id
theorem TF.drew (h : TF base w v l) : TF base w.drew v l := h
theorem TF.below (h : TF base w v l) (k : Below w.heap.size w w') : TF base w' v l := h.kept (Keep.of_below k) fun g hg => by have := (h.lt g hg).2; omega
theorem TF.mono {b' : Nat} (h : TF base w v l) (hb : b' ≤ base) : TF b' w v l := by
  refine ⟨h.1, ?_⟩
  rcases h.2 with hn | ⟨g, cap, cur, hv, hbb, rest⟩
  · exact .inl hn
  · exact .inr ⟨g, cap, cur, hv, by omega, rest⟩
theorem TF.blk (h : TF base w v l) : ∀ g, v.ownBlock = some g → ∃ o : Obj, w.heap[g]? = some o ∧ o.isCells = true := by
  intro g hg
  rcases h.2 with ⟨rfl, _⟩ | ⟨g', cap, cur, rfl, _, hgg, _⟩
  · simp [Value.ownBlock] at hg
  · simp [Value.ownBlock] at hg
    subst hg
    exact ⟨_, hgg, rfl⟩
end
theorem TF.fz {base : Nat} {w : World} {v : Value} {l : List Tm} (h : TF base w v l) {g : Nat} (hv : v.ownBlock = some g) (i : Nat) : w.frozen? ⟨g, i, none⟩ = false := by
  rcases h.2 with ⟨rfl, _⟩ | ⟨g', cap, cur, rfl, _, hgg, _⟩
  · simp [Value.ownBlock] at hv
  · simp [Value.ownBlock] at hv
    subst hv
    simp [World.frozen?, hgg]
theorem run_appTF (w : World) (base : Nat) (ty : TypeId) (v : Value) (l : List Tm) (hown : TF base w v l) (ad : Addr) (x : Tm) (hc : ∀ j u, (tmC x)[j]? = some u → w.cell? (ad.add j) = some u)
    (hn : (l.length + 1) * 16 ≤ 140737488355328) (hbase : base ≤ w.heap.size) :
    ∃ v' w', (Builtin.append_ #[30, 30] ty #[v, .slice (some ad) 1 1]).run Try.prog w = .ok v' w' ∧ TF base w' v' (l ++ [x]) ∧ Keep (fun k => v.ownBlock = some k) w w' ∧ (v'.ownBlock = v.ownBlock ∨ v'.ownBlock = some w.heap.size) := by
  obtain ⟨i, hi, hz, hs, hb⟩ := info_parts TF_info
  obtain ⟨v', w', hrun, h2, h3, _, h5⟩ := run_append_own_at (P := Try.prog) w base 30 ty 34 i (.agg #[.int .i64 0, .int .i64 0]) 2 16 Try.underlying30 hi hz hs hb rfl (by decide) v l.length (l.flatMap tmC) hown ad 1 1 (tmC x)
    (by rw [tmC_len]) hc (tmC_one x) (by simp only [maxLen]; omega) (by omega) hbase
  refine ⟨v', w', hrun, ?_, Keep.of_grown h3, h5⟩
  show w'.ownsRow base 34 2 v' (l ++ [x]).length ((l ++ [x]).flatMap tmC)
  rw [List.length_append, List.flatMap_append]
  simpa using h2
section
variable {w : World} {ops : Array Oper} {rest : List Oper} {o : Oper} {a : Act} {Q : Exit → Act → World → Prop}
theorem wpAppTF (hgd : o.guard = none) (s x : Operand) (ho : o.op = .call { callee := .builtin .append, args := #[s, x], argTypes := #[30, 30] })
    (base : Nat) (v : Value) (l : List Tm) (hs : a.eval s = v) (hown : TF base w v l) (ad : Addr) (hx : a.eval x = .slice (some ad) 1 1) (y : Tm) (hc : ∀ j u, (tmC y)[j]? = some u → w.cell? (ad.add j) = some u)
    (hn : (l.length + 1) * 16 ≤ 140737488355328) (hbase : base ≤ w.heap.size)
    (h : ∀ v' w', TF base w' v' (l ++ [y]) → Keep (fun k => v.ownBlock = some k) w w' → (v'.ownBlock = v.ownBlock ∨ v'.ownBlock = some w.heap.size) → wpList Try.prog ops Q rest (a.put o.dst v') w') : wpList Try.prog ops Q (o :: rest) a w := by
  refine wpList_plain hgd fun K hK => ?_
  obtain ⟨v', w', hrun, h2, h3, h4⟩ := run_appTF w base o.type v l hown ad y hc hn hbase
  unfold Oper.wp execOp
  simp only [ho, resolve, invoke, builtin, Sem.run_bind, Sem.run_pure, Result.andThen_ok, List.map_toArray, List.map_cons, List.map_nil, hs, hx, hrun]
  exact hK _ _ (h v' w' h2 h3 h4)
end


/-- The slice reads as these timers. -/
structure RR (w : World) (A : Option Addr) (n : Nat) (l : List Tm) : Prop where
  len : l.length = n
  at_ : ∀ (j : Nat) (x : Tm), l[j]? = some x → ∃ b off, A = some ⟨b, off, none⟩ ∧ w.cell? ⟨b, off + j * 2, none⟩ = some (.int .i64 x.1) ∧ w.cell? ⟨b, off + j * 2 + 1, none⟩ = some (.int .i64 x.2)
theorem RR.nil (w : World) (A : Option Addr) : RR w A 0 [] := ⟨rfl, fun j x h => by simp at h⟩
theorem RR.kept {S : Nat → Prop} {w w' : World} {A : Option Addr} {n : Nat} {l : List Tm} (h : RR w A n l) (k : Keep S w w') (hs : ∀ ad, A = some ad → ¬ S ad.block) : RR w' A n l :=
  ⟨h.len, fun j x hx => by
    obtain ⟨b, off, rfl, h0, h1⟩ := h.at_ j x hx
    have hn : ¬ S b := hs _ rfl
    exact ⟨b, off, rfl, k.cell h0 hn, k.cell h1 hn⟩⟩
theorem RR.below {w w' : World} {A : Option Addr} {n : Nat} {l : List Tm} (h : RR w A n l) (k : RowKit.Below w.heap.size w w') : RR w' A n l :=
  ⟨h.len, fun j x hx => by
    obtain ⟨b, off, rfl, h0, h1⟩ := h.at_ j x hx
    have hb : b < w.heap.size := World.block_lt_of_cell? _ _ h0
    exact ⟨b, off, rfl, (k.cell (p := ⟨b, off + j * 2, none⟩) hb).trans h0, (k.cell (p := ⟨b, off + j * 2 + 1, none⟩) hb).trans h1⟩⟩
theorem RR.belowN {N : Nat} {w w' : World} {A : Option Addr} {n : Nat} {l : List Tm} (h : RR w A n l) (k : RowKit.Below N w w') (hA : ∀ ad, A = some ad → ad.block < N) : RR w' A n l :=
  ⟨h.len, fun j x hx => by
    obtain ⟨b, off, rfl, h0, h1⟩ := h.at_ j x hx
    have hb : b < N := hA _ rfl
    exact ⟨b, off, rfl, (k.cell (p := ⟨b, off + j * 2, none⟩) hb).trans h0, (k.cell (p := ⟨b, off + j * 2 + 1, none⟩) hb).trans h1⟩⟩
theorem RR.drew {w : World} {A : Option Addr} {n : Nat} {l : List Tm} (h : RR w A n l) : RR w.drew A n l := ⟨h.len, h.at_⟩
theorem RR.alloc {w : World} {A : Option Addr} {n : Nat} {l : List Tm} (h : RR w A n l) (o : Obj) : RR (w.alloc o) A n l := h.below ((RowKit.Below.refl _ w).alloc (Nat.le_refl _) o)
theorem RR.place {w : World} {A : Option Addr} {n : Nat} {l : List Tm} (h : RR w A n l) {k : Nat} (hk : k < n) : ∃ b off x, A = some ⟨b, off, none⟩ ∧ l[k]? = some x ∧ w.cell? ⟨b, off + k * 2, none⟩ = some (.int .i64 x.1) ∧ w.cell? ⟨b, off + k * 2 + 1, none⟩ = some (.int .i64 x.2) := by
  have hl : k < l.length := by rw [h.len]; exact hk
  obtain ⟨b, off, e, h0, h1⟩ := h.at_ k _ (List.getElem?_eq_getElem hl)
  exact ⟨b, off, l[k], e, List.getElem?_eq_getElem hl, h0, h1⟩
theorem RR.tail {w : World} {b off n : Nat} {t : Tm} {l : List Tm} (h : RR w (some ⟨b, off, none⟩) (n + 1) (t :: l)) : RR w (some ⟨b, off + 2, none⟩) n l :=
  ⟨by have := h.len; simp at this; exact this, fun j x hx => by
    obtain ⟨b', off', e, h0, h1⟩ := h.at_ (j + 1) x (by simpa using hx)
    cases e
    exact ⟨b, off + 2, rfl, by rw [show off + 2 + j * 2 = off + (j + 1) * 2 by omega]; exact h0, by rw [show off + 2 + j * 2 + 1 = off + (j + 1) * 2 + 1 by omega]; exact h1⟩⟩
theorem TF.rr {base : Nat} {w : World} {v : Value} {l : List Tm} (h : TF base w v l) : ∃ A c, v = .slice A l.length c ∧ l.length ≤ c ∧ c ≤ 9223372036854775807 ∧ RR w A l.length l ∧ ∀ ad, A = some ad → base ≤ ad.block ∧ ad.block < w.heap.size := by
  obtain ⟨A, c, rfl, h1, h2, h3, _, h5⟩ := h.form
  refine ⟨A, c, rfl, h1, by unfold maxLen at h2; omega, ⟨rfl, fun j x hx => ?_⟩, fun ad e => ?_⟩
  · obtain ⟨b, e, hc⟩ := h5 j x hx
    exact ⟨b, 0, e, by rw [Nat.zero_add]; exact hc 0 _ rfl, by rw [Nat.zero_add]; exact hc 1 _ rfl⟩
  · obtain ⟨b, rfl, h6, h7, _⟩ := h3 ad e
    exact ⟨h6, h7⟩
theorem drop_snoc_eq {l : List Tm} {k : Int} {u : Tm} (h : u.1 = k) : dropT (l ++ [u]) k = dropT l k := by simp [dropT, h]
theorem drop_snoc_ne {l : List Tm} {k : Int} {u : Tm} (h : ¬ u.1 = k) : dropT (l ++ [u]) k = dropT l k ++ [u] := by simp [dropT, h]
theorem take_snoc {l : List Tm} {j : Nat} {x : Tm} (h : l[j]? = some x) : l.take (j + 1) = l.take j ++ [x] := by
  rw [List.take_add_one, h]
  rfl
theorem ins_skip {t u : Tm} (h : ¬ ltT t u) (r : List Tm) : insT t (u :: r) = u :: insT t r := by rw [insT, if_neg h]
theorem ins_stop {t u : Tm} (h : ltT t u) (r : List Tm) : insT t (u :: r) = t :: u :: r := by rw [insT, if_pos h]

set_option maxRecDepth 100000 in
set_option maxHeartbeats 3200000 in
theorem rdrop_any {w : World} (A : Option Addr) (n c : Nat) (l : List Tm) (k : Int) (hR : RR w A n l) (hn : n ≤ 1048576) (hc : n ≤ c) (hm : c ≤ 9223372036854775807) :
    Calls Try.prog 17 #[.slice A n c, .int .i64 k] w fun e w' => ∃ v, e = .returned v ∧ TF w.heap.size w' v (dropT l k) ∧ RowKit.Below w.heap.size w w' := by
  have hln := hR.len
  have hself : (k == k) = true := beq_self_eq_true k
  go_enter Try.func17, Try.ntmps17
  go_wp2_with fail
  go_loopw [5, 6] (fun s5 s6 wr => ∃ j : Nat, s6 = .int .i64 (j : Int) ∧ j ≤ n ∧ TF w.heap.size wr s5 (dropT (l.take j) k) ∧ RowKit.Below w.heap.size w wr) (fun _ s6 _ => n - (intOf s6).toNat)
  case atStart => exact ⟨0, by go_num, by omega, TF.nil _ _, RowKit.Below.refl _ _⟩
  case round =>
    obtain ⟨j, rfl, hj, hO, hb⟩ := hrel
    have hle := len_dropT (l.take j) k
    rw [List.length_take] at hle
    by_cases hlt : j < n
    · have hlz : (j : Int) < (n : Int) := by omega
      obtain ⟨b, off, ⟨uk, ua⟩, rfl, hu, c0, c1⟩ := (hR.below hb).place hlt
      dsimp only at c0 c1
      have ht := take_snoc hu
      have hblr : b < wr.heap.size := World.block_lt_of_cell? _ _ c0
      by_cases he : uk = k
      · have hd := drop_snoc_eq (l := l.take j) (u := (uk, ua)) he
        rw [← ht] at hd
        subst he
        clear ht
        go_wp2
        go_roundw
        case rel => exact ⟨j + 1, by go_num, by omega, by rw [hd]; exact hO, hb⟩
        case measure => simp [intOf]; omega
      · have hd := drop_snoc_ne (l := l.take j) (u := (uk, ua)) he
        rw [← ht] at hd
        have hez : (uk == k) = false := beq_eq_false_iff_ne.2 he
        have hlt2 := hO.lt
        have hz := hb.size
        generalize dropT (l.take j) k = out at hO hle hd
        obtain ⟨A2, c2, rfl, _⟩ := hO.form
        obtain ⟨q, hq⟩ : ∃ q, out.length = q := ⟨_, rfl⟩
        rw [hq] at hO hle hlt2 ⊢
        have hO3 := hO.alloc (.cells #[.int .i64 uk, .int .i64 ua] 34)
        have hb3 := hb.alloc hb.size (.cells #[.int .i64 uk, .int .i64 ua] 34)
        have hn3 := Blk.new wr 34 #[.int .i64 uk, .int .i64 ua]
        have hz3 := hb3.size
        clear ht
        go_wp2_with (at_builtin; refine wpAppTF rfl (.tmp 20) (.tmp 25) rfl w.heap.size _ out rfl hO3 ⟨wr.heap.size, 0, none⟩ rfl (uk, ua) (fun j u hu => by rw [Addr.add_lit, Nat.zero_add, hn3.cell]; simpa [tmC] using hu) (by omega) hz3 ?_; intro v4 w4 hO4 hK4 e4)
        have hb4 := hb3.trans (hK4.below (B := w.heap.size) hz3 (fun i hi e => by have := (hlt2 i e).1; omega))
        clear hO3 hn3 hb3 hK4 hO hb c0 c1
        go_wp2
        go_roundw
        case rel => exact ⟨j + 1, by go_num, by omega, by rw [hd]; exact hO4, hb4⟩
        case measure => simp [intOf]; omega
    · have hlz : ¬ (j : Int) < (n : Int) := by omega
      rw [List.take_of_length_le (by omega)] at hO
      go_wp2
      go_ret
      exact ⟨_, rfl, hO, hb⟩

def SetRel (t : Tm) (r : List Tm) (j : Nat) (dn : Bool) (out : List Tm) : Prop := out.length ≤ j + 1 ∧ (dn = false → out.length ≤ j) ∧ ((dn = false ∧ out ++ insT t (r.drop j) = insT t r) ∨ (dn = true ∧ out ++ r.drop j = insT t r))
theorem SetRel.start (t : Tm) (r : List Tm) : SetRel t r 0 false [] := ⟨by simp, fun _ => by simp, .inl ⟨rfl, rfl⟩⟩
theorem drop_at {r : List Tm} {j : Nat} {u : Tm} (h : r[j]? = some u) : r.drop j = u :: r.drop (j + 1) := by
  obtain ⟨hj, rfl⟩ := List.getElem?_eq_some_iff.1 h
  exact List.drop_eq_getElem_cons hj
theorem SetRel.past {t u : Tm} {r out : List Tm} {j : Nat} (h : SetRel t r j true out) (hu : r[j]? = some u) : SetRel t r (j + 1) true (out ++ [u]) := by
  obtain ⟨h1, h2, ⟨h3, _⟩ | ⟨_, h4⟩⟩ := h
  · cases h3
  · exact ⟨by simp; omega, fun h => (by cases h), .inr ⟨rfl, by rw [drop_at hu] at h4; simpa using h4⟩⟩
theorem SetRel.skip {t u : Tm} {r out : List Tm} {j : Nat} (h : SetRel t r j false out) (hu : r[j]? = some u) (hl : ¬ ltT t u) : SetRel t r (j + 1) false (out ++ [u]) := by
  obtain ⟨h1, h2, ⟨_, h4⟩ | ⟨h3, _⟩⟩ := h
  · have := h2 rfl
    exact ⟨by simp; omega, fun _ => by simp; omega, .inl ⟨rfl, by rw [drop_at hu, ins_skip hl] at h4; simpa using h4⟩⟩
  · cases h3
theorem SetRel.put {t u : Tm} {r out : List Tm} {j : Nat} (h : SetRel t r j false out) (hu : r[j]? = some u) (hl : ltT t u) : SetRel t r (j + 1) true ((out ++ [t]) ++ [u]) := by
  obtain ⟨h1, h2, ⟨_, h4⟩ | ⟨h3, _⟩⟩ := h
  · have := h2 rfl
    exact ⟨by simp; omega, fun h => (by cases h), .inr ⟨rfl, by rw [drop_at hu, ins_stop hl] at h4; simpa using h4⟩⟩
  · cases h3
theorem SetRel.last {t : Tm} {r out : List Tm} (h : SetRel t r r.length false out) : out ++ [t] = insT t r := by
  obtain ⟨h1, h2, ⟨_, h4⟩ | ⟨h3, _⟩⟩ := h
  · rw [List.drop_length] at h4
    exact h4
  · cases h3
theorem SetRel.done {t : Tm} {r out : List Tm} (h : SetRel t r r.length true out) : out = insT t r := by
  obtain ⟨h1, h2, ⟨h3, _⟩ | ⟨_, h4⟩⟩ := h
  · cases h3
  · rw [List.drop_length, List.append_nil] at h4
    exact h4

set_option maxRecDepth 100000 in
set_option maxHeartbeats 3200000 in
theorem rset_any {w : World} (A : Option Addr) (n c : Nat) (l : List Tm) (k a : Int) (hR : RR w A n l) (hn : n ≤ 1048576) (hc : n ≤ c) (hm : c ≤ 9223372036854775807) :
    Calls Try.prog 15 #[.slice A n c, .int .i64 k, .int .i64 a] w fun e w' => ∃ v, e = .returned v ∧ TF w.heap.size w' v (setT l k a) ∧ RowKit.Below w.heap.size w w' := by
  have hln := hR.len
  have hld := len_dropT l k
  obtain ⟨r, hr⟩ : ∃ r, dropT l k = r := ⟨_, rfl⟩
  have hrd := rdrop_any A n c l k hR hn hc hm
  unfold setT
  rw [hr] at hld hrd ⊢
  clear hr
  go_enter Try.func15, Try.ntmps15
  go_wp2_with fail
  refine hrd.mono ?_
  rintro e w1 ⟨v, rfl, hO1, hb1⟩
  clear hrd
  obtain ⟨m, hm'⟩ : ∃ m, r.length = m := ⟨_, rfl⟩
  obtain ⟨A2, c2, rfl, hcl, hcm, hRr, hAr⟩ := hO1.rr
  rw [hm'] at hcl hRr hld ⊢
  clear hO1 hR hm
  have hz1 := hb1.size
  go_wp2_with fail
  go_loopw [7, 8, 10, 11] (fun s7 s8 s10 _ wr => ∃ (j : Nat) (dn : Bool) (out : List Tm), s8 = .bool dn ∧ s10 = .int .i64 (j : Int) ∧ j ≤ m ∧ TF w1.heap.size wr s7 out ∧ SetRel (k, a) r j dn out ∧ RowKit.Below w1.heap.size w1 wr) (fun _ _ s10 _ _ => m - (intOf s10).toNat)
  case atStart => exact ⟨0, false, [], rfl, by go_num, by omega, TF.nil _ _, SetRel.start _ _, RowKit.Below.refl _ _⟩
  case round =>
    obtain ⟨j, dn, out, rfl, rfl, hj, hO, hS, hb⟩ := hrel
    have hle := hS.1
    have hlt2 := hO.lt
    have hz := hb.size
    obtain ⟨A3, c3, rfl, _⟩ := hO.form
    obtain ⟨q, hq⟩ : ∃ q, out.length = q := ⟨_, rfl⟩
    rw [hq] at hO hle hlt2 ⊢
    by_cases hlt : j < m
    · have hlz : (j : Int) < (m : Int) := by omega
      obtain ⟨b, off, ⟨uk, ua⟩, rfl, hu, c0, c1⟩ := (hRr.belowN hb (fun ad e => (hAr ad e).2)).place hlt
      dsimp only at c0 c1
      have hblr : b < wr.heap.size := World.block_lt_of_cell? _ _ c0
      have hO3 := (hO.alloc (.cells #[.int .i64 uk, .int .i64 ua] 34))
      have hb3 := (hb.alloc hb.size (.cells #[.int .i64 uk, .int .i64 ua] 34))
      have hx3 := Blk.new wr 34 #[.int .i64 uk, .int .i64 ua]
      have hW3 : (wr.alloc (.cells #[.int .i64 uk, .int .i64 ua] 34)).heap.size = wr.heap.size + 1 := by simp
      have hO4 := hO3.alloc (.cells #[.int .i64 uk, .int .i64 ua] 34)
      have hb4 := hb3.alloc hb3.size (.cells #[.int .i64 uk, .int .i64 ua] 34)
      have hn4 := Blk.new (wr.alloc (.cells #[.int .i64 uk, .int .i64 ua] 34)) 34 #[.int .i64 uk, .int .i64 ua]
      rw [hW3] at hn4
      have hW4 : ((wr.alloc (.cells #[.int .i64 uk, .int .i64 ua] 34)).alloc (.cells #[.int .i64 uk, .int .i64 ua] 34)).heap.size = wr.heap.size + 1 + 1 := by simp
      cases dn with
      | true =>
        have hS2 := hS.past hu
        clear hO3 hb3 hW3 hO hb hS
        go_wp2_with (at_builtin; refine wpAppTF rfl (.tmp 51) (.tmp 53) rfl w1.heap.size _ out rfl hO4 ⟨wr.heap.size + 1, 0, none⟩ rfl (uk, ua) (fun j u hu => by rw [Addr.add_lit, Nat.zero_add, hn4.cell]; simpa [tmC] using hu) (by omega) (by omega) ?_; intro v5 w5 hO5 hK5 e5)
        have hb5 := hb4.trans (hK5.below (B := w1.heap.size) hb4.size (fun i hi e => by have := (hlt2 i e).1; omega))
        clear hK5 hO4 hb4 hn4 hx3
        go_wp2
        go_roundw
        case rel => exact ⟨j + 1, true, _, rfl, by go_num, by omega, hO5, hS2, hb5⟩
        case measure => simp [intOf]; omega
      | false =>
        have hle0 := hS.2.1 rfl
        rw [hq] at hle0
        rcases (show (a < ua ∨ (¬ a < ua ∧ ua = a ∧ k < uk)) ∨ ((¬ a < ua ∧ ¬ ua = a) ∨ (¬ a < ua ∧ ua = a ∧ ¬ k < uk)) by omega) with hlx | hlx
        · have hlt3 : ltT (k, a) (uk, ua) := by unfold ltT; rcases hlx with h | ⟨_, h, h2⟩ <;> dsimp only <;> omega
          have hS2 := hS.put hu hlt3
          clear hlt3
          have hP4 := hO3.alloc (.cells #[.int .i64 k, .int .i64 a] 34)
          have hpb4 := hb3.alloc hb3.size (.cells #[.int .i64 k, .int .i64 a] 34)
          have hpn4 := Blk.new (wr.alloc (.cells #[.int .i64 uk, .int .i64 ua] 34)) 34 #[.int .i64 k, .int .i64 a]
          have hpx4 := hx3.alloc (.cells #[.int .i64 k, .int .i64 a] 34)
          rw [hW3] at hpn4
          have hP4z : ((wr.alloc (.cells #[.int .i64 uk, .int .i64 ua] 34)).alloc (.cells #[.int .i64 k, .int .i64 a] 34)).heap.size = wr.heap.size + 1 + 1 := by simp
          have hfin : ∀ (v5 : Value) (w5 : World), TF w1.heap.size w5 v5 (out ++ [(k, a)]) → Keep (fun i => (Value.slice A3 q c3).ownBlock = some i) ((wr.alloc (.cells #[.int .i64 uk, .int .i64 ua] 34)).alloc (.cells #[.int .i64 k, .int .i64 a] 34)) w5 →
              RowKit.Below w1.heap.size w1 w5 ∧ w5.cell? ⟨wr.heap.size, 0, none⟩ = some (.int .i64 uk) ∧ w5.cell? ⟨wr.heap.size, 1, none⟩ = some (.int .i64 ua) ∧ wr.heap.size < w5.heap.size := by
            intro v5 w5 hO5 hK5
            have hx5 := hpx4.kept hK5 (fun e => by have := (hlt2 _ e).2; omega)
            have e0 := hx5.cell 0
            have e1 := hx5.cell 1
            simp at e0 e1
            exact ⟨hpb4.trans (hK5.below (B := w1.heap.size) hpb4.size (fun i hi e => by have := (hlt2 i e).1; omega)), e0, e1, hx5.lt⟩
          have HFIN := Lib.hid hfin
          clear hfin
          clear hO4 hb4 hn4 hW4 hO hb hS
          rcases hlx with h | ⟨h, h2, h3⟩
          · have hd1 : a < ua := h
            go_wp2_with (first | (at_builtin; have _t1 := hP4; clear _t1; refine wpAppTF rfl (.tmp 45) (.tmp 49) rfl w1.heap.size _ out rfl hP4 ⟨wr.heap.size + 1, 0, none⟩ rfl (k, a) (fun j u hu => by rw [Addr.add_lit, Nat.zero_add, hpn4.cell]; simpa [tmC] using hu) (by omega) (by omega) ?_; intro v5 w5 hO5 hK5 e5; obtain ⟨hb5, e0, e1, hz5⟩ := HFIN.out v5 w5 hO5 hK5; have hlt5 := hO5.lt; obtain ⟨A5, c5, rfl, _⟩ := hO5.form; have hl5 : (out ++ [(k, a)]).length = q + 1 := (by rw [List.length_append, hq]; try rfl); rw [hl5] at hO5 hlt5 ⊢; have hO6 := hO5.alloc (.cells #[.int .i64 uk, .int .i64 ua] 34); have hb6 := hb5.alloc hb5.size (.cells #[.int .i64 uk, .int .i64 ua] 34); have hn6 := Blk.new w5 34 #[.int .i64 uk, .int .i64 ua]; have hz6 := hb6.size; clear HFIN hK5 hP4 hpb4 hpn4 hpx4 hP4z hO3 hb3 hx3 hW3) | (at_builtin; have _t1 := hO6; clear _t1; refine wpAppTF rfl (.tmp 51) (.tmp 53) rfl w1.heap.size _ _ rfl hO6 ⟨w5.heap.size, 0, none⟩ rfl (uk, ua) (fun j u hu => by rw [Addr.add_lit, Nat.zero_add, hn6.cell]; simpa [tmC] using hu) (by omega) hz6 ?_; intro v7 w7 hO7 hK7 e7))
            have hb7 := hb6.trans (hK7.below (B := w1.heap.size) hz6 (fun i hi e => by have := (hlt5 i e).1; omega))
            clear hO5 hO6 hb5 hb6 hn6 hK7 e0 e1
            go_wp2
            go_roundw
            case rel => exact ⟨j + 1, true, _, rfl, by go_num, by omega, hO7, hS2, hb7⟩
            case measure => simp [intOf]; omega
          · have hd1 : ¬ a < ua := h
            subst h2
            have hself : (ua == ua) = true := beq_self_eq_true _
            go_wp2_with (first | (at_builtin; have _t1 := hP4; clear _t1; refine wpAppTF rfl (.tmp 45) (.tmp 49) rfl w1.heap.size _ out rfl hP4 ⟨wr.heap.size + 1, 0, none⟩ rfl (k, ua) (fun j u hu => by rw [Addr.add_lit, Nat.zero_add, hpn4.cell]; simpa [tmC] using hu) (by omega) (by omega) ?_; intro v5 w5 hO5 hK5 e5; obtain ⟨hb5, e0, e1, hz5⟩ := HFIN.out v5 w5 hO5 hK5; have hlt5 := hO5.lt; obtain ⟨A5, c5, rfl, _⟩ := hO5.form; have hl5 : (out ++ [(k, ua)]).length = q + 1 := (by rw [List.length_append, hq]; try rfl); rw [hl5] at hO5 hlt5 ⊢; have hO6 := hO5.alloc (.cells #[.int .i64 uk, .int .i64 ua] 34); have hb6 := hb5.alloc hb5.size (.cells #[.int .i64 uk, .int .i64 ua] 34); have hn6 := Blk.new w5 34 #[.int .i64 uk, .int .i64 ua]; have hz6 := hb6.size; clear HFIN hK5 hP4 hpb4 hpn4 hpx4 hP4z hO3 hb3 hx3 hW3) | (at_builtin; have _t1 := hO6; clear _t1; refine wpAppTF rfl (.tmp 51) (.tmp 53) rfl w1.heap.size _ _ rfl hO6 ⟨w5.heap.size, 0, none⟩ rfl (uk, ua) (fun j u hu => by rw [Addr.add_lit, Nat.zero_add, hn6.cell]; simpa [tmC] using hu) (by omega) hz6 ?_; intro v7 w7 hO7 hK7 e7))
            have hb7 := hb6.trans (hK7.below (B := w1.heap.size) hz6 (fun i hi e => by have := (hlt5 i e).1; omega))
            clear hO5 hO6 hb5 hb6 hn6 hK7 e0 e1
            go_wp2
            go_roundw
            case rel => exact ⟨j + 1, true, _, rfl, by go_num, by omega, hO7, hS2, hb7⟩
            case measure => simp [intOf]; omega
        · have hlt3 : ¬ ltT (k, a) (uk, ua) := by unfold ltT; rcases hlx with ⟨h, h2⟩ | ⟨h, h2, h3⟩ <;> dsimp only <;> omega
          have hS2 := hS.skip hu hlt3
          clear hlt3
          rcases hlx with ⟨h, h2⟩ | ⟨h, h2, h3⟩
          · have hez : (ua == a) = false := beq_eq_false_iff_ne.2 h2
            clear hO3 hb3 hW3 hO hb hS
            go_wp2_with (at_builtin; refine wpAppTF rfl (.tmp 51) (.tmp 53) rfl w1.heap.size _ out rfl hO4 ⟨wr.heap.size + 1, 0, none⟩ rfl (uk, ua) (fun j u hu => by rw [Addr.add_lit, Nat.zero_add, hn4.cell]; simpa [tmC] using hu) (by omega) (by omega) ?_; intro v5 w5 hO5 hK5 e5)
            have hb5 := hb4.trans (hK5.below (B := w1.heap.size) hb4.size (fun i hi e => by have := (hlt2 i e).1; omega))
            clear hK5 hO4 hb4 hn4 hx3
            go_wp2
            go_roundw
            case rel => exact ⟨j + 1, false, _, rfl, by go_num, by omega, hO5, hS2, hb5⟩
            case measure => simp [intOf]; omega
          · subst h2
            have hself : (ua == ua) = true := beq_self_eq_true _
            clear hO3 hb3 hW3 hO hb hS
            go_wp2_with (at_builtin; refine wpAppTF rfl (.tmp 51) (.tmp 53) rfl w1.heap.size _ out rfl hO4 ⟨wr.heap.size + 1, 0, none⟩ rfl (uk, ua) (fun j u hu => by rw [Addr.add_lit, Nat.zero_add, hn4.cell]; simpa [tmC] using hu) (by omega) (by omega) ?_; intro v5 w5 hO5 hK5 e5)
            have hb5 := hb4.trans (hK5.below (B := w1.heap.size) hb4.size (fun i hi e => by have := (hlt2 i e).1; omega))
            clear hK5 hO4 hb4 hn4 hx3
            go_wp2
            go_roundw
            case rel => exact ⟨j + 1, false, _, rfl, by go_num, by omega, hO5, hS2, hb5⟩
            case measure => simp [intOf]; omega
    · have hlz : ¬ (j : Int) < (m : Int) := by omega
      have hjm : j = r.length := by omega
      rw [hjm] at hS
      cases dn with
      | true =>
        have hend := hS.done
        go_wp2
        go_ret
        exact ⟨_, rfl, by rw [← hend]; exact hO.mono hz1, hb1.trans (hb.mono hz1)⟩
      | false =>
        have hend := hS.last
        have hO4 := hO.alloc (.cells #[.int .i64 k, .int .i64 a] 34)
        have hb4 := hb.alloc hb.size (.cells #[.int .i64 k, .int .i64 a] 34)
        have hn4 := Blk.new wr 34 #[.int .i64 k, .int .i64 a]
        have hz4 := hb4.size
        clear hO hb
        go_wp2_with (at_builtin; refine wpAppTF rfl (.tmp 57) (.tmp 61) rfl w1.heap.size _ out rfl hO4 ⟨wr.heap.size, 0, none⟩ rfl (k, a) (fun j u hu => by rw [Addr.add_lit, Nat.zero_add, hn4.cell]; simpa [tmC] using hu) (by omega) hz4 ?_; intro v5 w5 hO5 hK5 e5)
        have hb5 := hb4.trans (hK5.below (B := w1.heap.size) hz4 (fun i hi e => by have := (hlt2 i e).1; omega))
        rw [hend] at hO5
        go_wp2
        go_ret
        exact ⟨_, rfl, hO5.mono hz1, hb1.trans (hb5.mono hz1)⟩
end Go.Proofs.Ytiinlcfggjcmoaa
