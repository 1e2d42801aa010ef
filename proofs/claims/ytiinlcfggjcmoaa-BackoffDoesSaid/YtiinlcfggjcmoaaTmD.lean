/- Due. No condition but that keys and times are ints. -/
import Derived.Test.YtiinlcfggjcmoaaTmI
import Derived.Test.YtiinlcfggjcmoaaApp5
namespace Go.Proofs.Ytiinlcfggjcmoaa
open Go.RowKit Go.Maps Go.Sort Go.Shelf
set_option linter.unusedVariables false
set_option linter.unusedSimpArgs false
attribute [local go_sem] Oper.semAt_some

def ksT (l : List Tm) : List Int := l.map (·.1)
theorem ksT_len (l : List Tm) : (ksT l).length = l.length := List.length_map _
theorem ksT_snoc (l : List Tm) (u : Tm) : ksT (l ++ [u]) = ksT l ++ [u.1] := by simp [ksT]
def AllDue (now : Int) (l : List Tm) : Prop := ∀ t ∈ l, t.2 ≤ now
/-- The keys of what is due. -/
def dueP (now : Int) : List Tm → List Int
  | [] => []
  | t :: l => if t.2 ≤ now then t.1 :: dueP now l else []
theorem due_all {now : Int} : ∀ {x : List Tm}, AllDue now x → dueP now x = ksT x
  | [], _ => rfl
  | t :: l, h => by rw [dueP, if_pos (h t (by simp)), due_all (fun u hu => h u (by simp [hu]))]; rfl
theorem due_stop {now : Int} {u : Tm} : ∀ {x pre : List Tm}, pre ++ [u] <+: x → AllDue now pre → now < u.2 → dueP now x = ksT pre
  | x, [], hp, _, hu => by
    obtain ⟨r, rfl⟩ := hp
    show dueP now (u :: r) = []
    rw [dueP, if_neg (by omega)]
  | x, t :: pre, hp, h, hu => by
    obtain ⟨r, rfl⟩ := hp
    show dueP now (t :: (pre ++ [u] ++ r)) = _
    rw [dueP, if_pos (h t (by simp)), due_stop ⟨r, rfl⟩ (fun v hv => h v (by simp [hv])) hu]
    rfl
theorem due_len {now : Int} : ∀ x : List Tm, (dueP now x).length ≤ x.length
  | [] => Nat.le_refl _
  | t :: l => by
    rw [dueP]
    split
    · simp [due_len l]
    · simp
/-- A block of cells is none of the loop's own. -/
theorem Blk.row {W W' : World} {g : Nat} {t : TypeId} {cs : Array Value} {row : Option Nat} {n : Nat} (h : Blk W g t cs) (hg : W.grownBy W' row) (hr : ∀ r, row = some r → n ≤ r ∧ ∃ o : Obj, W.heap[r]? = some o ∧ o.isCells = false) : Blk W' g t cs :=
  h.kept (Keep.of_grown hg) fun e => by
    obtain ⟨_, o, h1, h2⟩ := hr g e
    have h3 : W.heap[g]? = some (.cells cs t (0, 0)) := h
    rw [h3] at h1
    cases h1
    cases h2
theorem OI.blkT {base : Nat} {w : World} {v : Value} {l : List Int} (h : OI base w v l) : ∀ g, v.ownBlock = some g → ∃ cs, w.heap[g]? = some (.cells cs 3 (0, 0)) := by
  intro g hg
  rcases h.2 with ⟨rfl, _⟩ | ⟨g', cap, cur, rfl, _, hgg, _⟩
  · simp [Value.ownBlock] at hg
  · simp [Value.ownBlock] at hg
    subst hg
    exact ⟨_, hgg⟩
theorem OI.row {base n : Nat} {X Y : World} {v : Value} {l : List Int} {row : Option Nat} (h : OI base X v l) (hg : X.grownBy Y row) (hr : ∀ r, row = some r → n ≤ r ∧ ∃ o : Obj, X.heap[r]? = some o ∧ o.isCells = false) : OI base Y v l :=
  h.kept (Keep.of_grown hg) fun g hgv => by
    obtain ⟨cs, h1⟩ := h.blkT g hgv
    exact row_not hr h1 rfl
theorem OI.mono' {base b' : Nat} {w : World} {v : Value} {l : List Int} (h : OI base w v l) (hb : b' ≤ base) : OI b' w v l := by
  refine ⟨h.1, ?_⟩
  rcases h.2 with hn | ⟨g, cap, cur, hv, hbb, rest⟩
  · exact .inl hn
  · exact .inr ⟨g, cap, cur, hv, by omega, rest⟩
theorem OI.putD {base D : Nat} {W : World} {v : Value} {l : List Int} (h : OI base W v l) (hD : W.heap[D]? = some (.deferred (some []))) : OI base (W.putObj D (.deferred none)) v l :=
  h.row (n := 0) (grownBy_putObj' W D _) (fun r e => by cases e; exact ⟨Nat.zero_le _, _, hD, rfl⟩)
theorem bel_row {n₀ B : Nat} {w A A' : World} {row : Option Nat} (h : RowKit.Below n₀ w A) (hg : A.grownBy A' row) (hn : n₀ ≤ A.heap.size) (hB : n₀ ≤ B) (hr : ∀ r, row = some r → B ≤ r ∧ ∃ o : Obj, A.heap[r]? = some o ∧ o.isCells = false) : RowKit.Below n₀ w A' :=
  h.grown hg hn fun k e => Nat.le_trans hB (hr k e).1
theorem bel_putD {n₀ D : Nat} {w W : World} (h : RowKit.Below n₀ w W) (hn : n₀ ≤ D) (hD : W.heap[D]? = some (.deferred (some []))) : RowKit.Below n₀ w (W.putObj D (.deferred none)) :=
  h.trans ((RowKit.Below.refl n₀ W).grown (grownBy_putObj' W D _) (by have := (Array.getElem?_eq_some_iff.1 hD).1; omega) (fun k e => by cases e; omega))
theorem wpAppIn {F : Fence} {n : Nat} {w : World} {ops : Array Oper} {rest : List Oper} {o : Oper} {a : Act} {Q : Exit → Act → World → Prop} (hgd : o.guard = none) (s x : Operand) (ho : o.op = .call { callee := .builtin .append, args := #[s, x], argTypes := #[41, 41] })
    (base : Nat) (v : Value) (l : List Int) (hs : a.eval s = v) (hown : OI base w v l) (A : Option Addr) (m c : Nat) (news : List Int) (hx : a.eval x = .slice A m c) (hr : IR w A m news)
    (hn : l.length + m ≤ 1099511627776) (hbase : base ≤ w.heap.size)
    (h : ∀ v' w', OI base w' v' (l ++ news) → Keep (fun k => v.ownBlock = some k) w w' → (v'.ownBlock = v.ownBlock ∨ v'.ownBlock = some w.heap.size) → wpListIn F n Try.prog ops Q rest (a.put o.dst v') w') : wpListIn F n Try.prog ops Q (o :: rest) a w := by
  refine wpListIn_plain hgd fun K hK => ?_
  obtain ⟨v', w', hrun, h2, h3, h4⟩ := run_appI w base o.type v l hown A m c news hr hn hbase
  unfold Oper.wpIn
  refine ⟨?_, ?_⟩
  · simp [Oper.about, ho, resolve, Target.leads, Sem.run_pure]
  · rw [Oper.semAt_plain F _ _ (by rw [ho]; intro c hc'; cases hc')]
    simp [execOp, ho, resolve, invoke, builtin, hs, hx, hrun, Result.andThen]
    exact hK _ _ (h v' w' h2 h3 h4)
set_option maxRecDepth 100000 in
set_option maxHeartbeats 3200000 in
theorem due_any {w : World} {p b N : Nat} {x : List Tm} (now : Int) (hT : TM w p b N x) (hN : N ≤ 1048576) :
    Calls Try.prog 19 #[.pointer (some ⟨p, 0, none⟩), .int .i64 now] w fun e w' => ∃ v, e = .returned v ∧ OI w.heap.size w' v (dueP now x) ∧ RowKit.Below w.heap.size w w' := by
  have hxl := hT.size
  refine (callsIn_wide (n := 9)).1 ?_
  refine callsIn_of_wp_marks Try.func19 rfl trivial ?_ rfl
  simp only [Try.ntmps19, List.size_toArray, List.length_cons, List.length_nil, Nat.reduceAdd, Nat.reduceSub, Array.replicate_succ, Array.replicate_zero, List.push_toArray, List.append_toArray, List.nil_append, List.cons_append]
  gi_wp2_with (refine ⟨trivial, ?_⟩; gi_at_call 23; refine (callsIn_wide.2 (iall_make (some ⟨p, 0, none⟩) _)).mono ?_; rintro e w2 ⟨rfl, rfl⟩)
  --A
  have e1 := ((Blk.new w 3 #[.int .i64 now]).alloc (.cells #[.slice none 0 0] 41)).alloc (.cells #[.pointer (some ⟨p, 0, none⟩)] 28)
  have e2 := (Blk.new (w.alloc (.cells #[.int .i64 now] 3)) 41 #[.slice none 0 0]).alloc (.cells #[.pointer (some ⟨p, 0, none⟩)] 28)
  have e3 := Blk.new ((w.alloc (.cells #[.int .i64 now] 3)).alloc (.cells #[.slice none 0 0] 41)) 28 #[.pointer (some ⟨p, 0, none⟩)]
  rw [World.size_alloc] at e2
  rw [World.size_alloc, World.size_alloc] at e3
  have hT3 := ((hT.alloc (.cells #[.int .i64 now] 3)).alloc (.cells #[.slice none 0 0] 41)).alloc (.cells #[.pointer (some ⟨p, 0, none⟩)] 28)
  have hb3 := (((RowKit.Below.refl w.heap.size w).alloc (Nat.le_refl _) (.cells #[.int .i64 now] 3)).alloc (by simp) (.cells #[.slice none 0 0] 41)).alloc (by simp; omega) (.cells #[.pointer (some ⟨p, 0, none⟩)] 28)
  have hz3 : (((w.alloc (.cells #[.int .i64 now] 3)).alloc (.cells #[.slice none 0 0] 41)).alloc (.cells #[.pointer (some ⟨p, 0, none⟩)] 28)).heap.size = w.heap.size + 3 := by simp
  generalize hW : ((w.alloc (.cells #[.int .i64 now] 3)).alloc (.cells #[.slice none 0 0] 41)).alloc (.cells #[.pointer (some ⟨p, 0, none⟩)] 28) = W0 at *
  have b0 := e3.cell 0
  simp at b0
  clear hW
  refine range_timers p b N x (w.heap.size + 1 + 1) (by first | rfl | simp [go_sem]) rfl b0 hT3 hN
    (fun pre W => AllDue now pre ∧ Blk W w.heap.size 3 #[.int .i64 now] ∧ (∃ v, Blk W (w.heap.size + 1) 41 #[v] ∧ OI (w.heap.size + 3) W v (ksT pre)) ∧ RowKit.Below w.heap.size w W)
    (fun c pre W => c = .exit 0 ∧ (∃ (pre0 : List Tm) (u : Tm), pre = pre0 ++ [u] ∧ AllDue now pre0 ∧ now < u.2 ∧ ∃ v, Blk W (w.heap.size + 1) 41 #[v] ∧ OI (w.heap.size + 3) W v (ksT pre0)) ∧ RowKit.Below w.heap.size w W)
    (fun s X Y row h hg hr => ⟨h.1, h.2.1.row hg hr, h.2.2.1.elim fun v hv => ⟨v, hv.1.row hg hr, hv.2.row hg hr⟩, bel_row h.2.2.2 hg (by have := h.2.1.lt; omega) (by omega) hr⟩)
    (fun c s X Y row h hg hr => ⟨h.1, h.2.1.elim fun pre0 h => h.elim fun u h => ⟨pre0, u, h.1, h.2.1, h.2.2.1, h.2.2.2.elim fun v hv => ⟨v, hv.1.row hg hr, hv.2.row hg hr⟩⟩, bel_row h.2.2 hg (by obtain ⟨_, _, _, _, _, v, hv, _⟩ := h.2.1; have := hv.lt; omega) (by omega) hr⟩)
    ⟨fun t h => by simp at h, e1, ⟨_, e2, OI.nil _ _⟩, hb3⟩ ?round ?done ?stop
  case round =>
    apply Exists.intro
    constructor
    · intro l' u W K hx hK
      gi_wp2
      exact hK
    · rintro l' pre ⟨kk, ka⟩ W hx hzW ⟨hle, hnw, ⟨v, hl, ho⟩, hb⟩ hlen
      dsimp only
      have hbz := hb.size
      have n0 := hnw.cell 0
      have l0 := hl.cell 0
      have lf := hl.frozen 0
      simp at n0 l0
      by_cases hd : now < ka
      · have hb2 := hb
        gi_wp2
        exact ⟨KeepsFrom.refl _ _, rfl, ⟨pre, (kk, ka), rfl, hle, hd, v, hl, ho⟩, hb⟩
      · have hka : ka ≤ now := by omega
        have hlp : pre.length ≤ 1048576 := by omega
        have hlt := ho.lt
        have hoT := (ho.alloc (.cells #[.int .i64 kk] 3)).blkT
        have hlw := hl.lt
        obtain ⟨A, c, rfl, _⟩ := ho.form
        rw [ksT_len] at ho hl hlt hoT l0
        have ho2 := ho.alloc (.cells #[.int .i64 kk] 3)
        have hir := IR.made W #[.int .i64 kk] 3 (0, 0) [kk] rfl
        have hsz2 : (W.alloc (.cells #[.int .i64 kk] 3)).heap.size = W.heap.size + 1 := by simp
        have hN1 : (ksT pre ++ [kk]).length = pre.length + 1 := by rw [List.length_append, ksT_len]; rfl
        have hal : RowKit.Below W.heap.size W (W.alloc (.cells #[.int .i64 kk] 3)) := (RowKit.Below.refl W.heap.size W).alloc (Nat.le_refl _) _
        have hb2 := hb.alloc hb.size (.cells #[.int .i64 kk] 3)
        have hl2 := hl.alloc (.cells #[.int .i64 kk] 3)
        have hn2 := hnw.alloc (.cells #[.int .i64 kk] 3)
        have hfin : ∀ (v' : Value) (W3 : World), OI (w.heap.size + 3) W3 v' (ksT pre ++ [kk]) → Keep (fun k => (Value.slice A pre.length c).ownBlock = some k) (W.alloc (.cells #[.int .i64 kk] 3)) W3 →
            Blk W3 (w.heap.size + 1) 41 #[.slice A pre.length c] ∧ KeepsFrom (w.heap.size + 3) W (W3.setCell ⟨w.heap.size + 1, 0, none⟩ v') ∧ KT W (W3.setCell ⟨w.heap.size + 1, 0, none⟩ v') ∧ Blk (W3.setCell ⟨w.heap.size + 1, 0, none⟩ v') w.heap.size 3 #[.int .i64 now] ∧ Blk (W3.setCell ⟨w.heap.size + 1, 0, none⟩ v') (w.heap.size + 1) 41 #[v'] ∧ OI (w.heap.size + 3) (W3.setCell ⟨w.heap.size + 1, 0, none⟩ v') v' (ksT pre ++ [kk]) ∧ RowKit.Below w.heap.size w (W3.setCell ⟨w.heap.size + 1, 0, none⟩ v') := by
          intro v' W3 h3 k3
          have hl3 := hl2.kept k3 (fun e => by have := (hlt _ e).1; omega)
          have hn3 := hn2.kept k3 (fun e => by have := (hlt _ e).1; omega)
          have hb4 := hb2.trans (k3.below (B := w.heap.size) (by omega) (fun k hk e => by have := (hlt _ e).1; omega))
          have kS : Keep (fun k => k = w.heap.size + 1) W3 (W3.setCell ⟨w.heap.size + 1, 0, none⟩ v') := (Keep.refl (fun k => k = w.heap.size + 1) W3).setCell (p := ⟨w.heap.size + 1, 0, none⟩) (fun _ => rfl) _
          have hlE := hl3.set_ 0 v'
          simp at hlE
          refine ⟨hl3, ((Keep.from_below hal).trans (k3.from fun k _ _ e => by obtain ⟨cs, h1⟩ := hoT k e; exact ⟨_, h1, rfl⟩)).trans ((KeepsOthers.setCell W3 _ _).from _), ?_, hn3.kept kS (by omega), hlE, h3.kept kS (fun g hg e => by have := (h3.lt g hg).1; omega), hb4.setCell (p := ⟨w.heap.size + 1, 0, none⟩) (by dsimp only; omega) _⟩
          refine (KT.below (n₀ := 0) hal).trans ((KT.keep k3 fun k cs e h => ?_).trans (KT.keep kS fun k cs e h => ?_))
          · obtain ⟨cs', h1⟩ := hoT k e
            rw [h] at h1
            injection h1 with h1
            injection h1 with _ h1
            exact absurd h1 (by decide)
          · subst e
            have h1 : W3.heap[w.heap.size + 1]? = some (.cells #[.slice A pre.length c] 41 (0, 0)) := hl3
            rw [h] at h1
            injection h1 with h1
            injection h1 with _ h1
            exact absurd h1 (by decide)
        gi_wp2_with (gi_at_builtin; refine wpAppIn rfl _ _ rfl (w.heap.size + 3) _ _ rfl ho2 _ 1 1 [kk] rfl hir (by rw [ksT_len]; omega) (by omega) ?_; rintro v' W3 h3 k3 _; obtain ⟨hl3, hkf, hkt, hn4, hl4, ho4, hb4⟩ := hfin v' W3 h3 k3; obtain ⟨A6, c6, hv6, _⟩ := h3.form; rw [hN1] at hv6; subst hv6; have m0 := hl3.cell 0; have mf := hl3.frozen 0; simp at m0)
        refine ⟨hkf, hkt, fun t ht => ?_, hn4, ⟨_, hl4, by rw [ksT_snoc]; exact ho4⟩, hb4⟩
        rcases List.mem_append.1 ht with h | h
        · exact hle t h
        · rw [List.mem_singleton.1 h]
          exact hka
  case done =>
    rintro D W hD ⟨hle, hnw, ⟨v, hl, ho⟩, hb⟩ hDf
    have l0 := hl.cell 0
    simp at l0
    have hdue := due_all hle
    gi_wp2
    refine ⟨by simp, .inl ⟨_, _, rfl, run_takeDeferred hDf, ?_⟩⟩
    refine ⟨v, by simp [results, Try.results19, go_sem], v, rfl, ?_, bel_putD hb (by omega) hDf⟩
    rw [hdue]
    exact (ho.mono' (by omega)).putD hDf
  case stop =>
    rintro D c pre W hD hpre ⟨rfl, ⟨pre0, u, rfl, hle, hu, v, hl, ho⟩, hb⟩ hDf
    have l0 := hl.cell 0
    simp at l0
    have hdue := due_stop hpre hle hu
    gi_wp2
    refine ⟨by simp, .inl ⟨_, _, rfl, run_takeDeferred hDf, ?_⟩⟩
    refine ⟨v, by simp [results, Try.results19, go_sem], v, rfl, ?_, bel_putD hb (by omega) hDf⟩
    rw [hdue]
    exact (ho.mono' (by omega)).putD hDf
end Go.Proofs.Ytiinlcfggjcmoaa
