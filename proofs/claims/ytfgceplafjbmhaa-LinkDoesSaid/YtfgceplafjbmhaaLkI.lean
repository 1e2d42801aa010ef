/- Tick of ends. No condition but that an end's bodies lie in memory. -/
import Derived.Test.YtfgceplafjbmhaaLkO
namespace Go.Proofs.Ytfgceplafjbmhaa
open Go.RowKit
set_option linter.unusedVariables false
set_option linter.unusedSimpArgs false

theorem wp_appPB {w : World} {o : Oper} {a : Act} {K : Act → World → Prop} {Q : Exit → Act → World → Prop} (s y : Operand) (ho : o.op = .call { callee := .builtin .append, args := #[s, y], argTypes := #[39, 39] })
    (base : Nat) (v : Value) (ps : List Pk) (hs : a.eval s = v) (hown : PB base w v ps) (ad : Addr) (hx : a.eval y = .slice (some ad) 1 1) (p : Pk) (x : Value) (h0 : w.cell? ad = some (.int .i64 p.seq)) (h1 : w.cell? (ad.add 1) = some (.int .i64 p.ack)) (h2 : w.cell? (ad.add 2) = some x) (hob : OB base w x p.body)
    (hn : (ps.length + 1) * 40 ≤ 140737488355328) (hbase : base ≤ w.heap.size)
    (h : ∀ v' w', PB base w' v' (ps ++ [p]) → Keep (fun k => v.ownBlock = some k) w w' → (v'.ownBlock = v.ownBlock ∨ v'.ownBlock = some w.heap.size) → K (a.put o.dst v') w') : o.wp Try.prog a w K Q := by
  obtain ⟨v', w', hrun, h3, h4, h5⟩ := run_appPB w base o.type v ps hown ad p x h0 h1 h2 hob hn hbase
  unfold Oper.wp execOp
  simp only [ho, resolve, invoke, builtin, Sem.run_bind, Sem.run_pure, Result.andThen_ok, List.map_toArray, List.map_cons, List.map_nil, hs, hx, hrun]
  exact h v' w' h3 h4 h5

theorem PB.mono' {b b' : Nat} {w : World} {v : Value} {ps : List Pk} (h : PB b w v ps) (hb : b' ≤ b) : PB b' w v ps := by
  obtain ⟨l, hr, he, ho⟩ := h
  exact ⟨l, hr.mono hb, he, fun x hx => (ho x hx).mono hb⟩
/-- While an end ticks: the end, its bodies, the boxes of now, of the packets, of the end, the packets. -/
structure TS (base pb : Nat) (W : World) (p : Nat) (A : Option Addr) (n cap : Nat) (sent mark now : Int) (nb lb eb : Nat) (l : List Bd) (lv : Value) (ps : List Pk) : Prop where
  pc : Blk W p 79 #[.int .i64 sent, .int .i64 mark, .slice A n cap]
  own : BO base W (.slice A n cap) l
  cn : Blk W nb 3 #[.int .i64 now]
  cl : Blk W lb 39 #[lv]
  ce : Blk W eb 23 #[.pointer (some ⟨p, 0, none⟩)]
  pk : PB pb W lv ps
  sz : pb ≤ W.heap.size
/-- What lies apart. -/
structure TD (pb p : Nat) (A : Option Addr) (n cap nb lb eb : Nat) : Prop where
  own : ∀ k, (Value.slice A n cap).ownBlock = some k → k < pb ∧ k ≠ p ∧ k ≠ nb ∧ k ≠ lb ∧ k ≠ eb
  lt : p < pb ∧ nb < pb ∧ lb < pb ∧ eb < pb
  lne : lb ≠ p ∧ lb ≠ nb ∧ lb ≠ eb
section
variable {base pb : Nat} {W W' : World} {p : Nat} {A : Option Addr} {n cap : Nat} {sent mark now : Int} {nb lb eb : Nat} {l : List Bd} {lv : Value} {ps : List Pk}
theorem TS.drew (h : TS base pb W p A n cap sent mark now nb lb eb l lv ps) : TS base pb W.drew p A n cap sent mark now nb lb eb l lv ps := ⟨h.pc, h.own, h.cn, h.cl, h.ce, h.pk, h.sz⟩
theorem TS.below (h : TS base pb W p A n cap sent mark now nb lb eb l lv ps) (hb : Below W.heap.size W W') : TS base pb W' p A n cap sent mark now nb lb eb l lv ps :=
  have k := Keep.of_below hb
  ⟨h.pc.kept k (Nat.not_le.2 h.pc.lt), h.own.below hb, h.cn.kept k (Nat.not_le.2 h.cn.lt), h.cl.kept k (Nat.not_le.2 h.cl.lt), h.ce.kept k (Nat.not_le.2 h.ce.lt), h.pk.below hb, Nat.le_trans h.sz hb.size⟩
/-- Its cells. -/
theorem TS.at_ (h : TS base pb W p A n cap sent mark now nb lb eb l lv ps) : W.cell? ⟨nb, 0, none⟩ = some (.int .i64 now) ∧ W.cell? ⟨lb, 0, none⟩ = some lv ∧ W.cell? ⟨eb, 0, none⟩ = some (.pointer (some ⟨p, 0, none⟩)) ∧ W.cell? ⟨p, 2, none⟩ = some (.slice A n cap) := by
  have h1 := h.cn.cell 0
  have h2 := h.cl.cell 0
  have h3 := h.ce.cell 0
  have h4 := h.pc.cell 2
  simp at h1 h2 h3 h4
  exact ⟨h1, h2, h3, h4⟩
end
theorem set_tick_no {now : Int} {l : List Bd} {j : Nat} {b : Bd} (hj : l[j]? = some b) (h : ¬ b.due ≤ now) : l.set j (tickB now b) = l := by
  have : tickB now b = b := by unfold tickB; rw [if_neg h]
  rw [this]
  have hl := (List.getElem?_eq_some_iff.1 hj).1
  have : l[j] = b := (List.getElem?_eq_some_iff.1 hj).2
  rw [← this, List.set_getElem_self]
/-- The packet of a body. -/
def pkOf (mark : Int) (b : Bd) : Pk := ⟨b.seq, mark, b.text⟩
def psTick (mark now : Int) (b : Bd) (ps : List Pk) : List Pk := if b.due ≤ now then ps ++ [pkOf mark b] else ps
/-- What a body's tick leaves. -/
def TickPost (base pb : Nat) (w : World) (p : Nat) (A : Option Addr) (n cap : Nat) (sent mark now : Int) (nb lb eb : Nat) (l : List Bd) (lv : Value) (ps : List Pk) (j : Nat) (b : Bd) (e : Ending) (w' : World) : Prop :=
  ∃ lv', e = .returned (.tuple #[]) ∧ TS base pb w' p A n cap sent mark now nb lb eb (l.set j (tickB now b)) lv' (psTick mark now b ps) ∧ Keep (fun k => (Value.slice A n cap).ownBlock = some k ∨ k = lb ∨ pb ≤ k) w w'
set_option maxRecDepth 100000 in
set_option maxHeartbeats 3200000 in
theorem tick1_any (base pb p g n cap : Nat) (sent mark now : Int) (nb lb eb : Nat) (l : List Bd) (lv : Value) (ps : List Pk) (j : Nat) (b : Bd) (w : World) (h : TS base pb w p (some ⟨g, 0, none⟩) n cap sent mark now nb lb eb l lv ps) (hd : TD pb p (some ⟨g, 0, none⟩) n cap nb lb eb) (hj : l[j]? = some b) (hok : okB b)
    (hps : ps.length ≤ 1048576) (hn0 : -9223372036854775808 ≤ now) (hn1 : now ≤ 9223372036854775807) :
    Calls Try.prog 43 #[.pointer (some ⟨g, j * 4, none⟩), .pointer (some ⟨nb, 0, none⟩), .pointer (some ⟨lb, 0, none⟩), .pointer (some ⟨eb, 0, none⟩)] w (TickPost base pb w p (some ⟨g, 0, none⟩) n cap sent mark now nb lb eb l lv ps j b) := by
  have hln := h.own.len.1
  have hjn : j < n := by have := (List.getElem?_eq_some_iff.1 hj).1; omega
  obtain ⟨o1, o2, o3, o4, o5⟩ := hd.own g rfl
  obtain ⟨e1, e2, e3, e4⟩ := hd.lt
  obtain ⟨f1, f2, f3⟩ := hd.lne
  obtain ⟨a1, a2, a3, a4⟩ := h.at_
  obtain ⟨_, b', e, hx, c0, c1, c2, c3⟩ := h.own.place hjn
  cases e
  rw [hj] at hx
  cases hx
  have hsz := h.sz
  by_cases hdue : b.due ≤ now
  case neg =>
    have hdd : decide (b.due ≤ now) = false := decide_eq_false hdue
    have hst := set_tick_no hj hdue
    have hp : psTick mark now b ps = ps := by unfold psTick; rw [if_neg hdue]
    have HST := Lib.hid hst
    have HP := Lib.hid hp
    clear hst hp
    go_enter Try.func43, Try.ntmps43
    go_wp2_with fail
    refine wp_region_held_drew (S := (fun w' => w'.cell? ⟨g, j * 4 + 3, none⟩ = some (.int .i64 b.due) ∧ w'.cell? ⟨nb, 0, none⟩ = some (.int .i64 now))) (by kernel_rfl) ⟨c3, a1⟩ (fun hHeld => ?_)
    refine wpAnyH_take (i := 0) (oi := ?oi0N) (v := ?v0N) ?hi0N (by kernel_rfl) (by kernel_rfl) (by kernel_rfl) ?hq0N (Or.inl ⟨?hw0N, ?hy0N⟩) (by assumption) ?rest0N
    case hi0N => (simp only [List.getElem?_toArray, List.getElem?_cons_succ, List.getElem?_cons_zero]; rfl)
    case hq0N => exact fun _ _ _ h => h
    case hw0N => rfl
    case hy0N => (intro w hSw; (try dsimp only at hSw); go_simp <;> with_reducible rfl)
    try simp only [Act.put, List.setIfInBounds_toArray, List.set_cons_zero, List.set_cons_succ]
    refine wpAnyH_take (i := 1) (oi := ?oi1N) (v := ?v1N) ?hi1N (by kernel_rfl) (by kernel_rfl) (by kernel_rfl) ?hq1N (Or.inl ⟨?hw1N, ?hy1N⟩) (by assumption) ?rest1N
    case hi1N => (simp only [List.getElem?_toArray, List.getElem?_cons_succ, List.getElem?_cons_zero]; rfl)
    case hq1N => exact fun _ _ _ h => h
    case hw1N => rfl
    case hy1N => (intro w hSw; (try dsimp only at hSw); go_simp <;> with_reducible rfl)
    try simp only [Act.put, List.setIfInBounds_toArray, List.set_cons_zero, List.set_cons_succ]
    refine wpAnyH_take (i := 2) (oi := ?oi2N) (v := ?v2N) ?hi2N (by kernel_rfl) (by kernel_rfl) (by kernel_rfl) ?hq2N (Or.inl ⟨?hw2N, ?hy2N⟩) (by assumption) ?rest2N
    case hi2N => (simp only [List.getElem?_toArray, List.getElem?_cons_succ, List.getElem?_cons_zero]; rfl)
    case hq2N => exact fun _ _ _ h => h
    case hw2N => rfl
    case hy2N => (intro w hSw; (try dsimp only at hSw); go_simp <;> with_reducible rfl)
    try simp only [Act.put, List.setIfInBounds_toArray, List.set_cons_zero, List.set_cons_succ]
    refine wpAnyH_take (i := 3) (oi := ?oi3N) (v := ?v3N) ?hi3N (by kernel_rfl) (by kernel_rfl) (by kernel_rfl) ?hq3N (Or.inl ⟨?hw3N, ?hy3N⟩) (by assumption) ?rest3N
    case hi3N => (simp only [List.getElem?_toArray, List.getElem?_cons_succ, List.getElem?_cons_zero]; rfl)
    case hq3N => exact fun _ _ _ h => h
    case hw3N => rfl
    case hy3N => (intro w hSw; (try dsimp only at hSw); go_simp <;> with_reducible rfl)
    try simp only [Act.put, List.setIfInBounds_toArray, List.set_cons_zero, List.set_cons_succ]
    refine wpAnyH_take (i := 4) (oi := ?oi4N) (v := ?v4N) ?hi4N (by kernel_rfl) (by kernel_rfl) (by kernel_rfl) ?hq4N (Or.inl ⟨?hw4N, ?hy4N⟩) (by assumption) ?rest4N
    case hi4N => (simp only [List.getElem?_toArray, List.getElem?_cons_succ, List.getElem?_cons_zero]; rfl)
    case hq4N => exact fun _ _ _ h => h
    case hw4N => rfl
    case hy4N => (intro w hSw; (try dsimp only at hSw); go_simp <;> with_reducible rfl)
    try simp only [Act.put, List.setIfInBounds_toArray, List.set_cons_zero, List.set_cons_succ]
    refine wpAnyH_take (i := 5) (oi := ?oi5N) (v := ?v5N) ?hi5N (by kernel_rfl) (by kernel_rfl) (by kernel_rfl) ?hq5N (Or.inl ⟨?hw5N, ?hy5N⟩) (by assumption) ?rest5N
    case hi5N => (simp only [List.getElem?_toArray, List.getElem?_cons_succ, List.getElem?_cons_zero]; rfl)
    case hq5N => exact fun _ _ _ h => h
    case hw5N => rfl
    case hy5N => (intro w hSw; (try dsimp only at hSw); go_simp <;> with_reducible rfl)
    try simp only [Act.put, List.setIfInBounds_toArray, List.set_cons_zero, List.set_cons_succ]
    refine wpAnyH_done (by kernel_rfl) ?_ _
    go_wp2
    go_end0
    refine ⟨lv, rfl, ?_, (Keep.refl _ w).drew⟩
    rw [HST.out, HP.out]
    exact h.drew
  have hdd : decide (b.due ≤ now) = true := decide_eq_true hdue
  have hst : tickB now b = triedB now b := by unfold tickB; rw [if_pos hdue]; rfl
  have hp : psTick mark now b ps = ps ++ [pkOf mark b] := by unfold psTick; rw [if_pos hdue]
  have HST := Lib.hid hst
  have HP := Lib.hid hp
  clear hst hp hdue
  go_enter Try.func43, Try.ntmps43
  go_wp2_with fail
  refine wp_region_held_drew (S := (fun w' => w'.cell? ⟨g, j * 4 + 3, none⟩ = some (.int .i64 b.due) ∧ w'.cell? ⟨nb, 0, none⟩ = some (.int .i64 now))) (by kernel_rfl) ⟨c3, a1⟩ (fun hHeld => ?_)
  refine wpAnyH_take (i := 0) (oi := ?oi0Y) (v := ?v0Y) ?hi0Y (by kernel_rfl) (by kernel_rfl) (by kernel_rfl) ?hq0Y (Or.inl ⟨?hw0Y, ?hy0Y⟩) (by assumption) ?rest0Y
  case hi0Y => (simp only [List.getElem?_toArray, List.getElem?_cons_succ, List.getElem?_cons_zero]; rfl)
  case hq0Y => exact fun _ _ _ h => h
  case hw0Y => rfl
  case hy0Y => (intro w hSw; (try dsimp only at hSw); go_simp <;> with_reducible rfl)
  try simp only [Act.put, List.setIfInBounds_toArray, List.set_cons_zero, List.set_cons_succ]
  refine wpAnyH_take (i := 1) (oi := ?oi1Y) (v := ?v1Y) ?hi1Y (by kernel_rfl) (by kernel_rfl) (by kernel_rfl) ?hq1Y (Or.inl ⟨?hw1Y, ?hy1Y⟩) (by assumption) ?rest1Y
  case hi1Y => (simp only [List.getElem?_toArray, List.getElem?_cons_succ, List.getElem?_cons_zero]; rfl)
  case hq1Y => exact fun _ _ _ h => h
  case hw1Y => rfl
  case hy1Y => (intro w hSw; (try dsimp only at hSw); go_simp <;> with_reducible rfl)
  try simp only [Act.put, List.setIfInBounds_toArray, List.set_cons_zero, List.set_cons_succ]
  refine wpAnyH_take (i := 2) (oi := ?oi2Y) (v := ?v2Y) ?hi2Y (by kernel_rfl) (by kernel_rfl) (by kernel_rfl) ?hq2Y (Or.inl ⟨?hw2Y, ?hy2Y⟩) (by assumption) ?rest2Y
  case hi2Y => (simp only [List.getElem?_toArray, List.getElem?_cons_succ, List.getElem?_cons_zero]; rfl)
  case hq2Y => exact fun _ _ _ h => h
  case hw2Y => rfl
  case hy2Y => (intro w hSw; (try dsimp only at hSw); go_simp <;> with_reducible rfl)
  try simp only [Act.put, List.setIfInBounds_toArray, List.set_cons_zero, List.set_cons_succ]
  refine wpAnyH_take (i := 3) (oi := ?oi3Y) (v := ?v3Y) ?hi3Y (by kernel_rfl) (by kernel_rfl) (by kernel_rfl) ?hq3Y (Or.inl ⟨?hw3Y, ?hy3Y⟩) (by assumption) ?rest3Y
  case hi3Y => (simp only [List.getElem?_toArray, List.getElem?_cons_succ, List.getElem?_cons_zero]; rfl)
  case hq3Y => exact fun _ _ _ h => h
  case hw3Y => rfl
  case hy3Y => (intro w hSw; (try dsimp only at hSw); go_simp <;> with_reducible rfl)
  try simp only [Act.put, List.setIfInBounds_toArray, List.set_cons_zero, List.set_cons_succ]
  refine wpAnyH_take (i := 4) (oi := ?oi4Y) (v := ?v4Y) ?hi4Y (by kernel_rfl) (by kernel_rfl) (by kernel_rfl) ?hq4Y (Or.inl ⟨?hw4Y, ?hy4Y⟩) (by assumption) ?rest4Y
  case hi4Y => (simp only [List.getElem?_toArray, List.getElem?_cons_succ, List.getElem?_cons_zero]; rfl)
  case hq4Y => exact fun _ _ _ h => h
  case hw4Y => rfl
  case hy4Y => (intro w hSw; (try dsimp only at hSw); go_simp <;> with_reducible rfl)
  try simp only [Act.put, List.setIfInBounds_toArray, List.set_cons_zero, List.set_cons_succ]
  refine wpAnyH_take (i := 5) (oi := ?oi5Y) (v := ?v5Y) ?hi5Y (by kernel_rfl) (by kernel_rfl) (by kernel_rfl) ?hq5Y (Or.inl ⟨?hw5Y, ?hy5Y⟩) (by assumption) ?rest5Y
  case hi5Y => (simp only [List.getElem?_toArray, List.getElem?_cons_succ, List.getElem?_cons_zero]; rfl)
  case hq5Y => exact fun _ _ _ h => h
  case hw5Y => rfl
  case hy5Y => (intro w hSw; (try dsimp only at hSw); go_simp <;> with_reducible rfl)
  try simp only [Act.put, List.setIfInBounds_toArray, List.set_cons_zero, List.set_cons_succ]
  refine wpAnyH_done (by kernel_rfl) ?_ _
  go_wp2_with fail
  refine wp_region_z (S := (fun w' => w'.cell? ⟨lb, 0, none⟩ = some lv ∧ w'.cell? ⟨eb, 0, none⟩ = some (.pointer (some ⟨p, 0, none⟩)) ∧ w'.cell? ⟨nb, 0, none⟩ = some (.int .i64 now))) 7 (by kernel_rfl) ⟨a2, a3, a1⟩ (fun hHeld => ?_)
  refine wpAnyZ_take (i := 0) (oi := ?oi0R1) (u := ?v0R1) ?hi0R1 (by kernel_rfl) (by decide) (by kernel_rfl) (by kernel_rfl) (by kernel_rfl) ?hq0R1 (Or.inl ⟨?hw0R1, ?hy0R1⟩) (by assumption) ?rest0R1
  case hi0R1 => (simp only [List.getElem?_toArray, List.getElem?_cons_succ, List.getElem?_cons_zero]; rfl)
  case hq0R1 => exact fun _ _ _ h => h
  case hw0R1 => rfl
  case hy0R1 => (intro w hSw; (try dsimp only at hSw); go_simp <;> with_reducible rfl)
  try simp only [Act.put, List.setIfInBounds_toArray, List.set_cons_zero, List.set_cons_succ]
  refine wpAnyZ_take (i := 1) (oi := ?oi1R1) (u := ?v1R1) ?hi1R1 (by kernel_rfl) (by decide) (by kernel_rfl) (by kernel_rfl) (by kernel_rfl) ?hq1R1 (Or.inl ⟨?hw1R1, ?hy1R1⟩) (by assumption) ?rest1R1
  case hi1R1 => (simp only [List.getElem?_toArray, List.getElem?_cons_succ, List.getElem?_cons_zero]; rfl)
  case hq1R1 => exact fun _ _ _ h => h
  case hw1R1 => rfl
  case hy1R1 => (intro w hSw; (try dsimp only at hSw); go_simp <;> with_reducible rfl)
  try simp only [Act.put, List.setIfInBounds_toArray, List.set_cons_zero, List.set_cons_succ]
  refine wpAnyZ_take (i := 2) (oi := ?oi2R1) (u := ?v2R1) ?hi2R1 (by kernel_rfl) (by decide) (by kernel_rfl) (by kernel_rfl) (by kernel_rfl) ?hq2R1 (Or.inl ⟨?hw2R1, ?hy2R1⟩) (by assumption) ?rest2R1
  case hi2R1 => (simp only [List.getElem?_toArray, List.getElem?_cons_succ, List.getElem?_cons_zero]; rfl)
  case hq2R1 => exact fun _ _ _ h => h
  case hw2R1 => rfl
  case hy2R1 => (intro w hSw; (try dsimp only at hSw); go_simp <;> with_reducible rfl)
  try simp only [Act.put, List.setIfInBounds_toArray, List.set_cons_zero, List.set_cons_succ]
  refine wpAnyZ_take (i := 3) (oi := ?oi3R1) (u := ?v3R1) ?hi3R1 (by kernel_rfl) (by decide) (by kernel_rfl) (by kernel_rfl) (by kernel_rfl) ?hq3R1 (Or.inl ⟨?hw3R1, ?hy3R1⟩) (by assumption) ?rest3R1
  case hi3R1 => (simp only [List.getElem?_toArray, List.getElem?_cons_succ, List.getElem?_cons_zero]; rfl)
  case hq3R1 => exact fun _ _ _ h => h
  case hw3R1 => rfl
  case hy3R1 => (intro w hSw; (try dsimp only at hSw); go_simp <;> with_reducible rfl)
  try simp only [Act.put, List.setIfInBounds_toArray, List.set_cons_zero, List.set_cons_succ]
  refine wpAnyZ_one (i := 4) (o := ?o4R1) (by kernel_rfl) ?hi4R1 (fun K hK => ?st4R1)
  case hi4R1 => (simp only [List.getElem?_toArray, List.getElem?_cons_succ, List.getElem?_cons_zero]; rfl)
  go_simp
  refine (try_any base p g n cap sent mark now (.slice (some ⟨g, 0, none⟩) n cap) l j b _ h.drew.drew.pc h.drew.drew.own hln hj hok.t1 (by have := hok.t0; omega) hok.text (fun e => o2 e.symm) hn0 hn1).mono ?_
  rintro e w1 ⟨x, rfl, hx1, ho1, hk1⟩
  obtain ⟨Ax, cx, hfx, _⟩ := hx1.form
  subst hfx
  have hx1 := hx1.mono (base' := pb) (by exact hsz)
  have pc1 := h.drew.drew.pc.kept hk1 (fun e => o2 e.symm)
  have cn1 := h.drew.drew.cn.kept hk1 (fun e => o3 e.symm)
  have cl1 := h.drew.drew.cl.kept hk1 (fun e => o4 e.symm)
  have ce1 := h.drew.drew.ce.kept hk1 (fun e => o5 e.symm)
  have pk1 := h.drew.drew.pk.kept hk1 (fun q h1 _ e => by omega)
  have hz1 : w.heap.size ≤ w1.heap.size := hk1.size
  have k1 : Keep (fun k => (Value.slice (some ⟨g, 0, none⟩) n cap).ownBlock = some k ∨ k = lb ∨ pb ≤ k) w w1 := ((Keep.refl _ w).drew.drew).trans hk1 (fun i hi e => by rw [e]; exact Or.inl rfl)
  have d1 := cl1.cell 0
  have d2 := ce1.cell 0
  have d3 := cn1.cell 0
  simp at d1 d2 d3
  go_wp2_with fail
  refine hK.out _ _ (fun _ => ⟨d1, d2, d3⟩) (fun hHeld2 => ?_)
  clear hK K hHeld
  have hHeld := hHeld2 (by decide)
  clear hHeld2
  try simp only [Act.put, List.setIfInBounds_toArray, List.set_cons_zero, List.set_cons_succ]
  refine wpAnyZ_one (i := 5) (o := ?o5R1) (by kernel_rfl) ?hi5R1 (fun K hK => ?st5R1)
  case hi5R1 => (simp only [List.getElem?_toArray, List.getElem?_cons_succ, List.getElem?_cons_zero]; rfl)
  go_simp
  have pc2 := pc1.alloc (.cells #[.int .i64 b.seq, .int .i64 mark, .slice Ax b.text.length cx] 32)
  have cn2 := cn1.alloc (.cells #[.int .i64 b.seq, .int .i64 mark, .slice Ax b.text.length cx] 32)
  have cl2 := cl1.alloc (.cells #[.int .i64 b.seq, .int .i64 mark, .slice Ax b.text.length cx] 32)
  have ce2 := ce1.alloc (.cells #[.int .i64 b.seq, .int .i64 mark, .slice Ax b.text.length cx] 32)
  have pk2 := pk1.alloc (.cells #[.int .i64 b.seq, .int .i64 mark, .slice Ax b.text.length cx] 32)
  have ho2 := ho1.alloc (.cells #[.int .i64 b.seq, .int .i64 mark, .slice Ax b.text.length cx] 32)
  have hx2 := hx1.alloc (.cells #[.int .i64 b.seq, .int .i64 mark, .slice Ax b.text.length cx] 32)
  have k2 := k1.alloc (.cells #[.int .i64 b.seq, .int .i64 mark, .slice Ax b.text.length cx] 32)
  have nb2 := Blk.new w1 32 #[.int .i64 b.seq, .int .i64 mark, .slice Ax b.text.length cx]
  have g1 := cl2.cell 0
  have g2 := ce2.cell 0
  have g3 := cn2.cell 0
  simp at g1 g2 g3
  have hz2 := nb2.lt
  refine hK.out _ _ (fun _ => ⟨g1, g2, g3⟩) (fun hHeld2 => ?_)
  clear hK K hHeld
  have hHeld := hHeld2 (by decide)
  clear hHeld2
  try simp only [Act.put, List.setIfInBounds_toArray, List.set_cons_zero, List.set_cons_succ]
  refine wpAnyZ_one (i := 6) (o := ?o6R1) (by kernel_rfl) ?hi6R1 (fun K hK => ?st6R1)
  case hi6R1 => (simp only [List.getElem?_toArray, List.getElem?_cons_succ, List.getElem?_cons_zero]; rfl)
  rw [if_pos (by rfl)]
  refine wp_appPB (.tmp 11) (.tmp 16) rfl pb lv ps rfl pk2 ⟨w1.heap.size, 0, none⟩ rfl (pkOf mark b) (.slice Ax b.text.length cx) (nb2.cell 0) (by rw [Addr.add_lit]; exact nb2.cell 1) (by rw [Addr.add_lit]; exact nb2.cell 2) hx2 (by omega) (by omega) ?_
  intro v4 w4 pk4 k4 e4
  have hown4 : ∀ q, v4.ownBlock = some q → pb ≤ q := fun q hq => (pk4.lt q hq).1
  have hlvo : ∀ q, lv.ownBlock = some q → pb ≤ q := fun q hq => (h.pk.lt q hq).1
  obtain ⟨A4, c4, hf4, _⟩ := pk4.form
  obtain ⟨M4, hM4⟩ : ∃ M, (ps ++ [pkOf mark b]).length = M := ⟨_, rfl⟩
  rw [hM4] at hf4
  subst hf4
  have pc4 := pc2.kept k4 (fun e => by have := hlvo _ e; omega)
  have cn4 := cn2.kept k4 (fun e => by have := hlvo _ e; omega)
  have cl4 := cl2.kept k4 (fun e => by have := hlvo _ e; omega)
  have ce4 := ce2.kept k4 (fun e => by have := hlvo _ e; omega)
  have ho4 := ho2.kept k4 (fun q hq e => by have h1 := hlvo _ e; have h2 := (hd.own q hq).1; omega)
  have kk4 := k2.trans k4 (fun i hi e => Or.inr (Or.inr (hlvo _ e)))
  have y1 := cl4.cell 0
  have y2 := ce4.cell 0
  have y3 := cn4.cell 0
  have yf := fun i => cl4.frozen i
  simp at y1 y2 y3
  have hz4 := k4.size
  refine hK.out _ _ (fun _ => ⟨y1, y2, y3⟩) (fun hHeld2 => ?_)
  clear hK K hHeld
  have hHeld := hHeld2 (by decide)
  clear hHeld2
  try simp only [Act.put, List.setIfInBounds_toArray, List.set_cons_zero, List.set_cons_succ]
  refine wpAnyZ_one (i := 7) (o := ?o7R1) (by kernel_rfl) ?hi7R1 (fun K hK => ?st7R1)
  case hi7R1 => (simp only [List.getElem?_toArray, List.getElem?_cons_succ, List.getElem?_cons_zero]; rfl)
  go_simp
  go_simp
  have kS : Keep (fun k => k = lb) w4 (w4.setCell ⟨lb, 0, none⟩ (.slice A4 M4 c4)) := (Keep.refl (fun k => k = lb) w4).setCell (p := ⟨lb, 0, none⟩) (fun _ => rfl) _
  have clE := cl4.set_ 0 (.slice A4 M4 c4)
  simp at clE
  generalize w4.setCell ⟨lb, 0, none⟩ (.slice A4 M4 c4) = WE at kS clE ⊢
  have pcE := pc4.kept kS (fun e => f1 e.symm)
  have cnE := cn4.kept kS (fun e => f2 e.symm)
  have ceE := ce4.kept kS (fun e => f3 e.symm)
  have owE := ho4.kept kS (fun q hq e => (hd.own q hq).2.2.2.1 e)
  have pkE := pk4.kept kS (fun q h1 _ e => by omega)
  have kE := kk4.trans kS (fun i hi e => Or.inr (Or.inl e))
  have szE : pb ≤ WE.heap.size := by have := kS.size; omega
  refine hK.out _ _ (fun h => absurd rfl h) (fun hHeld2 => ?_)
  clear hK K hHeld
  clear hHeld2
  try simp only [Act.put, List.setIfInBounds_toArray, List.set_cons_zero, List.set_cons_succ]
  refine wpAnyZ_done (by kernel_rfl) ?_ _
  go_wp2
  go_end0
  refine ⟨(.slice A4 M4 c4), rfl, ?_, kE⟩
  rw [HST.out, HP.out]
  exact ⟨pcE, owE, cnE, clE, ceE, pkE, szE⟩

theorem map_step {now : Int} {l : List Bd} {j : Nat} {b : Bd} (hj : l[j]? = some b) : ((l.take j).map (tickB now) ++ l.drop j).set j (tickB now b) = (l.take (j + 1)).map (tickB now) ++ l.drop (j + 1) := by
  have hl := (List.getElem?_eq_some_iff.1 hj).1
  have hlen : ((l.take j).map (tickB now)).length = j := by rw [List.length_map, List.length_take]; omega
  rw [List.set_append_right _ _ (by omega), hlen, Nat.sub_self, take_one hj, List.map_append, List.append_assoc]
  congr 1
  rw [List.drop_eq_getElem_cons hl, List.set_cons_zero]
  rfl
theorem ps_step {mark now : Int} {l : List Bd} {j : Nat} {b : Bd} (hj : l[j]? = some b) : psTick mark now b (tickP mark now (l.take j)) = tickP mark now (l.take (j + 1)) := by
  rw [take_one hj, tickP_snoc]
  rfl
theorem at_rest {now : Int} {l : List Bd} {j : Nat} {b : Bd} (hj : l[j]? = some b) : ((l.take j).map (tickB now) ++ l.drop j)[j]? = some b := by
  have hl := (List.getElem?_eq_some_iff.1 hj).1
  have hlen : ((l.take j).map (tickB now)).length = j := by rw [List.length_map, List.length_take]; omega
  rw [List.getElem?_append_right (by omega), hlen, Nat.sub_self, List.getElem?_drop]
  simpa using hj
/-- What each leaves. -/
def EachPost (base pb : Nat) (w : World) (p : Nat) (A : Option Addr) (n cap : Nat) (sent mark now : Int) (nb lb eb : Nat) (l : List Bd) (e : Ending) (w' : World) : Prop :=
  ∃ lv', e = .returned (.tuple #[]) ∧ TS base pb w' p A n cap sent mark now nb lb eb (l.map (tickB now)) lv' (tickP mark now l) ∧ Keep (fun k => (Value.slice A n cap).ownBlock = some k ∨ k = lb ∨ pb ≤ k) w w'
set_option maxRecDepth 100000 in
set_option maxHeartbeats 3200000 in
theorem each_tick (base pb p n cap : Nat) (A : Option Addr) (sent mark now : Int) (nb lb eb : Nat) (l : List Bd) (lv : Value) (w : World) (h : TS base pb w p A n cap sent mark now nb lb eb l lv []) (hd : TD pb p A n cap nb lb eb) (hok : ∀ b ∈ l, okB b)
    (hps : l.length ≤ 1048576) (hn0 : -9223372036854775808 ≤ now) (hn1 : now ≤ 9223372036854775807) :
    Calls Try.prog 42 #[.pointer (some ⟨p, 0, none⟩), .func (.func 43) #[] #[.pointer (some ⟨nb, 0, none⟩), .pointer (some ⟨lb, 0, none⟩), .pointer (some ⟨eb, 0, none⟩)]] w (EachPost base pb w p A n cap sent mark now nb lb eb l) := by
  have hln := h.own.len.1
  have hnm : n ≤ 1048576 := by omega
  obtain ⟨a1, a2, a3, a4⟩ := h.at_
  go_enter Try.func42, Try.ntmps42
  go_wp2
  go_loopw [10] (fun i wr => ∃ (j : Nat) (lv' : Value), i = .int .i64 (j : Int) ∧ j ≤ n ∧ TS base pb wr p A n cap sent mark now nb lb eb ((l.take j).map (tickB now) ++ l.drop j) lv' (tickP mark now (l.take j)) ∧ Keep (fun k => (Value.slice A n cap).ownBlock = some k ∨ k = lb ∨ pb ≤ k) w wr) (fun i _ => n - (intOf i).toNat)
  case atStart => exact ⟨0, lv, by go_num, by omega, h, Keep.refl _ _⟩
  case round =>
    obtain ⟨j, lv', rfl, hj, hT, hK⟩ := hrel
    clear a1 a2 a3 a4 h
    by_cases hlt : j < n
    · have hlz : (j : Int) < (n : Int) := by omega
      have hj0 : (0 : Int) ≤ (j : Int) := by omega
      obtain ⟨b, hb⟩ : ∃ b, l[j]? = some b := ⟨_, List.getElem?_eq_getElem (by omega)⟩
      obtain ⟨g, _, rfl, _⟩ := hT.own.place hlt
      obtain ⟨a1, a2, a3, a4⟩ := hT.at_
      have hpl : (tickP mark now (l.take j)).length ≤ 1048576 := by
        have h1 := tickP_le mark now (l.take j)
        rw [List.length_take] at h1
        omega
      have hone := tick1_any base pb p g n cap sent mark now nb lb eb _ lv' _ j b wr hT hd (at_rest hb) (hok b (List.mem_of_getElem? hb)) hpl hn0 hn1
      rw [show TickPost base pb wr p (some ⟨g, 0, none⟩) n cap sent mark now nb lb eb ((l.take j).map (tickB now) ++ l.drop j) lv' (tickP mark now (l.take j)) j b = fun e w' => ∃ lv2, e = .returned (.tuple #[]) ∧ TS base pb w' p (some ⟨g, 0, none⟩) n cap sent mark now nb lb eb ((l.take (j + 1)).map (tickB now) ++ l.drop (j + 1)) lv2 (tickP mark now (l.take (j + 1))) ∧ Keep (fun k => (Value.slice (some ⟨g, 0, none⟩) n cap).ownBlock = some k ∨ k = lb ∨ pb ≤ k) wr w' by funext e w'; unfold TickPost; rw [map_step hb, ps_step hb]] at hone
      clear hb
      go_wp2_with fail
      refine hone.mono ?_
      rintro e w2 ⟨lv2, rfl, hT2, hK2⟩
      have hK3 := hK.trans hK2 (fun i hi e => e)
      clear hone hT hK hK2 hpl
      go_wp2
      go_roundw
      case measure => simp [intOf]; omega
      case rel => exact ⟨j + 1, lv2, by go_num, by omega, hT2, hK3⟩
    · have hjn : j = n := by omega
      have hlz : ¬ (j : Int) < (n : Int) := by omega
      rw [hjn, List.take_of_length_le (by omega), List.drop_eq_nil_of_le (by omega), List.append_nil] at hT
      clear hjn
      go_wp2
      go_end0
      exact ⟨lv', rfl, hT, hK⟩
theorem tick_nil (now : Int) (w : World) : Calls Try.prog 16 #[.pointer none, .int .i64 now] w fun e w' => e = .returned (.slice none 0 0) ∧ Below w.heap.size w w' := by
  go_enter Try.func16, Try.ntmps16
  go_wp2
  go_ret
  exact ⟨rfl, ((Below.refl _ _).alloc (Nat.le_refl _) _).alloc (by simp) _⟩
set_option maxRecDepth 100000 in
set_option maxHeartbeats 3200000 in
theorem tick_any {base p : Nat} {sent mark : Int} {v : Value} {l : List Bd} (now : Int) (w : World) (h : ES base w p sent mark v l) (hok : ∀ b ∈ l, okB b)
    (hps : l.length ≤ 1048576) (hn0 : -9223372036854775808 ≤ now) (hn1 : now ≤ 9223372036854775807) :
    Calls Try.prog 16 #[.pointer (some ⟨p, 0, none⟩), .int .i64 now] w fun e w' => ∃ lv, e = .returned lv ∧ PB w.heap.size w' lv (tickP mark now l) ∧ ES base w' p sent mark v (l.map (tickB now)) ∧ Keep (fun k => v.ownBlock = some k) w w' := by
  have hpl := h.pc.lt
  have hvp := h.ne
  have hlt := h.own.lt
  have hbp := h.bp
  obtain ⟨A, cap, rfl, _⟩ := h.own.form
  obtain ⟨n, hn⟩ : ∃ n, l.length = n := ⟨_, rfl⟩
  rw [hn] at hvp hlt ⊢
  have hB := h.own
  have hP := h.pc
  rw [hn] at hB hP
  clear h
  have e1 := Blk.new w 23 #[.pointer (some ⟨p, 0, none⟩)]
  have e2 := Blk.new (w.alloc (.cells #[.pointer (some ⟨p, 0, none⟩)] 23)) 3 #[.int .i64 now]
  have e3 := Blk.new ((w.alloc (.cells #[.pointer (some ⟨p, 0, none⟩)] 23)).alloc (.cells #[.int .i64 now] 3)) 39 #[.slice none 0 0]
  rw [World.size_alloc] at e2
  rw [World.size_alloc, World.size_alloc] at e3
  have hT : TS base (w.heap.size + 1 + 1 + 1) (((w.alloc (.cells #[.pointer (some ⟨p, 0, none⟩)] 23)).alloc (.cells #[.int .i64 now] 3)).alloc (.cells #[.slice none 0 0] 39)) p A n cap sent mark now (w.heap.size + 1) (w.heap.size + 1 + 1) w.heap.size l (.slice none 0 0) [] :=
    ⟨((hP.alloc _).alloc _).alloc _, ((hB.alloc _).alloc _).alloc _, e2.alloc _, e3, (e1.alloc _).alloc _, PB.nil _ _, by simp⟩
  have hD : TD (w.heap.size + 1 + 1 + 1) p A n cap (w.heap.size + 1) (w.heap.size + 1 + 1) w.heap.size :=
    ⟨fun k hk => by
      have h1 := (hlt k hk).2
      have h2 : k ≠ p := fun e => hvp (by rw [hk, e])
      omega, by omega, by omega⟩
  have hk0 : Keep (fun k => (Value.slice A n cap).ownBlock = some k) w (((w.alloc (.cells #[.pointer (some ⟨p, 0, none⟩)] 23)).alloc (.cells #[.int .i64 now] 3)).alloc (.cells #[.slice none 0 0] 39)) := (((Keep.refl _ w).alloc _).alloc _).alloc _
  clear e1 e2 e3
  go_enter Try.func16, Try.ntmps16
  go_wp2_with fail
  refine (each_tick base _ p n cap A sent mark now _ _ _ l _ _ hT hD hok hps hn0 hn1).mono ?_
  rintro e w2 ⟨lv, rfl, hT2, hK2⟩
  have a2 := hT2.cl.cell 0
  simp at a2
  have hk2 := hk0.trans hK2 (fun i hi e => by rcases e with e | e | e; exact e; omega; omega)
  clear hT hD hk0 hK2
  go_wp2
  go_ret
  exact ⟨lv, rfl, hT2.pk.kept (Keep.refl (fun _ => False) _) (fun _ _ _ h => h) |> fun q => q.mono' (by omega), ⟨hT2.pc, hT2.own, hvp, hbp⟩, hk2⟩
end Go.Proofs.Ytfgceplafjbmhaa
