/- The document's Tick. No condition but that the end lies in memory. -/
import Derived.Test.YtfgceplafjbmhaaLqS
namespace Go.Proofs.Ytfgceplafjbmhaa
open Go.RowKit
set_option linter.unusedVariables false
set_option linter.unusedSimpArgs false

def tickI (now : Int) (x : Iv) : Iv := if x.due ≤ now then ⟨x.seq, x.s, x.tries + 1, nextN now 2 16 x.tries⟩ else x
theorem tickI_b {now : Int} {x : Iv} (h : x.tries < topI) : (tickI now x).b = tickB now x.b := by
  obtain ⟨a, s, t, d⟩ := x
  unfold tickI tickB Iv.b
  dsimp only at h ⊢
  by_cases hd : d ≤ now
  · rw [if_pos hd, if_pos hd, upT, if_pos h]
  · rw [if_neg hd, if_neg hd]
theorem tickI_s (now : Int) (x : Iv) : (tickI now x).s = x.s := by unfold tickI; split <;> rfl
theorem map_put {α : Type} {f : α → α} {l : List α} {j : Nat} {b : α} (hj : l[j]? = some b) : ((l.take j).map f ++ l.drop j).set j (f b) = (l.take (j + 1)).map f ++ l.drop (j + 1) := by
  have hl := (List.getElem?_eq_some_iff.1 hj).1
  have hlen : ((l.take j).map f).length = j := by rw [List.length_map, List.length_take]; omega
  rw [List.set_append_right _ _ (by omega), hlen, Nat.sub_self, List.take_add_one, hj, List.map_append, List.append_assoc]
  congr 1
  rw [List.drop_eq_getElem_cons hl, List.set_cons_zero]
  rfl
theorem map_at {α : Type} {f : α → α} {l : List α} {j : Nat} {b : α} (hj : l[j]? = some b) : ((l.take j).map f ++ l.drop j)[j]? = some b := by
  have hl := (List.getElem?_eq_some_iff.1 hj).1
  have hlen : ((l.take j).map f).length = j := by rw [List.length_map, List.length_take]; omega
  rw [List.getElem?_append_right (by omega), hlen, Nat.sub_self, List.getElem?_drop]
  simpa using hj
theorem map_len {α : Type} {f : α → α} {l : List α} {j : Nat} : ((l.take j).map f ++ l.drop j).length = l.length := by
  rw [List.length_append, List.length_map, List.length_take, List.length_drop]
  omega
theorem IO.nePR {b b' : Nat} {w : World} {v v' : Value} {l : List Iv} {ps : List Pv} (h : IO b w v l) (hp : PR b' w v' ps) {g : Nat} (hv : v.ownBlock = some g) : ¬ v'.ownBlock = some g := by
  rcases h.2 with ⟨rfl, _⟩ | ⟨g1, cap, cur, rfl, _, hgg, _⟩
  · simp [Value.ownBlock] at hv
  · have e : g1 = g := by simpa [Value.ownBlock] using hv
    subst e
    rcases hp.2 with ⟨rfl, _⟩ | ⟨g2, cap2, cur2, rfl, _, hg2, _⟩
    · simp [Value.ownBlock]
    · intro he
      have e : g2 = g1 := by simpa [Value.ownBlock] using he
      subst e
      rw [hgg] at hg2
      injection hg2 with h1
      injection h1 with _ h3
      exact absurd h3 (by decide)
/-- Packets whose bodies lay below B in the world w. -/
def BD (B q : Nat) (w : World) (l : List Pv) : Prop := ∀ x ∈ l, ∃ A c, x.v = .slice A x.p.body.length c ∧ RB w A x.p.body.length x.p.body ∧ (0 < x.p.body.length → ∀ ad, A = some ad → ad.block < B ∧ ad.block ≠ q)
theorem wp_appPR {w : World} {o : Oper} {a : Act} {KB : Act → World → Prop} {Q : Exit → Act → World → Prop} (s x : Operand) (ho : o.op = .call { callee := .builtin .append, args := #[s, x], argTypes := #[39, 39] })
    (base : Nat) (v : Value) (l : List Pv) (hs : a.eval s = v) (hown : PR base w v l) (ad : Addr) (hx : a.eval x = .slice (some ad) 1 1) (y : Pv) (hc : ∀ j u, y.cs[j]? = some u → w.cell? (ad.add j) = some u)
    (hn : (l.length + 1) * 40 ≤ 140737488355328) (hbase : base ≤ w.heap.size)
    (h : ∀ v' w', PR base w' v' (l ++ [y]) → Keep (fun k => v.ownBlock = some k) w w' → (v'.ownBlock = v.ownBlock ∨ v'.ownBlock = some w.heap.size) → KB (a.put o.dst v') w') : o.wp Try.prog a w KB Q := by
  obtain ⟨v', w', hrun, h2, h3, h4⟩ := run_appPR w base o.type v l hown ad y hc hn hbase
  unfold Oper.wp execOp
  simp only [ho, resolve, invoke, builtin, Sem.run_bind, Sem.run_pure, Result.andThen_ok, List.map_toArray, List.map_cons, List.map_nil, hs, hx, hrun]
  exact h v' w' h2 h3 h4
/-- A slice of packets, as it reads. -/
def PBR (w : World) (v : Value) (ps : List Pk) : Prop :=
  ∃ A cap, v = .slice A ps.length cap ∧ ps.length ≤ cap ∧ cap ≤ maxLen ∧ ∀ (j : Nat) (p : Pk), ps[j]? = some p → ∃ b A' c', A = some ⟨b, 0, none⟩ ∧ w.cell? ⟨b, j * 3, none⟩ = some (.int .i64 p.seq) ∧ w.cell? ⟨b, j * 3 + 1, none⟩ = some (.int .i64 p.ack) ∧ w.cell? ⟨b, j * 3 + 2, none⟩ = some (.slice A' p.body.length c') ∧ RB w A' p.body.length p.body
theorem PBR.below {w w' : World} {v : Value} {ps : List Pk} (h : PBR w v ps) (hb : Below w.heap.size w w') : PBR w' v ps := by
  obtain ⟨A, cap, h1, h2, h3, h4⟩ := h
  refine ⟨A, cap, h1, h2, h3, fun j p hp => ?_⟩
  obtain ⟨b, A', c', e, c0, c1, c2, hr⟩ := h4 j p hp
  exact ⟨b, A', c', e, (hb.cell (World.block_lt_of_cell? _ _ c0)).trans c0, (hb.cell (World.block_lt_of_cell? _ _ c1)).trans c1, (hb.cell (World.block_lt_of_cell? _ _ c2)).trans c2, hr.below hb⟩
theorem PBR.of {base B q : Nat} {w w' : World} {v : Value} {l : List Pv} {ps : List Pk} (hr : PR base w' v l) (he : l.map (·.p) = ps) (ho : BD B q w l) (hb : Keep (fun k => B ≤ k ∨ k = q) w w') : PBR w' v ps := by
  subst he
  obtain ⟨A, cap, rfl, h1, h2, _, _, h3⟩ := hr.form
  refine ⟨A, cap, by rw [List.length_map], by rw [List.length_map]; exact h1, h2, fun j p hp => ?_⟩
  rw [List.getElem?_map] at hp
  cases hx : l[j]? with
  | none => rw [hx] at hp; cases hp
  | some x =>
    rw [hx] at hp
    cases hp
    obtain ⟨b, e, hc⟩ := h3 j x hx
    obtain ⟨A', c', e2, hrb, hlt⟩ := ho x (List.mem_of_getElem? hx)
    exact ⟨b, A', c', e, hc 0 _ rfl, hc 1 _ rfl, by rw [← e2]; exact hc 2 _ rfl, hrb.kept' hb (fun hp ad e3 e4 => by have h9 := hlt hp ad e3; rcases e4 with e4 | e4 <;> omega)⟩
/-- What Tick leaves. -/
def RTickPost (F : Nat → Prop) (w : World) (q : Nat) (l : List Bd) (sent mark now : Int) (e : Ending) (w' : World) : Prop :=
  ∃ v, e = .returned v ∧ PBR w' v (tickP mark now l) ∧ QN (fun k => F k ∨ w.heap.size ≤ k) w' q (l.map (tickB now)) sent mark ∧ Keep (fun k => k = q) w w'
set_option maxRecDepth 100000 in
set_option maxHeartbeats 6400000 in
theorem rtick_any {F : Nat → Prop} {q : Nat} {l : List Bd} {sent mark : Int} (now : Int) (w : World) (hQ : QN F w q l sent mark) (hl : l.length ≤ 1048576) (hok : ∀ b ∈ l, b.tries < topI) (htr : ∀ b ∈ l, 0 ≤ b.tries) (h0 : -9223372036854775808 ≤ now) (h1 : now ≤ 9223372036854775807) :
    Calls Try.prog 17 #[.pointer (some ⟨q, 0, none⟩), .int .i64 now] w (RTickPost F w q l sent mark now) := by
  obtain ⟨v, xs, hE, hxl⟩ := hQ
  have hxn : xs.length = l.length := by rw [← hxl, List.length_map]
  have hmt : l.map (tickB now) = (xs.map (tickI now)).map Iv.b := by
    rw [← hxl, List.map_map, List.map_map]
    apply List.map_congr_left
    intro x hx
    exact (tickI_b (hok x.b (by rw [← hxl]; exact List.mem_map_of_mem hx))).symm
  have htx : ∀ x ∈ xs, x.tries < topI ∧ 0 ≤ x.tries := fun x hx => ⟨hok x.b (by rw [← hxl]; exact List.mem_map_of_mem hx), htr x.b (by rw [← hxl]; exact List.mem_map_of_mem hx)⟩
  obtain ⟨Av, cv, rfl, hfm⟩ := hE.own.form
  have hAv : Av = none ∨ ∃ b off, Av = some ⟨b, off, none⟩ := by
    cases hA : Av with
    | none => exact .inl rfl
    | some ad =>
      obtain ⟨b, e, _⟩ := hfm.2.2.1 ad hA
      exact .inr ⟨b, 0, by rw [e]⟩
  clear hfm
  obtain ⟨N, hN⟩ : ∃ N, xs.length = N := ⟨_, rfl⟩
  rw [hN] at hE hxn
  replace hE := hE.mono (G := fun k => F k ∧ k < w.heap.size) fun k hk e => ⟨e, hk⟩
  have hO0 := IO.form0 w
  have hb0 := (Below.refl w.heap.size w).alloc (Nat.le_refl _) (.cells #[] 86)
  have hwr0 := hE.own.wr.below hb0
  have hE0 := hE.below hb0
  obtain ⟨e0, e1, e2⟩ := hE0.fields
  have hNl : N ≤ 1048576 := by omega
  have HXN := Lib.hid hxn
  clear hxn
  go_enter Try.func17, Try.ntmps17
  go_wp2_with (at_builtin; go_loud (refine wpAppIOn rfl (.tmp 8) (.tmp 12) rfl w.heap.size (.slice (some ⟨w.heap.size, 0, none⟩) 0 0) [] rfl hO0 Av N cv rfl xs hwr0 hAv (by simp; omega) hb0.size ?_; intro v7 w7 hO7 hK7 e7))
  rw [List.nil_append] at hO7
  have hb7 := hb0.trans (hK7.below (B := w.heap.size) hb0.size (fun i hi e => by have := (hO0.lt i e).1; omega))
  obtain ⟨Al, cl, rfl, hfm⟩ := hO7.form
  clear hfm
  rw [hN] at hO7
  try rw [hN]
  obtain ⟨KB, hK⟩ : ∃ KB, w.heap.size = KB := ⟨_, rfl⟩
  have hEK : ∀ W, Below KB w W → QE (fun k => F k ∧ k < w.heap.size) W q (.slice Av N cv) xs sent mark := fun W hb => hE.below (by rw [hK]; exact hb)
  have hqK : q < KB := by have := hE.pc.lt; omega
  have HK4 := Lib.hid hK
  rw [hK] at hO7 hb7
  clear hO0 hb0 hwr0 hE0 e0 e1 e2 hK7 e7 hK
  go_loopw [5, 7] (fun ov i wr => ∃ (k : Nat) (pv : List Pv), i = .int .i64 (k : Int) ∧ k ≤ N ∧ PR KB wr ov pv ∧ Hid (pv.map (·.p) = tickP mark now (l.take k)) ∧ Hid (BD KB q w pv) ∧ IO KB wr (.slice Al N cl) ((xs.take k).map (tickI now) ++ xs.drop k) ∧ Below KB w wr) (fun _ i _ => N - (intOf i).toNat)
  case atStart => exact ⟨0, [], by go_num, by omega, PR.nil _ _, Lib.hid rfl, Lib.hid (fun x hx => by cases hx), by simpa using hO7, hb7⟩
  case round =>
    obtain ⟨k, pv, rfl, hk, hP, hpe, hpb, hO, hb⟩ := hrel
    clear hO7 hb7
    have hEr := hEK wr hb
    obtain ⟨e0, e1, e2⟩ := hEr.fields
    have hKr : KB ≤ wr.heap.size := kle HK4 hb
    have hpl : pv.length ≤ 1048576 := by
      have h9 := congrArg List.length hpe.out
      rw [List.length_map] at h9
      have h8 := tickP_le mark now (l.take k)
      rw [List.length_take] at h8
      have := HXN.out
      omega
    by_cases hlt : k < N
    · as_aux_lemma =>
      have hlz : (k : Int) < (N : Int) := by omega
      have hk0 : (0 : Int) ≤ (k : Int) := by omega
      obtain ⟨x, hx⟩ : ∃ x, xs[k]? = some x := ⟨_, List.getElem?_eq_getElem (by omega)⟩
      have hat := map_at (f := tickI now) hx
      have hput := map_put (f := tickI now) hx
      obtain ⟨g, y, rfl, hy, c0, c1, c2, c3⟩ := hO.place hlt
      rw [hat] at hy
      cases hy
      have hxl2 : l[k]? = some x.b := by rw [← hxl, List.getElem?_map, hx]; rfl
      have htk : l.take (k + 1) = l.take k ++ [x.b] := by rw [List.take_add_one, hxl2]; rfl
      have hsb := hE.bod x (List.mem_of_getElem? hx)
      have htx2 := htx x (List.mem_of_getElem? hx)
      unfold topI at htx2
      obtain ⟨xq, ⟨xA, xn, xc, xt⟩, xtr, xd⟩ := x
      have hrx : RB w xA xn xt := hsb.1
      have hxn : xt.length = xn := hrx.1
      subst hxn
      have hbx : 0 < xt.length → ∀ ad, xA = some ad → ad.block < KB ∧ ad.block ≠ q := fun hp ad e => ⟨by have := (hsb.2.2.2 hp ad e).2.2; have := HK4.out; omega, (hsb.2.2.2 hp ad e).1⟩
      dsimp only [Sl.v] at c0 c1 c2 c3
      dsimp only at htx2
      have hcap := hO.len.2
      by_cases hd : xd ≤ now
      · have hgt : decide (xd ≤ now) = true := decide_eq_true hd
        have hI : tickI now ⟨xq, ⟨xA, xt.length, xc, xt⟩, xtr, xd⟩ = ⟨xq, ⟨xA, xt.length, xc, xt⟩, xtr + 1, nextN now 2 16 xtr⟩ := by unfold tickI; rw [if_pos hd]
        have hpk : tickP mark now (l.take (k + 1)) = tickP mark now (l.take k) ++ [⟨xq, mark, xt⟩] := by rw [htk, tickP_snoc, if_pos (show (Iv.b ⟨xq, ⟨xA, xt.length, xc, xt⟩, xtr, xd⟩).due ≤ now from hd)]; rfl
        have HPK := Lib.hid hpk
        rw [hI] at hput
        have HPUT := Lib.hid hput
        clear hpk hput hI htk hxl2
        have hS : ∀ W, IO KB W (.slice (some ⟨g, 0, none⟩) N cl) ((xs.take k).map (tickI now) ++ xs.drop k) → Below KB w W → (fun W => W.cell? ⟨g, k * 4, none⟩ = some (.int .i64 xq) ∧ W.cell? ⟨g, k * 4 + 1, none⟩ = some (.slice xA xt.length xc) ∧ W.cell? ⟨q, 2, none⟩ = some (.int .i64 mark)) W := fun W ho hb => by
          obtain ⟨g', y, e, hy, c0, c1, c2, c3⟩ := ho.place hlt
          cases e
          rw [hat] at hy
          cases hy
          exact ⟨c0, c1, (hEK W hb).fields.2.2⟩
        have sd := hS _ hO.drew hb.drew
        have hO4 := hO.drew
        have hP4 := hP.drew
        have hb4 := hb.drew
        go_upto_region 7 with fail
        refine wp_region_held_drew (S := (fun W => W.cell? ⟨g, k * 4, none⟩ = some (.int .i64 xq) ∧ W.cell? ⟨g, k * 4 + 1, none⟩ = some (.slice xA xt.length xc) ∧ W.cell? ⟨q, 2, none⟩ = some (.int .i64 mark))) (by kernel_rfl) sd (fun hHeld => ?_)
        generalize wr.drew = w4 at *
        refine wpAnyH_take (i := 0) (oi := ?oi0t7) (v := ?v0t7) ?hi0t7 (by kernel_rfl) (by kernel_rfl) (by kernel_rfl) ?hq0t7 (Or.inl ⟨?hw0t7, ?hy0t7⟩) (by assumption) ?rest0t7
        case hi0t7 => (simp only [List.getElem?_toArray, List.getElem?_cons_succ, List.getElem?_cons_zero]; rfl)
        case hq0t7 => exact fun _ _ _ h => h
        case hw0t7 => rfl
        case hy0t7 => (intro w hSw; (try dsimp only at hSw); go_simp <;> with_reducible rfl)
        try simp only [Act.put, List.setIfInBounds_toArray, List.set_cons_zero, List.set_cons_succ]
        refine wpAnyH_take (i := 1) (oi := ?oi1t7) (v := ?v1t7) ?hi1t7 (by kernel_rfl) (by kernel_rfl) (by kernel_rfl) ?hq1t7 (Or.inl ⟨?hw1t7, ?hy1t7⟩) (by assumption) ?rest1t7
        case hi1t7 => (simp only [List.getElem?_toArray, List.getElem?_cons_succ, List.getElem?_cons_zero]; rfl)
        case hq1t7 => exact fun _ _ _ h => h
        case hw1t7 => rfl
        case hy1t7 => (intro w hSw; (try dsimp only at hSw); go_simp <;> with_reducible rfl)
        try simp only [Act.put, List.setIfInBounds_toArray, List.set_cons_zero, List.set_cons_succ]
        refine wpAnyH_take (i := 2) (oi := ?oi2t7) (v := ?v2t7) ?hi2t7 (by kernel_rfl) (by kernel_rfl) (by kernel_rfl) ?hq2t7 (Or.inl ⟨?hw2t7, ?hy2t7⟩) (by assumption) ?rest2t7
        case hi2t7 => (simp only [List.getElem?_toArray, List.getElem?_cons_succ, List.getElem?_cons_zero]; rfl)
        case hq2t7 => exact fun _ _ _ h => h
        case hw2t7 => rfl
        case hy2t7 => (intro w hSw; (try dsimp only at hSw); go_simp <;> with_reducible rfl)
        try simp only [Act.put, List.setIfInBounds_toArray, List.set_cons_zero, List.set_cons_succ]
        refine wpAnyH_take (i := 3) (oi := ?oi3t7) (v := ?v3t7) ?hi3t7 (by kernel_rfl) (by kernel_rfl) (by kernel_rfl) ?hq3t7 (Or.inl ⟨?hw3t7, ?hy3t7⟩) (by assumption) ?rest3t7
        case hi3t7 => (simp only [List.getElem?_toArray, List.getElem?_cons_succ, List.getElem?_cons_zero]; rfl)
        case hq3t7 => exact fun _ _ _ h => h
        case hw3t7 => rfl
        case hy3t7 => (intro w hSw; (try dsimp only at hSw); go_simp <;> with_reducible rfl)
        try simp only [Act.put, List.setIfInBounds_toArray, List.set_cons_zero, List.set_cons_succ]
        refine wpAnyH_take (i := 4) (oi := ?oi4t7) (v := ?v4t7) ?hi4t7 (by kernel_rfl) (by kernel_rfl) (by kernel_rfl) ?hq4t7 (Or.inl ⟨?hw4t7, ?hy4t7⟩) (by assumption) ?rest4t7
        case hi4t7 => (simp only [List.getElem?_toArray, List.getElem?_cons_succ, List.getElem?_cons_zero]; rfl)
        case hq4t7 => exact fun _ _ _ h => h
        case hw4t7 => rfl
        case hy4t7 => (intro w hSw; (try dsimp only at hSw); go_simp <;> with_reducible rfl)
        try simp only [Act.put, List.setIfInBounds_toArray, List.set_cons_zero, List.set_cons_succ]
        refine wpAnyH_take (i := 5) (oi := ?oi5t7) (v := ?v5t7) ?hi5t7 (by kernel_rfl) (by kernel_rfl) (by kernel_rfl) ?hq5t7 (Or.inl ⟨?hw5t7, ?hy5t7⟩) (by assumption) ?rest5t7
        case hi5t7 => (simp only [List.getElem?_toArray, List.getElem?_cons_succ, List.getElem?_cons_zero]; rfl)
        case hq5t7 => exact fun _ _ _ h => h
        case hw5t7 => rfl
        case hy5t7 => (intro w hSw; (try dsimp only at hSw); go_simp <;> with_reducible rfl)
        try simp only [Act.put, List.setIfInBounds_toArray, List.set_cons_zero, List.set_cons_succ]
        refine wpAnyH_take (i := 6) (oi := ?oi6t7) (v := ?v6t7) ?hi6t7 (by kernel_rfl) (by kernel_rfl) (by kernel_rfl) ?hq6t7 (Or.inl ⟨?hw6t7, ?hy6t7⟩) (by assumption) ?rest6t7
        case hi6t7 => (simp only [List.getElem?_toArray, List.getElem?_cons_succ, List.getElem?_cons_zero]; rfl)
        case hq6t7 => exact fun _ _ _ h => h
        case hw6t7 => rfl
        case hy6t7 => (intro w hSw; (try dsimp only at hSw); go_simp <;> with_reducible rfl)
        try simp only [Act.put, List.setIfInBounds_toArray, List.set_cons_zero, List.set_cons_succ]
        refine wpAnyH_take (i := 7) (oi := ?oi7t7) (v := ?v7t7) ?hi7t7 (by kernel_rfl) (by kernel_rfl) (by kernel_rfl) ?hq7t7 (Or.inl ⟨?hw7t7, ?hy7t7⟩) (by assumption) ?rest7t7
        case hi7t7 => (simp only [List.getElem?_toArray, List.getElem?_cons_succ, List.getElem?_cons_zero]; rfl)
        case hq7t7 => exact fun _ _ _ h => h
        case hw7t7 => rfl
        case hy7t7 => (intro w hSw; (try dsimp only at hSw); go_simp <;> with_reducible rfl)
        try simp only [Act.put, List.setIfInBounds_toArray, List.set_cons_zero, List.set_cons_succ]
        refine wpAnyH_take (i := 8) (oi := ?oi8t7) (v := ?v8t7) ?hi8t7 (by kernel_rfl) (by kernel_rfl) (by kernel_rfl) ?hq8t7 (Or.inl ⟨?hw8t7, ?hy8t7⟩) (by assumption) ?rest8t7
        case hi8t7 => (simp only [List.getElem?_toArray, List.getElem?_cons_succ, List.getElem?_cons_zero]; rfl)
        case hq8t7 => exact fun _ _ _ h => h
        case hw8t7 => rfl
        case hy8t7 => (intro w hSw; (try dsimp only at hSw); go_simp <;> with_reducible rfl)
        try simp only [Act.put, List.setIfInBounds_toArray, List.set_cons_zero, List.set_cons_succ]
        refine wpAnyH_take (i := 9) (oi := ?oi9t7) (v := ?v9t7) ?hi9t7 (by kernel_rfl) (by kernel_rfl) (by kernel_rfl) ?hq9t7 (Or.inl ⟨?hw9t7, ?hy9t7⟩) (by assumption) ?rest9t7
        case hi9t7 => (simp only [List.getElem?_toArray, List.getElem?_cons_succ, List.getElem?_cons_zero]; rfl)
        case hq9t7 => exact fun _ _ _ h => h
        case hw9t7 => rfl
        case hy9t7 => (intro w hSw; (try dsimp only at hSw); go_simp <;> with_reducible rfl)
        try simp only [Act.put, List.setIfInBounds_toArray, List.set_cons_zero, List.set_cons_succ]
        refine wpAnyH_take (i := 10) (oi := ?oi10t7) (v := ?v10t7) ?hi10t7 (by kernel_rfl) (by kernel_rfl) (by kernel_rfl) ?hq10t7 (Or.inl ⟨?hw10t7, ?hy10t7⟩) (by assumption) ?rest10t7
        case hi10t7 => (simp only [List.getElem?_toArray, List.getElem?_cons_succ, List.getElem?_cons_zero]; rfl)
        case hq10t7 => exact fun _ _ _ h => h
        case hw10t7 => rfl
        case hy10t7 => (intro w hSw; (try dsimp only at hSw); go_simp <;> with_reducible rfl)
        try simp only [Act.put, List.setIfInBounds_toArray, List.set_cons_zero, List.set_cons_succ]
        refine wpAnyH_take (i := 11) (oi := ?oi11t7) (v := ?v11t7) ?hi11t7 (by kernel_rfl) (by kernel_rfl) (by kernel_rfl) ?hq11t7 (Or.inl ⟨?hw11t7, ?hy11t7⟩) (by assumption) ?rest11t7
        case hi11t7 => (simp only [List.getElem?_toArray, List.getElem?_cons_succ, List.getElem?_cons_zero]; rfl)
        case hq11t7 => exact fun _ _ _ h => h
        case hw11t7 => rfl
        case hy11t7 => (intro w hSw; (try dsimp only at hSw); go_simp <;> with_reducible rfl)
        try simp only [Act.put, List.setIfInBounds_toArray, List.set_cons_zero, List.set_cons_succ]
        refine wpAnyH_take (i := 12) (oi := ?oi12t7) (v := ?v12t7) ?hi12t7 (by kernel_rfl) (by kernel_rfl) (by kernel_rfl) ?hq12t7 (Or.inl ⟨?hw12t7, ?hy12t7⟩) (by assumption) ?rest12t7
        case hi12t7 => (simp only [List.getElem?_toArray, List.getElem?_cons_succ, List.getElem?_cons_zero]; rfl)
        case hq12t7 => exact fun _ _ _ h => h
        case hw12t7 => rfl
        case hy12t7 => (intro w hSw; (try dsimp only at hSw); go_simp <;> with_reducible rfl)
        try simp only [Act.put, List.setIfInBounds_toArray, List.set_cons_zero, List.set_cons_succ]
        refine wpAnyH_take (i := 13) (oi := ?oi13t7) (v := ?v13t7) ?hi13t7 (by kernel_rfl) (by kernel_rfl) (by kernel_rfl) ?hq13t7 (Or.inl ⟨?hw13t7, ?hy13t7⟩) (by assumption) ?rest13t7
        case hi13t7 => (simp only [List.getElem?_toArray, List.getElem?_cons_succ, List.getElem?_cons_zero]; rfl)
        case hq13t7 => exact fun _ _ _ h => h
        case hw13t7 => rfl
        case hy13t7 => (intro w hSw; (try dsimp only at hSw); go_simp <;> with_reducible rfl)
        try simp only [Act.put, List.setIfInBounds_toArray, List.set_cons_zero, List.set_cons_succ]
        refine wpAnyH_take (i := 14) (oi := ?oi14t7) (v := ?v14t7) ?hi14t7 (by kernel_rfl) (by kernel_rfl) (by kernel_rfl) ?hq14t7 (Or.inl ⟨?hw14t7, ?hy14t7⟩) (by assumption) ?rest14t7
        case hi14t7 => (simp only [List.getElem?_toArray, List.getElem?_cons_succ, List.getElem?_cons_zero]; rfl)
        case hq14t7 => exact fun _ _ _ h => h
        case hw14t7 => rfl
        case hy14t7 => (intro w hSw; (try dsimp only at hSw); go_simp <;> with_reducible rfl)
        try simp only [Act.put, List.setIfInBounds_toArray, List.set_cons_zero, List.set_cons_succ]
        refine wpAnyH_take (i := 15) (oi := ?oi15t7) (v := ?v15t7) ?hi15t7 (by kernel_rfl) (by kernel_rfl) (by kernel_rfl) ?hq15t7 (Or.inl ⟨?hw15t7, ?hy15t7⟩) (by assumption) ?rest15t7
        case hi15t7 => (simp only [List.getElem?_toArray, List.getElem?_cons_succ, List.getElem?_cons_zero]; rfl)
        case hq15t7 => exact fun _ _ _ h => h
        case hw15t7 => rfl
        case hy15t7 => (intro w hSw; (try dsimp only at hSw); go_simp <;> with_reducible rfl)
        try simp only [Act.put, List.setIfInBounds_toArray, List.set_cons_zero, List.set_cons_succ]
        refine wpAnyH_ready (rs := [16]) (by kernel_rfl) (by simp) ?_
        refine AllReadyH.cons (o := ?o16t7) ?hi16t7 (fun K hK => ?st16t7) AllReadyH.nil
        case hi16t7 => (simp only [List.getElem?_toArray, List.getElem?_cons_succ, List.getElem?_cons_zero]; rfl)
        go_simp
        have hn6 := Blk.new w4 32 #[.int .i64 xq, .int .i64 mark, .slice xA xt.length xc]
        have hP6 := hP4.alloc (.cells #[.int .i64 xq, .int .i64 mark, .slice xA xt.length xc] 32)
        have hO6 : IO KB (w4.alloc (.cells #[.int .i64 xq, .int .i64 mark, .slice xA xt.length xc] 32)) (.slice (some ⟨g, 0, none⟩) N cl) ((xs.take k).map (tickI now) ++ xs.drop k) := hO4.alloc (.cells #[.int .i64 xq, .int .i64 mark, .slice xA xt.length xc] 32)
        have hb6 := hb4.alloc (kle HK4 hb4) (.cells #[.int .i64 xq, .int .i64 mark, .slice xA xt.length xc] 32)
        have hK6 := kle HK4 hb6
        have s6 := hS _ hO6 hb6
        refine hK.out _ _ s6 (fun hHeld2 => ?_)
        clear hK K hHeld
        have hHeld := hHeld2
        clear hHeld2
        try simp only [Act.put, List.setIfInBounds_toArray, List.set_cons_zero, List.set_cons_succ]
        refine wpAnyH_ready (rs := [17]) (by kernel_rfl) (by simp) ?_
        refine AllReadyH.cons (o := ?o17t7) ?hi17t7 (fun K hK => ?st17t7) AllReadyH.nil
        case hi17t7 => (simp only [List.getElem?_toArray, List.getElem?_cons_succ, List.getElem?_cons_zero]; rfl)
        rw [if_pos (by rfl)]
        refine wp_appPR (.tmp 27) (.tmp 43) rfl KB u5 pv rfl hP6 ⟨w4.heap.size, 0, none⟩ rfl ⟨⟨xq, mark, xt⟩, .slice xA xt.length xc, rfl⟩ (fun j u hu => by rw [Addr.add_lit, Nat.zero_add, hn6.cell]; simpa [Pv.cs] using hu) (by omega) hK6 ?_
        intro v8 w8 hP8 hK8 e8
        have hO8 := hO6.kept hK8 (fun g' hg e => hO6.nePR hP6 hg e)
        have hb8 := hb6.trans (hK8.below (B := KB) hK6 (fun i hi e => by have := (hP6.lt i e).1; omega))
        have s8 := hS _ hO8 hb8
        refine hK.out _ _ s8 (fun hHeld2 => ?_)
        clear hK K hHeld
        have hHeld := hHeld2
        clear hHeld2
        try simp only [Act.put, List.setIfInBounds_toArray, List.set_cons_zero, List.set_cons_succ]
        refine wpAnyH_take (i := 18) (oi := ?oi18t7) (v := ?v18t7) ?hi18t7 (by kernel_rfl) (by kernel_rfl) (by kernel_rfl) ?hq18t7 (Or.inl ⟨?hw18t7, ?hy18t7⟩) (by assumption) ?rest18t7
        case hi18t7 => (simp only [List.getElem?_toArray, List.getElem?_cons_succ, List.getElem?_cons_zero]; rfl)
        case hq18t7 => exact fun _ _ _ h => h
        case hw18t7 => rfl
        case hy18t7 => (intro w hSw; (try dsimp only at hSw); go_simp <;> with_reducible rfl)
        try simp only [Act.put, List.setIfInBounds_toArray, List.set_cons_zero, List.set_cons_succ]
        refine wpAnyH_done (by kernel_rfl) ?_ _
        have hK8z := kle HK4 hb8
        obtain ⟨g', y, e, hy, d0, d1, d2, d3⟩ := hO8.place hlt
        cases e
        rw [hat] at hy
        cases hy
        dsimp only [Sl.v] at d0 d1 d2 d3
        have hgl := (hO8.lt g rfl).2
        have hgK := (hO8.lt g rfl).1
        have hln : ((xs.take k).map (tickI now) ++ xs.drop k).length = N := by rw [map_len, hN]
        have f3 := hO8.fz (g := g) rfl (k * 4 + 3)
        have hO9 := hO8.put hln k 3 ⟨xq, ⟨xA, xt.length, xc, xt⟩, xtr, xd⟩ ⟨xq, ⟨xA, xt.length, xc, xt⟩, xtr, nextN now 2 16 xtr⟩ (.int .i64 (nextN now 2 16 xtr)) hat rfl (by omega)
        have f2 := hO9.fz (g := g) rfl (k * 4 + 2)
        have hat9 : (((xs.take k).map (tickI now) ++ xs.drop k).set k ⟨xq, ⟨xA, xt.length, xc, xt⟩, xtr, nextN now 2 16 xtr⟩)[k]? = some ⟨xq, ⟨xA, xt.length, xc, xt⟩, xtr, nextN now 2 16 xtr⟩ := by rw [List.getElem?_set_self (by omega)]
        obtain ⟨g', y, e, hy, a0, a1, a2, a3⟩ := hO9.place hlt
        cases e
        rw [hat9] at hy
        cases hy
        dsimp only [Sl.v] at a0 a1 a2 a3
        have hO10 := hO9.put (by rw [List.length_set]; exact hln) k 2 ⟨xq, ⟨xA, xt.length, xc, xt⟩, xtr, nextN now 2 16 xtr⟩ ⟨xq, ⟨xA, xt.length, xc, xt⟩, xtr + 1, nextN now 2 16 xtr⟩ (.int .i64 (xtr + 1)) hat9 rfl (by omega)
        rw [List.set_set, HPUT.out] at hO10
        have hneP : ∀ i, v8.ownBlock = some i → ¬ i = g := fun i hi e => hO8.nePR hP8 (g := g) rfl (by rw [← e]; exact hi)
        have kk : Keep (fun i => i = g) w8 ((w8.setCell ⟨g, k * 4 + 3, none⟩ (.int .i64 (nextN now 2 16 xtr))).setCell ⟨g, k * 4 + 2, none⟩ (.int .i64 (xtr + 1))) := ((Keep.refl (fun i => i = g) w8).setCell (p := ⟨g, k * 4 + 3, none⟩) (fun _ => rfl) _).setCell (p := ⟨g, k * 4 + 2, none⟩) (fun _ => rfl) _
        have hP10 := hP8.kept kk hneP
        have hb10 := hb8.trans (kk.below (B := KB) hK8z (fun i hi e => by omega))
        have hpe2 : Hid ((pv ++ [(⟨⟨xq, mark, xt⟩, .slice xA xt.length xc, rfl⟩ : Pv)]).map (·.p) = tickP mark now (l.take (k + 1))) := Lib.hid (by rw [HPK.out, List.map_append, hpe.out]; rfl)
        have hpb2 : Hid (BD KB q w (pv ++ [(⟨⟨xq, mark, xt⟩, .slice xA xt.length xc, rfl⟩ : Pv)])) := Lib.hid (fun x hx => by
          rcases List.mem_append.1 hx with hx | hx
          · exact hpb.out x hx
          · rw [List.mem_singleton] at hx
            subst hx
            exact ⟨xA, xc, rfl, hrx, hbx⟩)
        have hwr : IntKind.i64.wrap (xtr + 1) = xtr + 1 := IntWalk.i64_in _ (by omega)
        clear hO8 hO9 hP8 hP6 hO6 hb8 hb6 hK8 e8 s6 s8 sd hn6 hO4 hP4 hb4 hS hpe hpb HPUT HPK kk hO hP
        go_wp2_with fail
        refine (rnext_any now xtr _ h0 h1 (by omega)).mono ?_
        rintro e w9 ⟨rfl, hww⟩
        subst hww
        go_wp2
        go_roundw
        case measure => simp [intOf]; omega
        case rel =>
          exact ⟨k + 1, _, by go_num, by omega, hP10, hpe2, hpb2, hO10, hb10⟩
      · have hgt : decide (xd ≤ now) = false := decide_eq_false hd
        have hI : tickI now ⟨xq, ⟨xA, xt.length, xc, xt⟩, xtr, xd⟩ = ⟨xq, ⟨xA, xt.length, xc, xt⟩, xtr, xd⟩ := by unfold tickI; rw [if_neg hd]
        have hpk : tickP mark now (l.take (k + 1)) = tickP mark now (l.take k) := by rw [htk, tickP_snoc, if_neg (show ¬ (Iv.b ⟨xq, ⟨xA, xt.length, xc, xt⟩, xtr, xd⟩).due ≤ now from hd)]
        have hpe2 := Lib.hid (hpe.out.trans hpk.symm)
        rw [hI] at hput
        have hsame : ((xs.take k).map (tickI now) ++ xs.drop k).set k ⟨xq, ⟨xA, xt.length, xc, xt⟩, xtr, xd⟩ = (xs.take k).map (tickI now) ++ xs.drop k := by
          obtain ⟨h9, h8⟩ := List.getElem?_eq_some_iff.1 hat
          rw [← h8, List.set_getElem_self]
        rw [← hsame, hput] at hO
        clear hpk hput hI htk hxl2 hsame hpe
        go_wp2
        go_roundw
        case measure => simp [intOf]; omega
        case rel => exact ⟨k + 1, pv, by go_num, by omega, hP, hpe2, hpb, hO, hb⟩
    · as_aux_lemma =>
      have hlz : ¬ (k : Int) < (N : Int) := by omega
      have hkn : k = N := by omega
      rw [show l.take k = l from List.take_of_length_le (by have := HXN.out; omega)] at hpe
      rw [show xs.take k = xs from List.take_of_length_le (by omega), show xs.drop k = [] from List.drop_eq_nil_of_le (by omega), List.append_nil] at hO
      have f0 := hEr.pc.frozen 0
      have hql := hEr.pc.lt
      have kq : Keep (fun i => i = q) wr (wr.setCell ⟨q, 0, none⟩ (.slice Al N cl)) := (Keep.refl (fun i => i = q) wr).setCell (p := ⟨q, 0, none⟩) (fun _ => rfl) _
      have hpc := hEr.pc.set_ 0 (.slice Al N cl)
      simp at hpc
      have hnq : ∀ i, (Value.slice Al N cl).ownBlock = some i → ¬ i = q := fun i hi e => by have := (hO.lt i hi).1; omega
      have hQ : QE (fun k => F k ∨ w.heap.size ≤ k) (wr.setCell ⟨q, 0, none⟩ (.slice Al N cl)) q (.slice Al N cl) (xs.map (tickI now)) sent mark :=
        ⟨hpc, (hO.mono (Nat.zero_le _)).kept kq hnq, fun e => hnq q e rfl, .inl hE.fp.1, fun i hi => .inr (by have := (hO.lt i hi).1; have := HK4.out; omega), fun x hx => by
          obtain ⟨y, hy, rfl⟩ := List.mem_map.1 hx
          rw [tickI_s]
          exact ((hEr.bod y hy).kept kq (fun i _ e1 e2 => e1 e2)).mono (fun i _ e => .inl e.1)⟩
      have hkE : Keep (fun i => i = q) w (wr.setCell ⟨q, 0, none⟩ (.slice Al N cl)) := (Keep.of_below' (S := fun i => i = q) (by rw [HK4.out]; exact hb)).trans kq (fun i hi e => e)
      have hPE := hP.kept kq (fun i hi e => by have := (hP.lt i hi).1; omega)
      have hkK : Keep (fun i => KB ≤ i ∨ i = q) w (wr.setCell ⟨q, 0, none⟩ (.slice Al N cl)) := hkE.mono (fun _ _ e => .inr e)
      obtain ⟨Ap, cp, rfl, hfp⟩ := hP.form
      clear hfp
      go_wp2
      refine bodyPost_ret (v := .slice Ap pv.length cp) (by simp [results, Try.results17, go_sem]) rfl ?_
      exact ⟨_, rfl, PBR.of hPE hpe.out hpb.out hkK, ⟨_, _, hQ, hmt.symm⟩, hkE⟩
end Go.Proofs.Ytfgceplafjbmhaa
