/- Identities: Ask. No condition but that the table and the body lie in memory. -/
import Derived.Test.YtpendcaefjbomaaIdM
import Derived.Test.YtpendcaefjbomaaRgT
namespace Go.Proofs.Ytpendcaefjbomaa
open Go.RowKit Go.Maps Go.Shelf Go.Sort
set_option linter.unusedVariables false
set_option linter.unusedSimpArgs false

theorem fill4 {w : World} {b : Nat} {t : TypeId} {a0 a1 a2 a3 : Value} (h : Blk w b t #[a0, a1, a2, a3]) (v0 v1 v2 v3 : Value) :
    Blk ((((w.setCell ⟨b, 0, none⟩ v0).setCell ⟨b, 1, none⟩ v1).setCell ⟨b, 2, none⟩ v2).setCell ⟨b, 3, none⟩ v3) b t #[v0, v1, v2, v3] := by
  have := (((h.set_ 0 v0).set_ 1 v1).set_ 2 v2).set_ 3 v3
  simpa only [List.setIfInBounds_toArray, List.set_cons_zero, List.set_cons_succ] using this
theorem keep4 (w : World) (b : Nat) (v0 v1 v2 v3 : Value) : Keep (fun k => k = b) w ((((w.setCell ⟨b, 0, none⟩ v0).setCell ⟨b, 1, none⟩ v1).setCell ⟨b, 2, none⟩ v2).setCell ⟨b, 3, none⟩ v3) :=
  Keep.setCell (S := fun k => k = b) (Keep.setCell (S := fun k => k = b) (Keep.setCell (S := fun k => k = b) (Keep.setCell (S := fun k => k = b) (Keep.refl _ _) (p := ⟨b, 0, none⟩) (fun _ => rfl) _) (p := ⟨b, 1, none⟩) (fun _ => rfl) _) (p := ⟨b, 2, none⟩) (fun _ => rfl) _) (p := ⟨b, 3, none⟩) (fun _ => rfl) _
/-- The verdict on a body of that mix, and what is answered. -/
def askV (c : Cl) (n m : Int) : Int := if n < c.k then 5 else if n ∈ c.ns then (if (c.g n).m ≠ m then 4 else if (c.g n).d = true then 3 else 2) else if 128 ≤ c.ns.length then 6 else 1
def askA (c : Cl) (n m : Int) : Rq := if askV c n m = 3 then c.g n else rq0
section
variable {F G : Nat → Prop} {w w' : World} {p b K : Nat} {cl : Int → Cl} {cs : List Int}
/-- A client's record put. -/
theorem TS.put (h : TS F w p b K cl cs) {c : Int} {mb : Nat} (hr : (c ∈ cs ∧ mb = (cl c).b) ∨ (c ∉ cs ∧ w.heap.size ≤ mb)) {wA wB wC : World} (hA : Below w.heap.size w wA) (kB : Keep (fun i => i = mb) wA wB) (kC : Keep (fun i => i = b) wB wC) {ck : Int} {g' : Int → Rq} {ns' : List Int}
    (hm : ∃ N, N ≤ K + 1 ∧ MO rq0.v wB mb N (fun j => (g' j).v) ns') (hc : ∃ N, N ≤ K + 1 ∧ MO clZ wC b N (fun i => if i = c then .agg #[.int .i64 ck, .map (some mb)] else if i ∈ cs then (cl i).v else clZ) (addK cs c)) :
    (F mb ∨ w.heap.size ≤ mb) ∧ TS (fun k => F k ∨ k = mb) wC p b (K + 1) (fun i => if i = c then ⟨ck, mb, g', ns'⟩ else cl i) (addK cs c) ∧ Keep F w wC := by
  have hl := h.lt
  have hmb : mb ≠ p ∧ mb ≠ b ∧ (F mb ∨ w.heap.size ≤ mb) := by
    rcases hr with ⟨h1, rfl⟩ | ⟨_, h2⟩
    · obtain ⟨a1, a2, a3, a4⟩ := h.ok c h1
      exact ⟨a3, a4, .inl a2⟩
    · exact ⟨by omega, by omega, .inr h2⟩
  have hA' := h.below hA
  refine ⟨hmb.2.2, ⟨(hA'.pc.kept kB (fun e => hmb.1 e.symm)).kept kC h.ne, ?_, h.ne, ⟨.inl h.fp.1, .inl h.fp.2⟩, fun i hi => ?_, fun i hi => ?_, fun i j hi hj hij => ?_⟩, ?_⟩
  · obtain ⟨N, hN, hM⟩ := hc
    refine ⟨N, hN, ?_⟩
    have e : (fun i => if i ∈ addK cs c then (if i = c then (⟨ck, mb, g', ns'⟩ : Cl) else cl i).v else clZ) = fun i => if i = c then .agg #[.int .i64 ck, .map (some mb)] else if i ∈ cs then (cl i).v else clZ := by
      funext i
      by_cases e : i = c
      · rw [if_pos e, if_pos e, if_pos (mem_addK.2 (.inr e))]
        rfl
      · rw [if_neg e, if_neg e]
        by_cases e2 : i ∈ cs
        · rw [if_pos e2, if_pos (mem_addK.2 (.inl e2))]
        · rw [if_neg e2, if_neg (fun e3 => (mem_addK.1 e3).elim e2 e)]
    rw [e]
    exact hM
  · have hik : i ≠ c := fun e => hi (mem_addK.2 (.inr e))
    rw [if_neg hik]
    exact h.no i fun hm => hi (mem_addK.2 (.inl hm))
  · by_cases e : i = c
    · rw [if_pos e]
      obtain ⟨N, hN, hM⟩ := hm
      exact ⟨⟨N, hN, hM.kept kC hmb.2.1⟩, .inr rfl, hmb.1, hmb.2.1⟩
    · rw [if_neg e]
      have hics := (mem_addK.1 hi).resolve_right e
      obtain ⟨a1, a2, a3, a4⟩ := hA'.ok i hics
      have hne : (cl i).b ≠ mb := fun e2 => by
        rcases hr with ⟨h1, h2⟩ | ⟨_, h2⟩
        · exact h.ap i c hics h1 e (by rw [e2, h2])
        · have := (h.ok i hics).1.lt; omega
      exact ⟨((a1.kept kB hne).kept kC a4).up (by omega), .inl a2, a3, a4⟩
  · have key : ∀ i, i ∈ cs → i ≠ c → (cl i).b ≠ mb := fun i hi e e2 => by
      rcases hr with ⟨h1, h2⟩ | ⟨_, h2⟩
      · exact h.ap i c hi h1 e (by rw [e2, h2])
      · have := (h.ok i hi).1.lt; omega
    by_cases e : i = c
    · have e2 : j ≠ c := fun e2 => hij (e.trans e2.symm)
      rw [if_pos e, if_neg e2]
      exact fun e3 => key j ((mem_addK.1 hj).resolve_right e2) e2 e3.symm
    · rw [if_neg e]
      by_cases e2 : j = c
      · rw [if_pos e2]
        exact key i ((mem_addK.1 hi).resolve_right e) e
      · rw [if_neg e2]
        exact h.ap i j ((mem_addK.1 hi).resolve_right e) ((mem_addK.1 hj).resolve_right e2) hij
  · have k1 : Keep F w wA := Keep.ofB hA
    have k2 := k1.trans (kB.mono (T := fun i => i = mb) (fun _ _ e => e)) (fun i hi e => by
      subst e
      rcases hmb.2.2 with h | h
      · exact h
      · omega)
    exact k2.trans kC (fun i hi e => by subst e; exact h.fp.2)
end
set_option maxRecDepth 100000 in
set_option maxHeartbeats 3200000 in
theorem ask_stale {F : Nat → Prop} {w : World} {p b K : Nat} {cl : Int → Cl} {cs : List Int} (h : TS F w p b K cl cs) (c n : Int) (wc : (Lit.int .i64 c).wf = true) (wn : (Lit.int .i64 n).wf = true) (hc : mayC c) (hn : mayN n) (A : Option Addr) (len cap : Nat) (l : List UInt8) (hl : RB w A len l) (hlc : len ≤ cap) (hcm : cap ≤ 9223372036854775807) (h1 : n < (cl c).k) :
    Calls Try.prog 11 #[.pointer (some ⟨p, 0, none⟩), .int .i64 c, .int .i64 n, .slice A len cap] w fun e w' => e = .returned (.tuple #[.int .i64 5, rq0.a]) ∧ Below w.heap.size w w' := by
  have h0 := h.alloc (.cells #[.int .i64 0, .int .i64 0, .int .i64 0, .int .i64 0] 35)
  have hof := of_any h0 c wc
  have hA0 := Blk.new w 35 #[.int .i64 0, .int .i64 0, .int .i64 0, .int .i64 0]
  have hb0 := (Below.refl w.heap.size w).alloc (Nat.le_refl _) (.cells #[.int .i64 0, .int .i64 0, .int .i64 0, .int .i64 0] 35)
  obtain ⟨ab, hab⟩ : ∃ ab, w.heap.size = ab := ⟨_, rfl⟩
  rw [hab] at hA0
  have habp : p < ab ∧ b < ab := by have := h.lt; omega
  go_enter Try.func11, Try.ntmps11
  go_wp2_with fail
  refine (client_yes hc _).mono ?_
  rintro e w' ⟨rfl, hww⟩
  subst w'
  go_wp2_with fail
  refine (number_yes hn _).mono ?_
  rintro e w' ⟨rfl, hww⟩
  subst w'
  go_wp2_with fail
  refine hof.mono ?_
  rintro e w1 ⟨mb, rfl, ⟨⟨N, hN, hm⟩, hr⟩, hb1⟩
  have hz0 : (w.alloc (.cells #[.int .i64 0, .int .i64 0, .int .i64 0, .int .i64 0] 35)).heap.size = w.heap.size + 1 := by simp
  have hT1 := h0.below hb1
  have hr2 : (c ∈ cs ∧ mb = (cl c).b) ∨ (c ∉ cs ∧ w.heap.size ≤ mb) := hr.elim .inl (fun e => .inr ⟨e.1, by have := e.2; omega⟩)
  have hA1 := hA0.kept (Keep.of_below hb1) (by omega)
  have hb1' := hb0.trans (hb1.mono hb0.size)
  have hmba : mb ≠ ab := by
    rcases hr with ⟨h1, h2⟩ | ⟨_, h2⟩
    · have := (h.ok c h1).1.lt; omega
    · omega
  have hmbp : mb ≠ p ∧ mb ≠ b := by
    rcases hr with ⟨h1, h2⟩ | ⟨_, h2⟩
    · rw [h2]; exact (h.ok c h1).2.2
    · omega
  clear hof hr hb0 hb1 hA0
  obtain ⟨k, hk⟩ : ∃ k, (cl c).k = k := ⟨_, rfl⟩
  obtain ⟨ns, hns⟩ : ∃ ns, (cl c).ns = ns := ⟨_, rfl⟩
  obtain ⟨r, hrr⟩ : ∃ r, (cl c).g n = r := ⟨_, rfl⟩
  rw [hk] at h1 ⊢
  rw [hns] at hm
  have hlk := (hm.alloc (.cells #[.int .i64 k, .map (some mb)] 68)).look Try.underlying66 (zero_rq _) wn
  try dsimp only at hlk
  rw [hrr] at hlk
  obtain ⟨rm, rd, rc, rn, re, rx⟩ := r
  change (Instr.lookup _ _ _ _).run _ _ = Result.ok (.tuple #[.agg #[.int .u64 rm, .bool rd, .int .i64 rc, .int .i64 rn, .int .i64 re, .int .i64 rx], .bool (decide (n ∈ ns))]) _ at hlk
  have hR1 := (Blk.new w1 68 #[.int .i64 k, .map (some mb)]).alloc (.cells #[.int .u64 rm, .bool rd, .int .i64 rc, .int .i64 rn, .int .i64 re, .int .i64 rx] 72)
  have hQ1 := Blk.new (w1.alloc (.cells #[.int .i64 k, .map (some mb)] 68)) 72 #[.int .u64 rm, .bool rd, .int .i64 rc, .int .i64 rn, .int .i64 re, .int .i64 rx]
  rw [World.size_alloc] at hQ1
  have hA2 := (hA1.alloc (.cells #[.int .i64 k, .map (some mb)] 68)).alloc (.cells #[.int .u64 rm, .bool rd, .int .i64 rc, .int .i64 rn, .int .i64 re, .int .i64 rx] 72)
  have hm2 := (hm.alloc (.cells #[.int .i64 k, .map (some mb)] 68)).alloc (.cells #[.int .u64 rm, .bool rd, .int .i64 rc, .int .i64 rn, .int .i64 re, .int .i64 rx] 72)
  have hT2 := (hT1.alloc (.cells #[.int .i64 k, .map (some mb)] 68)).alloc (.cells #[.int .u64 rm, .bool rd, .int .i64 rc, .int .i64 rn, .int .i64 re, .int .i64 rx] 72)
  have hb2 := (hb1'.alloc hb1'.size (.cells #[.int .i64 k, .map (some mb)] 68)).alloc (by simp; have := hb1'.size; omega) (.cells #[.int .u64 rm, .bool rd, .int .i64 rc, .int .i64 rn, .int .i64 re, .int .i64 rx] 72)
  have hz1 : w.heap.size < w1.heap.size := by have := hA1.lt; omega
  obtain ⟨q1, hq1⟩ : ∃ q1, w1.heap.size = q1 := ⟨_, rfl⟩
  have hmbq : mb < q1 := by have := hm.lt; omega
  have hmx := mix_any 7 A len cap l ((w1.alloc (.cells #[.int .i64 k, .map (some mb)] 68)).alloc (.cells #[.int .u64 rm, .bool rd, .int .i64 rc, .int .i64 rn, .int .i64 re, .int .i64 rx] 72)) (by unfold W64; omega) (hl.kept (Keep.ofB (S := fun _ => False) hb2) (fun _ _ => id)) hlc hcm
  change Calls _ _ #[.int .u64 7, _] _ _ at hmx
  obtain ⟨M, hM⟩ : ∃ M : Int, (mixOf 7 l : Int) = M := ⟨_, rfl⟩
  rw [hM] at hmx
  clear hA1 hb1' hT1 hm
  have d1 : decide (n < k) = true := decide_eq_true h1
  go_wp2_with fail
  refine hmx.mono ?_
  rintro e w4 ⟨rfl, hk4⟩
  have hA4 := hA2.kept hk4 id
  have hR4 := hR1.kept hk4 id
  have hQ4 := hQ1.kept hk4 id
  have hm4 := hm2.kept hk4 id
  have hT4 := hT2.kept hk4 (fun _ _ => id)
  have hln := hm4.len Try.underlying66
  have hb4 := hb2.trans (hk4.below (B := w.heap.size) hb2.size (fun i hi => id))
  rw [hq1] at hR4 hQ4
  clear hA2 hR1 hQ1 hm2 hT2 hb2 hk4 hmx hlk
  have a0 := hA4.cell 0
  have a1 := hA4.cell 1
  have a2 := hA4.cell 2
  have a3 := hA4.cell 3
  have af := fun i => hA4.frozen i
  have al := hA4.lt
  have r0 := hR4.cell 0
  have r1 := hR4.cell 1
  have q_0 := hQ4.cell 0
  have q_1 := hQ4.cell 1
  have q_2 := hQ4.cell 2
  have q_3 := hQ4.cell 3
  have q_4 := hQ4.cell 4
  have q_5 := hQ4.cell 5
  simp only [List.getElem?_toArray, List.getElem?_cons_succ, List.getElem?_cons_zero] at a0 a1 a2 a3 r0 r1 q_0 q_1 q_2 q_3 q_4 q_5
  go_wp2
  have zE := fill4 hA4 (.int .i64 0) (.int .i64 0) (.int .i64 0) (.int .i64 0)
  have kE := keep4 w4 ab (.int .i64 0) (.int .i64 0) (.int .i64 0) (.int .i64 0)
  generalize ((((w4.setCell ⟨ab, 0, none⟩ (.int .i64 0)).setCell ⟨ab, 1, none⟩ (.int .i64 0)).setCell ⟨ab, 2, none⟩ (.int .i64 0)).setCell ⟨ab, 3, none⟩ (.int .i64 0)) = WE at zE kE ⊢
  have y0 := zE.cell 0
  have y1 := zE.cell 1
  have y2 := zE.cell 2
  have y3 := zE.cell 3
  simp only [List.getElem?_toArray, List.getElem?_cons_succ, List.getElem?_cons_zero] at y0 y1 y2 y3
  refine bodyPost_ret (v := .tuple #[.int .i64 5, .agg #[.int .i64 0, .int .i64 0, .int .i64 0, .int .i64 0]]) (by simp [results, Try.results11, go_sem, y0, y1, y2, y3]) rfl ?_
  have hbE := hb4.trans (kE.below (B := w.heap.size) hb4.size (fun i hi e => by omega))
  exact ⟨by first | rfl | (rw [hrr]; rfl), by first | exact hbE | (rw [hab] at hbE; exact hbE)⟩
set_option maxRecDepth 100000 in
set_option maxHeartbeats 3200000 in
theorem ask_clash {F : Nat → Prop} {w : World} {p b K : Nat} {cl : Int → Cl} {cs : List Int} (h : TS F w p b K cl cs) (c n : Int) (wc : (Lit.int .i64 c).wf = true) (wn : (Lit.int .i64 n).wf = true) (hc : mayC c) (hn : mayN n) (A : Option Addr) (len cap : Nat) (l : List UInt8) (hl : RB w A len l) (hlc : len ≤ cap) (hcm : cap ≤ 9223372036854775807) (h1n : ¬ n < (cl c).k) (h2 : n ∈ (cl c).ns) (h3 : ((cl c).g n).m ≠ (mixOf 7 l : Int)) :
    Calls Try.prog 11 #[.pointer (some ⟨p, 0, none⟩), .int .i64 c, .int .i64 n, .slice A len cap] w fun e w' => e = .returned (.tuple #[.int .i64 4, rq0.a]) ∧ Below w.heap.size w w' := by
  have h0 := h.alloc (.cells #[.int .i64 0, .int .i64 0, .int .i64 0, .int .i64 0] 35)
  have hof := of_any h0 c wc
  have hA0 := Blk.new w 35 #[.int .i64 0, .int .i64 0, .int .i64 0, .int .i64 0]
  have hb0 := (Below.refl w.heap.size w).alloc (Nat.le_refl _) (.cells #[.int .i64 0, .int .i64 0, .int .i64 0, .int .i64 0] 35)
  obtain ⟨ab, hab⟩ : ∃ ab, w.heap.size = ab := ⟨_, rfl⟩
  rw [hab] at hA0
  have habp : p < ab ∧ b < ab := by have := h.lt; omega
  go_enter Try.func11, Try.ntmps11
  go_wp2_with fail
  refine (client_yes hc _).mono ?_
  rintro e w' ⟨rfl, hww⟩
  subst w'
  go_wp2_with fail
  refine (number_yes hn _).mono ?_
  rintro e w' ⟨rfl, hww⟩
  subst w'
  go_wp2_with fail
  refine hof.mono ?_
  rintro e w1 ⟨mb, rfl, ⟨⟨N, hN, hm⟩, hr⟩, hb1⟩
  have hz0 : (w.alloc (.cells #[.int .i64 0, .int .i64 0, .int .i64 0, .int .i64 0] 35)).heap.size = w.heap.size + 1 := by simp
  have hT1 := h0.below hb1
  have hr2 : (c ∈ cs ∧ mb = (cl c).b) ∨ (c ∉ cs ∧ w.heap.size ≤ mb) := hr.elim .inl (fun e => .inr ⟨e.1, by have := e.2; omega⟩)
  have hA1 := hA0.kept (Keep.of_below hb1) (by omega)
  have hb1' := hb0.trans (hb1.mono hb0.size)
  have hmba : mb ≠ ab := by
    rcases hr with ⟨h1, h2⟩ | ⟨_, h2⟩
    · have := (h.ok c h1).1.lt; omega
    · omega
  have hmbp : mb ≠ p ∧ mb ≠ b := by
    rcases hr with ⟨h1, h2⟩ | ⟨_, h2⟩
    · rw [h2]; exact (h.ok c h1).2.2
    · omega
  clear hof hr hb0 hb1 hA0
  obtain ⟨k, hk⟩ : ∃ k, (cl c).k = k := ⟨_, rfl⟩
  obtain ⟨ns, hns⟩ : ∃ ns, (cl c).ns = ns := ⟨_, rfl⟩
  obtain ⟨r, hrr⟩ : ∃ r, (cl c).g n = r := ⟨_, rfl⟩
  rw [hk] at h1n ⊢
  rw [hns] at hm h2
  rw [hrr] at h3
  have hlk := (hm.alloc (.cells #[.int .i64 k, .map (some mb)] 68)).look Try.underlying66 (zero_rq _) wn
  try dsimp only at hlk
  rw [hrr] at hlk
  obtain ⟨rm, rd, rc, rn, re, rx⟩ := r
  dsimp only at h3
  change (Instr.lookup _ _ _ _).run _ _ = Result.ok (.tuple #[.agg #[.int .u64 rm, .bool rd, .int .i64 rc, .int .i64 rn, .int .i64 re, .int .i64 rx], .bool (decide (n ∈ ns))]) _ at hlk
  have hR1 := (Blk.new w1 68 #[.int .i64 k, .map (some mb)]).alloc (.cells #[.int .u64 rm, .bool rd, .int .i64 rc, .int .i64 rn, .int .i64 re, .int .i64 rx] 72)
  have hQ1 := Blk.new (w1.alloc (.cells #[.int .i64 k, .map (some mb)] 68)) 72 #[.int .u64 rm, .bool rd, .int .i64 rc, .int .i64 rn, .int .i64 re, .int .i64 rx]
  rw [World.size_alloc] at hQ1
  have hA2 := (hA1.alloc (.cells #[.int .i64 k, .map (some mb)] 68)).alloc (.cells #[.int .u64 rm, .bool rd, .int .i64 rc, .int .i64 rn, .int .i64 re, .int .i64 rx] 72)
  have hm2 := (hm.alloc (.cells #[.int .i64 k, .map (some mb)] 68)).alloc (.cells #[.int .u64 rm, .bool rd, .int .i64 rc, .int .i64 rn, .int .i64 re, .int .i64 rx] 72)
  have hT2 := (hT1.alloc (.cells #[.int .i64 k, .map (some mb)] 68)).alloc (.cells #[.int .u64 rm, .bool rd, .int .i64 rc, .int .i64 rn, .int .i64 re, .int .i64 rx] 72)
  have hb2 := (hb1'.alloc hb1'.size (.cells #[.int .i64 k, .map (some mb)] 68)).alloc (by simp; have := hb1'.size; omega) (.cells #[.int .u64 rm, .bool rd, .int .i64 rc, .int .i64 rn, .int .i64 re, .int .i64 rx] 72)
  have hz1 : w.heap.size < w1.heap.size := by have := hA1.lt; omega
  obtain ⟨q1, hq1⟩ : ∃ q1, w1.heap.size = q1 := ⟨_, rfl⟩
  have hmbq : mb < q1 := by have := hm.lt; omega
  have hmx := mix_any 7 A len cap l ((w1.alloc (.cells #[.int .i64 k, .map (some mb)] 68)).alloc (.cells #[.int .u64 rm, .bool rd, .int .i64 rc, .int .i64 rn, .int .i64 re, .int .i64 rx] 72)) (by unfold W64; omega) (hl.kept (Keep.ofB (S := fun _ => False) hb2) (fun _ _ => id)) hlc hcm
  change Calls _ _ #[.int .u64 7, _] _ _ at hmx
  obtain ⟨M, hM⟩ : ∃ M : Int, (mixOf 7 l : Int) = M := ⟨_, rfl⟩
  rw [hM] at hmx h3
  clear hA1 hb1' hT1 hm
  have d1 : decide (n < k) = false := decide_eq_false (by omega)
  rw [show decide (n ∈ ns) = true from decide_eq_true h2] at hlk
  have d3 : (rm != M) = true := bne_iff_ne.2 h3
  clear h3
  go_wp2_with fail
  refine hmx.mono ?_
  rintro e w4 ⟨rfl, hk4⟩
  have hA4 := hA2.kept hk4 id
  have hR4 := hR1.kept hk4 id
  have hQ4 := hQ1.kept hk4 id
  have hm4 := hm2.kept hk4 id
  have hT4 := hT2.kept hk4 (fun _ _ => id)
  have hln := hm4.len Try.underlying66
  have hb4 := hb2.trans (hk4.below (B := w.heap.size) hb2.size (fun i hi => id))
  rw [hq1] at hR4 hQ4
  clear hA2 hR1 hQ1 hm2 hT2 hb2 hk4 hmx hlk
  have a0 := hA4.cell 0
  have a1 := hA4.cell 1
  have a2 := hA4.cell 2
  have a3 := hA4.cell 3
  have af := fun i => hA4.frozen i
  have al := hA4.lt
  have r0 := hR4.cell 0
  have r1 := hR4.cell 1
  have q_0 := hQ4.cell 0
  have q_1 := hQ4.cell 1
  have q_2 := hQ4.cell 2
  have q_3 := hQ4.cell 3
  have q_4 := hQ4.cell 4
  have q_5 := hQ4.cell 5
  simp only [List.getElem?_toArray, List.getElem?_cons_succ, List.getElem?_cons_zero] at a0 a1 a2 a3 r0 r1 q_0 q_1 q_2 q_3 q_4 q_5
  go_wp2
  have zE := fill4 hA4 (.int .i64 0) (.int .i64 0) (.int .i64 0) (.int .i64 0)
  have kE := keep4 w4 ab (.int .i64 0) (.int .i64 0) (.int .i64 0) (.int .i64 0)
  generalize ((((w4.setCell ⟨ab, 0, none⟩ (.int .i64 0)).setCell ⟨ab, 1, none⟩ (.int .i64 0)).setCell ⟨ab, 2, none⟩ (.int .i64 0)).setCell ⟨ab, 3, none⟩ (.int .i64 0)) = WE at zE kE ⊢
  have y0 := zE.cell 0
  have y1 := zE.cell 1
  have y2 := zE.cell 2
  have y3 := zE.cell 3
  simp only [List.getElem?_toArray, List.getElem?_cons_succ, List.getElem?_cons_zero] at y0 y1 y2 y3
  refine bodyPost_ret (v := .tuple #[.int .i64 4, .agg #[.int .i64 0, .int .i64 0, .int .i64 0, .int .i64 0]]) (by simp [results, Try.results11, go_sem, y0, y1, y2, y3]) rfl ?_
  have hbE := hb4.trans (kE.below (B := w.heap.size) hb4.size (fun i hi e => by omega))
  exact ⟨by first | rfl | (rw [hrr]; rfl), by first | exact hbE | (rw [hab] at hbE; exact hbE)⟩
set_option maxRecDepth 100000 in
set_option maxHeartbeats 3200000 in
theorem ask_open {F : Nat → Prop} {w : World} {p b K : Nat} {cl : Int → Cl} {cs : List Int} (h : TS F w p b K cl cs) (c n : Int) (wc : (Lit.int .i64 c).wf = true) (wn : (Lit.int .i64 n).wf = true) (hc : mayC c) (hn : mayN n) (A : Option Addr) (len cap : Nat) (l : List UInt8) (hl : RB w A len l) (hlc : len ≤ cap) (hcm : cap ≤ 9223372036854775807) (h1n : ¬ n < (cl c).k) (h2 : n ∈ (cl c).ns) (h3n : ((cl c).g n).m = (mixOf 7 l : Int)) (h4n : ((cl c).g n).d = false) :
    Calls Try.prog 11 #[.pointer (some ⟨p, 0, none⟩), .int .i64 c, .int .i64 n, .slice A len cap] w fun e w' => e = .returned (.tuple #[.int .i64 2, rq0.a]) ∧ Below w.heap.size w w' := by
  have h0 := h.alloc (.cells #[.int .i64 0, .int .i64 0, .int .i64 0, .int .i64 0] 35)
  have hof := of_any h0 c wc
  have hA0 := Blk.new w 35 #[.int .i64 0, .int .i64 0, .int .i64 0, .int .i64 0]
  have hb0 := (Below.refl w.heap.size w).alloc (Nat.le_refl _) (.cells #[.int .i64 0, .int .i64 0, .int .i64 0, .int .i64 0] 35)
  obtain ⟨ab, hab⟩ : ∃ ab, w.heap.size = ab := ⟨_, rfl⟩
  rw [hab] at hA0
  have habp : p < ab ∧ b < ab := by have := h.lt; omega
  go_enter Try.func11, Try.ntmps11
  go_wp2_with fail
  refine (client_yes hc _).mono ?_
  rintro e w' ⟨rfl, hww⟩
  subst w'
  go_wp2_with fail
  refine (number_yes hn _).mono ?_
  rintro e w' ⟨rfl, hww⟩
  subst w'
  go_wp2_with fail
  refine hof.mono ?_
  rintro e w1 ⟨mb, rfl, ⟨⟨N, hN, hm⟩, hr⟩, hb1⟩
  have hz0 : (w.alloc (.cells #[.int .i64 0, .int .i64 0, .int .i64 0, .int .i64 0] 35)).heap.size = w.heap.size + 1 := by simp
  have hT1 := h0.below hb1
  have hr2 : (c ∈ cs ∧ mb = (cl c).b) ∨ (c ∉ cs ∧ w.heap.size ≤ mb) := hr.elim .inl (fun e => .inr ⟨e.1, by have := e.2; omega⟩)
  have hA1 := hA0.kept (Keep.of_below hb1) (by omega)
  have hb1' := hb0.trans (hb1.mono hb0.size)
  have hmba : mb ≠ ab := by
    rcases hr with ⟨h1, h2⟩ | ⟨_, h2⟩
    · have := (h.ok c h1).1.lt; omega
    · omega
  have hmbp : mb ≠ p ∧ mb ≠ b := by
    rcases hr with ⟨h1, h2⟩ | ⟨_, h2⟩
    · rw [h2]; exact (h.ok c h1).2.2
    · omega
  clear hof hr hb0 hb1 hA0
  obtain ⟨k, hk⟩ : ∃ k, (cl c).k = k := ⟨_, rfl⟩
  obtain ⟨ns, hns⟩ : ∃ ns, (cl c).ns = ns := ⟨_, rfl⟩
  obtain ⟨r, hrr⟩ : ∃ r, (cl c).g n = r := ⟨_, rfl⟩
  rw [hk] at h1n ⊢
  rw [hns] at hm h2
  rw [hrr] at h3n h4n
  have hlk := (hm.alloc (.cells #[.int .i64 k, .map (some mb)] 68)).look Try.underlying66 (zero_rq _) wn
  try dsimp only at hlk
  rw [hrr] at hlk
  obtain ⟨rm, rd, rc, rn, re, rx⟩ := r
  dsimp only at h3n h4n
  change (Instr.lookup _ _ _ _).run _ _ = Result.ok (.tuple #[.agg #[.int .u64 rm, .bool rd, .int .i64 rc, .int .i64 rn, .int .i64 re, .int .i64 rx], .bool (decide (n ∈ ns))]) _ at hlk
  have hR1 := (Blk.new w1 68 #[.int .i64 k, .map (some mb)]).alloc (.cells #[.int .u64 rm, .bool rd, .int .i64 rc, .int .i64 rn, .int .i64 re, .int .i64 rx] 72)
  have hQ1 := Blk.new (w1.alloc (.cells #[.int .i64 k, .map (some mb)] 68)) 72 #[.int .u64 rm, .bool rd, .int .i64 rc, .int .i64 rn, .int .i64 re, .int .i64 rx]
  rw [World.size_alloc] at hQ1
  have hA2 := (hA1.alloc (.cells #[.int .i64 k, .map (some mb)] 68)).alloc (.cells #[.int .u64 rm, .bool rd, .int .i64 rc, .int .i64 rn, .int .i64 re, .int .i64 rx] 72)
  have hm2 := (hm.alloc (.cells #[.int .i64 k, .map (some mb)] 68)).alloc (.cells #[.int .u64 rm, .bool rd, .int .i64 rc, .int .i64 rn, .int .i64 re, .int .i64 rx] 72)
  have hT2 := (hT1.alloc (.cells #[.int .i64 k, .map (some mb)] 68)).alloc (.cells #[.int .u64 rm, .bool rd, .int .i64 rc, .int .i64 rn, .int .i64 re, .int .i64 rx] 72)
  have hb2 := (hb1'.alloc hb1'.size (.cells #[.int .i64 k, .map (some mb)] 68)).alloc (by simp; have := hb1'.size; omega) (.cells #[.int .u64 rm, .bool rd, .int .i64 rc, .int .i64 rn, .int .i64 re, .int .i64 rx] 72)
  have hz1 : w.heap.size < w1.heap.size := by have := hA1.lt; omega
  obtain ⟨q1, hq1⟩ : ∃ q1, w1.heap.size = q1 := ⟨_, rfl⟩
  have hmbq : mb < q1 := by have := hm.lt; omega
  have hmx := mix_any 7 A len cap l ((w1.alloc (.cells #[.int .i64 k, .map (some mb)] 68)).alloc (.cells #[.int .u64 rm, .bool rd, .int .i64 rc, .int .i64 rn, .int .i64 re, .int .i64 rx] 72)) (by unfold W64; omega) (hl.kept (Keep.ofB (S := fun _ => False) hb2) (fun _ _ => id)) hlc hcm
  change Calls _ _ #[.int .u64 7, _] _ _ at hmx
  obtain ⟨M, hM⟩ : ∃ M : Int, (mixOf 7 l : Int) = M := ⟨_, rfl⟩
  rw [hM] at hmx h3n
  clear hA1 hb1' hT1 hm
  have d1 : decide (n < k) = false := decide_eq_false (by omega)
  rw [show decide (n ∈ ns) = true from decide_eq_true h2] at hlk
  subst h3n
  have d3 : (rm != rm) = false := by simp
  subst h4n
  go_wp2_with fail
  refine hmx.mono ?_
  rintro e w4 ⟨rfl, hk4⟩
  have hA4 := hA2.kept hk4 id
  have hR4 := hR1.kept hk4 id
  have hQ4 := hQ1.kept hk4 id
  have hm4 := hm2.kept hk4 id
  have hT4 := hT2.kept hk4 (fun _ _ => id)
  have hln := hm4.len Try.underlying66
  have hb4 := hb2.trans (hk4.below (B := w.heap.size) hb2.size (fun i hi => id))
  rw [hq1] at hR4 hQ4
  clear hA2 hR1 hQ1 hm2 hT2 hb2 hk4 hmx hlk
  have a0 := hA4.cell 0
  have a1 := hA4.cell 1
  have a2 := hA4.cell 2
  have a3 := hA4.cell 3
  have af := fun i => hA4.frozen i
  have al := hA4.lt
  have r0 := hR4.cell 0
  have r1 := hR4.cell 1
  have q_0 := hQ4.cell 0
  have q_1 := hQ4.cell 1
  have q_2 := hQ4.cell 2
  have q_3 := hQ4.cell 3
  have q_4 := hQ4.cell 4
  have q_5 := hQ4.cell 5
  simp only [List.getElem?_toArray, List.getElem?_cons_succ, List.getElem?_cons_zero] at a0 a1 a2 a3 r0 r1 q_0 q_1 q_2 q_3 q_4 q_5
  go_wp2
  have zE := fill4 hA4 (.int .i64 0) (.int .i64 0) (.int .i64 0) (.int .i64 0)
  have kE := keep4 w4 ab (.int .i64 0) (.int .i64 0) (.int .i64 0) (.int .i64 0)
  generalize ((((w4.setCell ⟨ab, 0, none⟩ (.int .i64 0)).setCell ⟨ab, 1, none⟩ (.int .i64 0)).setCell ⟨ab, 2, none⟩ (.int .i64 0)).setCell ⟨ab, 3, none⟩ (.int .i64 0)) = WE at zE kE ⊢
  have y0 := zE.cell 0
  have y1 := zE.cell 1
  have y2 := zE.cell 2
  have y3 := zE.cell 3
  simp only [List.getElem?_toArray, List.getElem?_cons_succ, List.getElem?_cons_zero] at y0 y1 y2 y3
  refine bodyPost_ret (v := .tuple #[.int .i64 2, .agg #[.int .i64 0, .int .i64 0, .int .i64 0, .int .i64 0]]) (by simp [results, Try.results11, go_sem, y0, y1, y2, y3]) rfl ?_
  have hbE := hb4.trans (kE.below (B := w.heap.size) hb4.size (fun i hi e => by omega))
  exact ⟨by first | rfl | (rw [hrr]; rfl), by first | exact hbE | (rw [hab] at hbE; exact hbE)⟩
set_option maxRecDepth 100000 in
set_option maxHeartbeats 3200000 in
theorem ask_full {F : Nat → Prop} {w : World} {p b K : Nat} {cl : Int → Cl} {cs : List Int} (h : TS F w p b K cl cs) (c n : Int) (wc : (Lit.int .i64 c).wf = true) (wn : (Lit.int .i64 n).wf = true) (hc : mayC c) (hn : mayN n) (A : Option Addr) (len cap : Nat) (l : List UInt8) (hl : RB w A len l) (hlc : len ≤ cap) (hcm : cap ≤ 9223372036854775807) (h1n : ¬ n < (cl c).k) (h2n : n ∉ (cl c).ns) (h5 : 128 ≤ (cl c).ns.length) :
    Calls Try.prog 11 #[.pointer (some ⟨p, 0, none⟩), .int .i64 c, .int .i64 n, .slice A len cap] w fun e w' => e = .returned (.tuple #[.int .i64 6, rq0.a]) ∧ Below w.heap.size w w' := by
  have h0 := h.alloc (.cells #[.int .i64 0, .int .i64 0, .int .i64 0, .int .i64 0] 35)
  have hof := of_any h0 c wc
  have hA0 := Blk.new w 35 #[.int .i64 0, .int .i64 0, .int .i64 0, .int .i64 0]
  have hb0 := (Below.refl w.heap.size w).alloc (Nat.le_refl _) (.cells #[.int .i64 0, .int .i64 0, .int .i64 0, .int .i64 0] 35)
  obtain ⟨ab, hab⟩ : ∃ ab, w.heap.size = ab := ⟨_, rfl⟩
  rw [hab] at hA0
  have habp : p < ab ∧ b < ab := by have := h.lt; omega
  go_enter Try.func11, Try.ntmps11
  go_wp2_with fail
  refine (client_yes hc _).mono ?_
  rintro e w' ⟨rfl, hww⟩
  subst w'
  go_wp2_with fail
  refine (number_yes hn _).mono ?_
  rintro e w' ⟨rfl, hww⟩
  subst w'
  go_wp2_with fail
  refine hof.mono ?_
  rintro e w1 ⟨mb, rfl, ⟨⟨N, hN, hm⟩, hr⟩, hb1⟩
  have hz0 : (w.alloc (.cells #[.int .i64 0, .int .i64 0, .int .i64 0, .int .i64 0] 35)).heap.size = w.heap.size + 1 := by simp
  have hT1 := h0.below hb1
  have hr2 : (c ∈ cs ∧ mb = (cl c).b) ∨ (c ∉ cs ∧ w.heap.size ≤ mb) := hr.elim .inl (fun e => .inr ⟨e.1, by have := e.2; omega⟩)
  have hA1 := hA0.kept (Keep.of_below hb1) (by omega)
  have hb1' := hb0.trans (hb1.mono hb0.size)
  have hmba : mb ≠ ab := by
    rcases hr with ⟨h1, h2⟩ | ⟨_, h2⟩
    · have := (h.ok c h1).1.lt; omega
    · omega
  have hmbp : mb ≠ p ∧ mb ≠ b := by
    rcases hr with ⟨h1, h2⟩ | ⟨_, h2⟩
    · rw [h2]; exact (h.ok c h1).2.2
    · omega
  clear hof hr hb0 hb1 hA0
  obtain ⟨k, hk⟩ : ∃ k, (cl c).k = k := ⟨_, rfl⟩
  obtain ⟨ns, hns⟩ : ∃ ns, (cl c).ns = ns := ⟨_, rfl⟩
  obtain ⟨r, hrr⟩ : ∃ r, (cl c).g n = r := ⟨_, rfl⟩
  rw [hk] at h1n ⊢
  rw [hns] at hm h2n h5
  have hlk := (hm.alloc (.cells #[.int .i64 k, .map (some mb)] 68)).look Try.underlying66 (zero_rq _) wn
  try dsimp only at hlk
  rw [hrr] at hlk
  obtain ⟨rm, rd, rc, rn, re, rx⟩ := r
  change (Instr.lookup _ _ _ _).run _ _ = Result.ok (.tuple #[.agg #[.int .u64 rm, .bool rd, .int .i64 rc, .int .i64 rn, .int .i64 re, .int .i64 rx], .bool (decide (n ∈ ns))]) _ at hlk
  have hR1 := (Blk.new w1 68 #[.int .i64 k, .map (some mb)]).alloc (.cells #[.int .u64 rm, .bool rd, .int .i64 rc, .int .i64 rn, .int .i64 re, .int .i64 rx] 72)
  have hQ1 := Blk.new (w1.alloc (.cells #[.int .i64 k, .map (some mb)] 68)) 72 #[.int .u64 rm, .bool rd, .int .i64 rc, .int .i64 rn, .int .i64 re, .int .i64 rx]
  rw [World.size_alloc] at hQ1
  have hA2 := (hA1.alloc (.cells #[.int .i64 k, .map (some mb)] 68)).alloc (.cells #[.int .u64 rm, .bool rd, .int .i64 rc, .int .i64 rn, .int .i64 re, .int .i64 rx] 72)
  have hm2 := (hm.alloc (.cells #[.int .i64 k, .map (some mb)] 68)).alloc (.cells #[.int .u64 rm, .bool rd, .int .i64 rc, .int .i64 rn, .int .i64 re, .int .i64 rx] 72)
  have hT2 := (hT1.alloc (.cells #[.int .i64 k, .map (some mb)] 68)).alloc (.cells #[.int .u64 rm, .bool rd, .int .i64 rc, .int .i64 rn, .int .i64 re, .int .i64 rx] 72)
  have hb2 := (hb1'.alloc hb1'.size (.cells #[.int .i64 k, .map (some mb)] 68)).alloc (by simp; have := hb1'.size; omega) (.cells #[.int .u64 rm, .bool rd, .int .i64 rc, .int .i64 rn, .int .i64 re, .int .i64 rx] 72)
  have hz1 : w.heap.size < w1.heap.size := by have := hA1.lt; omega
  obtain ⟨q1, hq1⟩ : ∃ q1, w1.heap.size = q1 := ⟨_, rfl⟩
  have hmbq : mb < q1 := by have := hm.lt; omega
  have hmx := mix_any 7 A len cap l ((w1.alloc (.cells #[.int .i64 k, .map (some mb)] 68)).alloc (.cells #[.int .u64 rm, .bool rd, .int .i64 rc, .int .i64 rn, .int .i64 re, .int .i64 rx] 72)) (by unfold W64; omega) (hl.kept (Keep.ofB (S := fun _ => False) hb2) (fun _ _ => id)) hlc hcm
  change Calls _ _ #[.int .u64 7, _] _ _ at hmx
  obtain ⟨M, hM⟩ : ∃ M : Int, (mixOf 7 l : Int) = M := ⟨_, rfl⟩
  rw [hM] at hmx
  clear hA1 hb1' hT1 hm
  have d1 : decide (n < k) = false := decide_eq_false (by omega)
  rw [show decide (n ∈ ns) = false from decide_eq_false h2n] at hlk
  have d5 : decide ((128 : Int) ≤ (ns.length : Int)) = true := decide_eq_true (by omega)
  clear h5
  go_wp2_with fail
  refine hmx.mono ?_
  rintro e w4 ⟨rfl, hk4⟩
  have hA4 := hA2.kept hk4 id
  have hR4 := hR1.kept hk4 id
  have hQ4 := hQ1.kept hk4 id
  have hm4 := hm2.kept hk4 id
  have hT4 := hT2.kept hk4 (fun _ _ => id)
  have hln := hm4.len Try.underlying66
  have hb4 := hb2.trans (hk4.below (B := w.heap.size) hb2.size (fun i hi => id))
  rw [hq1] at hR4 hQ4
  clear hA2 hR1 hQ1 hm2 hT2 hb2 hk4 hmx hlk
  have a0 := hA4.cell 0
  have a1 := hA4.cell 1
  have a2 := hA4.cell 2
  have a3 := hA4.cell 3
  have af := fun i => hA4.frozen i
  have al := hA4.lt
  have r0 := hR4.cell 0
  have r1 := hR4.cell 1
  have q_0 := hQ4.cell 0
  have q_1 := hQ4.cell 1
  have q_2 := hQ4.cell 2
  have q_3 := hQ4.cell 3
  have q_4 := hQ4.cell 4
  have q_5 := hQ4.cell 5
  simp only [List.getElem?_toArray, List.getElem?_cons_succ, List.getElem?_cons_zero] at a0 a1 a2 a3 r0 r1 q_0 q_1 q_2 q_3 q_4 q_5
  go_wp2
  have zE := fill4 hA4 (.int .i64 0) (.int .i64 0) (.int .i64 0) (.int .i64 0)
  have kE := keep4 w4 ab (.int .i64 0) (.int .i64 0) (.int .i64 0) (.int .i64 0)
  generalize ((((w4.setCell ⟨ab, 0, none⟩ (.int .i64 0)).setCell ⟨ab, 1, none⟩ (.int .i64 0)).setCell ⟨ab, 2, none⟩ (.int .i64 0)).setCell ⟨ab, 3, none⟩ (.int .i64 0)) = WE at zE kE ⊢
  have y0 := zE.cell 0
  have y1 := zE.cell 1
  have y2 := zE.cell 2
  have y3 := zE.cell 3
  simp only [List.getElem?_toArray, List.getElem?_cons_succ, List.getElem?_cons_zero] at y0 y1 y2 y3
  refine bodyPost_ret (v := .tuple #[.int .i64 6, .agg #[.int .i64 0, .int .i64 0, .int .i64 0, .int .i64 0]]) (by simp [results, Try.results11, go_sem, y0, y1, y2, y3]) rfl ?_
  have hbE := hb4.trans (kE.below (B := w.heap.size) hb4.size (fun i hi e => by omega))
  exact ⟨by first | rfl | (rw [hrr]; rfl), by first | exact hbE | (rw [hab] at hbE; exact hbE)⟩
set_option maxRecDepth 100000 in
set_option maxHeartbeats 3200000 in
theorem ask_done {F : Nat → Prop} {w : World} {p b K : Nat} {cl : Int → Cl} {cs : List Int} (h : TS F w p b K cl cs) (c n : Int) (wc : (Lit.int .i64 c).wf = true) (wn : (Lit.int .i64 n).wf = true) (hc : mayC c) (hn : mayN n) (A : Option Addr) (len cap : Nat) (l : List UInt8) (hl : RB w A len l) (hlc : len ≤ cap) (hcm : cap ≤ 9223372036854775807) (h1n : ¬ n < (cl c).k) (h2 : n ∈ (cl c).ns) (h3n : ((cl c).g n).m = (mixOf 7 l : Int)) (h4 : ((cl c).g n).d = true) :
    Calls Try.prog 11 #[.pointer (some ⟨p, 0, none⟩), .int .i64 c, .int .i64 n, .slice A len cap] w fun e w' => e = .returned (.tuple #[.int .i64 3, ((cl c).g n).a]) ∧ Below w.heap.size w w' := by
  have h0 := h.alloc (.cells #[.int .i64 0, .int .i64 0, .int .i64 0, .int .i64 0] 35)
  have hof := of_any h0 c wc
  have hA0 := Blk.new w 35 #[.int .i64 0, .int .i64 0, .int .i64 0, .int .i64 0]
  have hb0 := (Below.refl w.heap.size w).alloc (Nat.le_refl _) (.cells #[.int .i64 0, .int .i64 0, .int .i64 0, .int .i64 0] 35)
  obtain ⟨ab, hab⟩ : ∃ ab, w.heap.size = ab := ⟨_, rfl⟩
  rw [hab] at hA0
  have habp : p < ab ∧ b < ab := by have := h.lt; omega
  go_enter Try.func11, Try.ntmps11
  go_wp2_with fail
  refine (client_yes hc _).mono ?_
  rintro e w' ⟨rfl, hww⟩
  subst w'
  go_wp2_with fail
  refine (number_yes hn _).mono ?_
  rintro e w' ⟨rfl, hww⟩
  subst w'
  go_wp2_with fail
  refine hof.mono ?_
  rintro e w1 ⟨mb, rfl, ⟨⟨N, hN, hm⟩, hr⟩, hb1⟩
  have hz0 : (w.alloc (.cells #[.int .i64 0, .int .i64 0, .int .i64 0, .int .i64 0] 35)).heap.size = w.heap.size + 1 := by simp
  have hT1 := h0.below hb1
  have hr2 : (c ∈ cs ∧ mb = (cl c).b) ∨ (c ∉ cs ∧ w.heap.size ≤ mb) := hr.elim .inl (fun e => .inr ⟨e.1, by have := e.2; omega⟩)
  have hA1 := hA0.kept (Keep.of_below hb1) (by omega)
  have hb1' := hb0.trans (hb1.mono hb0.size)
  have hmba : mb ≠ ab := by
    rcases hr with ⟨h1, h2⟩ | ⟨_, h2⟩
    · have := (h.ok c h1).1.lt; omega
    · omega
  have hmbp : mb ≠ p ∧ mb ≠ b := by
    rcases hr with ⟨h1, h2⟩ | ⟨_, h2⟩
    · rw [h2]; exact (h.ok c h1).2.2
    · omega
  clear hof hr hb0 hb1 hA0
  obtain ⟨k, hk⟩ : ∃ k, (cl c).k = k := ⟨_, rfl⟩
  obtain ⟨ns, hns⟩ : ∃ ns, (cl c).ns = ns := ⟨_, rfl⟩
  obtain ⟨r, hrr⟩ : ∃ r, (cl c).g n = r := ⟨_, rfl⟩
  rw [hk] at h1n ⊢
  rw [hns] at hm h2
  rw [hrr] at h3n h4
  have hlk := (hm.alloc (.cells #[.int .i64 k, .map (some mb)] 68)).look Try.underlying66 (zero_rq _) wn
  try dsimp only at hlk
  rw [hrr] at hlk
  obtain ⟨rm, rd, rc, rn, re, rx⟩ := r
  dsimp only at h3n h4
  change (Instr.lookup _ _ _ _).run _ _ = Result.ok (.tuple #[.agg #[.int .u64 rm, .bool rd, .int .i64 rc, .int .i64 rn, .int .i64 re, .int .i64 rx], .bool (decide (n ∈ ns))]) _ at hlk
  have hR1 := (Blk.new w1 68 #[.int .i64 k, .map (some mb)]).alloc (.cells #[.int .u64 rm, .bool rd, .int .i64 rc, .int .i64 rn, .int .i64 re, .int .i64 rx] 72)
  have hQ1 := Blk.new (w1.alloc (.cells #[.int .i64 k, .map (some mb)] 68)) 72 #[.int .u64 rm, .bool rd, .int .i64 rc, .int .i64 rn, .int .i64 re, .int .i64 rx]
  rw [World.size_alloc] at hQ1
  have hA2 := (hA1.alloc (.cells #[.int .i64 k, .map (some mb)] 68)).alloc (.cells #[.int .u64 rm, .bool rd, .int .i64 rc, .int .i64 rn, .int .i64 re, .int .i64 rx] 72)
  have hm2 := (hm.alloc (.cells #[.int .i64 k, .map (some mb)] 68)).alloc (.cells #[.int .u64 rm, .bool rd, .int .i64 rc, .int .i64 rn, .int .i64 re, .int .i64 rx] 72)
  have hT2 := (hT1.alloc (.cells #[.int .i64 k, .map (some mb)] 68)).alloc (.cells #[.int .u64 rm, .bool rd, .int .i64 rc, .int .i64 rn, .int .i64 re, .int .i64 rx] 72)
  have hb2 := (hb1'.alloc hb1'.size (.cells #[.int .i64 k, .map (some mb)] 68)).alloc (by simp; have := hb1'.size; omega) (.cells #[.int .u64 rm, .bool rd, .int .i64 rc, .int .i64 rn, .int .i64 re, .int .i64 rx] 72)
  have hz1 : w.heap.size < w1.heap.size := by have := hA1.lt; omega
  obtain ⟨q1, hq1⟩ : ∃ q1, w1.heap.size = q1 := ⟨_, rfl⟩
  have hmbq : mb < q1 := by have := hm.lt; omega
  have hmx := mix_any 7 A len cap l ((w1.alloc (.cells #[.int .i64 k, .map (some mb)] 68)).alloc (.cells #[.int .u64 rm, .bool rd, .int .i64 rc, .int .i64 rn, .int .i64 re, .int .i64 rx] 72)) (by unfold W64; omega) (hl.kept (Keep.ofB (S := fun _ => False) hb2) (fun _ _ => id)) hlc hcm
  change Calls _ _ #[.int .u64 7, _] _ _ at hmx
  obtain ⟨M, hM⟩ : ∃ M : Int, (mixOf 7 l : Int) = M := ⟨_, rfl⟩
  rw [hM] at hmx h3n
  clear hA1 hb1' hT1 hm
  have d1 : decide (n < k) = false := decide_eq_false (by omega)
  rw [show decide (n ∈ ns) = true from decide_eq_true h2] at hlk
  subst h3n
  have d3 : (rm != rm) = false := by simp
  subst h4
  go_wp2_with fail
  refine hmx.mono ?_
  rintro e w4 ⟨rfl, hk4⟩
  have hA4 := hA2.kept hk4 id
  have hR4 := hR1.kept hk4 id
  have hQ4 := hQ1.kept hk4 id
  have hm4 := hm2.kept hk4 id
  have hT4 := hT2.kept hk4 (fun _ _ => id)
  have hln := hm4.len Try.underlying66
  have hb4 := hb2.trans (hk4.below (B := w.heap.size) hb2.size (fun i hi => id))
  rw [hq1] at hR4 hQ4
  clear hA2 hR1 hQ1 hm2 hT2 hb2 hk4 hmx hlk
  have a0 := hA4.cell 0
  have a1 := hA4.cell 1
  have a2 := hA4.cell 2
  have a3 := hA4.cell 3
  have af := fun i => hA4.frozen i
  have al := hA4.lt
  have r0 := hR4.cell 0
  have r1 := hR4.cell 1
  have q_0 := hQ4.cell 0
  have q_1 := hQ4.cell 1
  have q_2 := hQ4.cell 2
  have q_3 := hQ4.cell 3
  have q_4 := hQ4.cell 4
  have q_5 := hQ4.cell 5
  simp only [List.getElem?_toArray, List.getElem?_cons_succ, List.getElem?_cons_zero] at a0 a1 a2 a3 r0 r1 q_0 q_1 q_2 q_3 q_4 q_5
  go_upto_region 11 with fail
  have hA5 := hA4.drew
  have hb5 := hb4.drew
  have sd : (fun W => W.cell? ⟨q1 + 1, 2, none⟩ = some (.int .i64 rc) ∧ W.cell? ⟨q1 + 1, 3, none⟩ = some (.int .i64 rn) ∧ W.cell? ⟨q1 + 1, 4, none⟩ = some (.int .i64 re) ∧ W.cell? ⟨q1 + 1, 5, none⟩ = some (.int .i64 rx)) w4.drew := ⟨q_2, q_3, q_4, q_5⟩
  refine wp_region_held_drew (S := (fun W => W.cell? ⟨q1 + 1, 2, none⟩ = some (.int .i64 rc) ∧ W.cell? ⟨q1 + 1, 3, none⟩ = some (.int .i64 rn) ∧ W.cell? ⟨q1 + 1, 4, none⟩ = some (.int .i64 re) ∧ W.cell? ⟨q1 + 1, 5, none⟩ = some (.int .i64 rx))) (by kernel_rfl) sd (fun hHeld => ?_)
  generalize w4.drew = wz at *
  clear a0 a1 a2 a3 af al
  have a0 := hA5.cell 0
  have a1 := hA5.cell 1
  have a2 := hA5.cell 2
  have a3 := hA5.cell 3
  have af := fun i => hA5.frozen i
  have al := hA5.lt
  simp only [List.getElem?_toArray, List.getElem?_cons_succ, List.getElem?_cons_zero] at a0 a1 a2 a3
  have hq5 := hmbq
  have kS := keep4 wz ab (.int .i64 rc) (.int .i64 rn) (.int .i64 re) (.int .i64 rx)
  have hqa : ¬ (q1 + 1 = ab) := by omega
  have sd2 : (fun W => W.cell? ⟨q1 + 1, 2, none⟩ = some (.int .i64 rc) ∧ W.cell? ⟨q1 + 1, 3, none⟩ = some (.int .i64 rn) ∧ W.cell? ⟨q1 + 1, 4, none⟩ = some (.int .i64 re) ∧ W.cell? ⟨q1 + 1, 5, none⟩ = some (.int .i64 rx)) ((((wz.setCell ⟨ab, 0, none⟩ (.int .i64 rc)).setCell ⟨ab, 1, none⟩ (.int .i64 rn)).setCell ⟨ab, 2, none⟩ (.int .i64 re)).setCell ⟨ab, 3, none⟩ (.int .i64 rx)) := ⟨kS.cell sd.1 hqa, kS.cell sd.2.1 hqa, kS.cell sd.2.2.1 hqa, kS.cell sd.2.2.2 hqa⟩
  (refine tkI 0 (by (simp only [List.getElem?_toArray, List.getElem?_cons_succ, List.getElem?_cons_zero]; rfl)) (by kernel_rfl) (by kernel_rfl) (by kernel_rfl) (by exact fun _ _ _ h => h) (by rfl) (by (intro w hSw; (try dsimp only at hSw); go_simp <;> with_reducible rfl)) (by assumption) ?_; try simp only [Act.put, List.setIfInBounds_toArray, List.set_cons_zero, List.set_cons_succ])
  (refine tkI 1 (by (simp only [List.getElem?_toArray, List.getElem?_cons_succ, List.getElem?_cons_zero]; rfl)) (by kernel_rfl) (by kernel_rfl) (by kernel_rfl) (by exact fun _ _ _ h => h) (by rfl) (by (intro w hSw; (try dsimp only at hSw); go_simp <;> with_reducible rfl)) (by assumption) ?_; try simp only [Act.put, List.setIfInBounds_toArray, List.set_cons_zero, List.set_cons_succ])
  (refine tkI 2 (by (simp only [List.getElem?_toArray, List.getElem?_cons_succ, List.getElem?_cons_zero]; rfl)) (by kernel_rfl) (by kernel_rfl) (by kernel_rfl) (by exact fun _ _ _ h => h) (by rfl) (by (intro w hSw; (try dsimp only at hSw); go_simp <;> with_reducible rfl)) (by assumption) ?_; try simp only [Act.put, List.setIfInBounds_toArray, List.set_cons_zero, List.set_cons_succ])
  refine wpAnyH_ready (rs := [3]) (by kernel_rfl) (by simp) ?_
  refine AllReadyH.cons (by (simp only [List.getElem?_toArray, List.getElem?_cons_succ, List.getElem?_cons_zero]; rfl)) (fun K hK => ?_) AllReadyH.nil
  go_simp
  refine hK.out _ _ sd2 (fun hHeld2 => ?_)
  clear hK K hHeld
  clear hHeld2
  try simp only [Act.put, List.setIfInBounds_toArray, List.set_cons_zero, List.set_cons_succ]
  refine wpAnyH_done (by kernel_rfl) ?_ _
  go_wp2
  have zE := fill4 hA5 (.int .i64 rc) (.int .i64 rn) (.int .i64 re) (.int .i64 rx)
  have kE := keep4 wz ab (.int .i64 rc) (.int .i64 rn) (.int .i64 re) (.int .i64 rx)
  generalize ((((wz.setCell ⟨ab, 0, none⟩ (.int .i64 rc)).setCell ⟨ab, 1, none⟩ (.int .i64 rn)).setCell ⟨ab, 2, none⟩ (.int .i64 re)).setCell ⟨ab, 3, none⟩ (.int .i64 rx)) = WE at zE kE ⊢
  have y0 := zE.cell 0
  have y1 := zE.cell 1
  have y2 := zE.cell 2
  have y3 := zE.cell 3
  simp only [List.getElem?_toArray, List.getElem?_cons_succ, List.getElem?_cons_zero] at y0 y1 y2 y3
  refine bodyPost_ret (v := .tuple #[.int .i64 3, .agg #[.int .i64 rc, .int .i64 rn, .int .i64 re, .int .i64 rx]]) (by simp [results, Try.results11, go_sem, y0, y1, y2, y3]) rfl ?_
  have hbE := hb5.trans (kE.below (B := w.heap.size) hb5.size (fun i hi e => by omega))
  exact ⟨by first | rfl | (rw [hrr]; rfl), by first | exact hbE | (rw [hab] at hbE; exact hbE)⟩
set_option maxRecDepth 100000 in
set_option maxHeartbeats 3200000 in
theorem ask_new {F : Nat → Prop} {w : World} {p b K : Nat} {cl : Int → Cl} {cs : List Int} (h : TS F w p b K cl cs) (c n : Int) (wc : (Lit.int .i64 c).wf = true) (wn : (Lit.int .i64 n).wf = true) (hc : mayC c) (hn : mayN n) (A : Option Addr) (len cap : Nat) (l : List UInt8) (hl : RB w A len l) (hlc : len ≤ cap) (hcm : cap ≤ 9223372036854775807) (h1n : ¬ n < (cl c).k) (h2n : n ∉ (cl c).ns) (h5n : (cl c).ns.length < 128) (hK : K < maxLen) (hab2 : ∀ g, F g → g ≠ w.heap.size) :
    Calls Try.prog 11 #[.pointer (some ⟨p, 0, none⟩), .int .i64 c, .int .i64 n, .slice A len cap] w fun e w' => e = .returned (.tuple #[.int .i64 1, rq0.a]) ∧ ∃ mb, (F mb ∨ w.heap.size ≤ mb) ∧ TS (fun k => F k ∨ k = mb) w' p b (K + 1) (fun i => if i = c then ⟨(cl c).k, mb, fun j => if j = n then ⟨(mixOf 7 l : Int), false, 0, 0, 0, 0⟩ else (cl c).g j, (cl c).ns ++ [n]⟩ else cl i) (addK cs c) ∧ Keep F w w' := by
  have h0 := h.alloc (.cells #[.int .i64 0, .int .i64 0, .int .i64 0, .int .i64 0] 35)
  have hof := of_any h0 c wc
  have hA0 := Blk.new w 35 #[.int .i64 0, .int .i64 0, .int .i64 0, .int .i64 0]
  have hb0 := (Below.refl w.heap.size w).alloc (Nat.le_refl _) (.cells #[.int .i64 0, .int .i64 0, .int .i64 0, .int .i64 0] 35)
  obtain ⟨ab, hab⟩ : ∃ ab, w.heap.size = ab := ⟨_, rfl⟩
  rw [hab] at hA0 hab2
  have habp : p < ab ∧ b < ab := by have := h.lt; omega
  go_enter Try.func11, Try.ntmps11
  go_wp2_with fail
  refine (client_yes hc _).mono ?_
  rintro e w' ⟨rfl, hww⟩
  subst w'
  go_wp2_with fail
  refine (number_yes hn _).mono ?_
  rintro e w' ⟨rfl, hww⟩
  subst w'
  go_wp2_with fail
  refine hof.mono ?_
  rintro e w1 ⟨mb, rfl, ⟨⟨N, hN, hm⟩, hr⟩, hb1⟩
  have hz0 : (w.alloc (.cells #[.int .i64 0, .int .i64 0, .int .i64 0, .int .i64 0] 35)).heap.size = w.heap.size + 1 := by simp
  have hT1 := h0.below hb1
  have hr2 : (c ∈ cs ∧ mb = (cl c).b) ∨ (c ∉ cs ∧ w.heap.size ≤ mb) := hr.elim .inl (fun e => .inr ⟨e.1, by have := e.2; omega⟩)
  have hA1 := hA0.kept (Keep.of_below hb1) (by omega)
  have hb1' := hb0.trans (hb1.mono hb0.size)
  have hmba : mb ≠ ab := by
    rcases hr with ⟨h1, h2⟩ | ⟨_, h2⟩
    · have := (h.ok c h1).1.lt; omega
    · omega
  have hmbp : mb ≠ p ∧ mb ≠ b := by
    rcases hr with ⟨h1, h2⟩ | ⟨_, h2⟩
    · rw [h2]; exact (h.ok c h1).2.2
    · omega
  clear hof hr hb0 hb1 hA0
  obtain ⟨k, hk⟩ : ∃ k, (cl c).k = k := ⟨_, rfl⟩
  obtain ⟨ns, hns⟩ : ∃ ns, (cl c).ns = ns := ⟨_, rfl⟩
  obtain ⟨r, hrr⟩ : ∃ r, (cl c).g n = r := ⟨_, rfl⟩
  rw [hk] at h1n ⊢
  rw [hns] at hm h2n h5n
  have hlk := (hm.alloc (.cells #[.int .i64 k, .map (some mb)] 68)).look Try.underlying66 (zero_rq _) wn
  try dsimp only at hlk
  rw [hrr] at hlk
  obtain ⟨rm, rd, rc, rn, re, rx⟩ := r
  change (Instr.lookup _ _ _ _).run _ _ = Result.ok (.tuple #[.agg #[.int .u64 rm, .bool rd, .int .i64 rc, .int .i64 rn, .int .i64 re, .int .i64 rx], .bool (decide (n ∈ ns))]) _ at hlk
  have hR1 := (Blk.new w1 68 #[.int .i64 k, .map (some mb)]).alloc (.cells #[.int .u64 rm, .bool rd, .int .i64 rc, .int .i64 rn, .int .i64 re, .int .i64 rx] 72)
  have hQ1 := Blk.new (w1.alloc (.cells #[.int .i64 k, .map (some mb)] 68)) 72 #[.int .u64 rm, .bool rd, .int .i64 rc, .int .i64 rn, .int .i64 re, .int .i64 rx]
  rw [World.size_alloc] at hQ1
  have hA2 := (hA1.alloc (.cells #[.int .i64 k, .map (some mb)] 68)).alloc (.cells #[.int .u64 rm, .bool rd, .int .i64 rc, .int .i64 rn, .int .i64 re, .int .i64 rx] 72)
  have hm2 := (hm.alloc (.cells #[.int .i64 k, .map (some mb)] 68)).alloc (.cells #[.int .u64 rm, .bool rd, .int .i64 rc, .int .i64 rn, .int .i64 re, .int .i64 rx] 72)
  have hT2 := (hT1.alloc (.cells #[.int .i64 k, .map (some mb)] 68)).alloc (.cells #[.int .u64 rm, .bool rd, .int .i64 rc, .int .i64 rn, .int .i64 re, .int .i64 rx] 72)
  have hb2 := (hb1'.alloc hb1'.size (.cells #[.int .i64 k, .map (some mb)] 68)).alloc (by simp; have := hb1'.size; omega) (.cells #[.int .u64 rm, .bool rd, .int .i64 rc, .int .i64 rn, .int .i64 re, .int .i64 rx] 72)
  have hz1 : w.heap.size < w1.heap.size := by have := hA1.lt; omega
  obtain ⟨q1, hq1⟩ : ∃ q1, w1.heap.size = q1 := ⟨_, rfl⟩
  have hmbq : mb < q1 := by have := hm.lt; omega
  have hmx := mix_any 7 A len cap l ((w1.alloc (.cells #[.int .i64 k, .map (some mb)] 68)).alloc (.cells #[.int .u64 rm, .bool rd, .int .i64 rc, .int .i64 rn, .int .i64 re, .int .i64 rx] 72)) (by unfold W64; omega) (hl.kept (Keep.ofB (S := fun _ => False) hb2) (fun _ _ => id)) hlc hcm
  change Calls _ _ #[.int .u64 7, _] _ _ at hmx
  obtain ⟨M, hM⟩ : ∃ M : Int, (mixOf 7 l : Int) = M := ⟨_, rfl⟩
  rw [hM] at hmx
  clear hA1 hb1' hT1 hm
  have d1 : decide (n < k) = false := decide_eq_false (by omega)
  rw [show decide (n ∈ ns) = false from decide_eq_false h2n] at hlk
  have d5 : decide ((128 : Int) ≤ (ns.length : Int)) = false := decide_eq_false (by omega)
  clear h5n
  go_wp2_with fail
  refine hmx.mono ?_
  rintro e w4 ⟨rfl, hk4⟩
  have hA4 := hA2.kept hk4 id
  have hR4 := hR1.kept hk4 id
  have hQ4 := hQ1.kept hk4 id
  have hm4 := hm2.kept hk4 id
  have hT4 := hT2.kept hk4 (fun _ _ => id)
  have hln := hm4.len Try.underlying66
  have hb4 := hb2.trans (hk4.below (B := w.heap.size) hb2.size (fun i hi => id))
  rw [hq1] at hR4 hQ4
  clear hA2 hR1 hQ1 hm2 hT2 hb2 hk4 hmx hlk
  have a0 := hA4.cell 0
  have a1 := hA4.cell 1
  have a2 := hA4.cell 2
  have a3 := hA4.cell 3
  have af := fun i => hA4.frozen i
  have al := hA4.lt
  have r0 := hR4.cell 0
  have r1 := hR4.cell 1
  have q_0 := hQ4.cell 0
  have q_1 := hQ4.cell 1
  have q_2 := hQ4.cell 2
  have q_3 := hQ4.cell 3
  have q_4 := hQ4.cell 4
  have q_5 := hQ4.cell 5
  simp only [List.getElem?_toArray, List.getElem?_cons_succ, List.getElem?_cons_zero] at a0 a1 a2 a3 r0 r1 q_0 q_1 q_2 q_3 q_4 q_5
  obtain ⟨w5, hrun5, hm5, hk5⟩ := hm4.upd Try.underlying66 (show N < maxLen by omega) wn (.agg #[.int .u64 M, .bool false, .int .i64 0, .int .i64 0, .int .i64 0, .int .i64 0])
  go_upto_region 17 with fail
  clear hln
  have hbm : ¬ b = mb := fun e => hmbp.2 e.symm
  obtain ⟨N1, hN1, hM1⟩ := hT4.mp
  have hM5 := (hM1.kept hk5 hbm).drew
  have hA5 := (hA4.kept hk5 (fun e => hmba e.symm)).drew
  have p5 := (hT4.pc.kept hk5 (fun e => hmbp.1 e.symm)).drew.cell 0
  have hR5 := (hR4.kept hk5 (by omega)).drew
  have s0 := hR5.cell 0
  have s1 := hR5.cell 1
  simp only [List.getElem?_toArray, List.getElem?_cons_succ, List.getElem?_cons_zero] at p5 s0 s1
  have sd : (fun W => W.cell? ⟨p, 0, none⟩ = some (.map (some b)) ∧ W.cell? ⟨q1, 0, none⟩ = some (.int .i64 k) ∧ W.cell? ⟨q1, 1, none⟩ = some (.map (some mb))) w5.drew := ⟨p5, s0, s1⟩
  obtain ⟨w6, hrun6, hM6, hk6⟩ := hM5.upd Try.underlying61 (show N1 < maxLen by omega) wc (.agg #[.int .i64 k, .map (some mb)])
  have kd : Keep (fun i => i = b) w5 w5.drew := (Keep.refl _ w5).drew
  have kC : Keep (fun i => i = b) w5 w6 := kd.trans hk6 (fun _ _ e => e)
  refine wp_region_held_drew (S := (fun W => W.cell? ⟨p, 0, none⟩ = some (.map (some b)) ∧ W.cell? ⟨q1, 0, none⟩ = some (.int .i64 k) ∧ W.cell? ⟨q1, 1, none⟩ = some (.map (some mb)))) (by kernel_rfl) sd (fun hHeld => ?_)
  generalize w5.drew = wz at *
  clear a0 a1 a2 a3 af al
  have hA6 := hA5.kept hk6 (by omega)
  have a0 := hA6.cell 0
  have a1 := hA6.cell 1
  have a2 := hA6.cell 2
  have a3 := hA6.cell 3
  have af := fun i => hA6.frozen i
  have al := hA6.lt
  simp only [List.getElem?_toArray, List.getElem?_cons_succ, List.getElem?_cons_zero] at a0 a1 a2 a3
  have sd2 : (fun W => W.cell? ⟨p, 0, none⟩ = some (.map (some b)) ∧ W.cell? ⟨q1, 0, none⟩ = some (.int .i64 k) ∧ W.cell? ⟨q1, 1, none⟩ = some (.map (some mb))) w6 := ⟨hk6.cell sd.1 h.ne, hk6.cell sd.2.1 (by dsimp only; omega), hk6.cell sd.2.2 (by dsimp only; omega)⟩
  (refine tkI 0 (by (simp only [List.getElem?_toArray, List.getElem?_cons_succ, List.getElem?_cons_zero]; rfl)) (by kernel_rfl) (by kernel_rfl) (by kernel_rfl) (by exact fun _ _ _ h => h) (by rfl) (by (intro w hSw; (try dsimp only at hSw); go_simp <;> with_reducible rfl)) (by assumption) ?_; try simp only [Act.put, List.setIfInBounds_toArray, List.set_cons_zero, List.set_cons_succ])
  (refine tkI 1 (by (simp only [List.getElem?_toArray, List.getElem?_cons_succ, List.getElem?_cons_zero]; rfl)) (by kernel_rfl) (by kernel_rfl) (by kernel_rfl) (by exact fun _ _ _ h => h) (by rfl) (by (intro w hSw; (try dsimp only at hSw); go_simp <;> with_reducible rfl)) (by assumption) ?_; try simp only [Act.put, List.setIfInBounds_toArray, List.set_cons_zero, List.set_cons_succ])
  (refine tkI 2 (by (simp only [List.getElem?_toArray, List.getElem?_cons_succ, List.getElem?_cons_zero]; rfl)) (by kernel_rfl) (by kernel_rfl) (by kernel_rfl) (by exact fun _ _ _ h => h) (by rfl) (by (intro w hSw; (try dsimp only at hSw); go_simp <;> with_reducible rfl)) (by assumption) ?_; try simp only [Act.put, List.setIfInBounds_toArray, List.set_cons_zero, List.set_cons_succ])
  (refine tkI 3 (by (simp only [List.getElem?_toArray, List.getElem?_cons_succ, List.getElem?_cons_zero]; rfl)) (by kernel_rfl) (by kernel_rfl) (by kernel_rfl) (by exact fun _ _ _ h => h) (by rfl) (by (intro w hSw; (try dsimp only at hSw); go_simp <;> with_reducible rfl)) (by assumption) ?_; try simp only [Act.put, List.setIfInBounds_toArray, List.set_cons_zero, List.set_cons_succ])
  (refine tkI 4 (by (simp only [List.getElem?_toArray, List.getElem?_cons_succ, List.getElem?_cons_zero]; rfl)) (by kernel_rfl) (by kernel_rfl) (by kernel_rfl) (by exact fun _ _ _ h => h) (by rfl) (by (intro w hSw; (try dsimp only at hSw); go_simp <;> with_reducible rfl)) (by assumption) ?_; try simp only [Act.put, List.setIfInBounds_toArray, List.set_cons_zero, List.set_cons_succ])
  (refine tkI 5 (by (simp only [List.getElem?_toArray, List.getElem?_cons_succ, List.getElem?_cons_zero]; rfl)) (by kernel_rfl) (by kernel_rfl) (by kernel_rfl) (by exact fun _ _ _ h => h) (by rfl) (by (intro w hSw; (try dsimp only at hSw); go_simp <;> with_reducible rfl)) (by assumption) ?_; try simp only [Act.put, List.setIfInBounds_toArray, List.set_cons_zero, List.set_cons_succ])
  refine wpAnyH_ready (rs := [6]) (by kernel_rfl) (by simp) ?_
  refine AllReadyH.cons (by (simp only [List.getElem?_toArray, List.getElem?_cons_succ, List.getElem?_cons_zero]; rfl)) (fun K hK => ?_) AllReadyH.nil
  go_simp
  refine hK.out _ _ sd2 (fun hHeld2 => ?_)
  clear hK K hHeld
  clear hHeld2
  try simp only [Act.put, List.setIfInBounds_toArray, List.set_cons_zero, List.set_cons_succ]
  refine wpAnyH_done (by kernel_rfl) ?_ _
  go_wp2
  have zE := fill4 hA6 (.int .i64 0) (.int .i64 0) (.int .i64 0) (.int .i64 0)
  have kE := keep4 w6 ab (.int .i64 0) (.int .i64 0) (.int .i64 0) (.int .i64 0)
  generalize ((((w6.setCell ⟨ab, 0, none⟩ (.int .i64 0)).setCell ⟨ab, 1, none⟩ (.int .i64 0)).setCell ⟨ab, 2, none⟩ (.int .i64 0)).setCell ⟨ab, 3, none⟩ (.int .i64 0)) = WE at zE kE ⊢
  have y0 := zE.cell 0
  have y1 := zE.cell 1
  have y2 := zE.cell 2
  have y3 := zE.cell 3
  simp only [List.getElem?_toArray, List.getElem?_cons_succ, List.getElem?_cons_zero] at y0 y1 y2 y3
  refine bodyPost_ret (v := .tuple #[.int .i64 1, .agg #[.int .i64 0, .int .i64 0, .int .i64 0, .int .i64 0]]) (by simp [results, Try.results11, go_sem, y0, y1, y2, y3]) rfl ?_
  have e1 : (fun j => (if j = n then (⟨M, false, 0, 0, 0, 0⟩ : Rq) else (cl c).g j).v) = fun i => if i = n then .agg #[.int .u64 M, .bool false, .int .i64 0, .int .i64 0, .int .i64 0, .int .i64 0] else ((cl c).g i).v := by
    funext j
    by_cases e : j = n
    · rw [if_pos e, if_pos e]; rfl
    · rw [if_neg e, if_neg e]
  have hadd : addK ns n = ns ++ [n] := if_neg h2n
  rw [hadd, ← e1] at hm5
  obtain ⟨g1, g2, g3⟩ := TS.put h hr2 hb4 hk5 kC (g' := fun j => if j = n then (⟨M, false, 0, 0, 0, 0⟩ : Rq) else (cl c).g j) ⟨N + 1, by omega, hm5⟩ ⟨N1 + 1, by omega, hM6⟩
  have hFab : ∀ g, F g ∨ g = mb → ¬ g = ab := fun g hg e => by
    rcases hg with hg | hg
    · exact hab2 g hg e
    · exact hmba (hg.symm.trans e)
  refine ⟨rfl, mb, g1.imp id (fun e => by omega), ?_, g3.trans kE (fun i hi e => by omega)⟩
  have g4 := g2.kept kE hFab
  first | exact g4 | (rw [hM, hk, hns]; exact g4)
set_option maxRecDepth 100000 in
set_option maxHeartbeats 3200000 in
theorem ask_arg (q : Option Addr) (c n : Int) (hq : q = none ∨ ¬ mayC c ∨ ¬ mayN n) (A : Option Addr) (len cap : Nat) (w : World) :
    Calls Try.prog 11 #[.pointer q, .int .i64 c, .int .i64 n, .slice A len cap] w fun e w' => e = .returned (.tuple #[.int .i64 0, rq0.a]) ∧ Below w.heap.size w w' := by
  have hA4 := Blk.new w 35 #[.int .i64 0, .int .i64 0, .int .i64 0, .int .i64 0]
  have hb0 := (Below.refl w.heap.size w).alloc (Nat.le_refl _) (.cells #[.int .i64 0, .int .i64 0, .int .i64 0, .int .i64 0] 35)
  have y0 := hA4.cell 0
  have y1 := hA4.cell 1
  have y2 := hA4.cell 2
  have y3 := hA4.cell 3
  simp only [List.getElem?_toArray, List.getElem?_cons_succ, List.getElem?_cons_zero] at y0 y1 y2 y3
  cases q with
  | none =>
    go_enter Try.func11, Try.ntmps11
    go_wp2
    refine bodyPost_ret (v := .tuple #[.int .i64 0, .agg #[.int .i64 0, .int .i64 0, .int .i64 0, .int .i64 0]]) (by simp [results, Try.results11, go_sem, y0, y1, y2, y3]) rfl ?_
    exact ⟨rfl, hb0⟩
  | some q =>
    by_cases hc : mayC c
    · have hn : ¬ mayN n := (hq.resolve_left (by simp)).resolve_left (fun e => e hc)
      go_enter Try.func11, Try.ntmps11
      go_wp2_with fail
      refine (client_yes hc _).mono ?_
      rintro e w' ⟨rfl, hww⟩
      subst w'
      go_wp2_with fail
      refine (number_no hn _).mono ?_
      rintro e w' ⟨rfl, hww⟩
      subst w'
      go_wp2
      refine bodyPost_ret (v := .tuple #[.int .i64 0, .agg #[.int .i64 0, .int .i64 0, .int .i64 0, .int .i64 0]]) (by simp [results, Try.results11, go_sem, y0, y1, y2, y3]) rfl ?_
      exact ⟨rfl, hb0⟩
    · go_enter Try.func11, Try.ntmps11
      go_wp2_with fail
      refine (client_no hc _).mono ?_
      rintro e w' ⟨rfl, hww⟩
      subst w'
      go_wp2
      refine bodyPost_ret (v := .tuple #[.int .i64 0, .agg #[.int .i64 0, .int .i64 0, .int .i64 0, .int .i64 0]]) (by simp [results, Try.results11, go_sem, y0, y1, y2, y3]) rfl ?_
      exact ⟨rfl, hb0⟩
end Go.Proofs.Ytpendcaefjbomaa
