/- The document's Send. No condition but that the end lies in memory. -/
import Derived.Test.YtfgceplafjbmhaaLqZ
import Derived.Test.YtfgceplafjbmhaaLqO
import Derived.Deep.CutRange
namespace Go.Proofs.Ytfgceplafjbmhaa
open Go.RowKit
set_option linter.unusedVariables false
set_option linter.unusedSimpArgs false

section
variable {P : Program} {ops : Array Oper} {Q : Exit → Act → World → Prop} {md : Region.Mode} {S : World → Prop} {z : Nat}
/-- Two may come up. -/
theorem wpAnyZ_two {i j : Nat} {o o2 : Oper} {n : Nat} {listed : Array Bool} {a : Act} {w : World} (hr : Region.ready md ops listed = [i, j]) (ho : ops[i]? = some o) (ho2 : ops[j]? = some o2)
    (h : ∀ K : Act → World → Prop, Shut (∀ b v, (i ≠ z → S v) → ((i ≠ z → S v) → wpAnyZ P md ops Q S z n (listed.setIfInBounds i true) b v) → K b v) → if Region.wanted o (yielded ops a.tmps) = true then Oper.wp P o a w K Q else K (a.put o.dst undef) w)
    (h2 : ∀ K : Act → World → Prop, Shut (∀ b v, (j ≠ z → S v) → ((j ≠ z → S v) → wpAnyZ P md ops Q S z n (listed.setIfInBounds j true) b v) → K b v) → if Region.wanted o2 (yielded ops a.tmps) = true then Oper.wp P o2 a w K Q else K (a.put o2.dst undef) w) :
    wpAnyZ P md ops Q S z (n + 1) listed a w :=
  ⟨fun h0 => (by rw [hr] at h0; cases h0), fun k hk => by
    rw [hr] at hk
    rcases List.mem_cons.1 hk with rfl | hk
    · exact wpOp_step ho fun K hK => h K fun b v h1 h3 => hK b v ⟨h1, h3 h1⟩
    · rw [List.mem_singleton] at hk
      subst hk
      exact wpOp_step ho2 fun K hK => h2 K fun b v h1 h3 => hK b v ⟨h1, h3 h1⟩⟩
end
theorem wp_appIOn {w : World} {o : Oper} {a : Act} {K : Act → World → Prop} {Q : Exit → Act → World → Prop} (s x : Operand) (ho : o.op = .call { callee := .builtin .append, args := #[s, x], argTypes := #[26, 26] })
    (base : Nat) (v : Value) (l : List Iv) (hs : a.eval s = v) (hown : IO base w v l) (A : Option Addr) (m c : Nat) (hx : a.eval x = .slice A m c) (news : List Iv) (hr : IR w A m news) (hA : A = none ∨ ∃ b off, A = some ⟨b, off, none⟩)
    (hn : (l.length + m) * 48 ≤ 140737488355328) (hbase : base ≤ w.heap.size)
    (h : ∀ v' w', IO base w' v' (l ++ news) → Keep (fun k => v.ownBlock = some k) w w' → (v'.ownBlock = v.ownBlock ∨ v'.ownBlock = some w.heap.size) → K (a.put o.dst v') w') : o.wp Try.prog a w K Q := by
  obtain ⟨v', w', hrun, h2, h3, h4⟩ := run_appIOn w base o.type v l hown A m c news hr hA hn hbase
  unfold Oper.wp execOp
  simp only [ho, resolve, invoke, builtin, Sem.run_bind, Sem.run_pure, Result.andThen_ok, List.map_toArray, List.map_cons, List.map_nil, hs, hx, hrun]
  exact h v' w' h2 h3 h4
theorem kle {K : Nat} {w w' : World} (h : Hid (w.heap.size = K)) (hb : Below K w w') : K ≤ w'.heap.size := by have := h.out; have := hb.size; omega
theorem QE.setSent {F : Nat → Prop} {w : World} {q : Nat} {v : Value} {xs : List Iv} {s m : Int} (h : QE F w q v xs s m) (s' : Int) : QE F (w.setCell ⟨q, 1, none⟩ (.int .i64 s')) q v xs s' m := by
  have k : Keep (fun k => k = q) w (w.setCell ⟨q, 1, none⟩ (.int .i64 s')) := (Keep.refl (fun k => k = q) w).setCell (p := ⟨q, 1, none⟩) (fun _ => rfl) _
  have hp := h.pc.set_ 1 (.int .i64 s')
  simp at hp
  exact ⟨hp, h.own.kept k (fun g hg e => h.ne (by rw [hg, e])), h.ne, h.fp, h.fv, fun x hx => (h.bod x hx).kept k (fun g _ h1 h2 => h1 h2)⟩
theorem rsend_long (p : Nat) (A : Option Addr) (n c : Nat) (now : Int) (w : World) (h : 2048 < n) (hn : n ≤ 9223372036854775807) : Calls Try.prog 14 #[.pointer (some ⟨p, 0, none⟩), .slice A n c, .int .i64 now] w fun e w' => e = .returned (.tuple #[pkN, .int .i64 3]) ∧ Below w.heap.size w w' := by
  have hz : (2048 : Int) < (n : Int) := by omega
  go_enter Try.func14, Try.ntmps14
  go_wp2
  refine bodyPost_ret (v := .tuple #[pkN, .int .i64 3]) (by simp [results, Try.results14, go_sem, pkN]) rfl ⟨rfl, (Below.refl _ _).alloc (Nat.le_refl _) _⟩
theorem rsend_full {F : Nat → Prop} {q : Nat} {l : List Bd} {sent mark : Int} (A : Option Addr) (n c : Nat) (now : Int) (w : World) (h : n ≤ 2048) (hQ : QN F w q l sent mark) (hf : 64 ≤ l.length) (hll : l.length ≤ 9223372036854775807) : Calls Try.prog 14 #[.pointer (some ⟨q, 0, none⟩), .slice A n c, .int .i64 now] w fun e w' => e = .returned (.tuple #[pkN, .int .i64 2]) ∧ Below w.heap.size w w' := by
  have hz : ¬ (2048 : Int) < (n : Int) := by omega
  obtain ⟨v, xs, hE, rfl⟩ := hQ
  rw [List.length_map] at hf hll
  have hpl := hE.pc.lt
  obtain ⟨h0, h1, h2⟩ := hE.fields
  obtain ⟨B, cap, rfl, _⟩ := hE.own.form
  have hz64 : (64 : Int) ≤ (xs.length : Int) := by omega
  go_enter Try.func14, Try.ntmps14
  go_wp2
  refine bodyPost_ret (v := .tuple #[pkN, .int .i64 2]) (by simp [results, Try.results14, go_sem, pkN]) rfl ⟨rfl, (Below.refl _ _).alloc (Nat.le_refl _) _⟩
/-- What Send leaves. -/
def RSendPost (F : Nat → Prop) (w : World) (q : Nat) (l : List Bd) (sent mark now : Int) (text : List UInt8) (e : Ending) (w' : World) : Prop :=
  ∃ A c, e = .returned (.tuple #[.agg #[.int .i64 (sent + 1), .int .i64 mark, .slice A text.length c], .int .i64 0]) ∧ RB w' A text.length text ∧ QN (fun k => F k ∨ w.heap.size ≤ k) w' q (l ++ [newB (sent + 1) text now]) (sent + 1) mark ∧ Keep (fun k => k = q) w w'
set_option maxRecDepth 100000 in
set_option maxHeartbeats 6400000 in
theorem rsend_any {F : Nat → Prop} {q : Nat} {l : List Bd} {sent mark : Int} (A : Option Addr) (n c : Nat) (text : List UInt8) (now : Int) (w : World) (h : n ≤ 2048) (hr : RB w A n text) (hal : 0 < n → ∀ ad, A = some ad → ad.block ≠ q) (hQ : QN F w q l sent mark) (hl64 : l.length < 64) (hs0 : 0 ≤ sent) (hs1 : sent < 9223372036854775807) (h0 : -9223372036854775808 ≤ now) (h1 : now ≤ 9223372036854775807) :
    Calls Try.prog 14 #[.pointer (some ⟨q, 0, none⟩), .slice A n c, .int .i64 now] w (RSendPost F w q l sent mark now text) := by
  have hz : ¬ (2048 : Int) < (n : Int) := by omega
  have hln : text.length = n := hr.1
  subst hln
  obtain ⟨v, xs, hE, hxl⟩ := hQ
  have hxn : xs.length = l.length := by rw [← hxl, List.length_map]
  obtain ⟨Av, cv, rfl, hfm⟩ := hE.own.form
  have hAv : Av = none ∨ ∃ b off, Av = some ⟨b, off, none⟩ := by
    cases hA : Av with
    | none => exact .inl rfl
    | some ad =>
      obtain ⟨b, e, _⟩ := hfm.2.2.1 ad hA
      exact .inr ⟨b, 0, by rw [e]⟩
  clear hfm
  rw [hxn] at hE
  have hN64 : l.length < 64 := by omega
  have hNz : ¬ (64 : Int) ≤ (l.length : Int) := by omega
  replace hE := hE.mono (G := fun k => F k ∧ k < w.heap.size) fun k hk e => ⟨e, hk⟩
  have hqw : q < w.heap.size := hE.pc.lt
  have hbod0 := hE.bod
  have hfp0 := hE.fp
  have hE0 := hE.below ((Below.refl w.heap.size w).alloc (Nat.le_refl _) (.cells #[.int .i64 0, .int .i64 0, .slice none 0 0] 32))
  have hz0 := Blk.new w 32 #[.int .i64 0, .int .i64 0, .slice none 0 0]
  have hb0 := (Below.refl w.heap.size w).alloc (Nat.le_refl _) (.cells #[.int .i64 0, .int .i64 0, .slice none 0 0] 32)
  have hr0 := hr.alloc (.cells #[.int .i64 0, .int .i64 0, .slice none 0 0] 32)
  have hs2 : IntKind.i64.wrap (sent + 1) = sent + 1 := IntWalk.i64_in _ (by omega)
  obtain ⟨e0, e1, e2⟩ := hE0.fields
  have ef := hE0.pc.frozen 1
  have el := hE0.pc.lt
  go_enter Try.func14, Try.ntmps14
  go_upto_region 6 with fail
  obtain ⟨pk, hpk⟩ : ∃ g, w.heap.size = g := ⟨_, rfl⟩
  have hEs := hE.setSent (sent + 1)
  have ks : Keep (fun k => k = q) w (w.setCell ⟨q, 1, none⟩ (.int .i64 (sent + 1))) := (Keep.refl (fun k => k = q) _).setCell (p := ⟨q, 1, none⟩) (fun _ => rfl) _
  have hsz1 : (w.setCell ⟨q, 1, none⟩ (.int .i64 (sent + 1))).heap.size = w.heap.size := by simp
  have hE1 := hEs.below ((Below.refl _ _).alloc (Nat.le_refl _) (.cells #[.int .i64 0, .int .i64 0, .slice none 0 0] 32))
  have hz1 := Blk.new (w.setCell ⟨q, 1, none⟩ (.int .i64 (sent + 1))) 32 #[.int .i64 0, .int .i64 0, .slice none 0 0]
  have hk1 := ks.alloc (.cells #[.int .i64 0, .int .i64 0, .slice none 0 0] 32)
  have hr1 := (hr.kept' ks (fun hp ad e e2 => hal hp ad e e2)).alloc (.cells #[.int .i64 0, .int .i64 0, .slice none 0 0] 32)
  rw [hsz1, hpk] at hz1
  try rw [hpk]
  generalize (w.setCell ⟨q, 1, none⟩ (.int .i64 (sent + 1))).alloc (.cells #[.int .i64 0, .int .i64 0, .slice none 0 0] 32) = w1 at *
  clear e0 e1 e2 ef el hE0 hz0 hb0 hr0 ks hr hE hEs hsz1
  go_cut [8] from 27 to 36 (fun s8 wc => ∃ bm A6 c6, s8 = .pointer (some ⟨bm, 0, none⟩) ∧ Blk wc bm 86 #[.int .i64 (sent + 1), .slice A6 text.length c6, .int .i64 1, .int .i64 (nextN now 2 16 0)] ∧ OB w1.heap.size wc (.slice A6 text.length c6) text ∧ ¬ (Value.slice A6 text.length c6).ownBlock = some bm ∧ w1.heap.size ≤ bm ∧ Below w1.heap.size w1 wc)
  case first =>
    refine wp_calm ?_
    have sd : (fun W => W.cell? ⟨q, 1, none⟩ = some (.int .i64 (sent + 1))) w1.drew := hE1.fields.2.1
    have hr2 : RB w1.drew A text.length text := hr1.below (Below.refl w1.heap.size w1).drew
    have hE2 := hE1.drew
    have hbw : Below w1.heap.size w1 w1.drew := (Below.refl w1.heap.size w1).drew
    have HSZ : Hid (w1.drew.heap.size = w1.heap.size) := Lib.hid rfl
    refine wp_region_held_drew (S := (fun W => W.cell? ⟨q, 1, none⟩ = some (.int .i64 (sent + 1)))) (by kernel_rfl) sd (fun hHeld => ?_)
    generalize w1.drew = w2 at *
    obtain ⟨KB, hKB⟩ : ∃ K, w2.heap.size = K := ⟨_, rfl⟩
    have hb20 := Below.refl w2.heap.size w2
    rw [hKB] at hb20
    have HKB := Lib.hid hKB
    clear hKB
    have hbK : Below KB w1 w2 := by rw [← HKB.out, HSZ.out]; exact hbw
    have hS : ∀ W, Below KB w2 W → (fun W => W.cell? ⟨q, 1, none⟩ = some (.int .i64 (sent + 1))) W := fun W hb => (hE2.below (by rw [HKB.out]; exact hb)).fields.2.1
    clear sd
    refine wpAnyH_take (i := 0) (oi := ?oi0z1) (v := ?v0z1) ?hi0z1 (by kernel_rfl) (by kernel_rfl) (by kernel_rfl) ?hq0z1 (Or.inl ⟨?hw0z1, ?hy0z1⟩) (by assumption) ?rest0z1
    case hi0z1 => (simp only [List.getElem?_toArray, List.getElem?_cons_succ, List.getElem?_cons_zero]; rfl)
    case hq0z1 => exact fun _ _ _ h => h
    case hw0z1 => rfl
    case hy0z1 => (intro w hSw; (try dsimp only at hSw); go_simp <;> with_reducible rfl)
    try simp only [Act.put, List.setIfInBounds_toArray, List.set_cons_zero, List.set_cons_succ]
    refine wpAnyH_take (i := 1) (oi := ?oi1z2) (v := ?v1z2) ?hi1z2 (by kernel_rfl) (by kernel_rfl) (by kernel_rfl) ?hq1z2 (Or.inl ⟨?hw1z2, ?hy1z2⟩) (by assumption) ?rest1z2
    case hi1z2 => (simp only [List.getElem?_toArray, List.getElem?_cons_succ, List.getElem?_cons_zero]; rfl)
    case hq1z2 => exact fun _ _ _ h => h
    case hw1z2 => rfl
    case hy1z2 => (intro w hSw; (try dsimp only at hSw); go_simp <;> with_reducible rfl)
    try simp only [Act.put, List.setIfInBounds_toArray, List.set_cons_zero, List.set_cons_succ]
    refine wpAnyH_take (i := 2) (oi := ?oi2z3) (v := ?v2z3) ?hi2z3 (by kernel_rfl) (by kernel_rfl) (by kernel_rfl) ?hq2z3 (Or.inl ⟨?hw2z3, ?hy2z3⟩) (by assumption) ?rest2z3
    case hi2z3 => (simp only [List.getElem?_toArray, List.getElem?_cons_succ, List.getElem?_cons_zero]; rfl)
    case hq2z3 => exact fun _ _ _ h => h
    case hw2z3 => rfl
    case hy2z3 => (intro w hSw; (try dsimp only at hSw); go_simp <;> with_reducible rfl)
    try simp only [Act.put, List.setIfInBounds_toArray, List.set_cons_zero, List.set_cons_succ]
    refine wpAnyH_take (i := 3) (oi := ?oi3z4) (v := ?v3z4) ?hi3z4 (by kernel_rfl) (by kernel_rfl) (by kernel_rfl) ?hq3z4 (Or.inl ⟨?hw3z4, ?hy3z4⟩) (by assumption) ?rest3z4
    case hi3z4 => (simp only [List.getElem?_toArray, List.getElem?_cons_succ, List.getElem?_cons_zero]; rfl)
    case hq3z4 => exact fun _ _ _ h => h
    case hw3z4 => rfl
    case hy3z4 => (intro w hSw; (try dsimp only at hSw); go_simp <;> with_reducible rfl)
    try simp only [Act.put, List.setIfInBounds_toArray, List.set_cons_zero, List.set_cons_succ]
    refine wpAnyH_take (i := 5) (oi := ?oi5z5) (v := ?v5z5) ?hi5z5 (by kernel_rfl) (by kernel_rfl) (by kernel_rfl) ?hq5z5 (Or.inl ⟨?hw5z5, ?hy5z5⟩) (by assumption) ?rest5z5
    case hi5z5 => (simp only [List.getElem?_toArray, List.getElem?_cons_succ, List.getElem?_cons_zero]; rfl)
    case hq5z5 => exact fun _ _ _ h => h
    case hw5z5 => rfl
    case hy5z5 => (intro w hSw; (try dsimp only at hSw); go_simp <;> with_reducible rfl)
    try simp only [Act.put, List.setIfInBounds_toArray, List.set_cons_zero, List.set_cons_succ]
    refine wpAnyH_take (i := 7) (oi := ?oi7z6) (v := ?v7z6) ?hi7z6 (by kernel_rfl) (by kernel_rfl) (by kernel_rfl) ?hq7z6 (Or.inl ⟨?hw7z6, ?hy7z6⟩) (by assumption) ?rest7z6
    case hi7z6 => (simp only [List.getElem?_toArray, List.getElem?_cons_succ, List.getElem?_cons_zero]; rfl)
    case hq7z6 => exact fun _ _ _ h => h
    case hw7z6 => rfl
    case hy7z6 => (intro w hSw; (try dsimp only at hSw); go_simp <;> with_reducible rfl)
    try simp only [Act.put, List.setIfInBounds_toArray, List.set_cons_zero, List.set_cons_succ]
    refine wpAnyH_ready (rs := [4, 10]) (by kernel_rfl) (by simp) ?_
    refine AllReadyH.cons (by (simp only [List.getElem?_toArray, List.getElem?_cons_succ, List.getElem?_cons_zero]; rfl)) (fun K hK => ?_) (AllReadyH.cons (by (simp only [List.getElem?_toArray, List.getElem?_cons_succ, List.getElem?_cons_zero]; rfl)) (fun K hK => ?_) AllReadyH.nil)
    · go_simp
      have ho7 : OB KB (w2.alloc (.cells #[] 5)) (.slice (some ⟨w2.heap.size, 0, none⟩) 0 0) [] := OB.built KB w2 [] (kle HKB hb20) (by simp [maxLen])
      have hb7 := hb20.alloc (kle HKB hb20) (.cells #[] 5)
      have hz7 := (kle HKB hb7)
      obtain ⟨g7, hg7⟩ : ∃ g, w2.heap.size = g := ⟨_, rfl⟩
      rw [hg7] at ho7 ⊢
      generalize hW7 : w2.alloc (.cells #[] 5) = W7 at *
      clear hW7
      refine hK.out _ _ (hS _ hb7) (fun hHeld2 => ?_)
      clear hK K hHeld
      have hHeld := hHeld2
      clear hHeld2
      try simp only [Act.put, List.setIfInBounds_toArray, List.set_cons_zero, List.set_cons_succ]
      refine wpAnyH_ready (rs := [6, 10]) (by kernel_rfl) (by simp) ?_
      refine AllReadyH.cons (by (simp only [List.getElem?_toArray, List.getElem?_cons_succ, List.getElem?_cons_zero]; rfl)) (fun K hK => ?_) (AllReadyH.cons (by (simp only [List.getElem?_toArray, List.getElem?_cons_succ, List.getElem?_cons_zero]; rfl)) (fun K hK => ?_) AllReadyH.nil)
      · rw [if_pos (by rfl)]
        refine wp_appB (.tmp 31) (.tmp 32) rfl KB (.slice (some ⟨g7, 0, none⟩) 0 0) [] rfl ho7 A text.length c text rfl (hr2.below (by rw [HKB.out]; exact hb7)) (by simp; omega) (kle HKB hb7) ?_
        intro v8 W8 hg8
        have hb8 := hb7.trans (hg8.below ho7 (kle HKB hb7))
        have ho8 := hg8.own
        rw [List.nil_append] at ho8
        clear hg8
        obtain ⟨A6, c6, rfl, hfm8⟩ := ho8.form
        clear hfm8
        have hz8 := (kle HKB hb8)
        refine hK.out _ _ (hS _ hb8) (fun hHeld2 => ?_)
        clear hK K hHeld
        have hHeld := hHeld2
        clear hHeld2
        try simp only [Act.put, List.setIfInBounds_toArray, List.set_cons_zero, List.set_cons_succ]
        refine wpAnyH_ready (rs := [8, 10]) (by kernel_rfl) (by simp) ?_
        refine AllReadyH.cons (by (simp only [List.getElem?_toArray, List.getElem?_cons_succ, List.getElem?_cons_zero]; rfl)) (fun K hK => ?_) (AllReadyH.cons (by (simp only [List.getElem?_toArray, List.getElem?_cons_succ, List.getElem?_cons_zero]; rfl)) (fun K hK => ?_) AllReadyH.nil)
        · go_simp
          refine (rnext_any now 0 _ h0 h1 (by omega)).mono ?_
          rintro e w' ⟨rfl, hww⟩
          rw [hww]
          clear hww w'
          refine hK.out _ _ (hS _ hb8) (fun hHeld2 => ?_)
          clear hK K hHeld
          have hHeld := hHeld2
          clear hHeld2
          try simp only [Act.put, List.setIfInBounds_toArray, List.set_cons_zero, List.set_cons_succ]
          refine wpAnyH_take (i := 9) (oi := ?oi9z10) (v := ?v9z10) ?hi9z10 (by kernel_rfl) (by kernel_rfl) (by kernel_rfl) ?hq9z10 (Or.inl ⟨?hw9z10, ?hy9z10⟩) (by assumption) ?rest9z10
          case hi9z10 => (simp only [List.getElem?_toArray, List.getElem?_cons_succ, List.getElem?_cons_zero]; rfl)
          case hq9z10 => exact fun _ _ _ h => h
          case hw9z10 => rfl
          case hy9z10 => (intro w hSw; (try dsimp only at hSw); go_simp <;> with_reducible rfl)
          try simp only [Act.put, List.setIfInBounds_toArray, List.set_cons_zero, List.set_cons_succ]
          refine wpAnyH_ready (rs := [10]) (by kernel_rfl) (by simp) ?_
          refine AllReadyH.cons (by (simp only [List.getElem?_toArray, List.getElem?_cons_succ, List.getElem?_cons_zero]; rfl)) (fun K hK => ?_) AllReadyH.nil
          go_simp
          have hx11 := Blk.new W8 86 #[.int .i64 0, .slice none 0 0, .int .i64 0, .int .i64 0]
          have hb11 := hb8.alloc (kle HKB hb8) (.cells #[.int .i64 0, .slice none 0 0, .int .i64 0, .int .i64 0] 86)
          have hne11 : ¬ (Value.slice A6 text.length c6).ownBlock = some W8.heap.size := fun e => by have := (ho8.lt _ e).2; omega
          have ho11 := ho8.alloc (.cells #[.int .i64 0, .slice none 0 0, .int .i64 0, .int .i64 0] 86)
          have hz11 := (kle HKB hb11)
          have hzz11 := (kle HKB hb8)
          obtain ⟨m11, hm11⟩ : ∃ g, W8.heap.size = g := ⟨_, rfl⟩
          rw [hm11] at hx11 hzz11 hne11 ⊢
          generalize hW11 : W8.alloc (.cells #[.int .i64 0, .slice none 0 0, .int .i64 0, .int .i64 0] 86) = W11 at *
          clear hW11
          refine hK.out _ _ (hS _ hb11) (fun hHeld2 => ?_)
          clear hK K hHeld
          have hHeld := hHeld2
          clear hHeld2
          try simp only [Act.put, List.setIfInBounds_toArray, List.set_cons_zero, List.set_cons_succ]
          have zf := fun i => hx11.frozen i
          have zl := hx11.lt
          have z0 := hx11.cell 0
          have z1 := hx11.cell 1
          have z2 := hx11.cell 2
          have z3 := hx11.cell 3
          simp at z0 z1 z2 z3
          refine wpAnyH_ready (rs := [11]) (by kernel_rfl) (by simp) ?_
          refine AllReadyH.cons (by (simp only [List.getElem?_toArray, List.getElem?_cons_succ, List.getElem?_cons_zero]; rfl)) (fun K hK => ?_) AllReadyH.nil
          go_simp
          have zE := fill4 hx11 (.int .i64 (sent + 1)) (.slice A6 text.length c6) (.int .i64 1) (.int .i64 (nextN now 2 16 0))
          have kE := keep4 W11 m11 (.int .i64 (sent + 1)) (.slice A6 text.length c6) (.int .i64 1) (.int .i64 (nextN now 2 16 0))
          generalize (((W11.setCell ⟨m11, 0, none⟩ (.int .i64 (sent + 1))).setCell ⟨m11, 1, none⟩ (.slice A6 text.length c6)).setCell ⟨m11, 2, none⟩ (.int .i64 1)).setCell ⟨m11, 3, none⟩ (.int .i64 (nextN now 2 16 0)) = WE at zE kE ⊢
          have hbE := hb11.trans (kE.below (B := KB) (kle HKB hb11) (fun i hi e => by omega))
          have hoE := ho11.kept kE (fun g hg e => hne11 (by rw [hg, e]))
          refine hK.out _ _ (hS _ hbE) (fun hHeld2 => ?_)
          clear hK K hHeld
          have hHeld := hHeld2
          clear hHeld2
          try simp only [Act.put, List.setIfInBounds_toArray, List.set_cons_zero, List.set_cons_succ]
          refine wpAnyH_done (by kernel_rfl) ?_ _
          go_wp2_with fail
          go_meet
          try dsimp only
          rw [← HSZ.out, HKB.out]
          exact ⟨m11, A6, c6, rfl, zE, hoE, hne11, by omega, hbK.trans hbE⟩
        · go_simp
          have hx12 := Blk.new W8 86 #[.int .i64 0, .slice none 0 0, .int .i64 0, .int .i64 0]
          have hb12 := hb8.alloc (kle HKB hb8) (.cells #[.int .i64 0, .slice none 0 0, .int .i64 0, .int .i64 0] 86)
          have hne12 : ¬ (Value.slice A6 text.length c6).ownBlock = some W8.heap.size := fun e => by have := (ho8.lt _ e).2; omega
          have ho12 := ho8.alloc (.cells #[.int .i64 0, .slice none 0 0, .int .i64 0, .int .i64 0] 86)
          have hz12 := (kle HKB hb12)
          have hzz12 := (kle HKB hb8)
          obtain ⟨m12, hm12⟩ : ∃ g, W8.heap.size = g := ⟨_, rfl⟩
          rw [hm12] at hx12 hzz12 hne12 ⊢
          generalize hW12 : W8.alloc (.cells #[.int .i64 0, .slice none 0 0, .int .i64 0, .int .i64 0] 86) = W12 at *
          clear hW12
          refine hK.out _ _ (hS _ hb12) (fun hHeld2 => ?_)
          clear hK K hHeld
          have hHeld := hHeld2
          clear hHeld2
          try simp only [Act.put, List.setIfInBounds_toArray, List.set_cons_zero, List.set_cons_succ]
          refine wpAnyH_ready (rs := [8]) (by kernel_rfl) (by simp) ?_
          refine AllReadyH.cons (by (simp only [List.getElem?_toArray, List.getElem?_cons_succ, List.getElem?_cons_zero]; rfl)) (fun K hK => ?_) AllReadyH.nil
          go_simp
          refine (rnext_any now 0 _ h0 h1 (by omega)).mono ?_
          rintro e w' ⟨rfl, hww⟩
          rw [hww]
          clear hww w'
          refine hK.out _ _ (hS _ hb12) (fun hHeld2 => ?_)
          clear hK K hHeld
          have hHeld := hHeld2
          clear hHeld2
          try simp only [Act.put, List.setIfInBounds_toArray, List.set_cons_zero, List.set_cons_succ]
          refine wpAnyH_take (i := 9) (oi := ?oi9z14) (v := ?v9z14) ?hi9z14 (by kernel_rfl) (by kernel_rfl) (by kernel_rfl) ?hq9z14 (Or.inl ⟨?hw9z14, ?hy9z14⟩) (by assumption) ?rest9z14
          case hi9z14 => (simp only [List.getElem?_toArray, List.getElem?_cons_succ, List.getElem?_cons_zero]; rfl)
          case hq9z14 => exact fun _ _ _ h => h
          case hw9z14 => rfl
          case hy9z14 => (intro w hSw; (try dsimp only at hSw); go_simp <;> with_reducible rfl)
          try simp only [Act.put, List.setIfInBounds_toArray, List.set_cons_zero, List.set_cons_succ]
          have zf := fun i => hx12.frozen i
          have zl := hx12.lt
          have z0 := hx12.cell 0
          have z1 := hx12.cell 1
          have z2 := hx12.cell 2
          have z3 := hx12.cell 3
          simp at z0 z1 z2 z3
          refine wpAnyH_ready (rs := [11]) (by kernel_rfl) (by simp) ?_
          refine AllReadyH.cons (by (simp only [List.getElem?_toArray, List.getElem?_cons_succ, List.getElem?_cons_zero]; rfl)) (fun K hK => ?_) AllReadyH.nil
          go_simp
          have zE := fill4 hx12 (.int .i64 (sent + 1)) (.slice A6 text.length c6) (.int .i64 1) (.int .i64 (nextN now 2 16 0))
          have kE := keep4 W12 m12 (.int .i64 (sent + 1)) (.slice A6 text.length c6) (.int .i64 1) (.int .i64 (nextN now 2 16 0))
          generalize (((W12.setCell ⟨m12, 0, none⟩ (.int .i64 (sent + 1))).setCell ⟨m12, 1, none⟩ (.slice A6 text.length c6)).setCell ⟨m12, 2, none⟩ (.int .i64 1)).setCell ⟨m12, 3, none⟩ (.int .i64 (nextN now 2 16 0)) = WE at zE kE ⊢
          have hbE := hb12.trans (kE.below (B := KB) (kle HKB hb12) (fun i hi e => by omega))
          have hoE := ho12.kept kE (fun g hg e => hne12 (by rw [hg, e]))
          refine hK.out _ _ (hS _ hbE) (fun hHeld2 => ?_)
          clear hK K hHeld
          have hHeld := hHeld2
          clear hHeld2
          try simp only [Act.put, List.setIfInBounds_toArray, List.set_cons_zero, List.set_cons_succ]
          refine wpAnyH_done (by kernel_rfl) ?_ _
          go_wp2_with fail
          go_meet
          try dsimp only
          rw [← HSZ.out, HKB.out]
          exact ⟨m12, A6, c6, rfl, zE, hoE, hne12, by omega, hbK.trans hbE⟩
      · go_simp
        have hx15 := Blk.new W7 86 #[.int .i64 0, .slice none 0 0, .int .i64 0, .int .i64 0]
        have hb15 := hb7.alloc (kle HKB hb7) (.cells #[.int .i64 0, .slice none 0 0, .int .i64 0, .int .i64 0] 86)
        have hne15 : ¬ (Value.slice (some ⟨g7, 0, none⟩) 0 0).ownBlock = some W7.heap.size := fun e => by have := (ho7.lt _ e).2; omega
        have ho15 := ho7.alloc (.cells #[.int .i64 0, .slice none 0 0, .int .i64 0, .int .i64 0] 86)
        have hz15 := (kle HKB hb15)
        have hzz15 := (kle HKB hb7)
        obtain ⟨m15, hm15⟩ : ∃ g, W7.heap.size = g := ⟨_, rfl⟩
        rw [hm15] at hx15 hzz15 hne15 ⊢
        generalize hW15 : W7.alloc (.cells #[.int .i64 0, .slice none 0 0, .int .i64 0, .int .i64 0] 86) = W15 at *
        clear hW15
        refine hK.out _ _ (hS _ hb15) (fun hHeld2 => ?_)
        clear hK K hHeld
        have hHeld := hHeld2
        clear hHeld2
        try simp only [Act.put, List.setIfInBounds_toArray, List.set_cons_zero, List.set_cons_succ]
        refine wpAnyH_ready (rs := [6]) (by kernel_rfl) (by simp) ?_
        refine AllReadyH.cons (by (simp only [List.getElem?_toArray, List.getElem?_cons_succ, List.getElem?_cons_zero]; rfl)) (fun K hK => ?_) AllReadyH.nil
        rw [if_pos (by rfl)]
        refine wp_appB (.tmp 31) (.tmp 32) rfl KB (.slice (some ⟨g7, 0, none⟩) 0 0) [] rfl ho15 A text.length c text rfl (hr2.below (by rw [HKB.out]; exact hb15)) (by simp; omega) (kle HKB hb15) ?_
        intro v16 W16 hg16
        have hb16 := hb15.trans (hg16.below ho15 (kle HKB hb15))
        have ho16 := hg16.own
        rw [List.nil_append] at ho16
        have hx16 := hx15.kept hg16.keep hne15
        have hne16 : ¬ v16.ownBlock = some m15 := fun e => by
          have hl := hg16.lies
          rcases hl with e2 | ⟨g, e2, e3⟩
          · rw [e2] at e; exact hne15 e
          · rw [e2] at e; injection e with e; have := hx15.lt; omega
        clear hg16
        obtain ⟨A6, c6, rfl, hfm16⟩ := ho16.form
        clear hfm16
        have hz16 := (kle HKB hb16)
        refine hK.out _ _ (hS _ hb16) (fun hHeld2 => ?_)
        clear hK K hHeld
        have hHeld := hHeld2
        clear hHeld2
        try simp only [Act.put, List.setIfInBounds_toArray, List.set_cons_zero, List.set_cons_succ]
        refine wpAnyH_ready (rs := [8]) (by kernel_rfl) (by simp) ?_
        refine AllReadyH.cons (by (simp only [List.getElem?_toArray, List.getElem?_cons_succ, List.getElem?_cons_zero]; rfl)) (fun K hK => ?_) AllReadyH.nil
        go_simp
        refine (rnext_any now 0 _ h0 h1 (by omega)).mono ?_
        rintro e w' ⟨rfl, hww⟩
        rw [hww]
        clear hww w'
        refine hK.out _ _ (hS _ hb16) (fun hHeld2 => ?_)
        clear hK K hHeld
        have hHeld := hHeld2
        clear hHeld2
        try simp only [Act.put, List.setIfInBounds_toArray, List.set_cons_zero, List.set_cons_succ]
        refine wpAnyH_take (i := 9) (oi := ?oi9z18) (v := ?v9z18) ?hi9z18 (by kernel_rfl) (by kernel_rfl) (by kernel_rfl) ?hq9z18 (Or.inl ⟨?hw9z18, ?hy9z18⟩) (by assumption) ?rest9z18
        case hi9z18 => (simp only [List.getElem?_toArray, List.getElem?_cons_succ, List.getElem?_cons_zero]; rfl)
        case hq9z18 => exact fun _ _ _ h => h
        case hw9z18 => rfl
        case hy9z18 => (intro w hSw; (try dsimp only at hSw); go_simp <;> with_reducible rfl)
        try simp only [Act.put, List.setIfInBounds_toArray, List.set_cons_zero, List.set_cons_succ]
        have zf := fun i => hx16.frozen i
        have zl := hx16.lt
        have z0 := hx16.cell 0
        have z1 := hx16.cell 1
        have z2 := hx16.cell 2
        have z3 := hx16.cell 3
        simp at z0 z1 z2 z3
        refine wpAnyH_ready (rs := [11]) (by kernel_rfl) (by simp) ?_
        refine AllReadyH.cons (by (simp only [List.getElem?_toArray, List.getElem?_cons_succ, List.getElem?_cons_zero]; rfl)) (fun K hK => ?_) AllReadyH.nil
        go_simp
        have zE := fill4 hx16 (.int .i64 (sent + 1)) (.slice A6 text.length c6) (.int .i64 1) (.int .i64 (nextN now 2 16 0))
        have kE := keep4 W16 m15 (.int .i64 (sent + 1)) (.slice A6 text.length c6) (.int .i64 1) (.int .i64 (nextN now 2 16 0))
        generalize (((W16.setCell ⟨m15, 0, none⟩ (.int .i64 (sent + 1))).setCell ⟨m15, 1, none⟩ (.slice A6 text.length c6)).setCell ⟨m15, 2, none⟩ (.int .i64 1)).setCell ⟨m15, 3, none⟩ (.int .i64 (nextN now 2 16 0)) = WE at zE kE ⊢
        have hbE := hb16.trans (kE.below (B := KB) (kle HKB hb16) (fun i hi e => by omega))
        have hoE := ho16.kept kE (fun g hg e => hne16 (by rw [hg, e]))
        refine hK.out _ _ (hS _ hbE) (fun hHeld2 => ?_)
        clear hK K hHeld
        have hHeld := hHeld2
        clear hHeld2
        try simp only [Act.put, List.setIfInBounds_toArray, List.set_cons_zero, List.set_cons_succ]
        refine wpAnyH_done (by kernel_rfl) ?_ _
        go_wp2_with fail
        go_meet
        try dsimp only
        rw [← HSZ.out, HKB.out]
        exact ⟨m15, A6, c6, rfl, zE, hoE, hne16, by omega, hbK.trans hbE⟩
    · go_simp
      have hx19 := Blk.new w2 86 #[.int .i64 0, .slice none 0 0, .int .i64 0, .int .i64 0]
      have hb19 := hb20.alloc (kle HKB hb20) (.cells #[.int .i64 0, .slice none 0 0, .int .i64 0, .int .i64 0] 86)
      have hz19 := (kle HKB hb19)
      have hzz19 := (kle HKB hb20)
      obtain ⟨m19, hm19⟩ : ∃ g, w2.heap.size = g := ⟨_, rfl⟩
      rw [hm19] at hx19 hzz19 ⊢
      generalize hW19 : w2.alloc (.cells #[.int .i64 0, .slice none 0 0, .int .i64 0, .int .i64 0] 86) = W19 at *
      clear hW19
      refine hK.out _ _ (hS _ hb19) (fun hHeld2 => ?_)
      clear hK K hHeld
      have hHeld := hHeld2
      clear hHeld2
      try simp only [Act.put, List.setIfInBounds_toArray, List.set_cons_zero, List.set_cons_succ]
      refine wpAnyH_ready (rs := [4]) (by kernel_rfl) (by simp) ?_
      refine AllReadyH.cons (by (simp only [List.getElem?_toArray, List.getElem?_cons_succ, List.getElem?_cons_zero]; rfl)) (fun K hK => ?_) AllReadyH.nil
      go_simp
      have ho20 : OB KB (W19.alloc (.cells #[] 5)) (.slice (some ⟨W19.heap.size, 0, none⟩) 0 0) [] := OB.built KB W19 [] (kle HKB hb19) (by simp [maxLen])
      have hb20 := hb19.alloc (kle HKB hb19) (.cells #[] 5)
      have hx20 := hx19.alloc (.cells #[] 5)
      have hne20 : ¬ (Value.slice (some ⟨W19.heap.size, 0, none⟩) 0 0).ownBlock = some m19 := fun e => by
        have e : W19.heap.size = m19 := Option.some.inj e
        have := hx19.lt
        omega
      have hz20 := (kle HKB hb20)
      obtain ⟨g20, hg20⟩ : ∃ g, W19.heap.size = g := ⟨_, rfl⟩
      rw [hg20] at ho20 hne20 ⊢
      generalize hW20 : W19.alloc (.cells #[] 5) = W20 at *
      clear hW20
      refine hK.out _ _ (hS _ hb20) (fun hHeld2 => ?_)
      clear hK K hHeld
      have hHeld := hHeld2
      clear hHeld2
      try simp only [Act.put, List.setIfInBounds_toArray, List.set_cons_zero, List.set_cons_succ]
      refine wpAnyH_ready (rs := [6]) (by kernel_rfl) (by simp) ?_
      refine AllReadyH.cons (by (simp only [List.getElem?_toArray, List.getElem?_cons_succ, List.getElem?_cons_zero]; rfl)) (fun K hK => ?_) AllReadyH.nil
      rw [if_pos (by rfl)]
      refine wp_appB (.tmp 31) (.tmp 32) rfl KB (.slice (some ⟨g20, 0, none⟩) 0 0) [] rfl ho20 A text.length c text rfl (hr2.below (by rw [HKB.out]; exact hb20)) (by simp; omega) (kle HKB hb20) ?_
      intro v21 W21 hg21
      have hb21 := hb20.trans (hg21.below ho20 (kle HKB hb20))
      have ho21 := hg21.own
      rw [List.nil_append] at ho21
      have hx21 := hx20.kept hg21.keep hne20
      have hne21 : ¬ v21.ownBlock = some m19 := fun e => by
        have hl := hg21.lies
        rcases hl with e2 | ⟨g, e2, e3⟩
        · rw [e2] at e; exact hne20 e
        · rw [e2] at e; injection e with e; have := hx20.lt; omega
      clear hg21
      obtain ⟨A6, c6, rfl, hfm21⟩ := ho21.form
      clear hfm21
      have hz21 := (kle HKB hb21)
      refine hK.out _ _ (hS _ hb21) (fun hHeld2 => ?_)
      clear hK K hHeld
      have hHeld := hHeld2
      clear hHeld2
      try simp only [Act.put, List.setIfInBounds_toArray, List.set_cons_zero, List.set_cons_succ]
      refine wpAnyH_ready (rs := [8]) (by kernel_rfl) (by simp) ?_
      refine AllReadyH.cons (by (simp only [List.getElem?_toArray, List.getElem?_cons_succ, List.getElem?_cons_zero]; rfl)) (fun K hK => ?_) AllReadyH.nil
      go_simp
      refine (rnext_any now 0 _ h0 h1 (by omega)).mono ?_
      rintro e w' ⟨rfl, hww⟩
      rw [hww]
      clear hww w'
      refine hK.out _ _ (hS _ hb21) (fun hHeld2 => ?_)
      clear hK K hHeld
      have hHeld := hHeld2
      clear hHeld2
      try simp only [Act.put, List.setIfInBounds_toArray, List.set_cons_zero, List.set_cons_succ]
      refine wpAnyH_take (i := 9) (oi := ?oi9z23) (v := ?v9z23) ?hi9z23 (by kernel_rfl) (by kernel_rfl) (by kernel_rfl) ?hq9z23 (Or.inl ⟨?hw9z23, ?hy9z23⟩) (by assumption) ?rest9z23
      case hi9z23 => (simp only [List.getElem?_toArray, List.getElem?_cons_succ, List.getElem?_cons_zero]; rfl)
      case hq9z23 => exact fun _ _ _ h => h
      case hw9z23 => rfl
      case hy9z23 => (intro w hSw; (try dsimp only at hSw); go_simp <;> with_reducible rfl)
      try simp only [Act.put, List.setIfInBounds_toArray, List.set_cons_zero, List.set_cons_succ]
      have zf := fun i => hx21.frozen i
      have zl := hx21.lt
      have z0 := hx21.cell 0
      have z1 := hx21.cell 1
      have z2 := hx21.cell 2
      have z3 := hx21.cell 3
      simp at z0 z1 z2 z3
      refine wpAnyH_ready (rs := [11]) (by kernel_rfl) (by simp) ?_
      refine AllReadyH.cons (by (simp only [List.getElem?_toArray, List.getElem?_cons_succ, List.getElem?_cons_zero]; rfl)) (fun K hK => ?_) AllReadyH.nil
      go_simp
      have zE := fill4 hx21 (.int .i64 (sent + 1)) (.slice A6 text.length c6) (.int .i64 1) (.int .i64 (nextN now 2 16 0))
      have kE := keep4 W21 m19 (.int .i64 (sent + 1)) (.slice A6 text.length c6) (.int .i64 1) (.int .i64 (nextN now 2 16 0))
      generalize (((W21.setCell ⟨m19, 0, none⟩ (.int .i64 (sent + 1))).setCell ⟨m19, 1, none⟩ (.slice A6 text.length c6)).setCell ⟨m19, 2, none⟩ (.int .i64 1)).setCell ⟨m19, 3, none⟩ (.int .i64 (nextN now 2 16 0)) = WE at zE kE ⊢
      have hbE := hb21.trans (kE.below (B := KB) (kle HKB hb21) (fun i hi e => by omega))
      have hoE := ho21.kept kE (fun g hg e => hne21 (by rw [hg, e]))
      refine hK.out _ _ (hS _ hbE) (fun hHeld2 => ?_)
      clear hK K hHeld
      have hHeld := hHeld2
      clear hHeld2
      try simp only [Act.put, List.setIfInBounds_toArray, List.set_cons_zero, List.set_cons_succ]
      refine wpAnyH_done (by kernel_rfl) ?_ _
      go_wp2_with fail
      go_meet
      try dsimp only
      rw [← HSZ.out, HKB.out]
      exact ⟨m19, A6, c6, rfl, zE, hoE, hne21, by omega, hbK.trans hbE⟩
  case rest =>
    obtain ⟨bm, A6, c6, rfl, hx, ho, hne, hbm, hb⟩ := hcut
    obtain ⟨wb, hwb⟩ : ∃ W, W = wc := ⟨_, rfl⟩
    subst hwb
    have hEc := hE1.below hb
    have hzc := hz1.kept (Keep.of_below hb) (Nat.not_le.2 hz1.lt)
    have hkc := hk1.trans (Keep.of_below' (S := fun k => k = q) hb) (fun i hi e => e)
    have hpl1 := hz1.lt
    have hql1 := hE1.pc.lt
    have hqb : q ≠ bm := by omega
    have hqp : q ≠ pk := by omega
    have hpb : pk ≠ bm := by omega
    have hoq : ∀ g, (Value.slice A6 text.length c6).ownBlock = some g → ¬ g = q := fun g hg e => by have := (ho.lt g hg).1; omega
    have hop : ∀ g, (Value.slice A6 text.length c6).ownBlock = some g → ¬ g = pk := fun g hg e => by have := (ho.lt g hg).1; omega
    have hk1s := hk1.size
    have h1z := hb.size
    clear hE1 hz1 hk1 hr1
    go_upto_region 7 with fail
    go_cut [] from 37 to 48 (fun wd => ∃ v9, Blk wd q 28 #[v9, .int .i64 (sent + 1), .int .i64 mark] ∧ IO wb.heap.size wd v9 (xs ++ [⟨sent + 1, ⟨A6, text.length, c6, text⟩, 1, nextN now 2 16 0⟩]) ∧ OB w1.heap.size wd (.slice A6 text.length c6) text ∧ Blk wd bm 86 #[.int .i64 (sent + 1), .slice A6 text.length c6, .int .i64 1, .int .i64 (nextN now 2 16 0)] ∧ Blk wd pk 32 #[.int .i64 0, .int .i64 0, .slice none 0 0] ∧ Keep (fun k => k = q) w wd)
    case first =>
      refine wp_calm ?_
      have x0 := hx.cell 0
      have x1 := hx.cell 1
      have x2 := hx.cell 2
      have x3 := hx.cell 3
      simp at x0 x1 x2 x3
      have sd : (fun W => W.cell? ⟨q, 0, none⟩ = some (.slice Av l.length cv) ∧ W.cell? ⟨bm, 0, none⟩ = some (.int .i64 (sent + 1)) ∧ W.cell? ⟨bm, 1, none⟩ = some (.slice A6 text.length c6) ∧ W.cell? ⟨bm, 2, none⟩ = some (.int .i64 1) ∧ W.cell? ⟨bm, 3, none⟩ = some (.int .i64 (nextN now 2 16 0))) wb.drew := ⟨hEc.fields.1, x0, x1, x2, x3⟩
      have hE3 := hEc.drew
      have hx3 := hx.drew
      have hz3 := hzc.drew
      have ho3 := ho.drew
      have hk3 := hkc.drew
      have HSZ : Hid (wb.drew.heap.size = wb.heap.size) := Lib.hid rfl
      refine wp_region_z (S := (fun W => W.cell? ⟨q, 0, none⟩ = some (.slice Av l.length cv) ∧ W.cell? ⟨bm, 0, none⟩ = some (.int .i64 (sent + 1)) ∧ W.cell? ⟨bm, 1, none⟩ = some (.slice A6 text.length c6) ∧ W.cell? ⟨bm, 2, none⟩ = some (.int .i64 1) ∧ W.cell? ⟨bm, 3, none⟩ = some (.int .i64 (nextN now 2 16 0)))) 12 (by kernel_rfl) sd (fun hHeld => ?_)
      generalize wb.drew = w3 at *
      obtain ⟨KB, hKB⟩ : ∃ K, w3.heap.size = K := ⟨_, rfl⟩
      have hb30 := Below.refl w3.heap.size w3
      have hqKB : q < KB ∧ bm < KB ∧ pk < KB ∧ w1.heap.size ≤ KB := by have := hE3.pc.lt; have := hx3.lt; have := hz3.lt; omega
      rw [hKB] at hb30
      have HKB := Lib.hid hKB
      clear hKB
      have hS : ∀ W, Below KB w3 W → (fun W => W.cell? ⟨q, 0, none⟩ = some (.slice Av l.length cv) ∧ W.cell? ⟨bm, 0, none⟩ = some (.int .i64 (sent + 1)) ∧ W.cell? ⟨bm, 1, none⟩ = some (.slice A6 text.length c6) ∧ W.cell? ⟨bm, 2, none⟩ = some (.int .i64 1) ∧ W.cell? ⟨bm, 3, none⟩ = some (.int .i64 (nextN now 2 16 0))) W := fun W hb => by
        replace hb : Below w3.heap.size w3 W := by rw [HKB.out]; exact hb
        have hE9 := hE3.below hb
        have hx9 := hx3.kept (Keep.of_below hb) (Nat.not_le.2 hx3.lt)
        have x0 := hx9.cell 0
        have x1 := hx9.cell 1
        have x2 := hx9.cell 2
        have x3 := hx9.cell 3
        simp at x0 x1 x2 x3
        exact ⟨hE9.fields.1, x0, x1, x2, x3⟩
      have hwr := hE3.own.wr
      have hql3 := hE3.pc.lt
      clear sd x0 x1 x2 x3
      have hzw3 : w1.heap.size ≤ w3.heap.size := by have := HSZ.out; omega
      refine wpAnyZ_take (i := 0) (oi := ?oi0z24) (u := ?v0z24) ?hi0z24 (by kernel_rfl) (by decide) (by kernel_rfl) (by kernel_rfl) (by kernel_rfl) ?hq0z24 (Or.inl ⟨?hw0z24, ?hy0z24⟩) (by assumption) ?rest0z24
      case hi0z24 => (simp only [List.getElem?_toArray, List.getElem?_cons_succ, List.getElem?_cons_zero]; rfl)
      case hq0z24 => exact fun _ _ _ h => h
      case hw0z24 => rfl
      case hy0z24 => (intro w hSw; (try dsimp only at hSw); go_simp <;> with_reducible rfl)
      try simp only [Act.put, List.setIfInBounds_toArray, List.set_cons_zero, List.set_cons_succ]
      refine wpAnyZ_take (i := 2) (oi := ?oi2z25) (u := ?v2z25) ?hi2z25 (by kernel_rfl) (by decide) (by kernel_rfl) (by kernel_rfl) (by kernel_rfl) ?hq2z25 (Or.inl ⟨?hw2z25, ?hy2z25⟩) (by assumption) ?rest2z25
      case hi2z25 => (simp only [List.getElem?_toArray, List.getElem?_cons_succ, List.getElem?_cons_zero]; rfl)
      case hq2z25 => exact fun _ _ _ h => h
      case hw2z25 => rfl
      case hy2z25 => (intro w hSw; (try dsimp only at hSw); go_simp <;> with_reducible rfl)
      try simp only [Act.put, List.setIfInBounds_toArray, List.set_cons_zero, List.set_cons_succ]
      refine wpAnyZ_take (i := 3) (oi := ?oi3z26) (u := ?v3z26) ?hi3z26 (by kernel_rfl) (by decide) (by kernel_rfl) (by kernel_rfl) (by kernel_rfl) ?hq3z26 (Or.inl ⟨?hw3z26, ?hy3z26⟩) (by assumption) ?rest3z26
      case hi3z26 => (simp only [List.getElem?_toArray, List.getElem?_cons_succ, List.getElem?_cons_zero]; rfl)
      case hq3z26 => exact fun _ _ _ h => h
      case hw3z26 => rfl
      case hy3z26 => (intro w hSw; (try dsimp only at hSw); go_simp <;> with_reducible rfl)
      try simp only [Act.put, List.setIfInBounds_toArray, List.set_cons_zero, List.set_cons_succ]
      refine wpAnyZ_take (i := 4) (oi := ?oi4z27) (u := ?v4z27) ?hi4z27 (by kernel_rfl) (by decide) (by kernel_rfl) (by kernel_rfl) (by kernel_rfl) ?hq4z27 (Or.inl ⟨?hw4z27, ?hy4z27⟩) (by assumption) ?rest4z27
      case hi4z27 => (simp only [List.getElem?_toArray, List.getElem?_cons_succ, List.getElem?_cons_zero]; rfl)
      case hq4z27 => exact fun _ _ _ h => h
      case hw4z27 => rfl
      case hy4z27 => (intro w hSw; (try dsimp only at hSw); go_simp <;> with_reducible rfl)
      try simp only [Act.put, List.setIfInBounds_toArray, List.set_cons_zero, List.set_cons_succ]
      refine wpAnyZ_take (i := 5) (oi := ?oi5z28) (u := ?v5z28) ?hi5z28 (by kernel_rfl) (by decide) (by kernel_rfl) (by kernel_rfl) (by kernel_rfl) ?hq5z28 (Or.inl ⟨?hw5z28, ?hy5z28⟩) (by assumption) ?rest5z28
      case hi5z28 => (simp only [List.getElem?_toArray, List.getElem?_cons_succ, List.getElem?_cons_zero]; rfl)
      case hq5z28 => exact fun _ _ _ h => h
      case hw5z28 => rfl
      case hy5z28 => (intro w hSw; (try dsimp only at hSw); go_simp <;> with_reducible rfl)
      try simp only [Act.put, List.setIfInBounds_toArray, List.set_cons_zero, List.set_cons_succ]
      refine wpAnyZ_take (i := 7) (oi := ?oi7z29) (u := ?v7z29) ?hi7z29 (by kernel_rfl) (by decide) (by kernel_rfl) (by kernel_rfl) (by kernel_rfl) ?hq7z29 (Or.inl ⟨?hw7z29, ?hy7z29⟩) (by assumption) ?rest7z29
      case hi7z29 => (simp only [List.getElem?_toArray, List.getElem?_cons_succ, List.getElem?_cons_zero]; rfl)
      case hq7z29 => exact fun _ _ _ h => h
      case hw7z29 => rfl
      case hy7z29 => (intro w hSw; (try dsimp only at hSw); go_simp <;> with_reducible rfl)
      try simp only [Act.put, List.setIfInBounds_toArray, List.set_cons_zero, List.set_cons_succ]
      refine wpAnyZ_two (i := 1) (j := 8) (by kernel_rfl) (by (simp only [List.getElem?_toArray, List.getElem?_cons_succ, List.getElem?_cons_zero]; rfl)) (by (simp only [List.getElem?_toArray, List.getElem?_cons_succ, List.getElem?_cons_zero]; rfl)) (fun K hK => ?_) (fun K hK => ?_)
      · go_simp
        have hi30 := (IO.form0 w3).mono (kle HKB hb30)
        have hb30 := hb30.alloc (kle HKB hb30) (.cells #[] 86)
        have hz30 := (kle HKB hb30)
        obtain ⟨g30, hg30⟩ : ∃ g, w3.heap.size = g := ⟨_, rfl⟩
        rw [hg30] at hi30 ⊢
        generalize hW30 : w3.alloc (.cells #[] 86) = W30 at *
        clear hW30
        refine hK.out _ _ (fun _ => hS _ hb30) (fun hHeld2 => ?_)
        clear hK K hHeld
        have hHeld := hHeld2 (by decide)
        clear hHeld2
        try simp only [Act.put, List.setIfInBounds_toArray, List.set_cons_zero, List.set_cons_succ]
        refine wpAnyZ_two (i := 6) (j := 8) (by kernel_rfl) (by (simp only [List.getElem?_toArray, List.getElem?_cons_succ, List.getElem?_cons_zero]; rfl)) (by (simp only [List.getElem?_toArray, List.getElem?_cons_succ, List.getElem?_cons_zero]; rfl)) (fun K hK => ?_) (fun K hK => ?_)
        · rw [if_pos (by rfl)]
          refine wp_appIOn (.tmp 38) (.tmp 42) rfl KB (.slice (some ⟨g30, 0, none⟩) 0 0) [] rfl hi30 Av l.length cv rfl xs (hwr.below (by rw [HKB.out]; exact hb30)) hAv (by simp; omega) (kle HKB hb30) ?_
          intro v31 W31 hi31 hk31 he31
          rw [List.nil_append] at hi31
          have hb31 := hb30.trans (hk31.below (B := KB) (kle HKB hb30) (fun i hi e => by have := (hi30.lt i e).1; omega))
          have hz31 := (kle HKB hb31)
          refine hK.out _ _ (fun _ => hS _ hb31) (fun hHeld2 => ?_)
          clear hK K hHeld
          have hHeld := hHeld2 (by decide)
          clear hHeld2
          try simp only [Act.put, List.setIfInBounds_toArray, List.set_cons_zero, List.set_cons_succ]
          refine wpAnyZ_one (i := 8) (by kernel_rfl) (by (simp only [List.getElem?_toArray, List.getElem?_cons_succ, List.getElem?_cons_zero]; rfl)) (fun K hK => ?_)
          go_simp
          have hl32 := Blk.new W31 86 #[.int .i64 (sent + 1), .slice A6 text.length c6, .int .i64 1, .int .i64 (nextN now 2 16 0)]
          have hb32 := hb31.alloc (kle HKB hb31) (.cells #[.int .i64 (sent + 1), .slice A6 text.length c6, .int .i64 1, .int .i64 (nextN now 2 16 0)] 86)
          have hne32 : ¬ v31.ownBlock = some W31.heap.size := fun e => by have := (hi31.lt _ e).2; omega
          have hi32 := hi31.alloc (.cells #[.int .i64 (sent + 1), .slice A6 text.length c6, .int .i64 1, .int .i64 (nextN now 2 16 0)] 86)
          have hz32 := (kle HKB hb32)
          obtain ⟨m32, hm32⟩ : ∃ g, W31.heap.size = g := ⟨_, rfl⟩
          rw [hm32] at hl32 hne32 ⊢
          generalize hW32 : W31.alloc (.cells #[.int .i64 (sent + 1), .slice A6 text.length c6, .int .i64 1, .int .i64 (nextN now 2 16 0)] 86) = W32 at *
          clear hW32
          refine hK.out _ _ (fun _ => hS _ hb32) (fun hHeld2 => ?_)
          clear hK K hHeld
          have hHeld := hHeld2 (by decide)
          clear hHeld2
          try simp only [Act.put, List.setIfInBounds_toArray, List.set_cons_zero, List.set_cons_succ]
          refine wpAnyZ_one (i := 9) (by kernel_rfl) (by (simp only [List.getElem?_toArray, List.getElem?_cons_succ, List.getElem?_cons_zero]; rfl)) (fun K hK => ?_)
          rw [if_pos (by rfl)]
          refine wp_appIO (.tmp 43) (.tmp 45) rfl KB v31 xs rfl hi32 ⟨m32, 0, none⟩ rfl ⟨sent + 1, ⟨A6, text.length, c6, text⟩, 1, nextN now 2 16 0⟩ (fun j u hu => by rw [Addr.add_lit, Nat.zero_add]; exact (hl32.cell j).trans (by simpa [Iv.cs, Sl.v] using hu)) (by omega) (kle HKB hb32) ?_
          intro v9 W9 hi9 hk9 he9
          have hb9 := hb32.trans (hk9.below (B := KB) (kle HKB hb32) (fun i hi e => by have := (hi32.lt i e).1; omega))
          have hz9 := (kle HKB hb9)
          have hb9K : Below w3.heap.size w3 W9 := by rw [HKB.out]; exact hb9
          have hl9 : (xs ++ [(⟨sent + 1, ⟨A6, text.length, c6, text⟩, 1, nextN now 2 16 0⟩ : Iv)]).length = l.length + 1 := by rw [List.length_append, hxn]; rfl
          obtain ⟨A9, c9, rfl, hfm9⟩ := hi9.form
          clear hfm9
          rw [hl9] at hi9 ⊢
          refine hK.out _ _ (fun _ => hS _ hb9) (fun hHeld2 => ?_)
          clear hK K hHeld
          have hHeld := hHeld2 (by decide)
          clear hHeld2
          try simp only [Act.put, List.setIfInBounds_toArray, List.set_cons_zero, List.set_cons_succ]
          refine wpAnyZ_one (i := 10) (by kernel_rfl) (by (simp only [List.getElem?_toArray, List.getElem?_cons_succ, List.getElem?_cons_zero]; rfl)) (fun K hK => ?_)
          go_simp
          refine hK.out _ _ (fun _ => hS _ hb9) (fun hHeld2 => ?_)
          clear hK K hHeld
          have hHeld := hHeld2 (by decide)
          clear hHeld2
          try simp only [Act.put, List.setIfInBounds_toArray, List.set_cons_zero, List.set_cons_succ]
          refine wpAnyZ_take (i := 11) (oi := ?oi11z34) (u := ?v11z34) ?hi11z34 (by kernel_rfl) (by decide) (by kernel_rfl) (by kernel_rfl) (by kernel_rfl) ?hq11z34 (Or.inl ⟨?hw11z34, ?hy11z34⟩) (by assumption) ?rest11z34
          case hi11z34 => (simp only [List.getElem?_toArray, List.getElem?_cons_succ, List.getElem?_cons_zero]; rfl)
          case hq11z34 => exact fun _ _ _ h => h
          case hw11z34 => rfl
          case hy11z34 => (intro w hSw; (try dsimp only at hSw); go_simp <;> with_reducible rfl)
          try simp only [Act.put, List.setIfInBounds_toArray, List.set_cons_zero, List.set_cons_succ]
          refine wpAnyZ_one (i := 12) (by kernel_rfl) (by (simp only [List.getElem?_toArray, List.getElem?_cons_succ, List.getElem?_cons_zero]; rfl)) (fun K hK => ?_)
          have hE9 := hE3.below hb9K
          have f9 := hE9.pc.frozen 0
          have y9 := hE9.fields.1
          have l9 := hE9.pc.lt
          go_simp
          have hpcE := hE9.pc.set_ 0 (.slice A9 (l.length + 1) c9)
          simp only [List.setIfInBounds_toArray, List.set_cons_zero] at hpcE
          have kp : Keep (fun k => k = q) W9 (W9.setCell ⟨q, 0, none⟩ (.slice A9 (l.length + 1) c9)) := (Keep.refl (fun k => k = q) W9).setCell (p := ⟨q, 0, none⟩) (fun _ => rfl) _
          have hiE := hi9.kept kp (fun g hg e => by have := (hi9.lt g hg).1; omega)
          have hoE := (ho3.kept (Keep.of_below hb9K) (fun g hg e => by have := (ho3.lt g hg).2; omega)).kept kp (fun g hg e => hoq g hg e)
          have hxE := (hx3.kept (Keep.of_below hb9K) (Nat.not_le.2 hx3.lt)).kept kp (fun e => hqb e.symm)
          have hzE := (hz3.kept (Keep.of_below hb9K) (Nat.not_le.2 hz3.lt)).kept kp (fun e => hqp e.symm)
          have hkE := (hk3.trans (Keep.of_below' (S := fun k => k = q) hb9K) (fun i hi e => e)).trans kp (fun i hi e => e)
          generalize W9.setCell ⟨q, 0, none⟩ (.slice A9 (l.length + 1) c9) = WE at *
          refine hK.out _ _ (fun h => absurd rfl h) (fun hHeld2 => ?_)
          clear hK K hHeld
          clear hHeld2
          try simp only [Act.put, List.setIfInBounds_toArray, List.set_cons_zero, List.set_cons_succ]
          refine wpAnyZ_done (by kernel_rfl) ?_ _
          go_wp2_with fail
          go_meet
          try dsimp only
          rw [← HSZ.out, HKB.out]
          exact ⟨_, hpcE, hiE, hoE, hxE, hzE, hkE⟩
        · go_simp
          have hl35 := Blk.new W30 86 #[.int .i64 (sent + 1), .slice A6 text.length c6, .int .i64 1, .int .i64 (nextN now 2 16 0)]
          have hb35 := hb30.alloc (kle HKB hb30) (.cells #[.int .i64 (sent + 1), .slice A6 text.length c6, .int .i64 1, .int .i64 (nextN now 2 16 0)] 86)
          have hne35 : ¬ (Value.slice (some ⟨g30, 0, none⟩) 0 0).ownBlock = some W30.heap.size := fun e => by have := (hi30.lt _ e).2; omega
          have hi35 := hi30.alloc (.cells #[.int .i64 (sent + 1), .slice A6 text.length c6, .int .i64 1, .int .i64 (nextN now 2 16 0)] 86)
          have hz35 := (kle HKB hb35)
          obtain ⟨m35, hm35⟩ : ∃ g, W30.heap.size = g := ⟨_, rfl⟩
          rw [hm35] at hl35 hne35 ⊢
          generalize hW35 : W30.alloc (.cells #[.int .i64 (sent + 1), .slice A6 text.length c6, .int .i64 1, .int .i64 (nextN now 2 16 0)] 86) = W35 at *
          clear hW35
          refine hK.out _ _ (fun _ => hS _ hb35) (fun hHeld2 => ?_)
          clear hK K hHeld
          have hHeld := hHeld2 (by decide)
          clear hHeld2
          try simp only [Act.put, List.setIfInBounds_toArray, List.set_cons_zero, List.set_cons_succ]
          refine wpAnyZ_one (i := 6) (by kernel_rfl) (by (simp only [List.getElem?_toArray, List.getElem?_cons_succ, List.getElem?_cons_zero]; rfl)) (fun K hK => ?_)
          rw [if_pos (by rfl)]
          refine wp_appIOn (.tmp 38) (.tmp 42) rfl KB (.slice (some ⟨g30, 0, none⟩) 0 0) [] rfl hi35 Av l.length cv rfl xs (hwr.below (by rw [HKB.out]; exact hb35)) hAv (by simp; omega) (kle HKB hb35) ?_
          intro v36 W36 hi36 hk36 he36
          rw [List.nil_append] at hi36
          have hb36 := hb35.trans (hk36.below (B := KB) (kle HKB hb35) (fun i hi e => by have := (hi35.lt i e).1; omega))
          have hz36 := (kle HKB hb36)
          have hl36 := hl35.kept hk36 hne35
          have hne36 : ¬ v36.ownBlock = some m35 := fun e => by
            rcases he36 with e2 | e2
            · rw [e2] at e; exact hne35 e
            · rw [e2] at e; injection e with e; have := hl35.lt; omega
          refine hK.out _ _ (fun _ => hS _ hb36) (fun hHeld2 => ?_)
          clear hK K hHeld
          have hHeld := hHeld2 (by decide)
          clear hHeld2
          try simp only [Act.put, List.setIfInBounds_toArray, List.set_cons_zero, List.set_cons_succ]
          refine wpAnyZ_one (i := 9) (by kernel_rfl) (by (simp only [List.getElem?_toArray, List.getElem?_cons_succ, List.getElem?_cons_zero]; rfl)) (fun K hK => ?_)
          rw [if_pos (by rfl)]
          refine wp_appIO (.tmp 43) (.tmp 45) rfl KB v36 xs rfl hi36 ⟨m35, 0, none⟩ rfl ⟨sent + 1, ⟨A6, text.length, c6, text⟩, 1, nextN now 2 16 0⟩ (fun j u hu => by rw [Addr.add_lit, Nat.zero_add]; exact (hl36.cell j).trans (by simpa [Iv.cs, Sl.v] using hu)) (by omega) (kle HKB hb36) ?_
          intro v9 W9 hi9 hk9 he9
          have hb9 := hb36.trans (hk9.below (B := KB) (kle HKB hb36) (fun i hi e => by have := (hi36.lt i e).1; omega))
          have hz9 := (kle HKB hb9)
          have hb9K : Below w3.heap.size w3 W9 := by rw [HKB.out]; exact hb9
          have hl9 : (xs ++ [(⟨sent + 1, ⟨A6, text.length, c6, text⟩, 1, nextN now 2 16 0⟩ : Iv)]).length = l.length + 1 := by rw [List.length_append, hxn]; rfl
          obtain ⟨A9, c9, rfl, hfm9⟩ := hi9.form
          clear hfm9
          rw [hl9] at hi9 ⊢
          refine hK.out _ _ (fun _ => hS _ hb9) (fun hHeld2 => ?_)
          clear hK K hHeld
          have hHeld := hHeld2 (by decide)
          clear hHeld2
          try simp only [Act.put, List.setIfInBounds_toArray, List.set_cons_zero, List.set_cons_succ]
          refine wpAnyZ_one (i := 10) (by kernel_rfl) (by (simp only [List.getElem?_toArray, List.getElem?_cons_succ, List.getElem?_cons_zero]; rfl)) (fun K hK => ?_)
          go_simp
          refine hK.out _ _ (fun _ => hS _ hb9) (fun hHeld2 => ?_)
          clear hK K hHeld
          have hHeld := hHeld2 (by decide)
          clear hHeld2
          try simp only [Act.put, List.setIfInBounds_toArray, List.set_cons_zero, List.set_cons_succ]
          refine wpAnyZ_take (i := 11) (oi := ?oi11z38) (u := ?v11z38) ?hi11z38 (by kernel_rfl) (by decide) (by kernel_rfl) (by kernel_rfl) (by kernel_rfl) ?hq11z38 (Or.inl ⟨?hw11z38, ?hy11z38⟩) (by assumption) ?rest11z38
          case hi11z38 => (simp only [List.getElem?_toArray, List.getElem?_cons_succ, List.getElem?_cons_zero]; rfl)
          case hq11z38 => exact fun _ _ _ h => h
          case hw11z38 => rfl
          case hy11z38 => (intro w hSw; (try dsimp only at hSw); go_simp <;> with_reducible rfl)
          try simp only [Act.put, List.setIfInBounds_toArray, List.set_cons_zero, List.set_cons_succ]
          refine wpAnyZ_one (i := 12) (by kernel_rfl) (by (simp only [List.getElem?_toArray, List.getElem?_cons_succ, List.getElem?_cons_zero]; rfl)) (fun K hK => ?_)
          have hE9 := hE3.below hb9K
          have f9 := hE9.pc.frozen 0
          have y9 := hE9.fields.1
          have l9 := hE9.pc.lt
          go_simp
          have hpcE := hE9.pc.set_ 0 (.slice A9 (l.length + 1) c9)
          simp only [List.setIfInBounds_toArray, List.set_cons_zero] at hpcE
          have kp : Keep (fun k => k = q) W9 (W9.setCell ⟨q, 0, none⟩ (.slice A9 (l.length + 1) c9)) := (Keep.refl (fun k => k = q) W9).setCell (p := ⟨q, 0, none⟩) (fun _ => rfl) _
          have hiE := hi9.kept kp (fun g hg e => by have := (hi9.lt g hg).1; omega)
          have hoE := (ho3.kept (Keep.of_below hb9K) (fun g hg e => by have := (ho3.lt g hg).2; omega)).kept kp (fun g hg e => hoq g hg e)
          have hxE := (hx3.kept (Keep.of_below hb9K) (Nat.not_le.2 hx3.lt)).kept kp (fun e => hqb e.symm)
          have hzE := (hz3.kept (Keep.of_below hb9K) (Nat.not_le.2 hz3.lt)).kept kp (fun e => hqp e.symm)
          have hkE := (hk3.trans (Keep.of_below' (S := fun k => k = q) hb9K) (fun i hi e => e)).trans kp (fun i hi e => e)
          generalize W9.setCell ⟨q, 0, none⟩ (.slice A9 (l.length + 1) c9) = WE at *
          refine hK.out _ _ (fun h => absurd rfl h) (fun hHeld2 => ?_)
          clear hK K hHeld
          clear hHeld2
          try simp only [Act.put, List.setIfInBounds_toArray, List.set_cons_zero, List.set_cons_succ]
          refine wpAnyZ_done (by kernel_rfl) ?_ _
          go_wp2_with fail
          go_meet
          try dsimp only
          rw [← HSZ.out, HKB.out]
          exact ⟨_, hpcE, hiE, hoE, hxE, hzE, hkE⟩
      · go_simp
        have hl39 := Blk.new w3 86 #[.int .i64 (sent + 1), .slice A6 text.length c6, .int .i64 1, .int .i64 (nextN now 2 16 0)]
        have hb39 := hb30.alloc (kle HKB hb30) (.cells #[.int .i64 (sent + 1), .slice A6 text.length c6, .int .i64 1, .int .i64 (nextN now 2 16 0)] 86)
        have hz39 := (kle HKB hb39)
        obtain ⟨m39, hm39⟩ : ∃ g, w3.heap.size = g := ⟨_, rfl⟩
        rw [hm39] at hl39 ⊢
        generalize hW39 : w3.alloc (.cells #[.int .i64 (sent + 1), .slice A6 text.length c6, .int .i64 1, .int .i64 (nextN now 2 16 0)] 86) = W39 at *
        clear hW39
        refine hK.out _ _ (fun _ => hS _ hb39) (fun hHeld2 => ?_)
        clear hK K hHeld
        have hHeld := hHeld2 (by decide)
        clear hHeld2
        try simp only [Act.put, List.setIfInBounds_toArray, List.set_cons_zero, List.set_cons_succ]
        refine wpAnyZ_one (i := 1) (by kernel_rfl) (by (simp only [List.getElem?_toArray, List.getElem?_cons_succ, List.getElem?_cons_zero]; rfl)) (fun K hK => ?_)
        go_simp
        have hi40 := (IO.form0 W39).mono (kle HKB hb39)
        have hb40 := hb39.alloc (kle HKB hb39) (.cells #[] 86)
        have hl40 := hl39.alloc (.cells #[] 86)
        have hne40 : ¬ (Value.slice (some ⟨W39.heap.size, 0, none⟩) 0 0).ownBlock = some m39 := fun e => by
          have e : W39.heap.size = m39 := Option.some.inj e
          have := hl39.lt
          omega
        have hz40 := (kle HKB hb40)
        obtain ⟨g40, hg40⟩ : ∃ g, W39.heap.size = g := ⟨_, rfl⟩
        rw [hg40] at hi40 hne40 ⊢
        generalize hW40 : W39.alloc (.cells #[] 86) = W40 at *
        clear hW40
        refine hK.out _ _ (fun _ => hS _ hb40) (fun hHeld2 => ?_)
        clear hK K hHeld
        have hHeld := hHeld2 (by decide)
        clear hHeld2
        try simp only [Act.put, List.setIfInBounds_toArray, List.set_cons_zero, List.set_cons_succ]
        refine wpAnyZ_one (i := 6) (by kernel_rfl) (by (simp only [List.getElem?_toArray, List.getElem?_cons_succ, List.getElem?_cons_zero]; rfl)) (fun K hK => ?_)
        rw [if_pos (by rfl)]
        refine wp_appIOn (.tmp 38) (.tmp 42) rfl KB (.slice (some ⟨g40, 0, none⟩) 0 0) [] rfl hi40 Av l.length cv rfl xs (hwr.below (by rw [HKB.out]; exact hb40)) hAv (by simp; omega) (kle HKB hb40) ?_
        intro v41 W41 hi41 hk41 he41
        rw [List.nil_append] at hi41
        have hb41 := hb40.trans (hk41.below (B := KB) (kle HKB hb40) (fun i hi e => by have := (hi40.lt i e).1; omega))
        have hz41 := (kle HKB hb41)
        have hl41 := hl40.kept hk41 hne40
        have hne41 : ¬ v41.ownBlock = some m39 := fun e => by
          rcases he41 with e2 | e2
          · rw [e2] at e; exact hne40 e
          · rw [e2] at e; injection e with e; have := hl40.lt; omega
        refine hK.out _ _ (fun _ => hS _ hb41) (fun hHeld2 => ?_)
        clear hK K hHeld
        have hHeld := hHeld2 (by decide)
        clear hHeld2
        try simp only [Act.put, List.setIfInBounds_toArray, List.set_cons_zero, List.set_cons_succ]
        refine wpAnyZ_one (i := 9) (by kernel_rfl) (by (simp only [List.getElem?_toArray, List.getElem?_cons_succ, List.getElem?_cons_zero]; rfl)) (fun K hK => ?_)
        rw [if_pos (by rfl)]
        refine wp_appIO (.tmp 43) (.tmp 45) rfl KB v41 xs rfl hi41 ⟨m39, 0, none⟩ rfl ⟨sent + 1, ⟨A6, text.length, c6, text⟩, 1, nextN now 2 16 0⟩ (fun j u hu => by rw [Addr.add_lit, Nat.zero_add]; exact (hl41.cell j).trans (by simpa [Iv.cs, Sl.v] using hu)) (by omega) (kle HKB hb41) ?_
        intro v9 W9 hi9 hk9 he9
        have hb9 := hb41.trans (hk9.below (B := KB) (kle HKB hb41) (fun i hi e => by have := (hi41.lt i e).1; omega))
        have hz9 := (kle HKB hb9)
        have hb9K : Below w3.heap.size w3 W9 := by rw [HKB.out]; exact hb9
        have hl9 : (xs ++ [(⟨sent + 1, ⟨A6, text.length, c6, text⟩, 1, nextN now 2 16 0⟩ : Iv)]).length = l.length + 1 := by rw [List.length_append, hxn]; rfl
        obtain ⟨A9, c9, rfl, hfm9⟩ := hi9.form
        clear hfm9
        rw [hl9] at hi9 ⊢
        refine hK.out _ _ (fun _ => hS _ hb9) (fun hHeld2 => ?_)
        clear hK K hHeld
        have hHeld := hHeld2 (by decide)
        clear hHeld2
        try simp only [Act.put, List.setIfInBounds_toArray, List.set_cons_zero, List.set_cons_succ]
        refine wpAnyZ_one (i := 10) (by kernel_rfl) (by (simp only [List.getElem?_toArray, List.getElem?_cons_succ, List.getElem?_cons_zero]; rfl)) (fun K hK => ?_)
        go_simp
        refine hK.out _ _ (fun _ => hS _ hb9) (fun hHeld2 => ?_)
        clear hK K hHeld
        have hHeld := hHeld2 (by decide)
        clear hHeld2
        try simp only [Act.put, List.setIfInBounds_toArray, List.set_cons_zero, List.set_cons_succ]
        refine wpAnyZ_take (i := 11) (oi := ?oi11z43) (u := ?v11z43) ?hi11z43 (by kernel_rfl) (by decide) (by kernel_rfl) (by kernel_rfl) (by kernel_rfl) ?hq11z43 (Or.inl ⟨?hw11z43, ?hy11z43⟩) (by assumption) ?rest11z43
        case hi11z43 => (simp only [List.getElem?_toArray, List.getElem?_cons_succ, List.getElem?_cons_zero]; rfl)
        case hq11z43 => exact fun _ _ _ h => h
        case hw11z43 => rfl
        case hy11z43 => (intro w hSw; (try dsimp only at hSw); go_simp <;> with_reducible rfl)
        try simp only [Act.put, List.setIfInBounds_toArray, List.set_cons_zero, List.set_cons_succ]
        refine wpAnyZ_one (i := 12) (by kernel_rfl) (by (simp only [List.getElem?_toArray, List.getElem?_cons_succ, List.getElem?_cons_zero]; rfl)) (fun K hK => ?_)
        have hE9 := hE3.below hb9K
        have f9 := hE9.pc.frozen 0
        have y9 := hE9.fields.1
        have l9 := hE9.pc.lt
        go_simp
        have hpcE := hE9.pc.set_ 0 (.slice A9 (l.length + 1) c9)
        simp only [List.setIfInBounds_toArray, List.set_cons_zero] at hpcE
        have kp : Keep (fun k => k = q) W9 (W9.setCell ⟨q, 0, none⟩ (.slice A9 (l.length + 1) c9)) := (Keep.refl (fun k => k = q) W9).setCell (p := ⟨q, 0, none⟩) (fun _ => rfl) _
        have hiE := hi9.kept kp (fun g hg e => by have := (hi9.lt g hg).1; omega)
        have hoE := (ho3.kept (Keep.of_below hb9K) (fun g hg e => by have := (ho3.lt g hg).2; omega)).kept kp (fun g hg e => hoq g hg e)
        have hxE := (hx3.kept (Keep.of_below hb9K) (Nat.not_le.2 hx3.lt)).kept kp (fun e => hqb e.symm)
        have hzE := (hz3.kept (Keep.of_below hb9K) (Nat.not_le.2 hz3.lt)).kept kp (fun e => hqp e.symm)
        have hkE := (hk3.trans (Keep.of_below' (S := fun k => k = q) hb9K) (fun i hi e => e)).trans kp (fun i hi e => e)
        generalize W9.setCell ⟨q, 0, none⟩ (.slice A9 (l.length + 1) c9) = WE at *
        refine hK.out _ _ (fun h => absurd rfl h) (fun hHeld2 => ?_)
        clear hK K hHeld
        clear hHeld2
        try simp only [Act.put, List.setIfInBounds_toArray, List.set_cons_zero, List.set_cons_succ]
        refine wpAnyZ_done (by kernel_rfl) ?_ _
        go_wp2_with fail
        go_meet
        try dsimp only
        rw [← HSZ.out, HKB.out]
        exact ⟨_, hpcE, hiE, hoE, hxE, hzE, hkE⟩
    case rest =>
      obtain ⟨v9, hpc, hi, ho9, hx9, hz9, hk9⟩ := hcut
      obtain ⟨A9, c9, e9, h91, h92, hr9, h93⟩ := ho9.form
      have hws : w.heap.size ≤ w1.heap.size := hk1s
      have hQ : QE (fun k => (F k ∧ k < w.heap.size) ∨ w1.heap.size ≤ k) wc q v9 (xs ++ [⟨sent + 1, ⟨A6, text.length, c6, text⟩, 1, nextN now 2 16 0⟩]) (sent + 1) mark := by
        refine ⟨hpc, hi.mono (Nat.zero_le _), fun e => ?_, .inl hfp0, fun g hg => .inr ?_, fun x hx => ?_⟩
        · have := (hi.lt q e).1; omega
        · have := (hi.lt g hg).1; omega
        · rcases List.mem_append.1 hx with hx | hx
          · exact ((hbod0 x hx).kept hk9 (fun g _ h1 h2 => h1 h2)).mono (fun k _ e => .inl e)
          · rw [List.mem_singleton] at hx
            subst hx
            injection e9 with ea eb ec
            subst ea
            subst ec
            exact ⟨hr9, h91, h92, fun hp ad e => by
              have h1 := h93 ad e
              exact ⟨hoq _ h1.2.2, .inr h1.1⟩⟩
      have hrR : RB wc A6 text.length text := by
        injection e9 with ea eb ec
        rw [ea]
        exact hr9
      have hzd := hz9.drew
      have y1 := hpc.cell 2
      have y2 := hx9.cell 0
      have y3 := hx9.cell 1
      simp at y1 y2 y3
      have sd : (fun W => W.cell? ⟨q, 2, none⟩ = some (.int .i64 mark) ∧ W.cell? ⟨bm, 0, none⟩ = some (.int .i64 (sent + 1)) ∧ W.cell? ⟨bm, 1, none⟩ = some (.slice A6 text.length c6)) wc.drew := ⟨y1, y2, y3⟩
      have hQd := hQ.drew
      have hrd := hrR.drew
      have hkd := hk9.drew
      clear e9 h91 h92 h93 hr9 hQ hrR hk9 y1 y2 y3 hpc hi ho9 hx9 hz9
      go_upto_region 8 with fail
      refine wp_region_held_drew (S := (fun W => W.cell? ⟨q, 2, none⟩ = some (.int .i64 mark) ∧ W.cell? ⟨bm, 0, none⟩ = some (.int .i64 (sent + 1)) ∧ W.cell? ⟨bm, 1, none⟩ = some (.slice A6 text.length c6))) (by kernel_rfl) sd (fun hHeld => ?_)
      generalize wc.drew = wf at *
      have zd0 := hzd.cell 0
      have zd1 := hzd.cell 1
      have zd2 := hzd.cell 2
      have zdf := fun i => hzd.frozen i
      have zdl := hzd.lt
      simp at zd0 zd1 zd2
      refine wpAnyH_take (i := 0) (oi := ?oi0r8) (v := ?v0r8) ?hi0r8 (by kernel_rfl) (by kernel_rfl) (by kernel_rfl) ?hq0r8 (Or.inl ⟨?hw0r8, ?hy0r8⟩) (by assumption) ?rest0r8
      case hi0r8 => (simp only [List.getElem?_toArray, List.getElem?_cons_succ, List.getElem?_cons_zero]; rfl)
      case hq0r8 => exact fun _ _ _ h => h
      case hw0r8 => rfl
      case hy0r8 => (intro w hSw; (try dsimp only at hSw); go_simp <;> with_reducible rfl)
      try simp only [Act.put, List.setIfInBounds_toArray, List.set_cons_zero, List.set_cons_succ]
      refine wpAnyH_take (i := 1) (oi := ?oi1r8) (v := ?v1r8) ?hi1r8 (by kernel_rfl) (by kernel_rfl) (by kernel_rfl) ?hq1r8 (Or.inl ⟨?hw1r8, ?hy1r8⟩) (by assumption) ?rest1r8
      case hi1r8 => (simp only [List.getElem?_toArray, List.getElem?_cons_succ, List.getElem?_cons_zero]; rfl)
      case hq1r8 => exact fun _ _ _ h => h
      case hw1r8 => rfl
      case hy1r8 => (intro w hSw; (try dsimp only at hSw); go_simp <;> with_reducible rfl)
      try simp only [Act.put, List.setIfInBounds_toArray, List.set_cons_zero, List.set_cons_succ]
      refine wpAnyH_take (i := 2) (oi := ?oi2r8) (v := ?v2r8) ?hi2r8 (by kernel_rfl) (by kernel_rfl) (by kernel_rfl) ?hq2r8 (Or.inl ⟨?hw2r8, ?hy2r8⟩) (by assumption) ?rest2r8
      case hi2r8 => (simp only [List.getElem?_toArray, List.getElem?_cons_succ, List.getElem?_cons_zero]; rfl)
      case hq2r8 => exact fun _ _ _ h => h
      case hw2r8 => rfl
      case hy2r8 => (intro w hSw; (try dsimp only at hSw); go_simp <;> with_reducible rfl)
      try simp only [Act.put, List.setIfInBounds_toArray, List.set_cons_zero, List.set_cons_succ]
      refine wpAnyH_take (i := 3) (oi := ?oi3r8) (v := ?v3r8) ?hi3r8 (by kernel_rfl) (by kernel_rfl) (by kernel_rfl) ?hq3r8 (Or.inl ⟨?hw3r8, ?hy3r8⟩) (by assumption) ?rest3r8
      case hi3r8 => (simp only [List.getElem?_toArray, List.getElem?_cons_succ, List.getElem?_cons_zero]; rfl)
      case hq3r8 => exact fun _ _ _ h => h
      case hw3r8 => rfl
      case hy3r8 => (intro w hSw; (try dsimp only at hSw); go_simp <;> with_reducible rfl)
      try simp only [Act.put, List.setIfInBounds_toArray, List.set_cons_zero, List.set_cons_succ]
      refine wpAnyH_take (i := 4) (oi := ?oi4r8) (v := ?v4r8) ?hi4r8 (by kernel_rfl) (by kernel_rfl) (by kernel_rfl) ?hq4r8 (Or.inl ⟨?hw4r8, ?hy4r8⟩) (by assumption) ?rest4r8
      case hi4r8 => (simp only [List.getElem?_toArray, List.getElem?_cons_succ, List.getElem?_cons_zero]; rfl)
      case hq4r8 => exact fun _ _ _ h => h
      case hw4r8 => rfl
      case hy4r8 => (intro w hSw; (try dsimp only at hSw); go_simp <;> with_reducible rfl)
      try simp only [Act.put, List.setIfInBounds_toArray, List.set_cons_zero, List.set_cons_succ]
      refine wpAnyH_take (i := 5) (oi := ?oi5r8) (v := ?v5r8) ?hi5r8 (by kernel_rfl) (by kernel_rfl) (by kernel_rfl) ?hq5r8 (Or.inl ⟨?hw5r8, ?hy5r8⟩) (by assumption) ?rest5r8
      case hi5r8 => (simp only [List.getElem?_toArray, List.getElem?_cons_succ, List.getElem?_cons_zero]; rfl)
      case hq5r8 => exact fun _ _ _ h => h
      case hw5r8 => rfl
      case hy5r8 => (intro w hSw; (try dsimp only at hSw); go_simp <;> with_reducible rfl)
      try simp only [Act.put, List.setIfInBounds_toArray, List.set_cons_zero, List.set_cons_succ]
      refine wpAnyH_take (i := 6) (oi := ?oi6r8) (v := ?v6r8) ?hi6r8 (by kernel_rfl) (by kernel_rfl) (by kernel_rfl) ?hq6r8 (Or.inl ⟨?hw6r8, ?hy6r8⟩) (by assumption) ?rest6r8
      case hi6r8 => (simp only [List.getElem?_toArray, List.getElem?_cons_succ, List.getElem?_cons_zero]; rfl)
      case hq6r8 => exact fun _ _ _ h => h
      case hw6r8 => rfl
      case hy6r8 => (intro w hSw; (try dsimp only at hSw); go_simp <;> with_reducible rfl)
      try simp only [Act.put, List.setIfInBounds_toArray, List.set_cons_zero, List.set_cons_succ]
      refine wpAnyH_take (i := 7) (oi := ?oi7r8) (v := ?v7r8) ?hi7r8 (by kernel_rfl) (by kernel_rfl) (by kernel_rfl) ?hq7r8 (Or.inl ⟨?hw7r8, ?hy7r8⟩) (by assumption) ?rest7r8
      case hi7r8 => (simp only [List.getElem?_toArray, List.getElem?_cons_succ, List.getElem?_cons_zero]; rfl)
      case hq7r8 => exact fun _ _ _ h => h
      case hw7r8 => rfl
      case hy7r8 => (intro w hSw; (try dsimp only at hSw); go_simp <;> with_reducible rfl)
      try simp only [Act.put, List.setIfInBounds_toArray, List.set_cons_zero, List.set_cons_succ]
      refine wpAnyH_take (i := 8) (oi := ?oi8r8) (v := ?v8r8) ?hi8r8 (by kernel_rfl) (by kernel_rfl) (by kernel_rfl) ?hq8r8 (Or.inl ⟨?hw8r8, ?hy8r8⟩) (by assumption) ?rest8r8
      case hi8r8 => (simp only [List.getElem?_toArray, List.getElem?_cons_succ, List.getElem?_cons_zero]; rfl)
      case hq8r8 => exact fun _ _ _ h => h
      case hw8r8 => rfl
      case hy8r8 => (intro w hSw; (try dsimp only at hSw); go_simp <;> with_reducible rfl)
      try simp only [Act.put, List.setIfInBounds_toArray, List.set_cons_zero, List.set_cons_succ]
      refine wpAnyH_ready (rs := [9]) (by kernel_rfl) (by simp) ?_
      refine AllReadyH.cons (o := ?o9r8) ?hi9r8 (fun K hK => ?st9r8) AllReadyH.nil
      case hi9r8 => (simp only [List.getElem?_toArray, List.getElem?_cons_succ, List.getElem?_cons_zero]; rfl)
      go_simp
      have zE := fill3 hzd (.int .i64 (sent + 1)) (.int .i64 mark) (.slice A6 text.length c6)
      have kE := keep3 wf pk (.int .i64 (sent + 1)) (.int .i64 mark) (.slice A6 text.length c6)
      have sE := And.intro (kE.cell sd.1 (fun e => hqp e)) (And.intro (kE.cell sd.2.1 (fun e => hpb e.symm)) (kE.cell sd.2.2 (fun e => hpb e.symm)))
      generalize ((wf.setCell ⟨pk, 0, none⟩ (.int .i64 (sent + 1))).setCell ⟨pk, 1, none⟩ (.int .i64 mark)).setCell ⟨pk, 2, none⟩ (.slice A6 text.length c6) = WE at zE kE sE ⊢
      refine hK.out _ _ sE (fun hHeld2 => ?_)
      clear hK K hHeld
      have hHeld := hHeld2
      clear hHeld2
      try simp only [Act.put, List.setIfInBounds_toArray, List.set_cons_zero, List.set_cons_succ]
      refine wpAnyH_take (i := 10) (oi := ?oi10r8) (v := ?v10r8) ?hi10r8 (by kernel_rfl) (by kernel_rfl) (by kernel_rfl) ?hq10r8 (Or.inl ⟨?hw10r8, ?hy10r8⟩) (by assumption) ?rest10r8
      case hi10r8 => (simp only [List.getElem?_toArray, List.getElem?_cons_succ, List.getElem?_cons_zero]; rfl)
      case hq10r8 => exact fun _ _ _ h => h
      case hw10r8 => rfl
      case hy10r8 => (intro w hSw; (try dsimp only at hSw); go_simp <;> with_reducible rfl)
      try simp only [Act.put, List.setIfInBounds_toArray, List.set_cons_zero, List.set_cons_succ]
      refine wpAnyH_done (by kernel_rfl) ?_ _
      
      have hkE := hkd.trans (kE.mono (T := fun k => k = pk) (fun _ _ e => e)) (fun i hi e => by omega)
      have hQE := hQd.kept kE (fun g hg e => by rcases hg with hg | hg <;> omega)
      have hrE := hrd.kept' kE (fun hp ad e e2 => by
        have h1 := ho.form
        obtain ⟨Ao, co, e9, _, _, _, h93⟩ := h1
        injection e9 with ea eb ec
        exact hop _ (h93 ad (by rw [← ea]; exact e)).2.2 e2)
      have y0 := zE.cell 0
      have y1 := zE.cell 1
      have y2 := zE.cell 2
      simp at y0 y1 y2
      clear kE hkd hQd hrd sd hzd zd0 zd1 zd2 zdf zdl
      go_wp2
      refine bodyPost_ret (v := .tuple #[.agg #[.int .i64 (sent + 1), .int .i64 mark, .slice A6 text.length c6], .int .i64 0]) (by simp [results, Try.results14, go_sem, y0, y1, y2]) rfl ?_
      refine ⟨A6, c6, rfl, hrE, ⟨v9, _, hQE.mono fun k _ e => ?_, by rw [List.map_append, hxl]; rfl⟩, hkE⟩
      rcases e with e | e
      · exact .inl e.1
      · exact .inr (by omega)
end Go.Proofs.Ytfgceplafjbmhaa
