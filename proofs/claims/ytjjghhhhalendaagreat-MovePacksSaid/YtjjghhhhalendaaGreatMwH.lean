/- The document's moves: Go that is done. No condition but that they lie in memory. -/
import Derived.Test.YtjjghhhhalendaaGreatMwG
namespace Go.Proofs.YtjjghhhhalendaaGreat
open Go.RowKit Go.Shelf
set_option linter.unusedVariables false
set_option linter.unusedSimpArgs false

section
variable {P : Program} {md : Region.Mode} {ops : Array Oper} {Q : Exit → Act → World → Prop} {S : World → Prop} {z : Nat}
theorem tkZ {oi : Oper} {v : Value} {n : Nat} {listed : Array Bool} {a : Act} {w : World} (i : Nat) (hi : ops[i]? = some oi) (hz : waitsFor md ops z i = true) (hne : i ≠ z)
    (hs : Region.noSelect ops = true) (hf : Region.free md ops listed i = true) (hr : (Region.ready md ops listed).contains i = true)
    (hQ : ∀ c a w, Q (.panic c) (a.put oi.dst v) w → Q (.panic c) a w) (hw : Region.wanted oi (yielded ops a.tmps) = true) (hy : ∀ w, S w → (execOp a.eval oi).run P w = .ok (.value v) w) (hS : S w)
    (h : wpAnyZ P md ops Q S z n (listed.setIfInBounds i true) (a.put oi.dst v) w) : wpAnyZ P md ops Q S z (n + 1) listed a w :=
  wpAnyZ_take hi hz hne hs hf hr hQ (.inl ⟨hw, hy⟩) hS h
end
theorem WR.one {w : World} {g : Nat} {r : Rec} (h : Blk w g 59 r.cs.toArray) : WR w (some ⟨g, 0, none⟩) 1 [r] := by
  have h0 := h.cell 0
  have h1 := h.cell 1
  have h2 := h.cell 2
  have h3 := h.cell 3
  have h4 := h.cell 4
  simp [Rec.cs] at h0 h1 h2 h3 h4
  refine ⟨rfl, fun j x hx => ?_⟩
  cases j with
  | zero =>
    obtain rfl := Option.some.inj hx
    exact ⟨g, 0, rfl, h0, h1, h2, h3, h4⟩
  | succ j => simp at hx
theorem goW_ok {l : List Rec} {k f t : Int} {x : List It} (h : goW l k f t x = 0) : (1 ≤ k ∧ k ≤ 1099511627776) ∧ (0 ≤ f ∧ f < 8 ∧ 0 ≤ t ∧ t < 8 ∧ f ≠ t) ∧ mayL x = true ∧ x ≠ [] ∧ placeR l k < 0 ∧ l.length < 256 := by
  unfold goW at h
  by_cases a1 : (mbK k && btK f t) = false
  · rw [if_pos a1] at h; omega
  · rw [if_neg a1] at h
    by_cases a2 : mayL x = false ∨ x = []
    · rw [if_pos a2] at h; omega
    · rw [if_neg a2] at h
      by_cases a3 : 0 ≤ placeR l k
      · rw [if_pos a3] at h; omega
      · rw [if_neg a3] at h
        by_cases a4 : 256 ≤ l.length
        · rw [if_pos a4] at h; omega
        · simp only [Bool.and_eq_false_iff, not_or, Bool.not_eq_false] at a1
          exact ⟨of_decide_eq_true a1.1, of_decide_eq_true a1.2, by simpa using fun e => a2 (.inl e), fun e => a2 (.inr e), by omega, by omega⟩
set_option maxRecDepth 100000 in
set_option maxHeartbeats 12800000 in
theorem rgo_ok {F : Nat → Prop} {w : World} {p : Nat} {l : List Rec} (h : QK F w p l) (hl : l.length ≤ 1048576) (k fr to : Int) (A : Option Addr) (L c : Nat) (x : List It) (hil : IL w A L x) (hwl : WL x) (hll : L ≤ 500000) (hE : goW l k fr to x = 0) :
    Calls Tryz.prog 8 #[.pointer (some ⟨p, 0, none⟩), .int .i64 k, .int .i64 fr, .int .i64 to, .slice A L c] w fun e w' => e = .returned (.int .i64 0) ∧ QK (fun k => F k ∨ w.heap.size ≤ k) w' p (insW l ⟨k, fr, to, ⟨A, L, c, x⟩, false⟩) ∧ Keep F w w' := by
  obtain ⟨q1, q2, q3, q4, q5, q6⟩ := goW_ok hE
  clear hE
  have hmy := refmay_b A L c x w hil (by omega) (fun y hy => by have := (hwl y hy).1; simp only [maxLen] at this; omega)
  rw [q3] at hmy
  have hxl := hil.len
  have hL0 : ((L : Int) == 0) = false := beq_eq_false_iff_ne.2 (fun e => q4 (List.eq_nil_of_length_eq_zero (by omega)))
  have d3 : decide (0 ≤ fr ∧ fr ≤ 7) = true := decide_eq_true (by omega)
  have d4 : decide (0 ≤ to ∧ to ≤ 7) = true := decide_eq_true (by omega)
  have d5 : (fr == to) = false := beq_eq_false_iff_ne.2 (by omega)
  have hcf : ∀ (W : World), Below w.heap.size w W → _ := fun W hb => rfind_any k (h.below hb) hl
  obtain ⟨X, hX⟩ : ∃ X, placeR l k = X := ⟨_, rfl⟩
  rw [hX] at hcf q5
  have d8 : decide (0 ≤ X) = false := decide_eq_false (by omega)
  obtain ⟨R, hR⟩ : ∃ R, insW l ⟨k, fr, to, ⟨A, L, c, x⟩, false⟩ = R := ⟨_, rfl⟩
  rw [hR]
  replace hR := Lib.hid hR
  obtain ⟨v, hv⟩ := h
  obtain ⟨AR, cR, rfl, hfm⟩ := hv.own.form
  have hnc := hfm.1
  have hA : AR = none ∨ ∃ b off, AR = some ⟨b, off, none⟩ := by
    cases AR with
    | none => exact .inl rfl
    | some ad => obtain ⟨b, hb, _⟩ := hfm.2.2.1 ad rfl; exact .inr ⟨b, 0, by rw [hb]⟩
  clear hfm
  obtain ⟨N, hN⟩ : ∃ N, l.length = N := ⟨_, rfl⟩
  rw [hN] at hv hl q6 hnc
  have d9 : decide ((256 : Int) ≤ (N : Int)) = false := decide_eq_false (by omega)
  replace hN := Lib.hid hN
  have hfl : ∀ (W : World), Below w.heap.size w W → W.cell? ⟨p, 0, none⟩ = some (.slice AR N cR) := fun W hb => (hv.below hb).field
  have hil0 := hil
  clear q3 q4 hil hX
  go_enter Tryz.func8, Tryz.ntmps8
  go_wp2_with fail
  refine (rregion_any fr _).mono ?_
  rw [d3]
  rintro e w1 ⟨rfl, hww⟩
  subst w1
  go_wp2_with fail
  refine (rregion_any to _).mono ?_
  rw [d4]
  rintro e w1 ⟨rfl, hww⟩
  subst w1
  go_wp2_with fail
  refine hmy.mono ?_
  rintro e wm ⟨rfl, hxm⟩
  have hb := hxm
  have c0 := hfl _ hb
  go_wp2_with fail
  refine (hcf _ hb).mono ?_
  rintro e w1 ⟨rfl, hww⟩
  subst w1
  clear hmy hcf hxm
  go_wp2
  go_loopw [11] (fun i wr => ∃ j : Nat, i = .int .i64 (j : Int) ∧ j ≤ N ∧ wr = wm ∧ Hid (∀ y ∈ l.take j, y.m < k)) (fun i _ => N - (intOf i).toNat)
  case atStart => exact ⟨0, by go_num, by omega, by first | rfl | trivial, Lib.hid (fun y hy => by simp at hy)⟩
  case round =>
    obtain ⟨j, rfl, hj, rfl, hf⟩ := hrel
    by_cases hlt : j < N
    · have hlz : decide ((j : Int) < (N : Int)) = true := decide_eq_true (by omega)
      have hlz2 : (j : Int) < (N : Int) := by omega
      have hj0 : (0 : Int) ≤ (j : Int) := by omega
      obtain ⟨g, y, rfl, hy, y0, y1, y2, y3, y4⟩ := (hv.below hb).own.place hlt
      by_cases hk : y.m < k
      · have he : decide (y.m < k) = true := decide_eq_true hk
        have HF : Hid (∀ z ∈ l.take (j + 1), z.m < k) := Lib.hid (fun z hz => by
          rw [List.take_add_one, hy] at hz
          rcases List.mem_append.1 hz with hz | hz
          · exact hf.out z hz
          · simp at hz; rw [hz]; exact hk)
        clear hk hy hf
        go_wp2
        go_roundw
        case measure => simp [intOf]; omega
        case rel => exact ⟨j + 1, by go_num, by omega, by first | rfl | trivial, HF⟩
      · have he : decide (y.m < k) = false := decide_eq_false hk
        have hst : ∀ z, l[j]? = some z → ¬ z.m < k := fun z hz => by rw [hy] at hz; cases hz; exact hk
        have hat : atR l k = j := atR_of hf.out (by have := hN.out; omega) hst
        have hins : Hid (l.take j ++ [⟨k, fr, to, ⟨A, L, c, x⟩, false⟩] ++ l.drop j = R) := Lib.hid (by rw [← hR.out, insW_eq]; dsimp only; rw [hat])
        obtain ⟨A3, hfrom, hA3, hwr3⟩ := cutW (some ⟨g, 0, none⟩) N cR j (by omega) hnc hA
        have hto := fun (W : World) => runWO_to W (some ⟨g, 0, none⟩) N cR j (j : Int) rfl (by omega) hnc
        have hTo := fun (W : World) (b : Below w.heap.size w W) => ((hv.below b).own.wr).to j (by omega)
        have hFrom := fun (W : World) (b : Below w.heap.size w W) => hwr3 W l ((hv.below b).own.wr)
        have cellp := fun (W : World) (b : Below w.heap.size w W) => (hv.below b).field
        have bz := hb.drew
        clear hat hwr3
        clear hst hk hf hfl
        go_upto_region 12 with fail
        refine wp_region_z (S := (fun W => W.cell? ⟨p, 0, none⟩ = some (.slice (some ⟨g, 0, none⟩) N cR))) 25 (by kernel_rfl) (cellp _ bz) (fun hHeld => ?_)
        generalize wr.drew = wz at *
        (refine tkZ 0 (by (simp only [List.getElem?_toArray, List.getElem?_cons_succ, List.getElem?_cons_zero]; rfl)) (by kernel_rfl) (by decide) (by kernel_rfl) (by kernel_rfl) (by kernel_rfl) (by exact fun _ _ _ h => h) (by rfl) (by (intro w hSw; (try dsimp only at hSw); go_simp <;> with_reducible rfl)) (by assumption) ?_; try simp only [Act.put, List.setIfInBounds_toArray, List.set_cons_zero, List.set_cons_succ])
        (refine tkZ 2 (by (simp only [List.getElem?_toArray, List.getElem?_cons_succ, List.getElem?_cons_zero]; rfl)) (by kernel_rfl) (by decide) (by kernel_rfl) (by kernel_rfl) (by kernel_rfl) (by exact fun _ _ _ h => h) (by rfl) (by (intro w hSw; (try dsimp only at hSw); go_simp <;> with_reducible rfl)) (by assumption) ?_; try simp only [Act.put, List.setIfInBounds_toArray, List.set_cons_zero, List.set_cons_succ])
        (refine tkZ 3 (by (simp only [List.getElem?_toArray, List.getElem?_cons_succ, List.getElem?_cons_zero]; rfl)) (by kernel_rfl) (by decide) (by kernel_rfl) (by kernel_rfl) (by kernel_rfl) (by exact fun _ _ _ h => h) (by rfl) (by (intro w hSw; (try dsimp only at hSw); go_simp <;> with_reducible rfl)) (by assumption) ?_; try simp only [Act.put, List.setIfInBounds_toArray, List.set_cons_zero, List.set_cons_succ])
        (refine tkZ 4 (by (simp only [List.getElem?_toArray, List.getElem?_cons_succ, List.getElem?_cons_zero]; rfl)) (by kernel_rfl) (by decide) (by kernel_rfl) (by kernel_rfl) (by kernel_rfl) (by exact fun _ _ _ h => h) (by rfl) (by (intro w hSw; (try dsimp only at hSw); go_simp <;> with_reducible rfl)) (by assumption) ?_; try simp only [Act.put, List.setIfInBounds_toArray, List.set_cons_zero, List.set_cons_succ])
        (refine tkZ 5 (by (simp only [List.getElem?_toArray, List.getElem?_cons_succ, List.getElem?_cons_zero]; rfl)) (by kernel_rfl) (by decide) (by kernel_rfl) (by kernel_rfl) (by kernel_rfl) (by exact fun _ _ _ h => h) (by rfl) (by (intro w hSw; (try dsimp only at hSw); go_simp <;> with_reducible rfl)) (by assumption) ?_; try simp only [Act.put, List.setIfInBounds_toArray, List.set_cons_zero, List.set_cons_succ])
        (refine tkZ 6 (by (simp only [List.getElem?_toArray, List.getElem?_cons_succ, List.getElem?_cons_zero]; rfl)) (by kernel_rfl) (by decide) (by kernel_rfl) (by kernel_rfl) (by kernel_rfl) (by exact fun _ _ _ h => h) (by rfl) (by (intro w hSw; (try dsimp only at hSw); go_simp <;> with_reducible rfl)) (by assumption) ?_; try simp only [Act.put, List.setIfInBounds_toArray, List.set_cons_zero, List.set_cons_succ])
        (refine tkZ 7 (by (simp only [List.getElem?_toArray, List.getElem?_cons_succ, List.getElem?_cons_zero]; rfl)) (by kernel_rfl) (by decide) (by kernel_rfl) (by kernel_rfl) (by kernel_rfl) (by exact fun _ _ _ h => h) (by rfl) (by (intro w hSw; (try dsimp only at hSw); go_simp <;> with_reducible rfl)) (by assumption) ?_; try simp only [Act.put, List.setIfInBounds_toArray, List.set_cons_zero, List.set_cons_succ])
        (refine tkZ 9 (by (simp only [List.getElem?_toArray, List.getElem?_cons_succ, List.getElem?_cons_zero]; rfl)) (by kernel_rfl) (by decide) (by kernel_rfl) (by kernel_rfl) (by kernel_rfl) (by exact fun _ _ _ h => h) (by rfl) (by (intro w hSw; (try dsimp only at hSw); go_simp <;> with_reducible rfl)) (by assumption) ?_; try simp only [Act.put, List.setIfInBounds_toArray, List.set_cons_zero, List.set_cons_succ])
        (refine tkZ 10 (by (simp only [List.getElem?_toArray, List.getElem?_cons_succ, List.getElem?_cons_zero]; rfl)) (by kernel_rfl) (by decide) (by kernel_rfl) (by kernel_rfl) (by kernel_rfl) (by exact fun _ _ _ h => h) (by rfl) (by (intro w hSw; (try dsimp only at hSw); go_simp <;> with_reducible rfl)) (by assumption) ?_; try simp only [Act.put, List.setIfInBounds_toArray, List.set_cons_zero, List.set_cons_succ])
        (refine tkZ 11 (by (simp only [List.getElem?_toArray, List.getElem?_cons_succ, List.getElem?_cons_zero]; rfl)) (by kernel_rfl) (by decide) (by kernel_rfl) (by kernel_rfl) (by kernel_rfl) (by exact fun _ _ _ h => h) (by rfl) (by (intro w hSw; (try dsimp only at hSw); go_simp <;> with_reducible rfl)) (by assumption) ?_; try simp only [Act.put, List.setIfInBounds_toArray, List.set_cons_zero, List.set_cons_succ])
        (refine tkZ 12 (by (simp only [List.getElem?_toArray, List.getElem?_cons_succ, List.getElem?_cons_zero]; rfl)) (by kernel_rfl) (by decide) (by kernel_rfl) (by kernel_rfl) (by kernel_rfl) (by exact fun _ _ _ h => h) (by rfl) (by (intro w hSw; (try dsimp only at hSw); go_simp <;> with_reducible rfl)) (by assumption) ?_; try simp only [Act.put, List.setIfInBounds_toArray, List.set_cons_zero, List.set_cons_succ])
        (refine tkZ 13 (by (simp only [List.getElem?_toArray, List.getElem?_cons_succ, List.getElem?_cons_zero]; rfl)) (by kernel_rfl) (by decide) (by kernel_rfl) (by kernel_rfl) (by kernel_rfl) (by exact fun _ _ _ h => h) (by rfl) (by (intro w hSw; (try dsimp only at hSw); go_simp <;> with_reducible rfl)) (by assumption) ?_; try simp only [Act.put, List.setIfInBounds_toArray, List.set_cons_zero, List.set_cons_succ])
        (refine tkZ 16 (by (simp only [List.getElem?_toArray, List.getElem?_cons_succ, List.getElem?_cons_zero]; rfl)) (by kernel_rfl) (by decide) (by kernel_rfl) (by kernel_rfl) (by kernel_rfl) (by exact fun _ _ _ h => h) (by rfl) (by (intro w hSw; (try dsimp only at hSw); go_simp <;> with_reducible rfl)) (by assumption) ?_; try simp only [Act.put, List.setIfInBounds_toArray, List.set_cons_zero, List.set_cons_succ])
        (refine tkZ 17 (by (simp only [List.getElem?_toArray, List.getElem?_cons_succ, List.getElem?_cons_zero]; rfl)) (by kernel_rfl) (by decide) (by kernel_rfl) (by kernel_rfl) (by kernel_rfl) (by exact fun _ _ _ h => h) (by rfl) (by (intro w hSw; (try dsimp only at hSw); go_simp <;> with_reducible rfl)) (by assumption) ?_; try simp only [Act.put, List.setIfInBounds_toArray, List.set_cons_zero, List.set_cons_succ])
        (refine tkZ 18 (by (simp only [List.getElem?_toArray, List.getElem?_cons_succ, List.getElem?_cons_zero]; rfl)) (by kernel_rfl) (by decide) (by kernel_rfl) (by kernel_rfl) (by kernel_rfl) (by exact fun _ _ _ h => h) (by rfl) (by (intro w hSw; (try dsimp only at hSw); go_simp <;> with_reducible rfl)) (by assumption) ?_; try simp only [Act.put, List.setIfInBounds_toArray, List.set_cons_zero, List.set_cons_succ])
        (refine tkZ 19 (by (simp only [List.getElem?_toArray, List.getElem?_cons_succ, List.getElem?_cons_zero]; rfl)) (by kernel_rfl) (by decide) (by kernel_rfl) (by kernel_rfl) (by kernel_rfl) (by exact fun _ _ _ h => h) (by rfl) (by (intro w hSw; (try dsimp only at hSw); go_simp <;> with_reducible rfl)) (by assumption) ?_; try simp only [Act.put, List.setIfInBounds_toArray, List.set_cons_zero, List.set_cons_succ])
        (refine tkZ 20 (by (simp only [List.getElem?_toArray, List.getElem?_cons_succ, List.getElem?_cons_zero]; rfl)) (by kernel_rfl) (by decide) (by kernel_rfl) (by kernel_rfl) (by kernel_rfl) (by exact fun _ _ _ h => h) (by rfl) (by (intro w hSw; (try dsimp only at hSw); go_simp <;> with_reducible rfl)) (by assumption) ?_; try simp only [Act.put, List.setIfInBounds_toArray, List.set_cons_zero, List.set_cons_succ])
        (refine tkZ 21 (by (simp only [List.getElem?_toArray, List.getElem?_cons_succ, List.getElem?_cons_zero]; rfl)) (by kernel_rfl) (by decide) (by kernel_rfl) (by kernel_rfl) (by kernel_rfl) (by exact fun _ _ _ h => h) (by rfl) (by (intro w hSw; (try dsimp only at hSw); go_simp <;> with_reducible rfl)) (by assumption) ?_; try simp only [Act.put, List.setIfInBounds_toArray, List.set_cons_zero, List.set_cons_succ])
        refine wpAnyZ_two (i := 1) (j := 14) (by kernel_rfl) (by (simp only [List.getElem?_toArray, List.getElem?_cons_succ, List.getElem?_cons_zero]; rfl)) (by (simp only [List.getElem?_toArray, List.getElem?_cons_succ, List.getElem?_cons_zero]; rfl)) (fun K hK => ?_) (fun K hK => ?_)
        · skip
          go_simp
          have oE := (WO.form0 (wz)).mono (bz).size
          have bE := (bz).alloc (bz).size (.cells #[] 59)
          have sE := cellp _ bE
          refine hK.out _ _ (fun _ => sE) (fun hHeld2 => ?_)
          clear hK K hHeld
          have hHeld := hHeld2 (by decide)
          clear hHeld2
          try simp only [Act.put, List.setIfInBounds_toArray, List.set_cons_zero, List.set_cons_succ]
          refine wpAnyZ_two (i := 8) (j := 14) (by kernel_rfl) (by (simp only [List.getElem?_toArray, List.getElem?_cons_succ, List.getElem?_cons_zero]; rfl)) (by (simp only [List.getElem?_toArray, List.getElem?_cons_succ, List.getElem?_cons_zero]; rfl)) (fun K hK => ?_) (fun K hK => ?_)
          · skip
            rw [if_pos (by rfl)]
            refine wp_appWOn (.tmp 73) (.tmp 79) rfl w.heap.size (.slice (some ⟨wz.heap.size, 0, none⟩) 0 0) [] rfl oE (some ⟨g, 0, none⟩) j cR rfl (l.take j) (hTo _ bE) hA (by simp; omega) (bE).size ?_
            intro v5 w5 hO5 hK5 e5
            rw [List.nil_append] at hO5
            have b5 := (bE).trans (hK5.below (B := w.heap.size) (bE).size (fun i hi e => by have := (oE.lt i e).1; omega))
            have s5 := cellp _ b5
            refine hK.out _ _ (fun _ => s5) (fun hHeld2 => ?_)
            clear hK K hHeld
            have hHeld := hHeld2 (by decide)
            clear hHeld2
            try simp only [Act.put, List.setIfInBounds_toArray, List.set_cons_zero, List.set_cons_succ]
            refine wpAnyZ_one (i := 14) (by kernel_rfl) (by (simp only [List.getElem?_toArray, List.getElem?_cons_succ, List.getElem?_cons_zero]; rfl)) (fun K hK => ?_)
            go_simp
            have rB := Blk.new (w5) 59 #[.int .i64 k, .int .i64 fr, .int .i64 to, .slice A L c, .bool false]
            have bR := (b5).alloc (b5).size (.cells #[.int .i64 k, .int .i64 fr, .int .i64 to, .slice A L c, .bool false] 59)
            have sR := cellp _ bR
            refine hK.out _ _ (fun _ => sR) (fun hHeld2 => ?_)
            clear hK K hHeld
            have hHeld := hHeld2 (by decide)
            clear hHeld2
            try simp only [Act.put, List.setIfInBounds_toArray, List.set_cons_zero, List.set_cons_succ]
            have hO5' := hO5.alloc (.cells #[.int .i64 k, .int .i64 fr, .int .i64 to, .slice A L c, .bool false] 59)
            refine wpAnyZ_one (i := 15) (by kernel_rfl) (by (simp only [List.getElem?_toArray, List.getElem?_cons_succ, List.getElem?_cons_zero]; rfl)) (fun K hK => ?_)
            rw [if_pos (by rfl)]
            refine wp_appWOn (.tmp 80) (.tmp 86) rfl w.heap.size v5 (l.take j) rfl hO5' (some ⟨w5.heap.size, 0, none⟩) 1 1 rfl [⟨k, fr, to, ⟨A, L, c, x⟩, false⟩] (WR.one rB) (.inr ⟨w5.heap.size, 0, rfl⟩) (by rw [List.length_take]; omega) (bR).size ?_
            intro v7 w7 hO7 hK7 e7
            have b7 := (bR).trans (hK7.below (B := w.heap.size) (bR).size (fun i hi e => by have := (hO5'.lt i e).1; omega))
            have s7 := cellp _ b7
            refine hK.out _ _ (fun _ => s7) (fun hHeld2 => ?_)
            clear hK K hHeld
            have hHeld := hHeld2 (by decide)
            clear hHeld2
            try simp only [Act.put, List.setIfInBounds_toArray, List.set_cons_zero, List.set_cons_succ]
            refine wpAnyZ_one (i := 22) (by kernel_rfl) (by (simp only [List.getElem?_toArray, List.getElem?_cons_succ, List.getElem?_cons_zero]; rfl)) (fun K hK => ?_)
            rw [if_pos (by rfl)]
            refine wp_appWOn (.tmp 87) (.tmp 93) rfl w.heap.size v7 (l.take j ++ [⟨k, fr, to, ⟨A, L, c, x⟩, false⟩]) rfl hO7 A3 (N - j) (cR - j) rfl (l.drop j) (hFrom _ b7) hA3 (by rw [List.length_append, List.length_take, List.length_singleton]; omega) b7.size ?_
            intro v9 w9 hO9 hK9 e9
            rw [hins.out] at hO9
            have b9 := b7.trans (hK9.below (B := w.heap.size) b7.size (fun i hi e => by have := (hO7.lt i e).1; omega))
            have s9 := cellp _ b9
            obtain ⟨A9, c9, rfl, _⟩ := hO9.form
            refine hK.out _ _ (fun _ => s9) (fun hHeld2 => ?_)
            clear hK K hHeld
            have hHeld := hHeld2 (by decide)
            clear hHeld2
            try simp only [Act.put, List.setIfInBounds_toArray, List.set_cons_zero, List.set_cons_succ]
            refine wpAnyZ_one (i := 23) (by kernel_rfl) (by (simp only [List.getElem?_toArray, List.getElem?_cons_succ, List.getElem?_cons_zero]; rfl)) (fun K hK => ?_)
            go_simp
            refine hK.out _ _ (fun _ => s9) (fun hHeld2 => ?_)
            clear hK K hHeld
            have hHeld := hHeld2 (by decide)
            clear hHeld2
            try simp only [Act.put, List.setIfInBounds_toArray, List.set_cons_zero, List.set_cons_succ]
            (refine tkZ 24 (by (simp only [List.getElem?_toArray, List.getElem?_cons_succ, List.getElem?_cons_zero]; rfl)) (by kernel_rfl) (by decide) (by kernel_rfl) (by kernel_rfl) (by kernel_rfl) (by exact fun _ _ _ h => h) (by rfl) (by (intro w hSw; (try dsimp only at hSw); go_simp <;> with_reducible rfl)) (by assumption) ?_; try simp only [Act.put, List.setIfInBounds_toArray, List.set_cons_zero, List.set_cons_succ])
            refine wpAnyZ_one (i := 25) (by kernel_rfl) (by (simp only [List.getElem?_toArray, List.getElem?_cons_succ, List.getElem?_cons_zero]; rfl)) (fun K hK => ?_)
            have h9 := hv.below b9
            have f9 := h9.pc.frozen 0
            have hpl9 := h9.pc.lt
            go_simp
            refine hK.out _ _ (fun h => absurd rfl h) (fun hHeld2 => ?_)
            clear hK K hHeld
            clear hHeld2
            try simp only [Act.put, List.setIfInBounds_toArray, List.set_cons_zero, List.set_cons_succ]
            refine wpAnyZ_done (by kernel_rfl) ?_ _
            have pc8 := h9.pc.set_ 0 (.slice A9 R.length c9)
            simp only [List.setIfInBounds_toArray, List.set_cons_zero] at pc8
            have k8 : Keep (fun k => k = p) w9 (w9.setCell ⟨p, 0, none⟩ (.slice A9 R.length c9)) := (Keep.refl (fun k => k = p) w9).setCell (p := ⟨p, 0, none⟩) (fun _ => rfl) _
            obtain ⟨hQ, hKF⟩ := QV.given hv.fp b9 hO9 hv.lt.1 pc8 k8
            clear pc8 k8 h9 f9 hpl9 hO9 hK9 e9 s9 hO7 hK7 e7 s7 hTo hFrom cellp
            go_wp2
            go_ret
            exact ⟨rfl, hQ, hKF⟩
          · skip
            go_simp
            have rB := Blk.new (wz.alloc (.cells #[] 59)) 59 #[.int .i64 k, .int .i64 fr, .int .i64 to, .slice A L c, .bool false]
            rw [World.size_alloc] at rB
            have bR := (bE).alloc (bE).size (.cells #[.int .i64 k, .int .i64 fr, .int .i64 to, .slice A L c, .bool false] 59)
            have sR := cellp _ bR
            refine hK.out _ _ (fun _ => sR) (fun hHeld2 => ?_)
            clear hK K hHeld
            have hHeld := hHeld2 (by decide)
            clear hHeld2
            try simp only [Act.put, List.setIfInBounds_toArray, List.set_cons_zero, List.set_cons_succ]
            have oE0 := oE
            replace oE := oE.alloc (.cells #[.int .i64 k, .int .i64 fr, .int .i64 to, .slice A L c, .bool false] 59)
            refine wpAnyZ_one (i := 8) (by kernel_rfl) (by (simp only [List.getElem?_toArray, List.getElem?_cons_succ, List.getElem?_cons_zero]; rfl)) (fun K hK => ?_)
            rw [if_pos (by rfl)]
            refine wp_appWOn (.tmp 73) (.tmp 79) rfl w.heap.size (.slice (some ⟨wz.heap.size, 0, none⟩) 0 0) [] rfl oE (some ⟨g, 0, none⟩) j cR rfl (l.take j) (hTo _ bR) hA (by simp; omega) (bR).size ?_
            intro v5 w5 hO5 hK5 e5
            rw [List.nil_append] at hO5
            have b5 := (bR).trans (hK5.below (B := w.heap.size) (bR).size (fun i hi e => by have := (oE.lt i e).1; omega))
            have s5 := cellp _ b5
            replace rB := rB.kept hK5 (fun e => by simp [Value.ownBlock] at e <;> omega)
            refine hK.out _ _ (fun _ => s5) (fun hHeld2 => ?_)
            clear hK K hHeld
            have hHeld := hHeld2 (by decide)
            clear hHeld2
            try simp only [Act.put, List.setIfInBounds_toArray, List.set_cons_zero, List.set_cons_succ]
            refine wpAnyZ_one (i := 15) (by kernel_rfl) (by (simp only [List.getElem?_toArray, List.getElem?_cons_succ, List.getElem?_cons_zero]; rfl)) (fun K hK => ?_)
            rw [if_pos (by rfl)]
            refine wp_appWOn (.tmp 80) (.tmp 86) rfl w.heap.size v5 (l.take j) rfl hO5 (some ⟨wz.heap.size + 1, 0, none⟩) 1 1 rfl [⟨k, fr, to, ⟨A, L, c, x⟩, false⟩] (WR.one rB) (.inr ⟨wz.heap.size + 1, 0, rfl⟩) (by rw [List.length_take]; omega) (b5).size ?_
            intro v7 w7 hO7 hK7 e7
            have b7 := (b5).trans (hK7.below (B := w.heap.size) (b5).size (fun i hi e => by have := (hO5.lt i e).1; omega))
            have s7 := cellp _ b7
            refine hK.out _ _ (fun _ => s7) (fun hHeld2 => ?_)
            clear hK K hHeld
            have hHeld := hHeld2 (by decide)
            clear hHeld2
            try simp only [Act.put, List.setIfInBounds_toArray, List.set_cons_zero, List.set_cons_succ]
            refine wpAnyZ_one (i := 22) (by kernel_rfl) (by (simp only [List.getElem?_toArray, List.getElem?_cons_succ, List.getElem?_cons_zero]; rfl)) (fun K hK => ?_)
            rw [if_pos (by rfl)]
            refine wp_appWOn (.tmp 87) (.tmp 93) rfl w.heap.size v7 (l.take j ++ [⟨k, fr, to, ⟨A, L, c, x⟩, false⟩]) rfl hO7 A3 (N - j) (cR - j) rfl (l.drop j) (hFrom _ b7) hA3 (by rw [List.length_append, List.length_take, List.length_singleton]; omega) b7.size ?_
            intro v9 w9 hO9 hK9 e9
            rw [hins.out] at hO9
            have b9 := b7.trans (hK9.below (B := w.heap.size) b7.size (fun i hi e => by have := (hO7.lt i e).1; omega))
            have s9 := cellp _ b9
            obtain ⟨A9, c9, rfl, _⟩ := hO9.form
            refine hK.out _ _ (fun _ => s9) (fun hHeld2 => ?_)
            clear hK K hHeld
            have hHeld := hHeld2 (by decide)
            clear hHeld2
            try simp only [Act.put, List.setIfInBounds_toArray, List.set_cons_zero, List.set_cons_succ]
            refine wpAnyZ_one (i := 23) (by kernel_rfl) (by (simp only [List.getElem?_toArray, List.getElem?_cons_succ, List.getElem?_cons_zero]; rfl)) (fun K hK => ?_)
            go_simp
            refine hK.out _ _ (fun _ => s9) (fun hHeld2 => ?_)
            clear hK K hHeld
            have hHeld := hHeld2 (by decide)
            clear hHeld2
            try simp only [Act.put, List.setIfInBounds_toArray, List.set_cons_zero, List.set_cons_succ]
            (refine tkZ 24 (by (simp only [List.getElem?_toArray, List.getElem?_cons_succ, List.getElem?_cons_zero]; rfl)) (by kernel_rfl) (by decide) (by kernel_rfl) (by kernel_rfl) (by kernel_rfl) (by exact fun _ _ _ h => h) (by rfl) (by (intro w hSw; (try dsimp only at hSw); go_simp <;> with_reducible rfl)) (by assumption) ?_; try simp only [Act.put, List.setIfInBounds_toArray, List.set_cons_zero, List.set_cons_succ])
            refine wpAnyZ_one (i := 25) (by kernel_rfl) (by (simp only [List.getElem?_toArray, List.getElem?_cons_succ, List.getElem?_cons_zero]; rfl)) (fun K hK => ?_)
            have h9 := hv.below b9
            have f9 := h9.pc.frozen 0
            have hpl9 := h9.pc.lt
            go_simp
            refine hK.out _ _ (fun h => absurd rfl h) (fun hHeld2 => ?_)
            clear hK K hHeld
            clear hHeld2
            try simp only [Act.put, List.setIfInBounds_toArray, List.set_cons_zero, List.set_cons_succ]
            refine wpAnyZ_done (by kernel_rfl) ?_ _
            have pc8 := h9.pc.set_ 0 (.slice A9 R.length c9)
            simp only [List.setIfInBounds_toArray, List.set_cons_zero] at pc8
            have k8 : Keep (fun k => k = p) w9 (w9.setCell ⟨p, 0, none⟩ (.slice A9 R.length c9)) := (Keep.refl (fun k => k = p) w9).setCell (p := ⟨p, 0, none⟩) (fun _ => rfl) _
            obtain ⟨hQ, hKF⟩ := QV.given hv.fp b9 hO9 hv.lt.1 pc8 k8
            clear pc8 k8 h9 f9 hpl9 hO9 hK9 e9 s9 hO7 hK7 e7 s7 hTo hFrom cellp
            go_wp2
            go_ret
            exact ⟨rfl, hQ, hKF⟩
        · skip
          go_simp
          have rB := Blk.new (wz) 59 #[.int .i64 k, .int .i64 fr, .int .i64 to, .slice A L c, .bool false]
          have bR := (bz).alloc (bz).size (.cells #[.int .i64 k, .int .i64 fr, .int .i64 to, .slice A L c, .bool false] 59)
          have sR := cellp _ bR
          refine hK.out _ _ (fun _ => sR) (fun hHeld2 => ?_)
          clear hK K hHeld
          have hHeld := hHeld2 (by decide)
          clear hHeld2
          try simp only [Act.put, List.setIfInBounds_toArray, List.set_cons_zero, List.set_cons_succ]
          refine wpAnyZ_one (i := 1) (by kernel_rfl) (by (simp only [List.getElem?_toArray, List.getElem?_cons_succ, List.getElem?_cons_zero]; rfl)) (fun K hK => ?_)
          go_simp
          have oE := (WO.form0 (wz.alloc (.cells #[.int .i64 k, .int .i64 fr, .int .i64 to, .slice A L c, .bool false] 59))).mono bR.size
          have bE := bR.alloc bR.size (.cells #[] 59)
          rw [World.size_alloc] at oE
          have sE := cellp _ bE
          replace rB := rB.alloc (.cells #[] 59)
          refine hK.out _ _ (fun _ => sE) (fun hHeld2 => ?_)
          clear hK K hHeld
          have hHeld := hHeld2 (by decide)
          clear hHeld2
          try simp only [Act.put, List.setIfInBounds_toArray, List.set_cons_zero, List.set_cons_succ]
          refine wpAnyZ_one (i := 8) (by kernel_rfl) (by (simp only [List.getElem?_toArray, List.getElem?_cons_succ, List.getElem?_cons_zero]; rfl)) (fun K hK => ?_)
          rw [if_pos (by rfl)]
          refine wp_appWOn (.tmp 73) (.tmp 79) rfl w.heap.size (.slice (some ⟨wz.heap.size + 1, 0, none⟩) 0 0) [] rfl oE (some ⟨g, 0, none⟩) j cR rfl (l.take j) (hTo _ bE) hA (by simp; omega) (bE).size ?_
          intro v5 w5 hO5 hK5 e5
          rw [List.nil_append] at hO5
          have b5 := (bE).trans (hK5.below (B := w.heap.size) (bE).size (fun i hi e => by have := (oE.lt i e).1; omega))
          have s5 := cellp _ b5
          replace rB := rB.kept hK5 (fun e => by simp [Value.ownBlock] at e <;> omega)
          refine hK.out _ _ (fun _ => s5) (fun hHeld2 => ?_)
          clear hK K hHeld
          have hHeld := hHeld2 (by decide)
          clear hHeld2
          try simp only [Act.put, List.setIfInBounds_toArray, List.set_cons_zero, List.set_cons_succ]
          refine wpAnyZ_one (i := 15) (by kernel_rfl) (by (simp only [List.getElem?_toArray, List.getElem?_cons_succ, List.getElem?_cons_zero]; rfl)) (fun K hK => ?_)
          rw [if_pos (by rfl)]
          refine wp_appWOn (.tmp 80) (.tmp 86) rfl w.heap.size v5 (l.take j) rfl hO5 (some ⟨wz.heap.size, 0, none⟩) 1 1 rfl [⟨k, fr, to, ⟨A, L, c, x⟩, false⟩] (WR.one rB) (.inr ⟨wz.heap.size, 0, rfl⟩) (by rw [List.length_take]; omega) (b5).size ?_
          intro v7 w7 hO7 hK7 e7
          have b7 := (b5).trans (hK7.below (B := w.heap.size) (b5).size (fun i hi e => by have := (hO5.lt i e).1; omega))
          have s7 := cellp _ b7
          refine hK.out _ _ (fun _ => s7) (fun hHeld2 => ?_)
          clear hK K hHeld
          have hHeld := hHeld2 (by decide)
          clear hHeld2
          try simp only [Act.put, List.setIfInBounds_toArray, List.set_cons_zero, List.set_cons_succ]
          refine wpAnyZ_one (i := 22) (by kernel_rfl) (by (simp only [List.getElem?_toArray, List.getElem?_cons_succ, List.getElem?_cons_zero]; rfl)) (fun K hK => ?_)
          rw [if_pos (by rfl)]
          refine wp_appWOn (.tmp 87) (.tmp 93) rfl w.heap.size v7 (l.take j ++ [⟨k, fr, to, ⟨A, L, c, x⟩, false⟩]) rfl hO7 A3 (N - j) (cR - j) rfl (l.drop j) (hFrom _ b7) hA3 (by rw [List.length_append, List.length_take, List.length_singleton]; omega) b7.size ?_
          intro v9 w9 hO9 hK9 e9
          rw [hins.out] at hO9
          have b9 := b7.trans (hK9.below (B := w.heap.size) b7.size (fun i hi e => by have := (hO7.lt i e).1; omega))
          have s9 := cellp _ b9
          obtain ⟨A9, c9, rfl, _⟩ := hO9.form
          refine hK.out _ _ (fun _ => s9) (fun hHeld2 => ?_)
          clear hK K hHeld
          have hHeld := hHeld2 (by decide)
          clear hHeld2
          try simp only [Act.put, List.setIfInBounds_toArray, List.set_cons_zero, List.set_cons_succ]
          refine wpAnyZ_one (i := 23) (by kernel_rfl) (by (simp only [List.getElem?_toArray, List.getElem?_cons_succ, List.getElem?_cons_zero]; rfl)) (fun K hK => ?_)
          go_simp
          refine hK.out _ _ (fun _ => s9) (fun hHeld2 => ?_)
          clear hK K hHeld
          have hHeld := hHeld2 (by decide)
          clear hHeld2
          try simp only [Act.put, List.setIfInBounds_toArray, List.set_cons_zero, List.set_cons_succ]
          (refine tkZ 24 (by (simp only [List.getElem?_toArray, List.getElem?_cons_succ, List.getElem?_cons_zero]; rfl)) (by kernel_rfl) (by decide) (by kernel_rfl) (by kernel_rfl) (by kernel_rfl) (by exact fun _ _ _ h => h) (by rfl) (by (intro w hSw; (try dsimp only at hSw); go_simp <;> with_reducible rfl)) (by assumption) ?_; try simp only [Act.put, List.setIfInBounds_toArray, List.set_cons_zero, List.set_cons_succ])
          refine wpAnyZ_one (i := 25) (by kernel_rfl) (by (simp only [List.getElem?_toArray, List.getElem?_cons_succ, List.getElem?_cons_zero]; rfl)) (fun K hK => ?_)
          have h9 := hv.below b9
          have f9 := h9.pc.frozen 0
          have hpl9 := h9.pc.lt
          go_simp
          refine hK.out _ _ (fun h => absurd rfl h) (fun hHeld2 => ?_)
          clear hK K hHeld
          clear hHeld2
          try simp only [Act.put, List.setIfInBounds_toArray, List.set_cons_zero, List.set_cons_succ]
          refine wpAnyZ_done (by kernel_rfl) ?_ _
          have pc8 := h9.pc.set_ 0 (.slice A9 R.length c9)
          simp only [List.setIfInBounds_toArray, List.set_cons_zero] at pc8
          have k8 : Keep (fun k => k = p) w9 (w9.setCell ⟨p, 0, none⟩ (.slice A9 R.length c9)) := (Keep.refl (fun k => k = p) w9).setCell (p := ⟨p, 0, none⟩) (fun _ => rfl) _
          obtain ⟨hQ, hKF⟩ := QV.given hv.fp b9 hO9 hv.lt.1 pc8 k8
          clear pc8 k8 h9 f9 hpl9 hO9 hK9 e9 s9 hO7 hK7 e7 s7 hTo hFrom cellp
          go_wp2
          go_ret
          exact ⟨rfl, hQ, hKF⟩
    · have hlz : decide ((j : Int) < (N : Int)) = false := decide_eq_false (by omega)
      have hlz2 : ¬ (j : Int) < (N : Int) := by omega
      have hj0 : (0 : Int) ≤ (j : Int) := by omega
      have hat : atR l k = j := atR_of hf.out (by have := hN.out; omega) (fun z hz => absurd (List.getElem?_eq_some_iff.1 hz).1 (by have := hN.out; omega))
      have hins : Hid (l.take j ++ [⟨k, fr, to, ⟨A, L, c, x⟩, false⟩] ++ l.drop j = R) := Lib.hid (by rw [← hR.out, insW_eq]; dsimp only; rw [hat])
      obtain ⟨A3, hfrom, hA3, hwr3⟩ := cutW AR N cR j (by omega) hnc hA
      have hto := fun (W : World) => runWO_to W AR N cR j (j : Int) rfl (by omega) hnc
      have hTo := fun (W : World) (b : Below w.heap.size w W) => ((hv.below b).own.wr).to j (by omega)
      have hFrom := fun (W : World) (b : Below w.heap.size w W) => hwr3 W l ((hv.below b).own.wr)
      have cellp := fun (W : World) (b : Below w.heap.size w W) => (hv.below b).field
      have bz := hb.drew
      clear hat hwr3
      clear hf
      go_upto_region 12 with fail
      refine wp_region_z (S := (fun W => W.cell? ⟨p, 0, none⟩ = some (.slice AR N cR))) 25 (by kernel_rfl) (cellp _ bz) (fun hHeld => ?_)
      generalize wr.drew = wz at *
      (refine tkZ 0 (by (simp only [List.getElem?_toArray, List.getElem?_cons_succ, List.getElem?_cons_zero]; rfl)) (by kernel_rfl) (by decide) (by kernel_rfl) (by kernel_rfl) (by kernel_rfl) (by exact fun _ _ _ h => h) (by rfl) (by (intro w hSw; (try dsimp only at hSw); go_simp <;> with_reducible rfl)) (by assumption) ?_; try simp only [Act.put, List.setIfInBounds_toArray, List.set_cons_zero, List.set_cons_succ])
      (refine tkZ 2 (by (simp only [List.getElem?_toArray, List.getElem?_cons_succ, List.getElem?_cons_zero]; rfl)) (by kernel_rfl) (by decide) (by kernel_rfl) (by kernel_rfl) (by kernel_rfl) (by exact fun _ _ _ h => h) (by rfl) (by (intro w hSw; (try dsimp only at hSw); go_simp <;> with_reducible rfl)) (by assumption) ?_; try simp only [Act.put, List.setIfInBounds_toArray, List.set_cons_zero, List.set_cons_succ])
      (refine tkZ 3 (by (simp only [List.getElem?_toArray, List.getElem?_cons_succ, List.getElem?_cons_zero]; rfl)) (by kernel_rfl) (by decide) (by kernel_rfl) (by kernel_rfl) (by kernel_rfl) (by exact fun _ _ _ h => h) (by rfl) (by (intro w hSw; (try dsimp only at hSw); go_simp <;> with_reducible rfl)) (by assumption) ?_; try simp only [Act.put, List.setIfInBounds_toArray, List.set_cons_zero, List.set_cons_succ])
      (refine tkZ 4 (by (simp only [List.getElem?_toArray, List.getElem?_cons_succ, List.getElem?_cons_zero]; rfl)) (by kernel_rfl) (by decide) (by kernel_rfl) (by kernel_rfl) (by kernel_rfl) (by exact fun _ _ _ h => h) (by rfl) (by (intro w hSw; (try dsimp only at hSw); go_simp <;> with_reducible rfl)) (by assumption) ?_; try simp only [Act.put, List.setIfInBounds_toArray, List.set_cons_zero, List.set_cons_succ])
      (refine tkZ 5 (by (simp only [List.getElem?_toArray, List.getElem?_cons_succ, List.getElem?_cons_zero]; rfl)) (by kernel_rfl) (by decide) (by kernel_rfl) (by kernel_rfl) (by kernel_rfl) (by exact fun _ _ _ h => h) (by rfl) (by (intro w hSw; (try dsimp only at hSw); go_simp <;> with_reducible rfl)) (by assumption) ?_; try simp only [Act.put, List.setIfInBounds_toArray, List.set_cons_zero, List.set_cons_succ])
      (refine tkZ 6 (by (simp only [List.getElem?_toArray, List.getElem?_cons_succ, List.getElem?_cons_zero]; rfl)) (by kernel_rfl) (by decide) (by kernel_rfl) (by kernel_rfl) (by kernel_rfl) (by exact fun _ _ _ h => h) (by rfl) (by (intro w hSw; (try dsimp only at hSw); go_simp <;> with_reducible rfl)) (by assumption) ?_; try simp only [Act.put, List.setIfInBounds_toArray, List.set_cons_zero, List.set_cons_succ])
      (refine tkZ 7 (by (simp only [List.getElem?_toArray, List.getElem?_cons_succ, List.getElem?_cons_zero]; rfl)) (by kernel_rfl) (by decide) (by kernel_rfl) (by kernel_rfl) (by kernel_rfl) (by exact fun _ _ _ h => h) (by rfl) (by (intro w hSw; (try dsimp only at hSw); go_simp <;> with_reducible rfl)) (by assumption) ?_; try simp only [Act.put, List.setIfInBounds_toArray, List.set_cons_zero, List.set_cons_succ])
      (refine tkZ 9 (by (simp only [List.getElem?_toArray, List.getElem?_cons_succ, List.getElem?_cons_zero]; rfl)) (by kernel_rfl) (by decide) (by kernel_rfl) (by kernel_rfl) (by kernel_rfl) (by exact fun _ _ _ h => h) (by rfl) (by (intro w hSw; (try dsimp only at hSw); go_simp <;> with_reducible rfl)) (by assumption) ?_; try simp only [Act.put, List.setIfInBounds_toArray, List.set_cons_zero, List.set_cons_succ])
      (refine tkZ 10 (by (simp only [List.getElem?_toArray, List.getElem?_cons_succ, List.getElem?_cons_zero]; rfl)) (by kernel_rfl) (by decide) (by kernel_rfl) (by kernel_rfl) (by kernel_rfl) (by exact fun _ _ _ h => h) (by rfl) (by (intro w hSw; (try dsimp only at hSw); go_simp <;> with_reducible rfl)) (by assumption) ?_; try simp only [Act.put, List.setIfInBounds_toArray, List.set_cons_zero, List.set_cons_succ])
      (refine tkZ 11 (by (simp only [List.getElem?_toArray, List.getElem?_cons_succ, List.getElem?_cons_zero]; rfl)) (by kernel_rfl) (by decide) (by kernel_rfl) (by kernel_rfl) (by kernel_rfl) (by exact fun _ _ _ h => h) (by rfl) (by (intro w hSw; (try dsimp only at hSw); go_simp <;> with_reducible rfl)) (by assumption) ?_; try simp only [Act.put, List.setIfInBounds_toArray, List.set_cons_zero, List.set_cons_succ])
      (refine tkZ 12 (by (simp only [List.getElem?_toArray, List.getElem?_cons_succ, List.getElem?_cons_zero]; rfl)) (by kernel_rfl) (by decide) (by kernel_rfl) (by kernel_rfl) (by kernel_rfl) (by exact fun _ _ _ h => h) (by rfl) (by (intro w hSw; (try dsimp only at hSw); go_simp <;> with_reducible rfl)) (by assumption) ?_; try simp only [Act.put, List.setIfInBounds_toArray, List.set_cons_zero, List.set_cons_succ])
      (refine tkZ 13 (by (simp only [List.getElem?_toArray, List.getElem?_cons_succ, List.getElem?_cons_zero]; rfl)) (by kernel_rfl) (by decide) (by kernel_rfl) (by kernel_rfl) (by kernel_rfl) (by exact fun _ _ _ h => h) (by rfl) (by (intro w hSw; (try dsimp only at hSw); go_simp <;> with_reducible rfl)) (by assumption) ?_; try simp only [Act.put, List.setIfInBounds_toArray, List.set_cons_zero, List.set_cons_succ])
      (refine tkZ 16 (by (simp only [List.getElem?_toArray, List.getElem?_cons_succ, List.getElem?_cons_zero]; rfl)) (by kernel_rfl) (by decide) (by kernel_rfl) (by kernel_rfl) (by kernel_rfl) (by exact fun _ _ _ h => h) (by rfl) (by (intro w hSw; (try dsimp only at hSw); go_simp <;> with_reducible rfl)) (by assumption) ?_; try simp only [Act.put, List.setIfInBounds_toArray, List.set_cons_zero, List.set_cons_succ])
      (refine tkZ 17 (by (simp only [List.getElem?_toArray, List.getElem?_cons_succ, List.getElem?_cons_zero]; rfl)) (by kernel_rfl) (by decide) (by kernel_rfl) (by kernel_rfl) (by kernel_rfl) (by exact fun _ _ _ h => h) (by rfl) (by (intro w hSw; (try dsimp only at hSw); go_simp <;> with_reducible rfl)) (by assumption) ?_; try simp only [Act.put, List.setIfInBounds_toArray, List.set_cons_zero, List.set_cons_succ])
      (refine tkZ 18 (by (simp only [List.getElem?_toArray, List.getElem?_cons_succ, List.getElem?_cons_zero]; rfl)) (by kernel_rfl) (by decide) (by kernel_rfl) (by kernel_rfl) (by kernel_rfl) (by exact fun _ _ _ h => h) (by rfl) (by (intro w hSw; (try dsimp only at hSw); go_simp <;> with_reducible rfl)) (by assumption) ?_; try simp only [Act.put, List.setIfInBounds_toArray, List.set_cons_zero, List.set_cons_succ])
      (refine tkZ 19 (by (simp only [List.getElem?_toArray, List.getElem?_cons_succ, List.getElem?_cons_zero]; rfl)) (by kernel_rfl) (by decide) (by kernel_rfl) (by kernel_rfl) (by kernel_rfl) (by exact fun _ _ _ h => h) (by rfl) (by (intro w hSw; (try dsimp only at hSw); go_simp <;> with_reducible rfl)) (by assumption) ?_; try simp only [Act.put, List.setIfInBounds_toArray, List.set_cons_zero, List.set_cons_succ])
      (refine tkZ 20 (by (simp only [List.getElem?_toArray, List.getElem?_cons_succ, List.getElem?_cons_zero]; rfl)) (by kernel_rfl) (by decide) (by kernel_rfl) (by kernel_rfl) (by kernel_rfl) (by exact fun _ _ _ h => h) (by rfl) (by (intro w hSw; (try dsimp only at hSw); go_simp <;> with_reducible rfl)) (by assumption) ?_; try simp only [Act.put, List.setIfInBounds_toArray, List.set_cons_zero, List.set_cons_succ])
      (refine tkZ 21 (by (simp only [List.getElem?_toArray, List.getElem?_cons_succ, List.getElem?_cons_zero]; rfl)) (by kernel_rfl) (by decide) (by kernel_rfl) (by kernel_rfl) (by kernel_rfl) (by exact fun _ _ _ h => h) (by rfl) (by (intro w hSw; (try dsimp only at hSw); go_simp <;> with_reducible rfl)) (by assumption) ?_; try simp only [Act.put, List.setIfInBounds_toArray, List.set_cons_zero, List.set_cons_succ])
      refine wpAnyZ_two (i := 1) (j := 14) (by kernel_rfl) (by (simp only [List.getElem?_toArray, List.getElem?_cons_succ, List.getElem?_cons_zero]; rfl)) (by (simp only [List.getElem?_toArray, List.getElem?_cons_succ, List.getElem?_cons_zero]; rfl)) (fun K hK => ?_) (fun K hK => ?_)
      · skip
        go_simp
        have oE := (WO.form0 (wz)).mono (bz).size
        have bE := (bz).alloc (bz).size (.cells #[] 59)
        have sE := cellp _ bE
        refine hK.out _ _ (fun _ => sE) (fun hHeld2 => ?_)
        clear hK K hHeld
        have hHeld := hHeld2 (by decide)
        clear hHeld2
        try simp only [Act.put, List.setIfInBounds_toArray, List.set_cons_zero, List.set_cons_succ]
        refine wpAnyZ_two (i := 8) (j := 14) (by kernel_rfl) (by (simp only [List.getElem?_toArray, List.getElem?_cons_succ, List.getElem?_cons_zero]; rfl)) (by (simp only [List.getElem?_toArray, List.getElem?_cons_succ, List.getElem?_cons_zero]; rfl)) (fun K hK => ?_) (fun K hK => ?_)
        · skip
          rw [if_pos (by rfl)]
          refine wp_appWOn (.tmp 73) (.tmp 79) rfl w.heap.size (.slice (some ⟨wz.heap.size, 0, none⟩) 0 0) [] rfl oE AR j cR rfl (l.take j) (hTo _ bE) hA (by simp; omega) (bE).size ?_
          intro v5 w5 hO5 hK5 e5
          rw [List.nil_append] at hO5
          have b5 := (bE).trans (hK5.below (B := w.heap.size) (bE).size (fun i hi e => by have := (oE.lt i e).1; omega))
          have s5 := cellp _ b5
          refine hK.out _ _ (fun _ => s5) (fun hHeld2 => ?_)
          clear hK K hHeld
          have hHeld := hHeld2 (by decide)
          clear hHeld2
          try simp only [Act.put, List.setIfInBounds_toArray, List.set_cons_zero, List.set_cons_succ]
          refine wpAnyZ_one (i := 14) (by kernel_rfl) (by (simp only [List.getElem?_toArray, List.getElem?_cons_succ, List.getElem?_cons_zero]; rfl)) (fun K hK => ?_)
          go_simp
          have rB := Blk.new (w5) 59 #[.int .i64 k, .int .i64 fr, .int .i64 to, .slice A L c, .bool false]
          have bR := (b5).alloc (b5).size (.cells #[.int .i64 k, .int .i64 fr, .int .i64 to, .slice A L c, .bool false] 59)
          have sR := cellp _ bR
          refine hK.out _ _ (fun _ => sR) (fun hHeld2 => ?_)
          clear hK K hHeld
          have hHeld := hHeld2 (by decide)
          clear hHeld2
          try simp only [Act.put, List.setIfInBounds_toArray, List.set_cons_zero, List.set_cons_succ]
          have hO5' := hO5.alloc (.cells #[.int .i64 k, .int .i64 fr, .int .i64 to, .slice A L c, .bool false] 59)
          refine wpAnyZ_one (i := 15) (by kernel_rfl) (by (simp only [List.getElem?_toArray, List.getElem?_cons_succ, List.getElem?_cons_zero]; rfl)) (fun K hK => ?_)
          rw [if_pos (by rfl)]
          refine wp_appWOn (.tmp 80) (.tmp 86) rfl w.heap.size v5 (l.take j) rfl hO5' (some ⟨w5.heap.size, 0, none⟩) 1 1 rfl [⟨k, fr, to, ⟨A, L, c, x⟩, false⟩] (WR.one rB) (.inr ⟨w5.heap.size, 0, rfl⟩) (by rw [List.length_take]; omega) (bR).size ?_
          intro v7 w7 hO7 hK7 e7
          have b7 := (bR).trans (hK7.below (B := w.heap.size) (bR).size (fun i hi e => by have := (hO5'.lt i e).1; omega))
          have s7 := cellp _ b7
          refine hK.out _ _ (fun _ => s7) (fun hHeld2 => ?_)
          clear hK K hHeld
          have hHeld := hHeld2 (by decide)
          clear hHeld2
          try simp only [Act.put, List.setIfInBounds_toArray, List.set_cons_zero, List.set_cons_succ]
          refine wpAnyZ_one (i := 22) (by kernel_rfl) (by (simp only [List.getElem?_toArray, List.getElem?_cons_succ, List.getElem?_cons_zero]; rfl)) (fun K hK => ?_)
          rw [if_pos (by rfl)]
          refine wp_appWOn (.tmp 87) (.tmp 93) rfl w.heap.size v7 (l.take j ++ [⟨k, fr, to, ⟨A, L, c, x⟩, false⟩]) rfl hO7 A3 (N - j) (cR - j) rfl (l.drop j) (hFrom _ b7) hA3 (by rw [List.length_append, List.length_take, List.length_singleton]; omega) b7.size ?_
          intro v9 w9 hO9 hK9 e9
          rw [hins.out] at hO9
          have b9 := b7.trans (hK9.below (B := w.heap.size) b7.size (fun i hi e => by have := (hO7.lt i e).1; omega))
          have s9 := cellp _ b9
          obtain ⟨A9, c9, rfl, _⟩ := hO9.form
          refine hK.out _ _ (fun _ => s9) (fun hHeld2 => ?_)
          clear hK K hHeld
          have hHeld := hHeld2 (by decide)
          clear hHeld2
          try simp only [Act.put, List.setIfInBounds_toArray, List.set_cons_zero, List.set_cons_succ]
          refine wpAnyZ_one (i := 23) (by kernel_rfl) (by (simp only [List.getElem?_toArray, List.getElem?_cons_succ, List.getElem?_cons_zero]; rfl)) (fun K hK => ?_)
          go_simp
          refine hK.out _ _ (fun _ => s9) (fun hHeld2 => ?_)
          clear hK K hHeld
          have hHeld := hHeld2 (by decide)
          clear hHeld2
          try simp only [Act.put, List.setIfInBounds_toArray, List.set_cons_zero, List.set_cons_succ]
          (refine tkZ 24 (by (simp only [List.getElem?_toArray, List.getElem?_cons_succ, List.getElem?_cons_zero]; rfl)) (by kernel_rfl) (by decide) (by kernel_rfl) (by kernel_rfl) (by kernel_rfl) (by exact fun _ _ _ h => h) (by rfl) (by (intro w hSw; (try dsimp only at hSw); go_simp <;> with_reducible rfl)) (by assumption) ?_; try simp only [Act.put, List.setIfInBounds_toArray, List.set_cons_zero, List.set_cons_succ])
          refine wpAnyZ_one (i := 25) (by kernel_rfl) (by (simp only [List.getElem?_toArray, List.getElem?_cons_succ, List.getElem?_cons_zero]; rfl)) (fun K hK => ?_)
          have h9 := hv.below b9
          have f9 := h9.pc.frozen 0
          have hpl9 := h9.pc.lt
          go_simp
          refine hK.out _ _ (fun h => absurd rfl h) (fun hHeld2 => ?_)
          clear hK K hHeld
          clear hHeld2
          try simp only [Act.put, List.setIfInBounds_toArray, List.set_cons_zero, List.set_cons_succ]
          refine wpAnyZ_done (by kernel_rfl) ?_ _
          have pc8 := h9.pc.set_ 0 (.slice A9 R.length c9)
          simp only [List.setIfInBounds_toArray, List.set_cons_zero] at pc8
          have k8 : Keep (fun k => k = p) w9 (w9.setCell ⟨p, 0, none⟩ (.slice A9 R.length c9)) := (Keep.refl (fun k => k = p) w9).setCell (p := ⟨p, 0, none⟩) (fun _ => rfl) _
          obtain ⟨hQ, hKF⟩ := QV.given hv.fp b9 hO9 hv.lt.1 pc8 k8
          clear pc8 k8 h9 f9 hpl9 hO9 hK9 e9 s9 hO7 hK7 e7 s7 hTo hFrom cellp
          go_wp2
          go_ret
          exact ⟨rfl, hQ, hKF⟩
        · skip
          go_simp
          have rB := Blk.new (wz.alloc (.cells #[] 59)) 59 #[.int .i64 k, .int .i64 fr, .int .i64 to, .slice A L c, .bool false]
          rw [World.size_alloc] at rB
          have bR := (bE).alloc (bE).size (.cells #[.int .i64 k, .int .i64 fr, .int .i64 to, .slice A L c, .bool false] 59)
          have sR := cellp _ bR
          refine hK.out _ _ (fun _ => sR) (fun hHeld2 => ?_)
          clear hK K hHeld
          have hHeld := hHeld2 (by decide)
          clear hHeld2
          try simp only [Act.put, List.setIfInBounds_toArray, List.set_cons_zero, List.set_cons_succ]
          have oE0 := oE
          replace oE := oE.alloc (.cells #[.int .i64 k, .int .i64 fr, .int .i64 to, .slice A L c, .bool false] 59)
          refine wpAnyZ_one (i := 8) (by kernel_rfl) (by (simp only [List.getElem?_toArray, List.getElem?_cons_succ, List.getElem?_cons_zero]; rfl)) (fun K hK => ?_)
          rw [if_pos (by rfl)]
          refine wp_appWOn (.tmp 73) (.tmp 79) rfl w.heap.size (.slice (some ⟨wz.heap.size, 0, none⟩) 0 0) [] rfl oE AR j cR rfl (l.take j) (hTo _ bR) hA (by simp; omega) (bR).size ?_
          intro v5 w5 hO5 hK5 e5
          rw [List.nil_append] at hO5
          have b5 := (bR).trans (hK5.below (B := w.heap.size) (bR).size (fun i hi e => by have := (oE.lt i e).1; omega))
          have s5 := cellp _ b5
          replace rB := rB.kept hK5 (fun e => by simp [Value.ownBlock] at e <;> omega)
          refine hK.out _ _ (fun _ => s5) (fun hHeld2 => ?_)
          clear hK K hHeld
          have hHeld := hHeld2 (by decide)
          clear hHeld2
          try simp only [Act.put, List.setIfInBounds_toArray, List.set_cons_zero, List.set_cons_succ]
          refine wpAnyZ_one (i := 15) (by kernel_rfl) (by (simp only [List.getElem?_toArray, List.getElem?_cons_succ, List.getElem?_cons_zero]; rfl)) (fun K hK => ?_)
          rw [if_pos (by rfl)]
          refine wp_appWOn (.tmp 80) (.tmp 86) rfl w.heap.size v5 (l.take j) rfl hO5 (some ⟨wz.heap.size + 1, 0, none⟩) 1 1 rfl [⟨k, fr, to, ⟨A, L, c, x⟩, false⟩] (WR.one rB) (.inr ⟨wz.heap.size + 1, 0, rfl⟩) (by rw [List.length_take]; omega) (b5).size ?_
          intro v7 w7 hO7 hK7 e7
          have b7 := (b5).trans (hK7.below (B := w.heap.size) (b5).size (fun i hi e => by have := (hO5.lt i e).1; omega))
          have s7 := cellp _ b7
          refine hK.out _ _ (fun _ => s7) (fun hHeld2 => ?_)
          clear hK K hHeld
          have hHeld := hHeld2 (by decide)
          clear hHeld2
          try simp only [Act.put, List.setIfInBounds_toArray, List.set_cons_zero, List.set_cons_succ]
          refine wpAnyZ_one (i := 22) (by kernel_rfl) (by (simp only [List.getElem?_toArray, List.getElem?_cons_succ, List.getElem?_cons_zero]; rfl)) (fun K hK => ?_)
          rw [if_pos (by rfl)]
          refine wp_appWOn (.tmp 87) (.tmp 93) rfl w.heap.size v7 (l.take j ++ [⟨k, fr, to, ⟨A, L, c, x⟩, false⟩]) rfl hO7 A3 (N - j) (cR - j) rfl (l.drop j) (hFrom _ b7) hA3 (by rw [List.length_append, List.length_take, List.length_singleton]; omega) b7.size ?_
          intro v9 w9 hO9 hK9 e9
          rw [hins.out] at hO9
          have b9 := b7.trans (hK9.below (B := w.heap.size) b7.size (fun i hi e => by have := (hO7.lt i e).1; omega))
          have s9 := cellp _ b9
          obtain ⟨A9, c9, rfl, _⟩ := hO9.form
          refine hK.out _ _ (fun _ => s9) (fun hHeld2 => ?_)
          clear hK K hHeld
          have hHeld := hHeld2 (by decide)
          clear hHeld2
          try simp only [Act.put, List.setIfInBounds_toArray, List.set_cons_zero, List.set_cons_succ]
          refine wpAnyZ_one (i := 23) (by kernel_rfl) (by (simp only [List.getElem?_toArray, List.getElem?_cons_succ, List.getElem?_cons_zero]; rfl)) (fun K hK => ?_)
          go_simp
          refine hK.out _ _ (fun _ => s9) (fun hHeld2 => ?_)
          clear hK K hHeld
          have hHeld := hHeld2 (by decide)
          clear hHeld2
          try simp only [Act.put, List.setIfInBounds_toArray, List.set_cons_zero, List.set_cons_succ]
          (refine tkZ 24 (by (simp only [List.getElem?_toArray, List.getElem?_cons_succ, List.getElem?_cons_zero]; rfl)) (by kernel_rfl) (by decide) (by kernel_rfl) (by kernel_rfl) (by kernel_rfl) (by exact fun _ _ _ h => h) (by rfl) (by (intro w hSw; (try dsimp only at hSw); go_simp <;> with_reducible rfl)) (by assumption) ?_; try simp only [Act.put, List.setIfInBounds_toArray, List.set_cons_zero, List.set_cons_succ])
          refine wpAnyZ_one (i := 25) (by kernel_rfl) (by (simp only [List.getElem?_toArray, List.getElem?_cons_succ, List.getElem?_cons_zero]; rfl)) (fun K hK => ?_)
          have h9 := hv.below b9
          have f9 := h9.pc.frozen 0
          have hpl9 := h9.pc.lt
          go_simp
          refine hK.out _ _ (fun h => absurd rfl h) (fun hHeld2 => ?_)
          clear hK K hHeld
          clear hHeld2
          try simp only [Act.put, List.setIfInBounds_toArray, List.set_cons_zero, List.set_cons_succ]
          refine wpAnyZ_done (by kernel_rfl) ?_ _
          have pc8 := h9.pc.set_ 0 (.slice A9 R.length c9)
          simp only [List.setIfInBounds_toArray, List.set_cons_zero] at pc8
          have k8 : Keep (fun k => k = p) w9 (w9.setCell ⟨p, 0, none⟩ (.slice A9 R.length c9)) := (Keep.refl (fun k => k = p) w9).setCell (p := ⟨p, 0, none⟩) (fun _ => rfl) _
          obtain ⟨hQ, hKF⟩ := QV.given hv.fp b9 hO9 hv.lt.1 pc8 k8
          clear pc8 k8 h9 f9 hpl9 hO9 hK9 e9 s9 hO7 hK7 e7 s7 hTo hFrom cellp
          go_wp2
          go_ret
          exact ⟨rfl, hQ, hKF⟩
      · skip
        go_simp
        have rB := Blk.new (wz) 59 #[.int .i64 k, .int .i64 fr, .int .i64 to, .slice A L c, .bool false]
        have bR := (bz).alloc (bz).size (.cells #[.int .i64 k, .int .i64 fr, .int .i64 to, .slice A L c, .bool false] 59)
        have sR := cellp _ bR
        refine hK.out _ _ (fun _ => sR) (fun hHeld2 => ?_)
        clear hK K hHeld
        have hHeld := hHeld2 (by decide)
        clear hHeld2
        try simp only [Act.put, List.setIfInBounds_toArray, List.set_cons_zero, List.set_cons_succ]
        refine wpAnyZ_one (i := 1) (by kernel_rfl) (by (simp only [List.getElem?_toArray, List.getElem?_cons_succ, List.getElem?_cons_zero]; rfl)) (fun K hK => ?_)
        go_simp
        have oE := (WO.form0 (wz.alloc (.cells #[.int .i64 k, .int .i64 fr, .int .i64 to, .slice A L c, .bool false] 59))).mono bR.size
        have bE := bR.alloc bR.size (.cells #[] 59)
        rw [World.size_alloc] at oE
        have sE := cellp _ bE
        replace rB := rB.alloc (.cells #[] 59)
        refine hK.out _ _ (fun _ => sE) (fun hHeld2 => ?_)
        clear hK K hHeld
        have hHeld := hHeld2 (by decide)
        clear hHeld2
        try simp only [Act.put, List.setIfInBounds_toArray, List.set_cons_zero, List.set_cons_succ]
        refine wpAnyZ_one (i := 8) (by kernel_rfl) (by (simp only [List.getElem?_toArray, List.getElem?_cons_succ, List.getElem?_cons_zero]; rfl)) (fun K hK => ?_)
        rw [if_pos (by rfl)]
        refine wp_appWOn (.tmp 73) (.tmp 79) rfl w.heap.size (.slice (some ⟨wz.heap.size + 1, 0, none⟩) 0 0) [] rfl oE AR j cR rfl (l.take j) (hTo _ bE) hA (by simp; omega) (bE).size ?_
        intro v5 w5 hO5 hK5 e5
        rw [List.nil_append] at hO5
        have b5 := (bE).trans (hK5.below (B := w.heap.size) (bE).size (fun i hi e => by have := (oE.lt i e).1; omega))
        have s5 := cellp _ b5
        replace rB := rB.kept hK5 (fun e => by simp [Value.ownBlock] at e <;> omega)
        refine hK.out _ _ (fun _ => s5) (fun hHeld2 => ?_)
        clear hK K hHeld
        have hHeld := hHeld2 (by decide)
        clear hHeld2
        try simp only [Act.put, List.setIfInBounds_toArray, List.set_cons_zero, List.set_cons_succ]
        refine wpAnyZ_one (i := 15) (by kernel_rfl) (by (simp only [List.getElem?_toArray, List.getElem?_cons_succ, List.getElem?_cons_zero]; rfl)) (fun K hK => ?_)
        rw [if_pos (by rfl)]
        refine wp_appWOn (.tmp 80) (.tmp 86) rfl w.heap.size v5 (l.take j) rfl hO5 (some ⟨wz.heap.size, 0, none⟩) 1 1 rfl [⟨k, fr, to, ⟨A, L, c, x⟩, false⟩] (WR.one rB) (.inr ⟨wz.heap.size, 0, rfl⟩) (by rw [List.length_take]; omega) (b5).size ?_
        intro v7 w7 hO7 hK7 e7
        have b7 := (b5).trans (hK7.below (B := w.heap.size) (b5).size (fun i hi e => by have := (hO5.lt i e).1; omega))
        have s7 := cellp _ b7
        refine hK.out _ _ (fun _ => s7) (fun hHeld2 => ?_)
        clear hK K hHeld
        have hHeld := hHeld2 (by decide)
        clear hHeld2
        try simp only [Act.put, List.setIfInBounds_toArray, List.set_cons_zero, List.set_cons_succ]
        refine wpAnyZ_one (i := 22) (by kernel_rfl) (by (simp only [List.getElem?_toArray, List.getElem?_cons_succ, List.getElem?_cons_zero]; rfl)) (fun K hK => ?_)
        rw [if_pos (by rfl)]
        refine wp_appWOn (.tmp 87) (.tmp 93) rfl w.heap.size v7 (l.take j ++ [⟨k, fr, to, ⟨A, L, c, x⟩, false⟩]) rfl hO7 A3 (N - j) (cR - j) rfl (l.drop j) (hFrom _ b7) hA3 (by rw [List.length_append, List.length_take, List.length_singleton]; omega) b7.size ?_
        intro v9 w9 hO9 hK9 e9
        rw [hins.out] at hO9
        have b9 := b7.trans (hK9.below (B := w.heap.size) b7.size (fun i hi e => by have := (hO7.lt i e).1; omega))
        have s9 := cellp _ b9
        obtain ⟨A9, c9, rfl, _⟩ := hO9.form
        refine hK.out _ _ (fun _ => s9) (fun hHeld2 => ?_)
        clear hK K hHeld
        have hHeld := hHeld2 (by decide)
        clear hHeld2
        try simp only [Act.put, List.setIfInBounds_toArray, List.set_cons_zero, List.set_cons_succ]
        refine wpAnyZ_one (i := 23) (by kernel_rfl) (by (simp only [List.getElem?_toArray, List.getElem?_cons_succ, List.getElem?_cons_zero]; rfl)) (fun K hK => ?_)
        go_simp
        refine hK.out _ _ (fun _ => s9) (fun hHeld2 => ?_)
        clear hK K hHeld
        have hHeld := hHeld2 (by decide)
        clear hHeld2
        try simp only [Act.put, List.setIfInBounds_toArray, List.set_cons_zero, List.set_cons_succ]
        (refine tkZ 24 (by (simp only [List.getElem?_toArray, List.getElem?_cons_succ, List.getElem?_cons_zero]; rfl)) (by kernel_rfl) (by decide) (by kernel_rfl) (by kernel_rfl) (by kernel_rfl) (by exact fun _ _ _ h => h) (by rfl) (by (intro w hSw; (try dsimp only at hSw); go_simp <;> with_reducible rfl)) (by assumption) ?_; try simp only [Act.put, List.setIfInBounds_toArray, List.set_cons_zero, List.set_cons_succ])
        refine wpAnyZ_one (i := 25) (by kernel_rfl) (by (simp only [List.getElem?_toArray, List.getElem?_cons_succ, List.getElem?_cons_zero]; rfl)) (fun K hK => ?_)
        have h9 := hv.below b9
        have f9 := h9.pc.frozen 0
        have hpl9 := h9.pc.lt
        go_simp
        refine hK.out _ _ (fun h => absurd rfl h) (fun hHeld2 => ?_)
        clear hK K hHeld
        clear hHeld2
        try simp only [Act.put, List.setIfInBounds_toArray, List.set_cons_zero, List.set_cons_succ]
        refine wpAnyZ_done (by kernel_rfl) ?_ _
        have pc8 := h9.pc.set_ 0 (.slice A9 R.length c9)
        simp only [List.setIfInBounds_toArray, List.set_cons_zero] at pc8
        have k8 : Keep (fun k => k = p) w9 (w9.setCell ⟨p, 0, none⟩ (.slice A9 R.length c9)) := (Keep.refl (fun k => k = p) w9).setCell (p := ⟨p, 0, none⟩) (fun _ => rfl) _
        obtain ⟨hQ, hKF⟩ := QV.given hv.fp b9 hO9 hv.lt.1 pc8 k8
        clear pc8 k8 h9 f9 hpl9 hO9 hK9 e9 s9 hO7 hK7 e7 s7 hTo hFrom cellp
        go_wp2
        go_ret
        exact ⟨rfl, hQ, hKF⟩
end Go.Proofs.YtjjghhhhalendaaGreat
