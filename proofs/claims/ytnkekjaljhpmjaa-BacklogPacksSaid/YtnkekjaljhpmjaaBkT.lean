/- A backlog: Back, Push, Try, News, and of nil ones. No condition but that it lies in memory. -/
import Derived.Test.YtnkekjaljhpmjaaBkS
namespace Go.Proofs.Ytnkekjaljhpmjaa
open Go.RowKit
set_option linter.unusedVariables false
set_option linter.unusedSimpArgs false

theorem bback_nil (k : Int) (w : World) : Calls Try.prog 20 #[.pointer none, .int .i64 k] w fun e w' => e = .returned (.bool false) ∧ w' = w := by
  by_cases h1 : k < 1
  · go_enter Try.func20, Try.ntmps20
    go_wp2
    go_ret
    exact ⟨rfl, rfl⟩
  · have hk : (k == 0) = false := beq_eq_false_iff_ne.2 (by omega)
    go_enter Try.func20, Try.ntmps20
    go_wp2_with fail
    refine (bout_nil _).mono ?_
    rintro e w' ⟨rfl, rfl⟩
    go_wp2
    go_ret
    exact ⟨rfl, rfl⟩
theorem bpush_nil (k : Int) (w : World) : Calls Try.prog 12 #[.pointer none, .int .i64 k] w fun e w' => e = .returned (.int .i64 6) ∧ w' = w := by
  go_enter Try.func12, Try.ntmps12
  go_wp2
  go_ret
  exact ⟨rfl, rfl⟩
theorem bdrop_nil (k : Int) (w : World) : Calls Try.prog 14 #[.pointer none, .int .i64 k] w fun e w' => e = .returned (.bool false) ∧ Below w.heap.size w w' := by
  go_enter Try.func14, Try.ntmps14
  go_wp2_with fail
  refine (bplace_nil _ _).mono ?_
  rintro e w' ⟨rfl, hb⟩
  go_wp2
  go_ret
  exact ⟨rfl, hb⟩
theorem btry_nil (w : World) : Calls Try.prog 18 #[.pointer none] w fun e w' => e = .returned (.tuple #[.int .i64 0, .bool false]) ∧ Below w.heap.size w w' := by
  have hi := indexT_any none 0 0 [] w (WR.nil _ _) (by omega)
  go_enter Try.func18, Try.ntmps18
  go_wp2_with fail
  refine (bout_nil _).mono ?_
  rintro e w' ⟨rfl, rfl⟩
  go_wp2_with fail
  refine (ball_nil _).mono ?_
  rintro e w' ⟨rfl, rfl⟩
  go_wp2_with fail
  refine hi.mono ?_
  rintro e w' ⟨rfl, hb⟩
  go_wp2
  refine bodyPost_ret (v := .tuple #[.int .i64 0, .bool false]) (by simp [results, Try.results18, go_sem]) rfl ⟨rfl, hb⟩
theorem bnews_nil (w : World) : Calls Try.prog 16 #[.pointer none] w fun e w' => (∃ v, e = .returned v) ∧ w' = w := by
  go_enter Try.func16, Try.ntmps16
  go_wp2_with fail
  refine (ball_nil _).mono ?_
  rintro e w' ⟨rfl, rfl⟩
  go_wp2
  refine wp_loop_rounds 2 ?_
  rw [rounds_succ]
  go_wp2
  go_end0
  exact ⟨⟨_, rfl⟩, rfl⟩
theorem bback_any {F : Nat → Prop} {w : World} {p : Nat} {l : List Wt} {o : Int} (k : Int) (h : BK F w p l o) : Calls Try.prog 20 #[.pointer (some ⟨p, 0, none⟩), .int .i64 k] w fun e w' => e = .returned (.bool (backB o k)) ∧ BK F w' p l (backO o k) ∧ Keep F w w' := by
  have ho := bout_any h
  obtain ⟨v, h⟩ := h
  obtain ⟨h0, h1⟩ := h.fields
  have hp := h.pc.lt
  have f1 := h.pc.frozen 1
  by_cases hk : k < 1
  · have hB : backB o k = false := by unfold backB; simp [hk]
    have hR : backO o k = o := by unfold backO; rw [hB]; rfl
    rw [hB, hR]
    clear hB hR
    go_enter Try.func20, Try.ntmps20
    go_wp2
    go_ret
    exact ⟨rfl, ⟨v, h⟩, Keep.refl _ _⟩
  · by_cases he : k = o
    · have hB : backB o k = true := by unfold backB; simp [hk, he]; omega
      have hR : backO o k = 0 := by unfold backO; rw [hB]; rfl
      rw [hB, hR]
      clear hB hR
      have heq : (k == o) = true := by simp [he]
      have hpc := h.pc.set_ 1 (.int .i64 0)
      simp at hpc
      have kk : Keep (fun k => k = p) w (w.setCell ⟨p, 1, none⟩ (.int .i64 0)) := (Keep.refl (fun k => k = p) w).setCell (p := ⟨p, 1, none⟩) (fun _ => rfl) _
      have h2 : BV F (w.setCell ⟨p, 1, none⟩ (.int .i64 0)) p v l 0 := ⟨hpc, h.own.kept kk (fun g hg e => h.ne (by rw [hg, e])), h.ne, h.fp, h.fv⟩
      have kF : Keep F w (w.setCell ⟨p, 1, none⟩ (.int .i64 0)) := kk.mono fun k _ e => by rw [e]; exact h.fp
      clear he kk hpc h
      go_enter Try.func20, Try.ntmps20
      go_wp2_with fail
      refine ho.mono ?_
      rintro e w' ⟨rfl, rfl⟩
      go_wp2
      go_ret
      exact ⟨rfl, ⟨v, h2⟩, kF⟩
    · have hB : backB o k = false := by unfold backB; simp [he]
      have hR : backO o k = o := by unfold backO; rw [hB]; rfl
      rw [hB, hR]
      clear hB hR
      have heq : (k == o) = false := beq_eq_false_iff_ne.2 he
      clear he
      go_enter Try.func20, Try.ntmps20
      go_wp2_with fail
      refine ho.mono ?_
      rintro e w' ⟨rfl, rfl⟩
      go_wp2
      go_ret
      exact ⟨rfl, ⟨v, h⟩, Keep.refl _ _⟩
set_option maxRecDepth 100000 in
set_option maxHeartbeats 1600000 in
theorem bpush_any {F : Nat → Prop} {w : World} {p : Nat} {l : List Wt} {o : Int} (k : Int) (h : BK F w p l o) (hl : l.length ≤ 1048576) : Calls Try.prog 12 #[.pointer (some ⟨p, 0, none⟩), .int .i64 k] w fun e w' => e = .returned (.int .i64 (pushE l k)) ∧ BK (fun k => F k ∨ w.heap.size ≤ k) w' p (pushL l k) o ∧ Keep F w w' := by
  have hp := bplace_any k h hl
  by_cases hk : k < 1
  · have hB : pushE l k = 1 := by unfold pushE; rw [if_pos hk]
    have hR : pushL l k = l := by unfold pushL; rw [hB]; rfl
    rw [hB, hR]
    clear hB hR
    go_enter Try.func12, Try.ntmps12
    go_wp2
    go_ret
    exact ⟨rfl, h.mono fun k _ hk => .inl hk, Keep.refl _ _⟩
  rcases Int.lt_or_le (placeW l k) 0 with hn | hn
  · by_cases hf : 256 ≤ l.length
    · have hB : pushE l k = 2 := by unfold pushE; rw [if_neg hk, if_neg (by omega), if_pos hf]
      have hR : pushL l k = l := by unfold pushL; rw [hB]; rfl
      rw [hB, hR]
      clear hB hR
      obtain ⟨P, hP⟩ : ∃ P, placeW l k = P := ⟨_, rfl⟩
      rw [hP] at hp hn
      have hnn : ¬ 0 ≤ P := by omega
      have hfz : (256 : Int) ≤ (l.length : Int) := by omega
      go_enter Try.func12, Try.ntmps12
      go_wp2_with fail
      refine hp.mono ?_
      rintro e w' ⟨rfl, hb⟩
      have h2 := h.below hb
      obtain ⟨v, h3⟩ := h2
      obtain ⟨h0, h1⟩ := h3.fields
      obtain ⟨A, c, rfl, _⟩ := h3.own.form
      go_wp2
      go_ret
      exact ⟨rfl, ⟨_, h3.mono fun k _ hk => .inl hk⟩, (Keep.of_below hb).mono fun k h1 h2 => by omega⟩
    · have hB : pushE l k = 0 := by unfold pushE; rw [if_neg hk, if_neg (by omega), if_neg hf]
      have hR : pushL l k = l ++ [⟨k, false⟩] := by unfold pushL; rw [hB]; rfl
      obtain ⟨l2, hl2⟩ : ∃ l2, l ++ [(⟨k, false⟩ : Wt)] = l2 := ⟨_, rfl⟩
      rw [hB, hR, hl2]
      clear hB hR
      obtain ⟨P, hP⟩ : ∃ P, placeW l k = P := ⟨_, rfl⟩
      rw [hP] at hp hn
      have hnn : decide (0 ≤ P) = false := decide_eq_false (by omega)
      have hfz : decide ((256 : Int) ≤ (l.length : Int)) = false := decide_eq_false (by omega)
      go_enter Try.func12, Try.ntmps12
      go_wp2_with fail
      refine hp.mono ?_
      rintro e w' ⟨rfl, hb⟩
      have h2 := h.below hb
      obtain ⟨v, h3⟩ := h2
      obtain ⟨h0, h1⟩ := h3.fields
      have f0 := h3.pc.frozen 0
      have hpl := h3.pc.lt
      have h4 := h3.alloc (.cells #[.int .i64 k, .bool false] 60)
      have hn4 := Blk.new w' 60 #[.int .i64 k, .bool false]
      have hb4 := hb.alloc hb.size (.cells #[.int .i64 k, .bool false] 60)
      obtain ⟨A, c, rfl, _⟩ := h3.own.form
      clear h3
      go_wp2_with (at_builtin; refine wpAppWO rfl (.tmp 27) (.tmp 30) rfl 0 (.slice A l.length c) l rfl h4.own ⟨w'.heap.size, 0, none⟩ rfl ⟨k, false⟩ (fun j u hu => by rw [Addr.add_lit, Nat.zero_add, hn4.cell]; simpa [Wt.cs] using hu) (by omega) (Nat.zero_le _) ?_; intro v5 w5 hO5 hK5 e5; rw [hl2] at hO5; obtain ⟨A5, c5, hv5, hx5⟩ := hO5.form; clear hx5; subst hv5; have pc5 := h4.pc.kept hK5 (fun e => h4.ne e); have f5 := pc5.frozen 0; have hpl5 := pc5.lt; have q5 := pc5.cell 0; simp at q5)
      have hpc6 := pc5.set_ 0 (Value.slice A5 l2.length c5)
      simp only [List.setIfInBounds_toArray, List.set_cons_zero] at hpc6
      have hz5 := hK5.size
      have hzb := hb4.size
      have ne5 : (Value.slice A5 l2.length c5).ownBlock ≠ some p := fun e => by
        rcases e5 with e6 | e6
        · exact h4.ne (by rw [← e6, e])
        · rw [e] at e6
          injection e6 with e6
          have := h4.pc.lt
          omega
      have kk : Keep (fun k => k = p) w5 (w5.setCell ⟨p, 0, none⟩ (Value.slice A5 l2.length c5)) := (Keep.refl (fun k => k = p) w5).setCell (p := ⟨p, 0, none⟩) (fun _ => rfl) _
      have h6 : BV (fun k => F k ∨ w.heap.size ≤ k) (w5.setCell ⟨p, 0, none⟩ (Value.slice A5 l2.length c5)) p (Value.slice A5 l2.length c5) l2 o := ⟨hpc6, hO5.kept kk (fun g hg e => ne5 (by rw [hg, e])), ne5, .inl h4.fp, fun g hg => by
        rcases e5 with e6 | e6
        · exact .inl (h4.fv g (by rw [← e6, hg]))
        · rw [hg] at e6
          injection e6 with e6
          right
          omega⟩
      have kF : Keep F w (w5.setCell ⟨p, 0, none⟩ (Value.slice A5 l2.length c5)) := ((((Keep.of_below hb4).mono (fun k h1 h2 => by omega)).trans hK5 (fun i hi e => h4.fv i e))).trans kk (fun i hi e => by rw [e]; exact h4.fp)
      clear hO5 hK5 e5 h4 hn4 pc5 hpc6 kk hb4
      go_wp2
      go_ret
      exact ⟨rfl, ⟨_, h6⟩, kF⟩
  · have hB : pushE l k = 5 := by unfold pushE; rw [if_neg hk, if_pos hn]
    have hR : pushL l k = l := by unfold pushL; rw [hB]; rfl
    rw [hB, hR]
    clear hB hR
    obtain ⟨P, hP⟩ : ∃ P, placeW l k = P := ⟨_, rfl⟩
    rw [hP] at hp hn
    go_enter Try.func12, Try.ntmps12
    go_wp2_with fail
    refine hp.mono ?_
    rintro e w' ⟨rfl, hb⟩
    have h2 := h.below hb
    go_wp2
    go_ret
    exact ⟨rfl, h2.mono fun k _ hk => .inl hk, (Keep.of_below hb).mono fun k h1 h2 => by omega⟩
end Go.Proofs.Ytnkekjaljhpmjaa
