/- Ends: New, Open, Mark, Sent, Send; the same of nil ends. No condition but that an end's bodies lie in memory. -/
import Derived.Test.YtfgceplafjbmhaaLkT
import Derived.Test.YtfgceplafjbmhaaHeldZ
namespace Go.Proofs.Ytfgceplafjbmhaa
open Go.RowKit
set_option linter.unusedVariables false
set_option linter.unusedSimpArgs false

theorem wp_appBO {w : World} {o : Oper} {a : Act} {K : Act → World → Prop} {Q : Exit → Act → World → Prop} (s x : Operand) (ho : o.op = .call { callee := .builtin .append, args := #[s, x], argTypes := #[77, 77] })
    (base : Nat) (v : Value) (l : List Bd) (hs : a.eval s = v) (hown : BO base w v l) (ad : Addr) (hx : a.eval x = .slice (some ad) 1 1) (y : Bd) (hc : ∀ j u, y.cs[j]? = some u → w.cell? (ad.add j) = some u)
    (hn : (l.length + 1) * 40 ≤ 140737488355328) (hbase : base ≤ w.heap.size)
    (h : ∀ v' w', BO base w' v' (l ++ [y]) → Keep (fun k => v.ownBlock = some k) w w' → (v'.ownBlock = v.ownBlock ∨ v'.ownBlock = some w.heap.size) → K (a.put o.dst v') w') : o.wp Try.prog a w K Q := by
  obtain ⟨v', w', hrun, h2, h3, h4⟩ := run_appBO w base o.type v l hown ad y hc hn hbase
  unfold Oper.wp execOp
  simp only [ho, resolve, invoke, builtin, Sem.run_bind, Sem.run_pure, Result.andThen_ok, List.map_toArray, List.map_cons, List.map_nil, hs, hx, hrun]
  exact h v' w' h2 h3 h4

theorem lnew_any (w : World) : Calls Try.prog 11 #[] w fun e w' => e = .returned (.pointer (some ⟨w.heap.size, 0, none⟩)) ∧ ES w.heap.size w' w.heap.size 0 0 (.slice none 0 0) [] ∧ Below w.heap.size w w' := by
  go_enter Try.func11, Try.ntmps11
  go_wp2
  go_ret
  exact ⟨rfl, ⟨Blk.new w _ _, BO.nil _ _, by simp [Value.ownBlock], Nat.le_refl _⟩, (Below.refl w.heap.size w).alloc (Nat.le_refl _) _⟩
theorem ES.fields {base : Nat} {w : World} {p : Nat} {sent mark : Int} {v : Value} {l : List Bd} (h : ES base w p sent mark v l) : w.cell? ⟨p, 0, none⟩ = some (.int .i64 sent) ∧ w.cell? ⟨p, 1, none⟩ = some (.int .i64 mark) ∧ w.cell? ⟨p, 2, none⟩ = some v := by
  have h0 := h.pc.cell 0
  have h1 := h.pc.cell 1
  have h2 := h.pc.cell 2
  simp at h0 h1 h2
  exact ⟨h0, h1, h2⟩
section
variable {base : Nat} {w : World} {p : Nat} {sent mark : Int} {v : Value} {l : List Bd}
theorem open_any (h : ES base w p sent mark v l) : Calls Try.prog 20 #[.pointer (some ⟨p, 0, none⟩)] w fun e w' => e = .returned (.int .i64 (l.length : Nat)) ∧ w' = w := by
  obtain ⟨h0, h1, h2⟩ := h.fields
  obtain ⟨A, cap, rfl, _⟩ := h.own.form
  go_enter Try.func20, Try.ntmps20
  go_wp2
  go_ret
  exact ⟨rfl, rfl⟩
theorem mark_any (h : ES base w p sent mark v l) : Calls Try.prog 21 #[.pointer (some ⟨p, 0, none⟩)] w fun e w' => e = .returned (.int .i64 mark) ∧ w' = w := by
  obtain ⟨h0, h1, h2⟩ := h.fields
  go_enter Try.func21, Try.ntmps21
  go_wp2
  go_ret
  exact ⟨rfl, rfl⟩
theorem sent_any (h : ES base w p sent mark v l) : Calls Try.prog 22 #[.pointer (some ⟨p, 0, none⟩)] w fun e w' => e = .returned (.int .i64 sent) ∧ w' = w := by
  obtain ⟨h0, h1, h2⟩ := h.fields
  go_enter Try.func22, Try.ntmps22
  go_wp2
  go_ret
  exact ⟨rfl, rfl⟩
end
theorem open_nil (w : World) : Calls Try.prog 20 #[.pointer none] w fun e w' => e = .returned (.int .i64 0) ∧ w' = w := by
  go_enter Try.func20, Try.ntmps20
  go_wp2
  go_ret
  exact ⟨rfl, rfl⟩
theorem mark_nil (w : World) : Calls Try.prog 21 #[.pointer none] w fun e w' => e = .returned (.int .i64 0) ∧ w' = w := by
  go_enter Try.func21, Try.ntmps21
  go_wp2
  go_ret
  exact ⟨rfl, rfl⟩
theorem sent_nil (w : World) : Calls Try.prog 22 #[.pointer none] w fun e w' => e = .returned (.int .i64 0) ∧ w' = w := by
  go_enter Try.func22, Try.ntmps22
  go_wp2
  go_ret
  exact ⟨rfl, rfl⟩
def pkN : Value := .agg #[.int .i64 0, .int .i64 0, .slice none 0 0]
theorem send_nil (A : Option Addr) (n c : Nat) (now : Int) (w : World) : Calls Try.prog 13 #[.pointer none, .slice A n c, .int .i64 now] w fun e w' => e = .returned (.tuple #[pkN, .int .i64 6]) ∧ Below w.heap.size w w' := by
  go_enter Try.func13, Try.ntmps13
  go_wp2
  refine bodyPost_ret (v := .tuple #[pkN, .int .i64 6]) (by simp [results, Try.results13, go_sem, pkN]) rfl ⟨rfl, (Below.refl _ _).alloc (Nat.le_refl _) _⟩
theorem send_long (p : Nat) (A : Option Addr) (n c : Nat) (now : Int) (w : World) (h : 2048 < n) (hn : n ≤ 9223372036854775807) : Calls Try.prog 13 #[.pointer (some ⟨p, 0, none⟩), .slice A n c, .int .i64 now] w fun e w' => e = .returned (.tuple #[pkN, .int .i64 3]) ∧ Below w.heap.size w w' := by
  have hz : (2048 : Int) < (n : Int) := by omega
  go_enter Try.func13, Try.ntmps13
  go_wp2
  refine bodyPost_ret (v := .tuple #[pkN, .int .i64 3]) (by simp [results, Try.results13, go_sem, pkN]) rfl ⟨rfl, (Below.refl _ _).alloc (Nat.le_refl _) _⟩
theorem send_full {base : Nat} {p : Nat} {sent mark : Int} {v : Value} {l : List Bd} (A : Option Addr) (n c : Nat) (now : Int) (w : World) (h : n ≤ 2048) (hE : ES base w p sent mark v l) (hf : 64 ≤ l.length ∨ sent = 9223372036854775807) (hll : l.length ≤ 9223372036854775807) : Calls Try.prog 13 #[.pointer (some ⟨p, 0, none⟩), .slice A n c, .int .i64 now] w fun e w' => e = .returned (.tuple #[pkN, .int .i64 2]) ∧ Below w.heap.size w w' := by
  have hz : ¬ (2048 : Int) < (n : Int) := by omega
  have hpl := hE.pc.lt
  obtain ⟨h0, h1, h2⟩ := hE.fields
  obtain ⟨B, cap, rfl, _⟩ := hE.own.form
  by_cases h64 : 64 ≤ l.length
  · have hz64 : (64 : Int) ≤ (l.length : Int) := by omega
    clear hf
    go_enter Try.func13, Try.ntmps13
    go_wp2
    refine bodyPost_ret (v := .tuple #[pkN, .int .i64 2]) (by simp [results, Try.results13, go_sem, pkN]) rfl ⟨rfl, (Below.refl _ _).alloc (Nat.le_refl _) _⟩
  · have hz64 : ¬ (64 : Int) ≤ (l.length : Int) := by omega
    have hs : (sent == 9223372036854775807) = true := by rcases hf with hf | hf <;> simp; omega; exact hf
    clear hf
    go_enter Try.func13, Try.ntmps13
    go_wp2
    refine bodyPost_ret (v := .tuple #[pkN, .int .i64 2]) (by simp [results, Try.results13, go_sem, pkN]) rfl ⟨rfl, (Below.refl _ _).alloc (Nat.le_refl _) _⟩

theorem RB.kept_ne {S : Nat → Prop} {w w' : World} {A : Option Addr} {n : Nat} {l : List UInt8} (h : RB w A n l) (k : Keep S w w') (hs : ∀ ad, A = some ad → 0 < n → ¬ S ad.block) : RB w' A n l :=
  ⟨h.1, fun hn => by
    obtain ⟨b, off, e, hc⟩ := h.2 hn
    exact ⟨b, off, e, fun j x hx => k.cell (hc j x hx) (hs ⟨b, off, none⟩ e hn)⟩⟩
/-- Bytes do not lie in an end's block. -/
theorem RB.past_end {base : Nat} {w w' : World} {p : Nat} {sent mark : Int} {v : Value} {l : List Bd} {A : Option Addr} {n : Nat} {b : List UInt8} (h : RB w A n b) (hE : ES base w p sent mark v l) (k : Keep (fun k => k = p) w w') : RB w' A n b :=
  ⟨h.1, fun hn => by
    obtain ⟨g, off, e, hc⟩ := h.2 hn
    refine ⟨g, off, e, fun j x hx => k.cell (hc j x hx) ?_⟩
    rintro rfl
    have hcj := hc j x hx
    rw [hE.pc.cell] at hcj
    obtain ⟨B, cap, rfl, _⟩ := hE.own.form
    match hi : off + j with
    | 0 => rw [hi] at hcj; simp [bv] at hcj
    | 1 => rw [hi] at hcj; simp [bv] at hcj
    | 2 => rw [hi] at hcj; simp [bv] at hcj
    | i + 3 => rw [hi] at hcj; simp at hcj⟩
/-- What Send answers of one that goes. -/
def SendPost (base : Nat) (w : World) (p : Nat) (sent mark now : Int) (v : Value) (l : List Bd) (text : List UInt8) (e : Ending) (w' : World) : Prop :=
  ∃ v' x, e = .returned (.tuple #[.agg #[.int .i64 (sent + 1), .int .i64 mark, x], .int .i64 0]) ∧ ES base w' p (sent + 1) mark v' (l ++ [newB (sent + 1) text now]) ∧ OB w.heap.size w' x text ∧ Keep (fun k => k = p ∨ v.ownBlock = some k) w w' ∧ (v'.ownBlock = v.ownBlock ∨ ∃ n, v'.ownBlock = some n ∧ w.heap.size ≤ n)
set_option maxRecDepth 100000 in
set_option maxHeartbeats 3200000 in
theorem send_any {base : Nat} {p : Nat} {sent mark : Int} {v : Value} {l : List Bd} (A : Option Addr) (n c : Nat) (text : List UInt8) (now : Int) (w : World) (h : n ≤ 2048) (hr : RB w A n text) (hal : ∀ ad, A = some ad → 0 < n → v.ownBlock ≠ some ad.block) (hE : ES base w p sent mark v l) (hl64 : l.length < 64) (hs0 : 0 ≤ sent) (hs1 : sent < 9223372036854775807) (hn0 : -9223372036854775808 ≤ now) (hn1 : now ≤ 9223372036854775807) :
    Calls Try.prog 13 #[.pointer (some ⟨p, 0, none⟩), .slice A n c, .int .i64 now] w (SendPost base w p sent mark now v l text) := by
  have hz : ¬ (2048 : Int) < (n : Int) := by omega
  have hpl := hE.pc.lt
  have hbp := hE.bp
  have hvp := hE.ne
  obtain ⟨h0, h1, h2⟩ := hE.fields
  have hpc := hE.pc
  have hown := hE.own
  have hlt := hown.lt
  obtain ⟨B, cap, rfl, _⟩ := hown.form
  obtain ⟨N, hN⟩ : ∃ N, l.length = N := ⟨_, rfl⟩
  rw [hN] at h2 hl64 hown hlt hvp hal ⊢
  have htl : text.length ≤ 2048 := by rw [hr.1]; exact h
  have hz64 : ¬ (64 : Int) ≤ (N : Int) := by omega
  have hsn : (sent == 9223372036854775807) = false := beq_eq_false_iff_ne.2 (by omega)
  have hs2 : sent + 1 ≤ 9223372036854775807 := by omega
  have f0 := hE.pc.frozen 0
  have k2 : Keep (fun k => k = p) w ((w.setCell ⟨p, 0, none⟩ (.int .i64 (sent + 1))).alloc (.cells #[.int .i64 0, .int .i64 0, .slice none 0 0] 32)) := ((Keep.refl (fun k => k = p) w).setCell (p := ⟨p, 0, none⟩) (fun _ => rfl) _).alloc _
  have k2' : Keep (fun k => k = p) w (w.setCell ⟨p, 0, none⟩ (.int .i64 (sent + 1))) := (Keep.refl (fun k => k = p) w).setCell (p := ⟨p, 0, none⟩) (fun _ => rfl) _
  have pc2' := hE.pc.set_ 0 (.int .i64 (sent + 1))
  have pc2 := pc2'.alloc (.cells #[.int .i64 0, .int .i64 0, .slice none 0 0] 32)
  simp at pc2
  have hz2 : (w.setCell ⟨p, 0, none⟩ (.int .i64 (sent + 1))).heap.size = w.heap.size := by simp [World.setCell]
  have q2 := Blk.new (w.setCell ⟨p, 0, none⟩ (.int .i64 (sent + 1))) 32 #[.int .i64 0, .int .i64 0, .slice none 0 0]
  rw [hz2] at q2
  have o2 := hown.kept k2 (fun g hg e => hvp (by rw [hg, e]))
  have r2 := hr.past_end hE k2
  go_enter Try.func13, Try.ntmps13
  go_wp2_with fail
  rw [hN] at pc2
  obtain ⟨M, hM⟩ : ∃ M, N + 1 = M := ⟨_, rfl⟩
  have hw2 := k2.size
  have hq2 := q2.lt
  generalize (w.setCell ⟨p, 0, none⟩ (.int .i64 (sent + 1))).alloc (.cells #[.int .i64 0, .int .i64 0, .slice none 0 0] 32) = W2 at k2 pc2 q2 o2 r2 hw2 hq2 ⊢
  have cv2 := run_str W2.drew A n c text r2.drew
  have m20 := pc2.drew.cell 0
  have m22 := pc2.drew.cell 2
  simp at m20 m22
  clear f0 k2' pc2' hz2 hpc h0 h1 h2 hE hown hr
  refine wp_region_z (S := (fun w' => w'.cell? ⟨p, 0, none⟩ = some (.int .i64 (sent + 1)) ∧ w'.cell? ⟨p, 2, none⟩ = some (.slice B N cap) ∧ (convert 30 9 (.slice A n c)).run Try.prog w' = .ok (.string ⟨text.toArray⟩) w')) 16 (by kernel_rfl) ⟨m20, m22, cv2⟩ (fun hHeld => ?_)
  refine wpAnyZ_take (i := 0) (oi := ?oi0R9) (u := ?v0R9) ?hi0R9 (by kernel_rfl) (by decide) (by kernel_rfl) (by kernel_rfl) (by kernel_rfl) ?hq0R9 (Or.inl ⟨?hw0R9, ?hy0R9⟩) (by assumption) ?rest0R9
  case hi0R9 => (simp only [List.getElem?_toArray, List.getElem?_cons_succ, List.getElem?_cons_zero]; rfl)
  case hq0R9 => exact fun _ _ _ h => h
  case hw0R9 => rfl
  case hy0R9 => (intro w hSw; (try dsimp only at hSw); go_simp <;> with_reducible rfl)
  try simp only [Act.put, List.setIfInBounds_toArray, List.set_cons_zero, List.set_cons_succ]
  refine wpAnyZ_take (i := 1) (oi := ?oi1R9) (u := ?v1R9) ?hi1R9 (by kernel_rfl) (by decide) (by kernel_rfl) (by kernel_rfl) (by kernel_rfl) ?hq1R9 (Or.inl ⟨?hw1R9, ?hy1R9⟩) (by assumption) ?rest1R9
  case hi1R9 => (simp only [List.getElem?_toArray, List.getElem?_cons_succ, List.getElem?_cons_zero]; rfl)
  case hq1R9 => exact fun _ _ _ h => h
  case hw1R9 => rfl
  case hy1R9 => (intro w hSw; (try dsimp only at hSw); go_simp <;> with_reducible rfl)
  try simp only [Act.put, List.setIfInBounds_toArray, List.set_cons_zero, List.set_cons_succ]
  refine wpAnyZ_take (i := 2) (oi := ?oi2R9) (u := ?v2R9) ?hi2R9 (by kernel_rfl) (by decide) (by kernel_rfl) (by kernel_rfl) (by kernel_rfl) ?hq2R9 (Or.inl ⟨?hw2R9, ?hy2R9⟩) (by assumption) ?rest2R9
  case hi2R9 => (simp only [List.getElem?_toArray, List.getElem?_cons_succ, List.getElem?_cons_zero]; rfl)
  case hq2R9 => exact fun _ _ _ h => h
  case hw2R9 => rfl
  case hy2R9 => (intro w hSw; (try dsimp only at hSw); go_simp <;> with_reducible rfl)
  try simp only [Act.put, List.setIfInBounds_toArray, List.set_cons_zero, List.set_cons_succ]
  refine wpAnyZ_take (i := 3) (oi := ?oi3R9) (u := ?v3R9) ?hi3R9 (by kernel_rfl) (by decide) (by kernel_rfl) (by kernel_rfl) (by kernel_rfl) ?hq3R9 (Or.inl ⟨?hw3R9, ?hy3R9⟩) (by assumption) ?rest3R9
  case hi3R9 => (simp only [List.getElem?_toArray, List.getElem?_cons_succ, List.getElem?_cons_zero]; rfl)
  case hq3R9 => exact fun _ _ _ h => h
  case hw3R9 => rfl
  case hy3R9 => (intro w hSw; (try dsimp only at hSw); go_simp <;> with_reducible rfl)
  try simp only [Act.put, List.setIfInBounds_toArray, List.set_cons_zero, List.set_cons_succ]
  refine wpAnyZ_take (i := 4) (oi := ?oi4R9) (u := ?v4R9) ?hi4R9 (by kernel_rfl) (by decide) (by kernel_rfl) (by kernel_rfl) (by kernel_rfl) ?hq4R9 (Or.inl ⟨?hw4R9, ?hy4R9⟩) (by assumption) ?rest4R9
  case hi4R9 => (simp only [List.getElem?_toArray, List.getElem?_cons_succ, List.getElem?_cons_zero]; rfl)
  case hq4R9 => exact fun _ _ _ h => h
  case hw4R9 => rfl
  case hy4R9 => (intro w hSw; (try dsimp only at hSw); go_simp <;> with_reducible rfl)
  try simp only [Act.put, List.setIfInBounds_toArray, List.set_cons_zero, List.set_cons_succ]
  refine wpAnyZ_take (i := 5) (oi := ?oi5R9) (u := ?v5R9) ?hi5R9 (by kernel_rfl) (by decide) (by kernel_rfl) (by kernel_rfl) (by kernel_rfl) ?hq5R9 (Or.inl ⟨?hw5R9, ?hy5R9⟩) (by assumption) ?rest5R9
  case hi5R9 => (simp only [List.getElem?_toArray, List.getElem?_cons_succ, List.getElem?_cons_zero]; rfl)
  case hq5R9 => exact fun _ _ _ h => h
  case hw5R9 => rfl
  case hy5R9 => (intro w hSw; (try dsimp only at hSw); go_simp <;> with_reducible rfl)
  try simp only [Act.put, List.setIfInBounds_toArray, List.set_cons_zero, List.set_cons_succ]
  refine wpAnyZ_take (i := 6) (oi := ?oi6R9) (u := ?v6R9) ?hi6R9 (by kernel_rfl) (by decide) (by kernel_rfl) (by kernel_rfl) (by kernel_rfl) ?hq6R9 (Or.inl ⟨?hw6R9, ?hy6R9⟩) (by assumption) ?rest6R9
  case hi6R9 => (simp only [List.getElem?_toArray, List.getElem?_cons_succ, List.getElem?_cons_zero]; rfl)
  case hq6R9 => exact fun _ _ _ h => h
  case hw6R9 => rfl
  case hy6R9 => (intro w hSw; (try dsimp only at hSw); go_simp <;> with_reducible rfl)
  try simp only [Act.put, List.setIfInBounds_toArray, List.set_cons_zero, List.set_cons_succ]
  refine wpAnyZ_take (i := 7) (oi := ?oi7R9) (u := ?v7R9) ?hi7R9 (by kernel_rfl) (by decide) (by kernel_rfl) (by kernel_rfl) (by kernel_rfl) ?hq7R9 (Or.inl ⟨?hw7R9, ?hy7R9⟩) (by assumption) ?rest7R9
  case hi7R9 => (simp only [List.getElem?_toArray, List.getElem?_cons_succ, List.getElem?_cons_zero]; rfl)
  case hq7R9 => exact fun _ _ _ h => h
  case hw7R9 => rfl
  case hy7R9 => (intro w hSw; (try dsimp only at hSw); go_simp <;> with_reducible rfl)
  try simp only [Act.put, List.setIfInBounds_toArray, List.set_cons_zero, List.set_cons_succ]
  refine wpAnyZ_take (i := 8) (oi := ?oi8R9) (u := ?v8R9) ?hi8R9 (by kernel_rfl) (by decide) (by kernel_rfl) (by kernel_rfl) (by kernel_rfl) ?hq8R9 (Or.inl ⟨?hw8R9, ?hy8R9⟩) (by assumption) ?rest8R9
  case hi8R9 => (simp only [List.getElem?_toArray, List.getElem?_cons_succ, List.getElem?_cons_zero]; rfl)
  case hq8R9 => exact fun _ _ _ h => h
  case hw8R9 => rfl
  case hy8R9 => (intro w hSw; (try dsimp only at hSw); go_simp <;> with_reducible rfl)
  try simp only [Act.put, List.setIfInBounds_toArray, List.set_cons_zero, List.set_cons_succ]
  refine wpAnyZ_take (i := 9) (oi := ?oi9R9) (u := ?v9R9) ?hi9R9 (by kernel_rfl) (by decide) (by kernel_rfl) (by kernel_rfl) (by kernel_rfl) ?hq9R9 (Or.inl ⟨?hw9R9, ?hy9R9⟩) (by assumption) ?rest9R9
  case hi9R9 => (simp only [List.getElem?_toArray, List.getElem?_cons_succ, List.getElem?_cons_zero]; rfl)
  case hq9R9 => exact fun _ _ _ h => h
  case hw9R9 => rfl
  case hy9R9 => (intro w hSw; (try dsimp only at hSw); go_simp <;> with_reducible rfl)
  try simp only [Act.put, List.setIfInBounds_toArray, List.set_cons_zero, List.set_cons_succ]
  refine wpAnyZ_take (i := 10) (oi := ?oi10R9) (u := ?v10R9) ?hi10R9 (by kernel_rfl) (by decide) (by kernel_rfl) (by kernel_rfl) (by kernel_rfl) ?hq10R9 (Or.inl ⟨?hw10R9, ?hy10R9⟩) (by assumption) ?rest10R9
  case hi10R9 => (simp only [List.getElem?_toArray, List.getElem?_cons_succ, List.getElem?_cons_zero]; rfl)
  case hq10R9 => exact fun _ _ _ h => h
  case hw10R9 => rfl
  case hy10R9 => (intro w hSw; (try dsimp only at hSw); go_simp <;> with_reducible rfl)
  try simp only [Act.put, List.setIfInBounds_toArray, List.set_cons_zero, List.set_cons_succ]
  refine wpAnyZ_take (i := 11) (oi := ?oi11R9) (u := ?v11R9) ?hi11R9 (by kernel_rfl) (by decide) (by kernel_rfl) (by kernel_rfl) (by kernel_rfl) ?hq11R9 (Or.inl ⟨?hw11R9, ?hy11R9⟩) (by assumption) ?rest11R9
  case hi11R9 => (simp only [List.getElem?_toArray, List.getElem?_cons_succ, List.getElem?_cons_zero]; rfl)
  case hq11R9 => exact fun _ _ _ h => h
  case hw11R9 => rfl
  case hy11R9 => (intro w hSw; (try dsimp only at hSw); go_simp <;> with_reducible rfl)
  try simp only [Act.put, List.setIfInBounds_toArray, List.set_cons_zero, List.set_cons_succ]
  refine wpAnyZ_one (i := 12) (o := ?o12R9) (by kernel_rfl) ?hi12R9 (fun K hK => ?st12R9)
  case hi12R9 => (simp only [List.getElem?_toArray, List.getElem?_cons_succ, List.getElem?_cons_zero]; rfl)
  go_simp
  have pcA := (pc2.alloc (.cells #[.int .i64 (sent + 1), .string ⟨text.toArray⟩, .int .i64 0, .int .i64 0] 81)).drew
  have oA := (o2.alloc (.cells #[.int .i64 (sent + 1), .string ⟨text.toArray⟩, .int .i64 0, .int .i64 0] 81)).drew
  have rA := (r2.alloc (.cells #[.int .i64 (sent + 1), .string ⟨text.toArray⟩, .int .i64 0, .int .i64 0] 81)).drew
  have qA := (q2.alloc (.cells #[.int .i64 (sent + 1), .string ⟨text.toArray⟩, .int .i64 0, .int .i64 0] 81)).drew
  have kA := (k2.alloc (.cells #[.int .i64 (sent + 1), .string ⟨text.toArray⟩, .int .i64 0, .int .i64 0] 81)).drew
  have nA := (Blk.new W2 81 #[.int .i64 (sent + 1), .string ⟨text.toArray⟩, .int .i64 0, .int .i64 0]).drew
  have cvA := run_str _ A n c text rA
  have mA0 := pcA.cell 0
  have mA2 := pcA.cell 2
  simp at mA0 mA2
  refine hK.out _ _ (fun _ => ⟨mA0, mA2, cvA⟩) (fun hHeld2 => ?_)
  clear hK K hHeld
  have hHeld := hHeld2 (by decide)
  clear hHeld2
  try simp only [Act.put, List.setIfInBounds_toArray, List.set_cons_zero, List.set_cons_succ]
  refine wpAnyZ_one (i := 13) (o := ?o13R9) (by kernel_rfl) ?hi13R9 (fun K hK => ?st13R9)
  case hi13R9 => (simp only [List.getElem?_toArray, List.getElem?_cons_succ, List.getElem?_cons_zero]; rfl)
  rw [if_pos (by rfl)]
  refine wp_appBO (.tmp 41) (.tmp 49) rfl base (.slice B N cap) l rfl oA ⟨W2.heap.size, 0, none⟩ rfl ⟨sent + 1, text, 0, 0⟩ (fun j u hu => by rw [Addr.add_lit, Nat.zero_add, nA.cell]; simpa [Bd.cs] using hu) (by omega) (by have := nA.lt; omega) ?_
  intro v4 W4 o4 k4 e4
  have hlen4 : (l ++ [(⟨sent + 1, text, 0, 0⟩ : Bd)]).length = M := by rw [List.length_append, hN]; exact hM
  obtain ⟨B4, c4, hf4, hl4, hm4, hA4, hn4, _⟩ := o4.form
  rw [hlen4] at hf4
  subst hf4
  rcases B4 with _ | ad4
  · exact absurd (hn4 rfl).1 (by simp)
  obtain ⟨g4, rfl, hg4b, hg4l, hg4o⟩ := hA4 ad4 rfl
  clear hA4 hn4 hl4 hm4
  have hzA := nA.lt
  have pc4 := pcA.kept k4 hvp
  have q4 := qA.kept k4 (fun e => by have := (hlt _ e).2; omega)
  have r4 := rA.kept_ne k4 hal
  have cv4 := run_str _ A n c text r4
  have mB0 := pc4.cell 0
  have mB2 := pc4.cell 2
  simp at mB0 mB2
  have kk4 := kA.mono (T := fun k => k = p ∨ (Value.slice B N cap).ownBlock = some k) (fun _ _ e => Or.inl e) |>.trans k4 (fun i hi e => Or.inr e)
  have hg4s : (Value.slice B N cap).ownBlock = some g4 ∨ W2.heap.size < g4 := by
    rcases e4 with e4 | e4
    · exact Or.inl (by rw [← e4]; rfl)
    · have e4 : some g4 = some _ := e4
      injection e4 with e4
      right; omega
  have hg4p : g4 ≠ p := by
    intro e
    rcases hg4s with h | h
    · exact hvp (by rw [h, e])
    · omega
  have hg4q : g4 ≠ w.heap.size := by
    intro e
    rcases hg4s with h | h
    · have := (hlt _ h).2; omega
    · omega
  have hg4n : (Value.slice B N cap).ownBlock = some g4 ∨ w.heap.size ≤ g4 := hg4s.imp id (fun h => by omega)
  refine hK.out _ _ (fun _ => ⟨mB0, mB2, cv4⟩) (fun hHeld2 => ?_)
  clear hK K hHeld
  have hHeld := hHeld2 (by decide)
  clear hHeld2
  try simp only [Act.put, List.setIfInBounds_toArray, List.set_cons_zero, List.set_cons_succ]
  refine wpAnyZ_one (i := 14) (o := ?o14R9) (by kernel_rfl) ?hi14R9 (fun K hK => ?st14R9)
  case hi14R9 => (simp only [List.getElem?_toArray, List.getElem?_cons_succ, List.getElem?_cons_zero]; rfl)
  go_simp
  refine hK.out _ _ (fun _ => ⟨mB0, mB2, cv4⟩) (fun hHeld2 => ?_)
  clear hK K hHeld
  have hHeld := hHeld2 (by decide)
  clear hHeld2
  try simp only [Act.put, List.setIfInBounds_toArray, List.set_cons_zero, List.set_cons_succ]
  refine wpAnyZ_one (i := 15) (o := ?o15R9) (by kernel_rfl) ?hi15R9 (fun K hK => ?st15R9)
  case hi15R9 => (simp only [List.getElem?_toArray, List.getElem?_cons_succ, List.getElem?_cons_zero]; rfl)
  go_simp
  refine hK.out _ _ (fun _ => ⟨mB0, mB2, cv4⟩) (fun hHeld2 => ?_)
  clear hK K hHeld
  have hHeld := hHeld2 (by decide)
  clear hHeld2
  try simp only [Act.put, List.setIfInBounds_toArray, List.set_cons_zero, List.set_cons_succ]
  refine wpAnyZ_one (i := 16) (o := ?o16R9) (by kernel_rfl) ?hi16R9 (fun K hK => ?st16R9)
  case hi16R9 => (simp only [List.getElem?_toArray, List.getElem?_cons_succ, List.getElem?_cons_zero]; rfl)
  go_simp
  have hFz := fun i => pc4.frozen i
  go_simp
  have kS : Keep (fun k => k = p) W4 (W4.setCell ⟨p, 2, none⟩ (.slice (some ⟨g4, 0, none⟩) M c4)) := (Keep.refl (fun k => k = p) W4).setCell (p := ⟨p, 2, none⟩) (fun _ => rfl) _
  have pc5 := pc4.set_ 2 (.slice (some ⟨g4, 0, none⟩) M c4)
  simp at pc5
  generalize W4.setCell ⟨p, 2, none⟩ (.slice (some ⟨g4, 0, none⟩) M c4) = W5 at kS pc5 ⊢
  have o5 := o4.kept kS (fun q hq e => by simp [Value.ownBlock] at hq; omega)
  have q5 := q4.kept kS (by omega)
  have kk5 := kk4.trans kS (fun i hi e => Or.inl e)
  clear hFz
  refine hK.out _ _ (fun h => absurd rfl h) (fun hHeld2 => ?_)
  clear hK K hHeld
  clear hHeld2
  try simp only [Act.put, List.setIfInBounds_toArray, List.set_cons_zero, List.set_cons_succ]
  refine wpAnyZ_done (by kernel_rfl) ?_ _
  go_wp2_with fail
  have hw1 : IntKind.i64.wrap ((M : Int) - 1) = (N : Int) := by rw [IntWalk.i64_in _ (by omega)]; omega
  have hNM : (N : Int) < (M : Int) := by omega
  have hN0 : (0 : Int) ≤ (N : Int) := by omega
  have m52 := pc5.drew.cell 2
  simp at m52
  have hjN : (l ++ [(⟨sent + 1, text, 0, 0⟩ : Bd)])[N]? = some ⟨sent + 1, text, 0, 0⟩ := by rw [← hN]; simp
  have hset : (l ++ [(⟨sent + 1, text, 0, 0⟩ : Bd)]).set N (triedB now ⟨sent + 1, text, 0, 0⟩) = l ++ [newB (sent + 1) text now] := by
    rw [← hN, List.set_append_right _ _ (Nat.le_refl _), Nat.sub_self, List.set_cons_zero]
    rfl
  clear pcA oA rA qA kA nA cvA mA0 mA2 o4 k4 e4 pc4 q4 r4 cv4 mB0 mB2 kk4 k2 pc2 q2 o2 r2 cv2 m20 m22 kS hM
  refine wp_region_held_drew (S := (fun w' => w'.cell? ⟨p, 2, none⟩ = some (.slice (some ⟨g4, 0, none⟩) M c4))) (by kernel_rfl) m52 (fun hHeld => ?_)
  refine wpAnyH_take (i := 0) (oi := ?oi0R10) (v := ?v0R10) ?hi0R10 (by kernel_rfl) (by kernel_rfl) (by kernel_rfl) ?hq0R10 (Or.inl ⟨?hw0R10, ?hy0R10⟩) (by assumption) ?rest0R10
  case hi0R10 => (simp only [List.getElem?_toArray, List.getElem?_cons_succ, List.getElem?_cons_zero]; rfl)
  case hq0R10 => exact fun _ _ _ h => h
  case hw0R10 => rfl
  case hy0R10 => (intro w hSw; (try dsimp only at hSw); go_simp <;> with_reducible rfl)
  try simp only [Act.put, List.setIfInBounds_toArray, List.set_cons_zero, List.set_cons_succ]
  refine wpAnyH_take (i := 1) (oi := ?oi1R10) (v := ?v1R10) ?hi1R10 (by kernel_rfl) (by kernel_rfl) (by kernel_rfl) ?hq1R10 (Or.inl ⟨?hw1R10, ?hy1R10⟩) (by assumption) ?rest1R10
  case hi1R10 => (simp only [List.getElem?_toArray, List.getElem?_cons_succ, List.getElem?_cons_zero]; rfl)
  case hq1R10 => exact fun _ _ _ h => h
  case hw1R10 => rfl
  case hy1R10 => (intro w hSw; (try dsimp only at hSw); go_simp <;> with_reducible rfl)
  try simp only [Act.put, List.setIfInBounds_toArray, List.set_cons_zero, List.set_cons_succ]
  refine wpAnyH_take (i := 2) (oi := ?oi2R10) (v := ?v2R10) ?hi2R10 (by kernel_rfl) (by kernel_rfl) (by kernel_rfl) ?hq2R10 (Or.inl ⟨?hw2R10, ?hy2R10⟩) (by assumption) ?rest2R10
  case hi2R10 => (simp only [List.getElem?_toArray, List.getElem?_cons_succ, List.getElem?_cons_zero]; rfl)
  case hq2R10 => exact fun _ _ _ h => h
  case hw2R10 => rfl
  case hy2R10 => (intro w hSw; (try dsimp only at hSw); go_simp <;> with_reducible rfl)
  try simp only [Act.put, List.setIfInBounds_toArray, List.set_cons_zero, List.set_cons_succ]
  refine wpAnyH_take (i := 3) (oi := ?oi3R10) (v := ?v3R10) ?hi3R10 (by kernel_rfl) (by kernel_rfl) (by kernel_rfl) ?hq3R10 (Or.inl ⟨?hw3R10, ?hy3R10⟩) (by assumption) ?rest3R10
  case hi3R10 => (simp only [List.getElem?_toArray, List.getElem?_cons_succ, List.getElem?_cons_zero]; rfl)
  case hq3R10 => exact fun _ _ _ h => h
  case hw3R10 => rfl
  case hy3R10 => (intro w hSw; (try dsimp only at hSw); go_simp <;> with_reducible rfl)
  try simp only [Act.put, List.setIfInBounds_toArray, List.set_cons_zero, List.set_cons_succ]
  refine wpAnyH_take (i := 4) (oi := ?oi4R10) (v := ?v4R10) ?hi4R10 (by kernel_rfl) (by kernel_rfl) (by kernel_rfl) ?hq4R10 (Or.inl ⟨?hw4R10, ?hy4R10⟩) (by assumption) ?rest4R10
  case hi4R10 => (simp only [List.getElem?_toArray, List.getElem?_cons_succ, List.getElem?_cons_zero]; rfl)
  case hq4R10 => exact fun _ _ _ h => h
  case hw4R10 => rfl
  case hy4R10 => (intro w hSw; (try dsimp only at hSw); go_simp <;> with_reducible rfl)
  try simp only [Act.put, List.setIfInBounds_toArray, List.set_cons_zero, List.set_cons_succ]
  refine wpAnyH_take (i := 5) (oi := ?oi5R10) (v := ?v5R10) ?hi5R10 (by kernel_rfl) (by kernel_rfl) (by kernel_rfl) ?hq5R10 (Or.inl ⟨?hw5R10, ?hy5R10⟩) (by assumption) ?rest5R10
  case hi5R10 => (simp only [List.getElem?_toArray, List.getElem?_cons_succ, List.getElem?_cons_zero]; rfl)
  case hq5R10 => exact fun _ _ _ h => h
  case hw5R10 => rfl
  case hy5R10 => (intro w hSw; (try dsimp only at hSw); go_simp <;> with_reducible rfl)
  try simp only [Act.put, List.setIfInBounds_toArray, List.set_cons_zero, List.set_cons_succ]
  refine wpAnyH_take (i := 6) (oi := ?oi6R10) (v := ?v6R10) ?hi6R10 (by kernel_rfl) (by kernel_rfl) (by kernel_rfl) ?hq6R10 (Or.inl ⟨?hw6R10, ?hy6R10⟩) (by assumption) ?rest6R10
  case hi6R10 => (simp only [List.getElem?_toArray, List.getElem?_cons_succ, List.getElem?_cons_zero]; rfl)
  case hq6R10 => exact fun _ _ _ h => h
  case hw6R10 => rfl
  case hy6R10 => (intro w hSw; (try dsimp only at hSw); go_simp <;> with_reducible rfl)
  try simp only [Act.put, List.setIfInBounds_toArray, List.set_cons_zero, List.set_cons_succ]
  refine wpAnyH_take (i := 7) (oi := ?oi7R10) (v := ?v7R10) ?hi7R10 (by kernel_rfl) (by kernel_rfl) (by kernel_rfl) ?hq7R10 (Or.inl ⟨?hw7R10, ?hy7R10⟩) (by assumption) ?rest7R10
  case hi7R10 => (simp only [List.getElem?_toArray, List.getElem?_cons_succ, List.getElem?_cons_zero]; rfl)
  case hq7R10 => exact fun _ _ _ h => h
  case hw7R10 => rfl
  case hy7R10 => (intro w hSw; (try dsimp only at hSw); go_simp <;> with_reducible rfl)
  try simp only [Act.put, List.setIfInBounds_toArray, List.set_cons_zero, List.set_cons_succ]
  refine wpAnyH_take (i := 8) (oi := ?oi8R10) (v := ?v8R10) ?hi8R10 (by kernel_rfl) (by kernel_rfl) (by kernel_rfl) ?hq8R10 (Or.inl ⟨?hw8R10, ?hy8R10⟩) (by assumption) ?rest8R10
  case hi8R10 => (simp only [List.getElem?_toArray, List.getElem?_cons_succ, List.getElem?_cons_zero]; rfl)
  case hq8R10 => exact fun _ _ _ h => h
  case hw8R10 => rfl
  case hy8R10 => (intro w hSw; (try dsimp only at hSw); go_simp <;> with_reducible rfl)
  try simp only [Act.put, List.setIfInBounds_toArray, List.set_cons_zero, List.set_cons_succ]
  refine wpAnyH_take (i := 9) (oi := ?oi9R10) (v := ?v9R10) ?hi9R10 (by kernel_rfl) (by kernel_rfl) (by kernel_rfl) ?hq9R10 (Or.inl ⟨?hw9R10, ?hy9R10⟩) (by assumption) ?rest9R10
  case hi9R10 => (simp only [List.getElem?_toArray, List.getElem?_cons_succ, List.getElem?_cons_zero]; rfl)
  case hq9R10 => exact fun _ _ _ h => h
  case hw9R10 => rfl
  case hy9R10 => (intro w hSw; (try dsimp only at hSw); go_simp <;> with_reducible rfl)
  try simp only [Act.put, List.setIfInBounds_toArray, List.set_cons_zero, List.set_cons_succ]
  refine wpAnyH_take (i := 10) (oi := ?oi10R10) (v := ?v10R10) ?hi10R10 (by kernel_rfl) (by kernel_rfl) (by kernel_rfl) ?hq10R10 (Or.inl ⟨?hw10R10, ?hy10R10⟩) (by assumption) ?rest10R10
  case hi10R10 => (simp only [List.getElem?_toArray, List.getElem?_cons_succ, List.getElem?_cons_zero]; rfl)
  case hq10R10 => exact fun _ _ _ h => h
  case hw10R10 => rfl
  case hy10R10 => (intro w hSw; (try dsimp only at hSw); go_simp <;> with_reducible rfl)
  try simp only [Act.put, List.setIfInBounds_toArray, List.set_cons_zero, List.set_cons_succ]
  refine wpAnyH_take (i := 11) (oi := ?oi11R10) (v := ?v11R10) ?hi11R10 (by kernel_rfl) (by kernel_rfl) (by kernel_rfl) ?hq11R10 (Or.inl ⟨?hw11R10, ?hy11R10⟩) (by assumption) ?rest11R10
  case hi11R10 => (simp only [List.getElem?_toArray, List.getElem?_cons_succ, List.getElem?_cons_zero]; rfl)
  case hq11R10 => exact fun _ _ _ h => h
  case hw11R10 => rfl
  case hy11R10 => (intro w hSw; (try dsimp only at hSw); go_simp <;> with_reducible rfl)
  try simp only [Act.put, List.setIfInBounds_toArray, List.set_cons_zero, List.set_cons_succ]
  refine wpAnyH_take (i := 12) (oi := ?oi12R10) (v := ?v12R10) ?hi12R10 (by kernel_rfl) (by kernel_rfl) (by kernel_rfl) ?hq12R10 (Or.inl ⟨?hw12R10, ?hy12R10⟩) (by assumption) ?rest12R10
  case hi12R10 => (simp only [List.getElem?_toArray, List.getElem?_cons_succ, List.getElem?_cons_zero]; rfl)
  case hq12R10 => exact fun _ _ _ h => h
  case hw12R10 => rfl
  case hy12R10 => (intro w hSw; (try dsimp only at hSw); go_simp <;> with_reducible rfl)
  try simp only [Act.put, List.setIfInBounds_toArray, List.set_cons_zero, List.set_cons_succ]
  refine wpAnyH_ready (rs := [13]) (by kernel_rfl) (by simp) ?_
  refine AllReadyH.cons (o := ?o13R10) ?hi13R10 (fun K hK => ?st13R10) AllReadyH.nil
  case hi13R10 => (simp only [List.getElem?_toArray, List.getElem?_cons_succ, List.getElem?_cons_zero]; rfl)
  go_simp
  refine (try_any base p g4 M c4 (sent + 1) mark now (.slice (some ⟨g4, 0, none⟩) M c4) (l ++ [⟨sent + 1, text, 0, 0⟩]) N ⟨sent + 1, text, 0, 0⟩ _ pc5.drew o5.drew hlen4 hjN (by simp) (by simp) (by simp; omega) (fun e => hg4p e.symm) hn0 hn1).mono ?_
  rintro e W6 ⟨x, rfl, hox, ho6, hk6⟩
  obtain ⟨Ax, cx, hfx, _⟩ := hox.form
  subst hfx
  rw [hset] at ho6
  have pc6 := pc5.drew.kept hk6 (fun e => hg4p e.symm)
  have q6 := q5.drew.kept hk6 (fun e => hg4q e.symm)
  have kk6 := kk5.drew.trans hk6 (fun i hi e => by rcases hg4n with h | h; exact Or.inr (by rw [h, e]); omega)
  have m62 := pc6.cell 2
  simp at m62
  go_wp2_with fail
  refine hK.out _ _ m62 (fun hHeld2 => ?_)
  clear hK K hHeld
  have hHeld := hHeld2
  clear hHeld2
  try simp only [Act.put, List.setIfInBounds_toArray, List.set_cons_zero, List.set_cons_succ]
  refine wpAnyH_ready (rs := [14]) (by kernel_rfl) (by simp) ?_
  refine AllReadyH.cons (o := ?o14R10) ?hi14R10 (fun K hK => ?st14R10) AllReadyH.nil
  case hi14R10 => (simp only [List.getElem?_toArray, List.getElem?_cons_succ, List.getElem?_cons_zero]; rfl)
  go_simp
  have hSz0 := q6.cell 0
  have hSz1 := q6.cell 1
  have hSz2 := q6.cell 2
  have hFz := fun i => q6.frozen i
  simp at hSz0 hSz1 hSz2
  go_simp
  have qE := fill3 q6 (.int .i64 (sent + 1)) (.int .i64 mark) (.slice Ax text.length cx)
  have hkE := keep3 W6 w.heap.size (.int .i64 (sent + 1)) (.int .i64 mark) (.slice Ax text.length cx)
  generalize ((W6.setCell ⟨w.heap.size, 0, none⟩ (.int .i64 (sent + 1))).setCell ⟨w.heap.size, 1, none⟩ (.int .i64 mark)).setCell ⟨w.heap.size, 2, none⟩ (.slice Ax text.length cx) = WE at qE hkE ⊢
  have oE := ho6.kept hkE (fun q hq e => by have hq : some g4 = some q := hq; injection hq with hq; omega)
  have pcE := pc6.kept hkE (by omega)
  have hoE := hox.kept hkE (fun q hq e => by have h1 := (hox.lt q hq).1; have h2 := q5.lt; have h3 : W5.heap.size ≤ q := h1; omega)
  have kkE : Keep (fun k => k = p ∨ (Value.slice B N cap).ownBlock = some k) w WE := kk6.trans (hkE.mono (T := fun k => k = w.heap.size) (fun _ _ e => e)) (fun i hi e => by omega)
  have mE := pcE.cell 2
  simp at mE
  clear hSz0 hSz1 hSz2 hFz
  refine hK.out _ _ mE (fun hHeld2 => ?_)
  clear hK K hHeld
  have hHeld := hHeld2
  clear hHeld2
  try simp only [Act.put, List.setIfInBounds_toArray, List.set_cons_zero, List.set_cons_succ]
  refine wpAnyH_take (i := 15) (oi := ?oi15R10) (v := ?v15R10) ?hi15R10 (by kernel_rfl) (by kernel_rfl) (by kernel_rfl) ?hq15R10 (Or.inl ⟨?hw15R10, ?hy15R10⟩) (by assumption) ?rest15R10
  case hi15R10 => (simp only [List.getElem?_toArray, List.getElem?_cons_succ, List.getElem?_cons_zero]; rfl)
  case hq15R10 => exact fun _ _ _ h => h
  case hw15R10 => rfl
  case hy15R10 => (intro w hSw; (try dsimp only at hSw); go_simp <;> with_reducible rfl)
  try simp only [Act.put, List.setIfInBounds_toArray, List.set_cons_zero, List.set_cons_succ]
  refine wpAnyH_done (by kernel_rfl) ?_ _
  go_wp2
  obtain ⟨y0, y1, y2⟩ := (⟨qE.cell 0, qE.cell 1, qE.cell 2⟩ : _ ∧ _ ∧ _)
  simp at y0 y1 y2
  refine bodyPost_ret (v := .tuple #[.agg #[.int .i64 (sent + 1), .int .i64 mark, .slice Ax text.length cx], .int .i64 0]) (by simp [results, Try.results13, go_sem, y0, y1, y2]) rfl ?_
  refine ⟨(.slice (some ⟨g4, 0, none⟩) M c4), _, rfl, ⟨pcE, oE, fun e => by have e : some g4 = some p := e; injection e with e; exact hg4p e, hbp⟩, hoE.mono (by have := q5.lt; have h3 : w.heap.size ≤ W5.drew.heap.size := Nat.le_of_lt this; exact h3), kkE, ?_⟩
  rcases hg4s with h | h
  · exact Or.inl h.symm
  · exact Or.inr ⟨g4, rfl, by omega⟩
end Go.Proofs.Ytfgceplafjbmhaa
