/- May and On of ends. No condition but that an end's bodies and a packet's body lie in memory. -/
import Derived.Test.YtfgceplafjbmhaaLkE
namespace Go.Proofs.Ytfgceplafjbmhaa
open Go.RowKit
set_option linter.unusedVariables false
set_option linter.unusedSimpArgs false

/-- May a packet be, whose body has n bytes? -/
def mayPn (s a : Int) (n : Nat) : Bool := decide (0 ≤ s) && decide (s ≤ 1099511627776) && decide (0 ≤ a) && decide (a ≤ 1099511627776) && decide (n ≤ 2048) && (decide (0 < s) || decide (n = 0))
theorem mayPn_of (p : Pk) (n : Nat) (h : p.body.length = n) : mayP p = mayPn p.seq p.ack n := by
  unfold mayP mayPn
  have : decide (p.body = []) = decide (n = 0) := by
    rw [← h]
    cases p.body <;> simp
  rw [this, h]
theorem mayPn_iff (s a : Int) (n : Nat) : mayPn s a n = true ↔ 0 ≤ s ∧ s ≤ 1099511627776 ∧ 0 ≤ a ∧ a ≤ 1099511627776 ∧ n ≤ 2048 ∧ (0 < s ∨ n = 0) := by
  simp [mayPn, and_assoc]
abbrev PKV (s a : Int) (A : Option Addr) (n c : Nat) : Value := .agg #[.int .i64 s, .int .i64 a, .slice A n c]
set_option maxHeartbeats 1600000 in
theorem may_any (s a : Int) (A : Option Addr) (n c : Nat) (w : World) (hn : n ≤ 9223372036854775807) : Calls Try.prog 31 #[PKV s a A n c] w fun e w' => e = .returned (.bool (mayPn s a n)) ∧ w' = w.alloc (.cells #[.int .i64 s, .int .i64 a, .slice A n c] 32) := by
  cases hm : mayPn s a n with
  | true =>
    obtain ⟨h1, h2, h3, h4, h5, h6⟩ := (mayPn_iff s a n).1 hm
    have g1 : ¬ s < 0 := by omega
    have g2 : ¬ 1099511627776 < s := by omega
    have g3 : ¬ a < 0 := by omega
    have g4 : ¬ 1099511627776 < a := by omega
    have g5 : ¬ (2048 : Int) < (n : Int) := by omega
    clear h1 h2 h3 h4 h5
    by_cases h0 : s = 0
    · have hn0 : n = 0 := by omega
      subst h0
      subst hn0
      clear h6 hm
      go_enter Try.func31, Try.ntmps31
      go_wp2
      go_ret
      exact ⟨rfl, rfl⟩
    · have e0 : (s == 0) = false := beq_eq_false_iff_ne.2 h0
      clear h6 hm h0
      go_enter Try.func31, Try.ntmps31
      go_wp2
      go_ret
      exact ⟨rfl, rfl⟩
  | false =>
    have hno : ¬ (0 ≤ s ∧ s ≤ 1099511627776 ∧ 0 ≤ a ∧ a ≤ 1099511627776 ∧ n ≤ 2048 ∧ (0 < s ∨ n = 0)) := fun h => by rw [(mayPn_iff s a n).2 h] at hm; cases hm
    clear hm
    by_cases g1 : s < 0
    · clear hno
      go_enter Try.func31, Try.ntmps31
      go_wp2
      go_ret
      exact ⟨rfl, rfl⟩
    by_cases g2 : 1099511627776 < s
    · clear hno
      go_enter Try.func31, Try.ntmps31
      go_wp2
      go_ret
      exact ⟨rfl, rfl⟩
    by_cases g3 : a < 0
    · clear hno
      go_enter Try.func31, Try.ntmps31
      go_wp2
      go_ret
      exact ⟨rfl, rfl⟩
    by_cases g4 : 1099511627776 < a
    · clear hno
      go_enter Try.func31, Try.ntmps31
      go_wp2
      go_ret
      exact ⟨rfl, rfl⟩
    by_cases g5 : (2048 : Int) < (n : Int)
    · clear hno
      go_enter Try.func31, Try.ntmps31
      go_wp2
      go_ret
      exact ⟨rfl, rfl⟩
    have e0 : s = 0 := by omega
    have hn1 : (0 : Int) < (n : Int) := by omega
    have hn2 : 0 < n := by omega
    subst e0
    clear hno
    go_enter Try.func31, Try.ntmps31
    go_wp2
    go_ret
    exact ⟨rfl, rfl⟩

theorem on_nil (s a : Int) (A : Option Addr) (n c : Nat) (w : World) : Calls Try.prog 18 #[.pointer none, PKV s a A n c] w fun e w' => e = .returned (.tuple #[.slice none 0 0, .bool false, pkN]) ∧ Below w.heap.size w w' := by
  go_enter Try.func18, Try.ntmps18
  go_wp2
  refine bodyPost_ret (v := .tuple #[.slice none 0 0, .bool false, pkN]) (by simp [results, Try.results18, go_sem, pkN]) rfl ⟨rfl, ((Below.refl _ _).alloc (Nat.le_refl _) _).alloc (by simp) _⟩

theorem RB.ne_end {base : Nat} {w : World} {p : Nat} {sent mark : Int} {v : Value} {l : List Bd} {A : Option Addr} {n : Nat} {b : List UInt8} (h : RB w A n b) (hE : ES base w p sent mark v l) : ∀ ad, A = some ad → 0 < n → ad.block ≠ p := by
  intro ad hA hn
  obtain ⟨g, off, e, hc⟩ := h.2 hn
  rw [hA] at e
  cases e
  have hl : 0 < b.length := by rw [h.1]; exact hn
  have hcj := hc 0 _ (List.getElem?_eq_getElem hl)
  intro (e : g = p)
  subst e
  rw [hE.pc.cell] at hcj
  obtain ⟨B, cap, rfl, _⟩ := hE.own.form
  match hi : off + 0 with
  | 0 => rw [hi] at hcj; simp [bv] at hcj
  | 1 => rw [hi] at hcj; simp [bv] at hcj
  | 2 => rw [hi] at hcj; simp [bv] at hcj
  | i + 3 => rw [hi] at hcj; simp at hcj
abbrev OnKeep (p : Nat) (v : Value) (w w' : World) : Prop := Keep (fun k => k = p ∨ v.ownBlock = some k) w w'
/-- What On leaves of the end, and answers. -/
def OnPost (base : Nat) (w : World) (p : Nat) (sent : Int) (v : Value) (l : List Bd) (ack : Int) (mark' : Int) (R : World → Value → Prop) (e : Ending) (w' : World) : Prop :=
  ∃ v' r, e = .returned r ∧ R w' r ∧ ES base w' p sent mark' v' (onL ack l) ∧ v'.ownBlock = v.ownBlock ∧ OnKeep p v w w'
theorem on_not {p : Nat} (s a : Int) (A : Option Addr) (n c : Nat) (w : World) (hn : n ≤ 9223372036854775807) (hm : mayPn s a n = false) : Calls Try.prog 18 #[.pointer (some ⟨p, 0, none⟩), PKV s a A n c] w fun e w' => e = .returned (.tuple #[.slice none 0 0, .bool false, pkN]) ∧ Below w.heap.size w w' := by
  have hmay := fun W => may_any s a A n c W hn
  rw [hm] at hmay
  go_enter Try.func18, Try.ntmps18
  go_wp2_with fail
  refine (hmay _).mono ?_
  rintro e w' ⟨rfl, rfl⟩
  clear hmay
  go_wp2
  refine bodyPost_ret (v := .tuple #[.slice none 0 0, .bool false, pkN]) (by simp [results, Try.results18, go_sem, pkN]) rfl ⟨rfl, (((Below.refl _ _).alloc (Nat.le_refl _) _).alloc (by simp) _).alloc (by simp; omega) _⟩
set_option maxRecDepth 100000 in
set_option maxHeartbeats 3200000 in
theorem on_zero {base : Nat} {p : Nat} {sent mark : Int} {v : Value} {l : List Bd} (s a : Int) (A : Option Addr) (n c : Nat) (body : List UInt8) (w : World) (hr : RB w A n body) (hal : ∀ ad, A = some ad → 0 < n → v.ownBlock ≠ some ad.block) (hE : ES base w p sent mark v l) (hm : mayPn s a n = true) (hk0 : 0 ≤ mark) (hk1 : mark < 9223372036854775807) (hs : s = 0) :
    Calls Try.prog 18 #[.pointer (some ⟨p, 0, none⟩), PKV s a A n c] w (OnPost base w p sent v l a mark (fun _ r => r = .tuple #[.slice none 0 0, .bool false, pkN])) := by
  have hn : n ≤ 9223372036854775807 := by have := (mayPn_iff s a n).1 hm; omega
  have hn2 : n ≤ 140737488355328 := by have := (mayPn_iff s a n).1 hm; omega
  have hmay := fun W => may_any s a A n c W hn
  rw [hm] at hmay
  have hpne := hr.ne_end hE
  have hpl := hE.pc.lt
  have hbp := hE.bp
  have hlt := hE.own.lt
  have hvp := hE.ne
  obtain ⟨B, cap, rfl, _⟩ := hE.own.form
  obtain ⟨N, hN⟩ : ∃ N, l.length = N := ⟨_, rfl⟩
  have hE1 := ((hE.alloc (.cells #[.int .i64 s, .int .i64 a, .slice A n c] 32)).alloc (.cells #[.int .i64 0, .int .i64 0, .slice none 0 0] 32)).alloc (.cells #[.int .i64 s, .int .i64 a, .slice A n c] 32)
  have hq1 := ((Blk.new w 32 #[.int .i64 s, .int .i64 a, .slice A n c]).alloc (.cells #[.int .i64 0, .int .i64 0, .slice none 0 0] 32)).alloc (.cells #[.int .i64 s, .int .i64 a, .slice A n c] 32)
  have hz1 := Blk.new (w.alloc (.cells #[.int .i64 s, .int .i64 a, .slice A n c] 32)) 32 #[.int .i64 0, .int .i64 0, .slice none 0 0]
  rw [World.size_alloc] at hz1
  replace hz1 := hz1.alloc (.cells #[.int .i64 s, .int .i64 a, .slice A n c] 32)
  have hk01 := (((Keep.refl (fun k => k = p ∨ (Value.slice B N cap).ownBlock = some k) w).alloc (.cells #[.int .i64 s, .int .i64 a, .slice A n c] 32)).alloc (.cells #[.int .i64 0, .int .i64 0, .slice none 0 0] 32)).alloc (.cells #[.int .i64 s, .int .i64 a, .slice A n c] 32)
  obtain ⟨h0, h1, h2⟩ := hE.fields
  rw [hN] at hE1 h2 hlt hvp hal ⊢
  have hs0 : (s == 0) = true := by rw [hs]; rfl
  clear hs
  go_enter Try.func18, Try.ntmps18
  go_wp2_with fail
  refine (hmay _).mono ?_
  rintro e w' ⟨rfl, rfl⟩
  clear hmay
  obtain ⟨i0, i1, i2⟩ := hE1.fields
  have hpl2 : p < w.heap.size + 1 := by omega
  have hpl3 : p < w.heap.size + 1 + 1 := by omega
  go_wp2_with fail
  refine (delete_any base B N cap l w.heap.size s a (.slice A n c) _ hE1.own hq1 (fun e => by have := (hlt _ e).2; omega)).mono ?_
  rintro e w2 ⟨v2, rfl, ho2, hv2, hk2⟩
  have hp2 := hE1.pc.kept hk2 hvp
  have hq2 := hq1.kept hk2 (fun e => by have := (hlt _ e).2; omega)
  have hz2 := hz1.kept hk2 (fun e => by have := (hlt _ e).2; omega)
  have hk02 := hk01.trans hk2 (fun i hi e => Or.inr e)
  clear hE1 hq1 hz1 hk01 hk2 h0 h1 h2
  obtain ⟨B2, cap2, rfl, _⟩ := ho2.form
  obtain ⟨N2, hN2⟩ : ∃ N2, (onL a l).length = N2 := ⟨_, rfl⟩
  rw [hN2] at ho2 hv2 ⊢
  have hc2 := hp2.cell 2
  simp at hc2
  have hf2 := hp2.frozen 2
  have hks : Keep (fun k => k = p ∨ (Value.slice B N cap).ownBlock = some k) w2 (w2.setCell ⟨p, 2, none⟩ (.slice B2 N2 cap2)) := (Keep.refl _ w2).setCell (p := ⟨p, 2, none⟩) (fun _ => Or.inl rfl) _
  have hks' : Keep (fun k => k = p) w2 (w2.setCell ⟨p, 2, none⟩ (.slice B2 N2 cap2)) := (Keep.refl (fun k => k = p) w2).setCell (p := ⟨p, 2, none⟩) (fun _ => rfl) _
  have hp3 := hp2.set_ 2 (.slice B2 N2 cap2)
  simp at hp3
  have hpq : p ≠ w.heap.size := by omega
  have hpz : p ≠ w.heap.size + 1 := by omega
  have ho3 := ho2.kept hks' (fun g hg e => hvp (by rw [← hv2, hg, e]))
  have hq3 := hq2.kept hks' (fun e => hpq e.symm)
  have hz3 := hz2.kept hks' (fun e => hpz e.symm)
  have hk03 := hk02.trans hks (fun i hi e => e)
  clear hks hks'
  have hr3 := hr.kept_ne hk03 (fun ad h1 h2 e => by rcases e with e | e; exact hpne ad h1 h2 e; exact hal ad h1 h2 e)
  have q0 := hq2.cell 0
  have q2 := hq2.cell 2
  have p1 := hp2.cell 1
  have pf := fun i => hp2.frozen i
  have z0 := hz2.cell 0
  have z1 := hz2.cell 1
  have z2 := hz2.cell 2
  have zf := fun i => hz2.frozen i
  simp at q0 q2 p1 z0 z1 z2
  go_wp2_with fail
  have zE := fill3 hz3 (.int .i64 0) (.int .i64 0) (.slice none 0 0)
  have kE := keep3 (w2.setCell ⟨p, 2, none⟩ (.slice B2 N2 cap2)) (w.heap.size + 1) (.int .i64 0) (.int .i64 0) (.slice none 0 0)
  generalize (((w2.setCell ⟨p, 2, none⟩ (.slice B2 N2 cap2)).setCell ⟨w.heap.size + 1, 0, none⟩ (.int .i64 0)).setCell ⟨w.heap.size + 1, 1, none⟩ (.int .i64 0)).setCell ⟨w.heap.size + 1, 2, none⟩ (.slice none 0 0) = WE at zE kE ⊢
  have hpE := hp3.kept kE hpz
  have hoE := ho3.kept kE (fun g hg e => by have h1 := hlt g (by rw [← hv2]; exact hg); omega)
  have hkE := hk03.trans (kE.mono (T := fun k => k = w.heap.size + 1) (fun _ _ e => e)) (fun i hi e => by omega)
  obtain ⟨y0, y1, y2⟩ := (⟨zE.cell 0, zE.cell 1, zE.cell 2⟩ : _ ∧ _ ∧ _)
  simp at y0 y1 y2
  refine bodyPost_ret (v := .tuple #[.slice none 0 0, .bool false, pkN]) (by simp [results, Try.results18, go_sem, pkN, y0, y1, y2]) rfl ?_
  exact ⟨_, _, rfl, rfl, ⟨hpE, hoE, fun e => hvp (by rw [← hv2, e]), hbp⟩, hv2, hkE⟩
set_option maxRecDepth 100000 in
set_option maxHeartbeats 3200000 in
theorem on_other {base : Nat} {p : Nat} {sent mark : Int} {v : Value} {l : List Bd} (s a : Int) (A : Option Addr) (n c : Nat) (body : List UInt8) (w : World) (hr : RB w A n body) (hal : ∀ ad, A = some ad → 0 < n → v.ownBlock ≠ some ad.block) (hE : ES base w p sent mark v l) (hm : mayPn s a n = true) (hk0 : 0 ≤ mark) (hk1 : mark < 9223372036854775807) (hs : s ≠ 0) (hs1 : s ≠ mark + 1) :
    Calls Try.prog 18 #[.pointer (some ⟨p, 0, none⟩), PKV s a A n c] w (OnPost base w p sent v l a mark (fun _ r => r = .tuple #[.slice none 0 0, .bool false, .agg #[.int .i64 0, .int .i64 mark, .slice none 0 0]])) := by
  have hn : n ≤ 9223372036854775807 := by have := (mayPn_iff s a n).1 hm; omega
  have hn2 : n ≤ 140737488355328 := by have := (mayPn_iff s a n).1 hm; omega
  have hmay := fun W => may_any s a A n c W hn
  rw [hm] at hmay
  have hpne := hr.ne_end hE
  have hpl := hE.pc.lt
  have hbp := hE.bp
  have hlt := hE.own.lt
  have hvp := hE.ne
  obtain ⟨B, cap, rfl, _⟩ := hE.own.form
  obtain ⟨N, hN⟩ : ∃ N, l.length = N := ⟨_, rfl⟩
  have hE1 := ((hE.alloc (.cells #[.int .i64 s, .int .i64 a, .slice A n c] 32)).alloc (.cells #[.int .i64 0, .int .i64 0, .slice none 0 0] 32)).alloc (.cells #[.int .i64 s, .int .i64 a, .slice A n c] 32)
  have hq1 := ((Blk.new w 32 #[.int .i64 s, .int .i64 a, .slice A n c]).alloc (.cells #[.int .i64 0, .int .i64 0, .slice none 0 0] 32)).alloc (.cells #[.int .i64 s, .int .i64 a, .slice A n c] 32)
  have hz1 := Blk.new (w.alloc (.cells #[.int .i64 s, .int .i64 a, .slice A n c] 32)) 32 #[.int .i64 0, .int .i64 0, .slice none 0 0]
  rw [World.size_alloc] at hz1
  replace hz1 := hz1.alloc (.cells #[.int .i64 s, .int .i64 a, .slice A n c] 32)
  have hk01 := (((Keep.refl (fun k => k = p ∨ (Value.slice B N cap).ownBlock = some k) w).alloc (.cells #[.int .i64 s, .int .i64 a, .slice A n c] 32)).alloc (.cells #[.int .i64 0, .int .i64 0, .slice none 0 0] 32)).alloc (.cells #[.int .i64 s, .int .i64 a, .slice A n c] 32)
  obtain ⟨h0, h1, h2⟩ := hE.fields
  rw [hN] at hE1 h2 hlt hvp hal ⊢
  have hs0 : (s == 0) = false := beq_eq_false_iff_ne.2 hs
  have hs2 : (s == mark + 1) = false := beq_eq_false_iff_ne.2 hs1
  have hmk : mark + 1 ≤ 9223372036854775807 := by omega
  clear hs hs1
  go_enter Try.func18, Try.ntmps18
  go_wp2_with fail
  refine (hmay _).mono ?_
  rintro e w' ⟨rfl, rfl⟩
  clear hmay
  obtain ⟨i0, i1, i2⟩ := hE1.fields
  have hpl2 : p < w.heap.size + 1 := by omega
  have hpl3 : p < w.heap.size + 1 + 1 := by omega
  go_wp2_with fail
  refine (delete_any base B N cap l w.heap.size s a (.slice A n c) _ hE1.own hq1 (fun e => by have := (hlt _ e).2; omega)).mono ?_
  rintro e w2 ⟨v2, rfl, ho2, hv2, hk2⟩
  have hp2 := hE1.pc.kept hk2 hvp
  have hq2 := hq1.kept hk2 (fun e => by have := (hlt _ e).2; omega)
  have hz2 := hz1.kept hk2 (fun e => by have := (hlt _ e).2; omega)
  have hk02 := hk01.trans hk2 (fun i hi e => Or.inr e)
  clear hE1 hq1 hz1 hk01 hk2 h0 h1 h2
  obtain ⟨B2, cap2, rfl, _⟩ := ho2.form
  obtain ⟨N2, hN2⟩ : ∃ N2, (onL a l).length = N2 := ⟨_, rfl⟩
  rw [hN2] at ho2 hv2 ⊢
  have hc2 := hp2.cell 2
  simp at hc2
  have hf2 := hp2.frozen 2
  have hks : Keep (fun k => k = p ∨ (Value.slice B N cap).ownBlock = some k) w2 (w2.setCell ⟨p, 2, none⟩ (.slice B2 N2 cap2)) := (Keep.refl _ w2).setCell (p := ⟨p, 2, none⟩) (fun _ => Or.inl rfl) _
  have hks' : Keep (fun k => k = p) w2 (w2.setCell ⟨p, 2, none⟩ (.slice B2 N2 cap2)) := (Keep.refl (fun k => k = p) w2).setCell (p := ⟨p, 2, none⟩) (fun _ => rfl) _
  have hp3 := hp2.set_ 2 (.slice B2 N2 cap2)
  simp at hp3
  have hpq : p ≠ w.heap.size := by omega
  have hpz : p ≠ w.heap.size + 1 := by omega
  have ho3 := ho2.kept hks' (fun g hg e => hvp (by rw [← hv2, hg, e]))
  have hq3 := hq2.kept hks' (fun e => hpq e.symm)
  have hz3 := hz2.kept hks' (fun e => hpz e.symm)
  have hk03 := hk02.trans hks (fun i hi e => e)
  clear hks hks'
  have hr3 := hr.kept_ne hk03 (fun ad h1 h2 e => by rcases e with e | e; exact hpne ad h1 h2 e; exact hal ad h1 h2 e)
  have q0 := hq2.cell 0
  have q2 := hq2.cell 2
  have p1 := hp2.cell 1
  have pf := fun i => hp2.frozen i
  have z0 := hz2.cell 0
  have z1 := hz2.cell 1
  have z2 := hz2.cell 2
  have zf := fun i => hz2.frozen i
  simp at q0 q2 p1 z0 z1 z2
  go_wp2_with fail
  generalize (w2.setCell ⟨p, 2, none⟩ (.slice B2 N2 cap2)) = w4 at hp3 ho3 hz3 hq3 hk03 hr3 ⊢
  have hp4 := hp3
  have ho4 := ho3
  have hz4 := hz3
  have hk4 := hk03
  clear hp3 ho3 hz3 hk03
  have m4 := hp4.drew.cell 1
  simp at m4
  have zd0 := hz4.cell 0
  have zd1 := hz4.cell 1
  have zd2 := hz4.cell 2
  have zdf := fun i => hz4.frozen i
  simp at zd0 zd1 zd2
  refine wp_region_held_drew (S := (fun w' => w'.cell? ⟨p, 1, none⟩ = some (.int .i64 mark))) (by kernel_rfl) m4 (fun hHeld => ?_)
  refine wpAnyH_take (i := 0) (oi := ?oi0OO) (v := ?v0OO) ?hi0OO (by kernel_rfl) (by kernel_rfl) (by kernel_rfl) ?hq0OO (Or.inl ⟨?hw0OO, ?hy0OO⟩) (by assumption) ?rest0OO
  case hi0OO => (simp only [List.getElem?_toArray, List.getElem?_cons_succ, List.getElem?_cons_zero]; rfl)
  case hq0OO => exact fun _ _ _ h => h
  case hw0OO => rfl
  case hy0OO => (intro w hSw; (try dsimp only at hSw); go_simp <;> with_reducible rfl)
  try simp only [Act.put, List.setIfInBounds_toArray, List.set_cons_zero, List.set_cons_succ]
  refine wpAnyH_take (i := 1) (oi := ?oi1OO) (v := ?v1OO) ?hi1OO (by kernel_rfl) (by kernel_rfl) (by kernel_rfl) ?hq1OO (Or.inl ⟨?hw1OO, ?hy1OO⟩) (by assumption) ?rest1OO
  case hi1OO => (simp only [List.getElem?_toArray, List.getElem?_cons_succ, List.getElem?_cons_zero]; rfl)
  case hq1OO => exact fun _ _ _ h => h
  case hw1OO => rfl
  case hy1OO => (intro w hSw; (try dsimp only at hSw); go_simp <;> with_reducible rfl)
  try simp only [Act.put, List.setIfInBounds_toArray, List.set_cons_zero, List.set_cons_succ]
  refine wpAnyH_take (i := 2) (oi := ?oi2OO) (v := ?v2OO) ?hi2OO (by kernel_rfl) (by kernel_rfl) (by kernel_rfl) ?hq2OO (Or.inl ⟨?hw2OO, ?hy2OO⟩) (by assumption) ?rest2OO
  case hi2OO => (simp only [List.getElem?_toArray, List.getElem?_cons_succ, List.getElem?_cons_zero]; rfl)
  case hq2OO => exact fun _ _ _ h => h
  case hw2OO => rfl
  case hy2OO => (intro w hSw; (try dsimp only at hSw); go_simp <;> with_reducible rfl)
  try simp only [Act.put, List.setIfInBounds_toArray, List.set_cons_zero, List.set_cons_succ]
  refine wpAnyH_take (i := 3) (oi := ?oi3OO) (v := ?v3OO) ?hi3OO (by kernel_rfl) (by kernel_rfl) (by kernel_rfl) ?hq3OO (Or.inl ⟨?hw3OO, ?hy3OO⟩) (by assumption) ?rest3OO
  case hi3OO => (simp only [List.getElem?_toArray, List.getElem?_cons_succ, List.getElem?_cons_zero]; rfl)
  case hq3OO => exact fun _ _ _ h => h
  case hw3OO => rfl
  case hy3OO => (intro w hSw; (try dsimp only at hSw); go_simp <;> with_reducible rfl)
  try simp only [Act.put, List.setIfInBounds_toArray, List.set_cons_zero, List.set_cons_succ]
  refine wpAnyH_take (i := 4) (oi := ?oi4OO) (v := ?v4OO) ?hi4OO (by kernel_rfl) (by kernel_rfl) (by kernel_rfl) ?hq4OO (Or.inl ⟨?hw4OO, ?hy4OO⟩) (by assumption) ?rest4OO
  case hi4OO => (simp only [List.getElem?_toArray, List.getElem?_cons_succ, List.getElem?_cons_zero]; rfl)
  case hq4OO => exact fun _ _ _ h => h
  case hw4OO => rfl
  case hy4OO => (intro w hSw; (try dsimp only at hSw); go_simp <;> with_reducible rfl)
  try simp only [Act.put, List.setIfInBounds_toArray, List.set_cons_zero, List.set_cons_succ]
  refine wpAnyH_take (i := 5) (oi := ?oi5OO) (v := ?v5OO) ?hi5OO (by kernel_rfl) (by kernel_rfl) (by kernel_rfl) ?hq5OO (Or.inl ⟨?hw5OO, ?hy5OO⟩) (by assumption) ?rest5OO
  case hi5OO => (simp only [List.getElem?_toArray, List.getElem?_cons_succ, List.getElem?_cons_zero]; rfl)
  case hq5OO => exact fun _ _ _ h => h
  case hw5OO => rfl
  case hy5OO => (intro w hSw; (try dsimp only at hSw); go_simp <;> with_reducible rfl)
  try simp only [Act.put, List.setIfInBounds_toArray, List.set_cons_zero, List.set_cons_succ]
  refine wpAnyH_take (i := 6) (oi := ?oi6OO) (v := ?v6OO) ?hi6OO (by kernel_rfl) (by kernel_rfl) (by kernel_rfl) ?hq6OO (Or.inl ⟨?hw6OO, ?hy6OO⟩) (by assumption) ?rest6OO
  case hi6OO => (simp only [List.getElem?_toArray, List.getElem?_cons_succ, List.getElem?_cons_zero]; rfl)
  case hq6OO => exact fun _ _ _ h => h
  case hw6OO => rfl
  case hy6OO => (intro w hSw; (try dsimp only at hSw); go_simp <;> with_reducible rfl)
  try simp only [Act.put, List.setIfInBounds_toArray, List.set_cons_zero, List.set_cons_succ]
  refine wpAnyH_ready (rs := [7]) (by kernel_rfl) (by simp) ?_
  refine AllReadyH.cons (o := ?o7OO) ?hi7OO (fun K hK => ?st7OO) AllReadyH.nil
  case hi7OO => (simp only [List.getElem?_toArray, List.getElem?_cons_succ, List.getElem?_cons_zero]; rfl)
  go_simp
  have zE := fill3 hz4 (.int .i64 0) (.int .i64 mark) (.slice none 0 0)
  have kE := keep3 w4 (w.heap.size + 1) (.int .i64 0) (.int .i64 mark) (.slice none 0 0)
  generalize ((w4.setCell ⟨w.heap.size + 1, 0, none⟩ (.int .i64 0)).setCell ⟨w.heap.size + 1, 1, none⟩ (.int .i64 mark)).setCell ⟨w.heap.size + 1, 2, none⟩ (.slice none 0 0) = WE at zE kE ⊢
  have hpE := hp4.kept kE hpz
  have hoE := ho4.kept kE (fun g hg e => by have h1 := hlt g (by rw [← hv2]; exact hg); omega)
  have hkE := hk4.trans (kE.mono (T := fun k => k = w.heap.size + 1) (fun _ _ e => e)) (fun i hi e => by omega)
  have mE := hpE.cell 1
  simp at mE
  refine hK.out _ _ mE (fun hHeld2 => ?_)
  clear hK K hHeld
  have hHeld := hHeld2
  clear hHeld2
  try simp only [Act.put, List.setIfInBounds_toArray, List.set_cons_zero, List.set_cons_succ]
  refine wpAnyH_done (by kernel_rfl) ?_ _
  go_wp2
  obtain ⟨y0, y1, y2⟩ := (⟨zE.cell 0, zE.cell 1, zE.cell 2⟩ : _ ∧ _ ∧ _)
  simp at y0 y1 y2
  refine bodyPost_ret (v := .tuple #[.slice none 0 0, .bool false, .agg #[.int .i64 0, .int .i64 mark, .slice none 0 0]]) (by simp [results, Try.results18, go_sem, pkN, y0, y1, y2]) rfl ?_
  exact ⟨_, _, rfl, rfl, ⟨hpE, hoE, fun e => hvp (by rw [← hv2, e]), hbp⟩, hv2, hkE.drew⟩
set_option maxRecDepth 100000 in
set_option maxHeartbeats 3200000 in
theorem on_next {base : Nat} {p : Nat} {sent mark : Int} {v : Value} {l : List Bd} (s a : Int) (A : Option Addr) (n c : Nat) (body : List UInt8) (w : World) (hr : RB w A n body) (hal : ∀ ad, A = some ad → 0 < n → v.ownBlock ≠ some ad.block) (hE : ES base w p sent mark v l) (hm : mayPn s a n = true) (hk0 : 0 ≤ mark) (hk1 : mark < 9223372036854775807) (hs : s = mark + 1) :
    Calls Try.prog 18 #[.pointer (some ⟨p, 0, none⟩), PKV s a A n c] w (OnPost base w p sent v l a (mark + 1) (fun W r => ∃ x, r = .tuple #[x, .bool true, .agg #[.int .i64 0, .int .i64 (mark + 1), .slice none 0 0]] ∧ OB w.heap.size W x body)) := by
  have hn : n ≤ 9223372036854775807 := by have := (mayPn_iff s a n).1 hm; omega
  have hn2 : n ≤ 140737488355328 := by have := (mayPn_iff s a n).1 hm; omega
  have hmay := fun W => may_any s a A n c W hn
  rw [hm] at hmay
  have hpne := hr.ne_end hE
  have hpl := hE.pc.lt
  have hbp := hE.bp
  have hlt := hE.own.lt
  have hvp := hE.ne
  obtain ⟨B, cap, rfl, _⟩ := hE.own.form
  obtain ⟨N, hN⟩ : ∃ N, l.length = N := ⟨_, rfl⟩
  have hE1 := ((hE.alloc (.cells #[.int .i64 s, .int .i64 a, .slice A n c] 32)).alloc (.cells #[.int .i64 0, .int .i64 0, .slice none 0 0] 32)).alloc (.cells #[.int .i64 s, .int .i64 a, .slice A n c] 32)
  have hq1 := ((Blk.new w 32 #[.int .i64 s, .int .i64 a, .slice A n c]).alloc (.cells #[.int .i64 0, .int .i64 0, .slice none 0 0] 32)).alloc (.cells #[.int .i64 s, .int .i64 a, .slice A n c] 32)
  have hz1 := Blk.new (w.alloc (.cells #[.int .i64 s, .int .i64 a, .slice A n c] 32)) 32 #[.int .i64 0, .int .i64 0, .slice none 0 0]
  rw [World.size_alloc] at hz1
  replace hz1 := hz1.alloc (.cells #[.int .i64 s, .int .i64 a, .slice A n c] 32)
  have hk01 := (((Keep.refl (fun k => k = p ∨ (Value.slice B N cap).ownBlock = some k) w).alloc (.cells #[.int .i64 s, .int .i64 a, .slice A n c] 32)).alloc (.cells #[.int .i64 0, .int .i64 0, .slice none 0 0] 32)).alloc (.cells #[.int .i64 s, .int .i64 a, .slice A n c] 32)
  obtain ⟨h0, h1, h2⟩ := hE.fields
  rw [hN] at hE1 h2 hlt hvp hal ⊢
  have hs0 : (s == 0) = false := beq_eq_false_iff_ne.2 (by omega)
  have hs2 : (s == mark + 1) = true := by rw [hs]; exact beq_self_eq_true _
  have hmk : mark + 1 ≤ 9223372036854775807 := by omega
  clear hs
  go_enter Try.func18, Try.ntmps18
  go_wp2_with fail
  refine (hmay _).mono ?_
  rintro e w' ⟨rfl, rfl⟩
  clear hmay
  obtain ⟨i0, i1, i2⟩ := hE1.fields
  have hpl2 : p < w.heap.size + 1 := by omega
  have hpl3 : p < w.heap.size + 1 + 1 := by omega
  go_wp2_with fail
  refine (delete_any base B N cap l w.heap.size s a (.slice A n c) _ hE1.own hq1 (fun e => by have := (hlt _ e).2; omega)).mono ?_
  rintro e w2 ⟨v2, rfl, ho2, hv2, hk2⟩
  have hp2 := hE1.pc.kept hk2 hvp
  have hq2 := hq1.kept hk2 (fun e => by have := (hlt _ e).2; omega)
  have hz2 := hz1.kept hk2 (fun e => by have := (hlt _ e).2; omega)
  have hk02 := hk01.trans hk2 (fun i hi e => Or.inr e)
  clear hE1 hq1 hz1 hk01 hk2 h0 h1 h2
  obtain ⟨B2, cap2, rfl, _⟩ := ho2.form
  obtain ⟨N2, hN2⟩ : ∃ N2, (onL a l).length = N2 := ⟨_, rfl⟩
  rw [hN2] at ho2 hv2 ⊢
  have hc2 := hp2.cell 2
  simp at hc2
  have hf2 := hp2.frozen 2
  have hks : Keep (fun k => k = p ∨ (Value.slice B N cap).ownBlock = some k) w2 (w2.setCell ⟨p, 2, none⟩ (.slice B2 N2 cap2)) := (Keep.refl _ w2).setCell (p := ⟨p, 2, none⟩) (fun _ => Or.inl rfl) _
  have hks' : Keep (fun k => k = p) w2 (w2.setCell ⟨p, 2, none⟩ (.slice B2 N2 cap2)) := (Keep.refl (fun k => k = p) w2).setCell (p := ⟨p, 2, none⟩) (fun _ => rfl) _
  have hp3 := hp2.set_ 2 (.slice B2 N2 cap2)
  simp at hp3
  have hpq : p ≠ w.heap.size := by omega
  have hpz : p ≠ w.heap.size + 1 := by omega
  have ho3 := ho2.kept hks' (fun g hg e => hvp (by rw [← hv2, hg, e]))
  have hq3 := hq2.kept hks' (fun e => hpq e.symm)
  have hz3 := hz2.kept hks' (fun e => hpz e.symm)
  have hk03 := hk02.trans hks (fun i hi e => e)
  clear hks hks'
  have hr3 := hr.kept_ne hk03 (fun ad h1 h2 e => by rcases e with e | e; exact hpne ad h1 h2 e; exact hal ad h1 h2 e)
  have q0 := hq2.cell 0
  have q2 := hq2.cell 2
  have p1 := hp2.cell 1
  have pf := fun i => hp2.frozen i
  have z0 := hz2.cell 0
  have z1 := hz2.cell 1
  have z2 := hz2.cell 2
  have zf := fun i => hz2.frozen i
  simp at q0 q2 p1 z0 z1 z2
  go_wp2_with fail
  have hks2 : Keep (fun k => k = p) (w2.setCell ⟨p, 2, none⟩ (.slice B2 N2 cap2)) ((w2.setCell ⟨p, 2, none⟩ (.slice B2 N2 cap2)).setCell ⟨p, 1, none⟩ (.int .i64 (mark + 1))) := (Keep.refl (fun k => k = p) _).setCell (p := ⟨p, 1, none⟩) (fun _ => rfl) _
  have hp4 := hp3.set_ 1 (.int .i64 (mark + 1))
  simp at hp4
  have ho4 := ho3.kept hks2 (fun g hg e => hvp (by rw [← hv2, hg, e]))
  have hz4 := hz3.kept hks2 (fun e => hpz e.symm)
  have hq4 := hq3.kept hks2 (fun e => hpq e.symm)
  have hk4 := hk03.trans (hks2.mono (T := fun k => k = p ∨ (Value.slice B N cap).ownBlock = some k) (fun _ _ e => Or.inl e)) (fun i hi e => e)
  have hr4 := hr.kept_ne hk4 (fun ad h1 h2 e => by rcases e with e | e; exact hpne ad h1 h2 e; exact hal ad h1 h2 e)
  generalize (w2.setCell ⟨p, 2, none⟩ (.slice B2 N2 cap2)).setCell ⟨p, 1, none⟩ (.int .i64 (mark + 1)) = w4 at hp4 ho4 hz4 hq4 hk4 hr4 ⊢
  clear hks2 hp3 ho3 hz3 hq3 hk03 hr3 q0 q2 p1 pf z0 z1 z2 zf hp2 hq2 hz2 hk02 ho2 hc2 hf2
  have m4 := hp4.drew.cell 1
  have b4 := hq4.drew.cell 2
  simp at m4 b4
  refine wp_region_held_drew (S := (fun w' => w'.cell? ⟨w.heap.size, 2, none⟩ = some (.slice A n c) ∧ w'.cell? ⟨p, 1, none⟩ = some (.int .i64 (mark + 1)))) (by kernel_rfl) ⟨b4, m4⟩ (fun hHeld => ?_)
  refine wpAnyH_take (i := 0) (oi := ?oi0ON) (v := ?v0ON) ?hi0ON (by kernel_rfl) (by kernel_rfl) (by kernel_rfl) ?hq0ON (Or.inl ⟨?hw0ON, ?hy0ON⟩) (by assumption) ?rest0ON
  case hi0ON => (simp only [List.getElem?_toArray, List.getElem?_cons_succ, List.getElem?_cons_zero]; rfl)
  case hq0ON => exact fun _ _ _ h => h
  case hw0ON => rfl
  case hy0ON => (intro w hSw; (try dsimp only at hSw); go_simp <;> with_reducible rfl)
  try simp only [Act.put, List.setIfInBounds_toArray, List.set_cons_zero, List.set_cons_succ]
  refine wpAnyH_take (i := 1) (oi := ?oi1ON) (v := ?v1ON) ?hi1ON (by kernel_rfl) (by kernel_rfl) (by kernel_rfl) ?hq1ON (Or.inl ⟨?hw1ON, ?hy1ON⟩) (by assumption) ?rest1ON
  case hi1ON => (simp only [List.getElem?_toArray, List.getElem?_cons_succ, List.getElem?_cons_zero]; rfl)
  case hq1ON => exact fun _ _ _ h => h
  case hw1ON => rfl
  case hy1ON => (intro w hSw; (try dsimp only at hSw); go_simp <;> with_reducible rfl)
  try simp only [Act.put, List.setIfInBounds_toArray, List.set_cons_zero, List.set_cons_succ]
  refine wpAnyH_take (i := 3) (oi := ?oi3ON) (v := ?v3ON) ?hi3ON (by kernel_rfl) (by kernel_rfl) (by kernel_rfl) ?hq3ON (Or.inl ⟨?hw3ON, ?hy3ON⟩) (by assumption) ?rest3ON
  case hi3ON => (simp only [List.getElem?_toArray, List.getElem?_cons_succ, List.getElem?_cons_zero]; rfl)
  case hq3ON => exact fun _ _ _ h => h
  case hw3ON => rfl
  case hy3ON => (intro w hSw; (try dsimp only at hSw); go_simp <;> with_reducible rfl)
  try simp only [Act.put, List.setIfInBounds_toArray, List.set_cons_zero, List.set_cons_succ]
  refine wpAnyH_take (i := 4) (oi := ?oi4ON) (v := ?v4ON) ?hi4ON (by kernel_rfl) (by kernel_rfl) (by kernel_rfl) ?hq4ON (Or.inl ⟨?hw4ON, ?hy4ON⟩) (by assumption) ?rest4ON
  case hi4ON => (simp only [List.getElem?_toArray, List.getElem?_cons_succ, List.getElem?_cons_zero]; rfl)
  case hq4ON => exact fun _ _ _ h => h
  case hw4ON => rfl
  case hy4ON => (intro w hSw; (try dsimp only at hSw); go_simp <;> with_reducible rfl)
  try simp only [Act.put, List.setIfInBounds_toArray, List.set_cons_zero, List.set_cons_succ]
  refine wpAnyH_take (i := 5) (oi := ?oi5ON) (v := ?v5ON) ?hi5ON (by kernel_rfl) (by kernel_rfl) (by kernel_rfl) ?hq5ON (Or.inl ⟨?hw5ON, ?hy5ON⟩) (by assumption) ?rest5ON
  case hi5ON => (simp only [List.getElem?_toArray, List.getElem?_cons_succ, List.getElem?_cons_zero]; rfl)
  case hq5ON => exact fun _ _ _ h => h
  case hw5ON => rfl
  case hy5ON => (intro w hSw; (try dsimp only at hSw); go_simp <;> with_reducible rfl)
  try simp only [Act.put, List.setIfInBounds_toArray, List.set_cons_zero, List.set_cons_succ]
  refine wpAnyH_take (i := 6) (oi := ?oi6ON) (v := ?v6ON) ?hi6ON (by kernel_rfl) (by kernel_rfl) (by kernel_rfl) ?hq6ON (Or.inl ⟨?hw6ON, ?hy6ON⟩) (by assumption) ?rest6ON
  case hi6ON => (simp only [List.getElem?_toArray, List.getElem?_cons_succ, List.getElem?_cons_zero]; rfl)
  case hq6ON => exact fun _ _ _ h => h
  case hw6ON => rfl
  case hy6ON => (intro w hSw; (try dsimp only at hSw); go_simp <;> with_reducible rfl)
  try simp only [Act.put, List.setIfInBounds_toArray, List.set_cons_zero, List.set_cons_succ]
  refine wpAnyH_take (i := 7) (oi := ?oi7ON) (v := ?v7ON) ?hi7ON (by kernel_rfl) (by kernel_rfl) (by kernel_rfl) ?hq7ON (Or.inl ⟨?hw7ON, ?hy7ON⟩) (by assumption) ?rest7ON
  case hi7ON => (simp only [List.getElem?_toArray, List.getElem?_cons_succ, List.getElem?_cons_zero]; rfl)
  case hq7ON => exact fun _ _ _ h => h
  case hw7ON => rfl
  case hy7ON => (intro w hSw; (try dsimp only at hSw); go_simp <;> with_reducible rfl)
  try simp only [Act.put, List.setIfInBounds_toArray, List.set_cons_zero, List.set_cons_succ]
  refine wpAnyH_ready (rs := [2]) (by kernel_rfl) (by simp) ?_
  refine AllReadyH.cons (o := ?o2ON) ?hi2ON (fun K hK => ?st2ON) AllReadyH.nil
  case hi2ON => (simp only [List.getElem?_toArray, List.getElem?_cons_succ, List.getElem?_cons_zero]; rfl)
  go_simp
  refine (lfreshB_any A n c body _ hr4.drew hn2).mono ?_
  rintro e w5 ⟨x5, rfl, hg5⟩
  have hx5 : Below w4.drew.heap.size w4.drew w5 := hg5.fresh
  have hxo := hg5.own
  obtain ⟨A5, c5, hf5, _⟩ := hxo.form
  subst hf5
  have hz45 : w4.heap.size ≤ w5.heap.size := hx5.size
  have hkx : Keep (fun k => w4.heap.size ≤ k) w4.drew w5 := Keep.of_below hx5
  have hp5 := hp4.drew.kept hkx (Nat.not_le.2 hp4.lt)
  have hz5 := hz4.drew.kept hkx (Nat.not_le.2 hz4.lt)
  have hq5 := hq4.drew.kept hkx (Nat.not_le.2 hq4.lt)
  have ho5 := ho4.drew.kept hkx (fun g hg => Nat.not_le.2 (ho4.lt g hg).2)
  have hk5 := hk4.drew.trans hkx (fun i hi e => absurd e (by have := hk4.size; omega))
  have m5 := hp5.cell 1
  have b5 := hq5.cell 2
  simp at m5 b5
  have zd0 := hz5.cell 0
  have zd1 := hz5.cell 1
  have zd2 := hz5.cell 2
  have zdf := fun i => hz5.frozen i
  simp at zd0 zd1 zd2
  go_wp2_with fail
  refine hK.out _ _ ⟨b5, m5⟩ (fun hHeld2 => ?_)
  clear hK K hHeld
  have hHeld := hHeld2
  clear hHeld2
  try simp only [Act.put, List.setIfInBounds_toArray, List.set_cons_zero, List.set_cons_succ]
  refine wpAnyH_take (i := 8) (oi := ?oi8ON) (v := ?v8ON) ?hi8ON (by kernel_rfl) (by kernel_rfl) (by kernel_rfl) ?hq8ON (Or.inl ⟨?hw8ON, ?hy8ON⟩) (by assumption) ?rest8ON
  case hi8ON => (simp only [List.getElem?_toArray, List.getElem?_cons_succ, List.getElem?_cons_zero]; rfl)
  case hq8ON => exact fun _ _ _ h => h
  case hw8ON => rfl
  case hy8ON => (intro w hSw; (try dsimp only at hSw); go_simp <;> with_reducible rfl)
  try simp only [Act.put, List.setIfInBounds_toArray, List.set_cons_zero, List.set_cons_succ]
  refine wpAnyH_take (i := 9) (oi := ?oi9ON) (v := ?v9ON) ?hi9ON (by kernel_rfl) (by kernel_rfl) (by kernel_rfl) ?hq9ON (Or.inl ⟨?hw9ON, ?hy9ON⟩) (by assumption) ?rest9ON
  case hi9ON => (simp only [List.getElem?_toArray, List.getElem?_cons_succ, List.getElem?_cons_zero]; rfl)
  case hq9ON => exact fun _ _ _ h => h
  case hw9ON => rfl
  case hy9ON => (intro w hSw; (try dsimp only at hSw); go_simp <;> with_reducible rfl)
  try simp only [Act.put, List.setIfInBounds_toArray, List.set_cons_zero, List.set_cons_succ]
  refine wpAnyH_ready (rs := [10]) (by kernel_rfl) (by simp) ?_
  refine AllReadyH.cons (o := ?o10ON) ?hi10ON (fun K hK => ?st10ON) AllReadyH.nil
  case hi10ON => (simp only [List.getElem?_toArray, List.getElem?_cons_succ, List.getElem?_cons_zero]; rfl)
  go_simp
  have zE := fill3 hz5 (.int .i64 0) (.int .i64 (mark + 1)) (.slice none 0 0)
  have kE := keep3 w5 (w.heap.size + 1) (.int .i64 0) (.int .i64 (mark + 1)) (.slice none 0 0)
  generalize ((w5.setCell ⟨w.heap.size + 1, 0, none⟩ (.int .i64 0)).setCell ⟨w.heap.size + 1, 1, none⟩ (.int .i64 (mark + 1))).setCell ⟨w.heap.size + 1, 2, none⟩ (.slice none 0 0) = WE at zE kE ⊢
  have hpE := hp5.kept kE hpz
  have hoE := ho5.kept kE (fun g hg e => by have h1 := hlt g (by rw [← hv2]; exact hg); omega)
  have hkE := hk5.trans (kE.mono (T := fun k => k = w.heap.size + 1) (fun _ _ e => e)) (fun i hi e => by omega)
  have mE := hpE.cell 1
  have hqE := hq5.kept kE (by omega)
  have bE := hqE.cell 2
  simp at mE bE
  have hxE := hxo.kept kE (fun g hg e => by have h1 := (hxo.lt g hg).1; have h2 := hz4.lt; have h3 : w4.heap.size ≤ g := h1; omega)
  refine hK.out _ _ ⟨bE, mE⟩ (fun hHeld2 => ?_)
  clear hK K hHeld
  have hHeld := hHeld2
  clear hHeld2
  try simp only [Act.put, List.setIfInBounds_toArray, List.set_cons_zero, List.set_cons_succ]
  refine wpAnyH_done (by kernel_rfl) ?_ _
  go_wp2
  obtain ⟨y0, y1, y2⟩ := (⟨zE.cell 0, zE.cell 1, zE.cell 2⟩ : _ ∧ _ ∧ _)
  simp at y0 y1 y2
  refine bodyPost_ret (v := .tuple #[.slice A5 body.length c5, .bool true, .agg #[.int .i64 0, .int .i64 (mark + 1), .slice none 0 0]]) (by simp [results, Try.results18, go_sem, pkN, y0, y1, y2]) rfl ?_
  exact ⟨_, _, rfl, ⟨_, rfl, hxE.mono (by have h1 := hk4.size; exact h1)⟩, ⟨hpE, hoE, fun e => hvp (by rw [← hv2, e]), hbp⟩, hv2, hkE⟩
end Go.Proofs.Ytfgceplafjbmhaa
