/- A round of the four words: the program's and the document's. No condition. -/
import Derived.Test.YtpendcaefjbomaaTurn
import Derived.StillTailTactics
import Derived.Deep.RegionHeld3
namespace Go.Proofs.Ytpendcaefjbomaa
open Go.RowKit
set_option linter.unusedVariables false

/-- Fits a word. -/
def W64 (x : Nat) : Prop := x < 18446744073709551616
def addw (a b : Nat) : Nat := (a + b) % 18446744073709551616
theorem W64.addw (a b : Nat) : W64 (addw a b) := Nat.mod_lt _ (by decide)
theorem W64.rot {x : Nat} (n : Nat) (h : W64 x) : W64 (rot x n) := rot_lt n h
theorem W64.xor {a b : Nat} (ha : W64 a) (hb : W64 b) : W64 (a ^^^ b) := Nat.xor_lt_two_pow (n := 64) ha hb
theorem wrap_add (a b : Nat) : IntKind.u64.wrap ((a : Int) + (b : Int)) = ((addw a b : Nat) : Int) := by
  rw [IntKind.wrap_u64, addw, Int.natCast_emod, Int.natCast_add]
  rfl
theorem xor64 {a b : Nat} (ha : W64 a) (hb : W64 b) : bits .xor .u64 (a : Int) (b : Int) = ((a ^^^ b : Nat) : Int) := u64_xor_nat a b ha hb
theorem turn_word (x n : Nat) (w : World) (hx : W64 x) (hn : 0 < n) (hn2 : n < 64) :
    Calls Try.prog 67 #[.int .u64 (x : Int), .int .i64 (n : Int)] w fun e w' => e = .returned (.int .u64 (rot x n : Int)) ∧ Keep (fun _ => False) w w' := turn_any x n w hx hn hn2
theorem rotate_word (x n : Nat) (w : World) (hx : W64 x) (hn : 0 < n) (hn2 : n < 64) :
    Calls Try.prog 78 #[.int .u64 (x : Int), .int .i64 (n : Int)] w fun e w' => e = .returned (.int .u64 (rot x n : Int)) ∧ w' = w :=
  (rotate_any x n w hx hn hn2).mono fun _ _ ⟨a, b⟩ => ⟨a, b.symm⟩

/-- Four words. -/
structure V4 where
  a : Nat
  b : Nat
  c : Nat
  d : Nat
structure V4.Ok (v : V4) : Prop where
  a : W64 v.a
  b : W64 v.b
  c : W64 v.c
  d : W64 v.d
def V4.cells (v : V4) : Array Value := #[.int .u64 (v.a : Int), .int .u64 (v.b : Int), .int .u64 (v.c : Int), .int .u64 (v.d : Int)]
def V4.s1 (v : V4) : V4 := ⟨addw v.a v.b, v.b, v.c, v.d⟩
def V4.s2 (v : V4) : V4 := ⟨v.a, rot v.b 13 ^^^ v.a, v.c, v.d⟩
def V4.s3 (v : V4) : V4 := ⟨rot v.a 32, v.b, v.c, v.d⟩
def V4.s4 (v : V4) : V4 := ⟨v.a, v.b, addw v.c v.d, v.d⟩
def V4.s5 (v : V4) : V4 := ⟨v.a, v.b, v.c, rot v.d 16 ^^^ v.c⟩
def V4.s6 (v : V4) : V4 := ⟨addw v.a v.d, v.b, v.c, v.d⟩
def V4.s7 (v : V4) : V4 := ⟨v.a, v.b, v.c, rot v.d 21 ^^^ v.a⟩
def V4.s8 (v : V4) : V4 := ⟨v.a, v.b, addw v.c v.b, v.d⟩
def V4.s9 (v : V4) : V4 := ⟨v.a, rot v.b 17 ^^^ v.c, v.c, v.d⟩
def V4.s10 (v : V4) : V4 := ⟨v.a, v.b, rot v.c 32, v.d⟩
/-- A round. -/
def V4.rnd (v : V4) : V4 := v.s1.s2.s3.s4.s5.s6.s7.s8.s9.s10
theorem V4.Ok.rnd {v : V4} (h : v.Ok) : v.rnd.Ok := by
  have h1 : v.s1.Ok := ⟨W64.addw _ _, h.b, h.c, h.d⟩
  have h2 : v.s1.s2.Ok := ⟨h1.a, (h1.b.rot _).xor h1.a, h1.c, h1.d⟩
  have h3 : v.s1.s2.s3.Ok := ⟨h2.a.rot _, h2.b, h2.c, h2.d⟩
  have h4 : v.s1.s2.s3.s4.Ok := ⟨h3.a, h3.b, W64.addw _ _, h3.d⟩
  have h5 : v.s1.s2.s3.s4.s5.Ok := ⟨h4.a, h4.b, h4.c, (h4.d.rot _).xor h4.c⟩
  have h6 : v.s1.s2.s3.s4.s5.s6.Ok := ⟨W64.addw _ _, h5.b, h5.c, h5.d⟩
  have h7 : v.s1.s2.s3.s4.s5.s6.s7.Ok := ⟨h6.a, h6.b, h6.c, (h6.d.rot _).xor h6.a⟩
  have h8 : v.s1.s2.s3.s4.s5.s6.s7.s8.Ok := ⟨h7.a, h7.b, W64.addw _ _, h7.d⟩
  have h9 : v.s1.s2.s3.s4.s5.s6.s7.s8.s9.Ok := ⟨h8.a, (h8.b.rot _).xor h8.c, h8.c, h8.d⟩
  exact ⟨h9.a, h9.b, h9.c.rot _, h9.d⟩

/-- Block g holds the four words. -/
structure WB (t : TypeId) (w : World) (g : Nat) (v : V4) : Prop where
  ok : v.Ok
  blk : Blk w g t v.cells
section
variable {t : TypeId} {w w' : World} {g : Nat} {v : V4}
theorem WB.cells (h : WB t w g v) : w.cell? ⟨g, 0, none⟩ = some (.int .u64 (v.a : Int)) ∧ w.cell? ⟨g, 1, none⟩ = some (.int .u64 (v.b : Int)) ∧ w.cell? ⟨g, 2, none⟩ = some (.int .u64 (v.c : Int)) ∧ w.cell? ⟨g, 3, none⟩ = some (.int .u64 (v.d : Int)) :=
  ⟨h.blk.cell 0, h.blk.cell 1, h.blk.cell 2, h.blk.cell 3⟩
theorem WB.free (h : WB t w g v) : w.frozen? ⟨g, 0, none⟩ = false ∧ w.frozen? ⟨g, 1, none⟩ = false ∧ w.frozen? ⟨g, 2, none⟩ = false ∧ w.frozen? ⟨g, 3, none⟩ = false :=
  ⟨h.blk.frozen 0, h.blk.frozen 1, h.blk.frozen 2, h.blk.frozen 3⟩
theorem WB.kept {S : Nat → Prop} (h : WB t w g v) (k : Keep S w w') (hg : ¬ S g) : WB t w' g v := ⟨h.ok, h.blk.kept k hg⟩
theorem WB.drew (h : WB t w g v) : WB t w.drew g v := ⟨h.ok, h.blk.drew⟩
theorem WB.set_a (h : WB t w g v) {x : Nat} (hx : W64 x) : WB t (w.setCell ⟨g, 0, none⟩ (.int .u64 (x : Int))) g ⟨x, v.b, v.c, v.d⟩ := ⟨⟨hx, h.ok.b, h.ok.c, h.ok.d⟩, h.blk.set_ 0 _⟩
theorem WB.set_b (h : WB t w g v) {x : Nat} (hx : W64 x) : WB t (w.setCell ⟨g, 1, none⟩ (.int .u64 (x : Int))) g ⟨v.a, x, v.c, v.d⟩ := ⟨⟨h.ok.a, hx, h.ok.c, h.ok.d⟩, h.blk.set_ 1 _⟩
theorem WB.set_c (h : WB t w g v) {x : Nat} (hx : W64 x) : WB t (w.setCell ⟨g, 2, none⟩ (.int .u64 (x : Int))) g ⟨v.a, v.b, x, v.d⟩ := ⟨⟨h.ok.a, h.ok.b, hx, h.ok.d⟩, h.blk.set_ 2 _⟩
theorem WB.set_d (h : WB t w g v) {x : Nat} (hx : W64 x) : WB t (w.setCell ⟨g, 3, none⟩ (.int .u64 (x : Int))) g ⟨v.a, v.b, v.c, x⟩ := ⟨⟨h.ok.a, h.ok.b, h.ok.c, hx⟩, h.blk.set_ 3 _⟩
theorem Keep.put {w0 : World} (h : Keep (fun k => k = g) w0 w) (i : Nat) (u : Value) : Keep (fun k => k = g) w0 (w.setCell ⟨g, i, none⟩ u) := h.setCell (fun _ => rfl) u
end

set_option maxRecDepth 100000 in
set_option maxHeartbeats 3200000 in
theorem round_any (g : Nat) (v0 : V4) (w0 : World) (hb0 : WB 105 w0 g v0) :
    Calls Try.prog 66 #[.pointer (some ⟨g, 0, none⟩)] w0 fun e w' => e = .returned (.tuple #[]) ∧ Keep (fun k => k = g) w0 w' ∧ WB 105 w' g v0.rnd := by
  have hk0 := Keep.refl (fun k => k = g) w0
  go_enter Try.func66, Try.ntmps66
  go_wp2_with fail
  obtain ⟨c0, c1, c2, c3⟩ := hb0.cells
  obtain ⟨f0, f1, f2, f3⟩ := hb0.free
  have hval := wrap_add v0.a v0.b
  go_still_tail 11, (by kernel_rfl)
  change wpList _ _ _ _ _ w0.drew
  have hk := hk0.drew
  have hb := hb0.drew
  generalize w0.drew = w at hk hb ⊢
  clear c0 c1 c2 c3 f0 f1 f2 f3 hk0 hb0
  obtain ⟨c0, c1, c2, c3⟩ := hb.cells
  obtain ⟨f0, f1, f2, f3⟩ := hb.free
  go_wp2_with fail
  have hk1 := hk.put 0 (.int .u64 ((addw v0.a v0.b) : Int))
  have hb1 : WB 105 (w.setCell ⟨g, 0, none⟩ (.int .u64 ((addw v0.a v0.b) : Int))) g v0.s1 := hb.set_a (W64.addw _ _)
  clear hval hk hb c0 c1 c2 c3 f0 f1 f2 f3
  generalize w.setCell ⟨g, 0, none⟩ (.int .u64 ((addw v0.a v0.b) : Int)) = w1 at hk1 hb1 ⊢
  generalize hv1 : v0.s1 = v1 at hb1
  have HV1 := Lib.hid hv1
  clear hv1
  --STEP1
  obtain ⟨c0, c1, c2, c3⟩ := hb1.cells
  obtain ⟨f0, f1, f2, f3⟩ := hb1.free
  have hval := xor64 (hb1.ok.b.rot 13) hb1.ok.a
  go_still_tail 13, (by kernel_rfl)
  still_call (rotate_word v1.b 13 _ hb1.ok.b (by omega) (by omega))
  repeat still_step
  refine wpStill_nil ?_
  change wpList _ _ _ _ _ w1.drew
  have hk := hk1.drew
  have hb := hb1.drew
  generalize w1.drew = w at hk hb ⊢
  clear c0 c1 c2 c3 f0 f1 f2 f3 hk1 hb1
  obtain ⟨c0, c1, c2, c3⟩ := hb.cells
  obtain ⟨f0, f1, f2, f3⟩ := hb.free
  go_wp2_with fail
  have hk2 := hk.put 1 (.int .u64 ((rot v1.b 13 ^^^ v1.a) : Int))
  have hb2 : WB 105 (w.setCell ⟨g, 1, none⟩ (.int .u64 ((rot v1.b 13 ^^^ v1.a) : Int))) g v1.s2 := hb.set_b ((hb.ok.b.rot _).xor hb.ok.a)
  clear hval hk hb c0 c1 c2 c3 f0 f1 f2 f3
  generalize w.setCell ⟨g, 1, none⟩ (.int .u64 ((rot v1.b 13 ^^^ v1.a) : Int)) = w2 at hk2 hb2 ⊢
  --STEP2
  as_aux_lemma =>
    obtain ⟨c0, c1, c2, c3⟩ := hb2.cells
    obtain ⟨f0, f1, f2, f3⟩ := hb2.free
    have hk := hk2
    have hb := hb2
    clear hk2 hb2
    have hval := True.intro
    refine (rotate_any v1.a 32 _ hb.ok.a (by omega) (by omega)).mono ?_
    rintro e w' ⟨rfl, rfl⟩
    go_wp2_with fail
    have hk3 := hk.put 0 (.int .u64 ((rot v1.a 32) : Int))
    have hb3 : WB 105 (w2.setCell ⟨g, 0, none⟩ (.int .u64 ((rot v1.a 32) : Int))) g v1.s2.s3 := hb.set_a (hb.ok.a.rot _)
    clear hval hk hb c0 c1 c2 c3 f0 f1 f2 f3
    generalize w2.setCell ⟨g, 0, none⟩ (.int .u64 ((rot v1.a 32) : Int)) = w3 at hk3 hb3 ⊢
    generalize hv3 : v1.s2.s3 = v3 at hb3
    have HV3 := Lib.hid hv3
    clear hv3
    --STEP3
    obtain ⟨c0, c1, c2, c3⟩ := hb3.cells
    obtain ⟨f0, f1, f2, f3⟩ := hb3.free
    have hval := wrap_add v3.c v3.d
    go_still_tail 11, (by kernel_rfl)
    change wpList _ _ _ _ _ w3.drew
    have hk := hk3.drew
    have hb := hb3.drew
    generalize w3.drew = w at hk hb ⊢
    clear c0 c1 c2 c3 f0 f1 f2 f3 hk3 hb3
    obtain ⟨c0, c1, c2, c3⟩ := hb.cells
    obtain ⟨f0, f1, f2, f3⟩ := hb.free
    go_wp2_with fail
    have hk4 := hk.put 2 (.int .u64 ((addw v3.c v3.d) : Int))
    have hb4 : WB 105 (w.setCell ⟨g, 2, none⟩ (.int .u64 ((addw v3.c v3.d) : Int))) g v3.s4 := hb.set_c (W64.addw _ _)
    clear hval hk hb c0 c1 c2 c3 f0 f1 f2 f3
    generalize w.setCell ⟨g, 2, none⟩ (.int .u64 ((addw v3.c v3.d) : Int)) = w4 at hk4 hb4 ⊢
    generalize hv4 : v3.s4 = v4 at hb4
    have HV4 := Lib.hid hv4
    clear hv4
    --STEP4
    as_aux_lemma =>
      obtain ⟨c0, c1, c2, c3⟩ := hb4.cells
      obtain ⟨f0, f1, f2, f3⟩ := hb4.free
      have hval := xor64 (hb4.ok.d.rot 16) hb4.ok.c
      go_still_tail 13, (by kernel_rfl)
      still_call (rotate_word v4.d 16 _ hb4.ok.d (by omega) (by omega))
      repeat still_step
      refine wpStill_nil ?_
      change wpList _ _ _ _ _ w4.drew
      have hk := hk4.drew
      have hb := hb4.drew
      generalize w4.drew = w at hk hb ⊢
      clear c0 c1 c2 c3 f0 f1 f2 f3 hk4 hb4
      obtain ⟨c0, c1, c2, c3⟩ := hb.cells
      obtain ⟨f0, f1, f2, f3⟩ := hb.free
      go_wp2_with fail
      have hk5 := hk.put 3 (.int .u64 ((rot v4.d 16 ^^^ v4.c) : Int))
      have hb5 : WB 105 (w.setCell ⟨g, 3, none⟩ (.int .u64 ((rot v4.d 16 ^^^ v4.c) : Int))) g v4.s5 := hb.set_d ((hb.ok.d.rot _).xor hb.ok.c)
      clear hval hk hb c0 c1 c2 c3 f0 f1 f2 f3
      generalize w.setCell ⟨g, 3, none⟩ (.int .u64 ((rot v4.d 16 ^^^ v4.c) : Int)) = w5 at hk5 hb5 ⊢
      generalize hv5 : v4.s5 = v5 at hb5
      have HV5 := Lib.hid hv5
      clear hv5
      --STEP5
      obtain ⟨c0, c1, c2, c3⟩ := hb5.cells
      obtain ⟨f0, f1, f2, f3⟩ := hb5.free
      have hval := wrap_add v5.a v5.d
      go_still_tail 11, (by kernel_rfl)
      change wpList _ _ _ _ _ w5.drew
      have hk := hk5.drew
      have hb := hb5.drew
      generalize w5.drew = w at hk hb ⊢
      clear c0 c1 c2 c3 f0 f1 f2 f3 hk5 hb5
      obtain ⟨c0, c1, c2, c3⟩ := hb.cells
      obtain ⟨f0, f1, f2, f3⟩ := hb.free
      go_wp2_with fail
      have hk6 := hk.put 0 (.int .u64 ((addw v5.a v5.d) : Int))
      have hb6 : WB 105 (w.setCell ⟨g, 0, none⟩ (.int .u64 ((addw v5.a v5.d) : Int))) g v5.s6 := hb.set_a (W64.addw _ _)
      clear hval hk hb c0 c1 c2 c3 f0 f1 f2 f3
      generalize w.setCell ⟨g, 0, none⟩ (.int .u64 ((addw v5.a v5.d) : Int)) = w6 at hk6 hb6 ⊢
      generalize hv6 : v5.s6 = v6 at hb6
      have HV6 := Lib.hid hv6
      clear hv6
      --STEP6
      as_aux_lemma =>
        obtain ⟨c0, c1, c2, c3⟩ := hb6.cells
        obtain ⟨f0, f1, f2, f3⟩ := hb6.free
        have hval := xor64 (hb6.ok.d.rot 21) hb6.ok.a
        go_still_tail 13, (by kernel_rfl)
        still_call (rotate_word v6.d 21 _ hb6.ok.d (by omega) (by omega))
        repeat still_step
        refine wpStill_nil ?_
        change wpList _ _ _ _ _ w6.drew
        have hk := hk6.drew
        have hb := hb6.drew
        generalize w6.drew = w at hk hb ⊢
        clear c0 c1 c2 c3 f0 f1 f2 f3 hk6 hb6
        obtain ⟨c0, c1, c2, c3⟩ := hb.cells
        obtain ⟨f0, f1, f2, f3⟩ := hb.free
        go_wp2_with fail
        have hk7 := hk.put 3 (.int .u64 ((rot v6.d 21 ^^^ v6.a) : Int))
        have hb7 : WB 105 (w.setCell ⟨g, 3, none⟩ (.int .u64 ((rot v6.d 21 ^^^ v6.a) : Int))) g v6.s7 := hb.set_d ((hb.ok.d.rot _).xor hb.ok.a)
        clear hval hk hb c0 c1 c2 c3 f0 f1 f2 f3
        generalize w.setCell ⟨g, 3, none⟩ (.int .u64 ((rot v6.d 21 ^^^ v6.a) : Int)) = w7 at hk7 hb7 ⊢
        generalize hv7 : v6.s7 = v7 at hb7
        have HV7 := Lib.hid hv7
        clear hv7
        --STEP7
        obtain ⟨c0, c1, c2, c3⟩ := hb7.cells
        obtain ⟨f0, f1, f2, f3⟩ := hb7.free
        have hval := wrap_add v7.c v7.b
        go_still_tail 11, (by kernel_rfl)
        change wpList _ _ _ _ _ w7.drew
        have hk := hk7.drew
        have hb := hb7.drew
        generalize w7.drew = w at hk hb ⊢
        clear c0 c1 c2 c3 f0 f1 f2 f3 hk7 hb7
        obtain ⟨c0, c1, c2, c3⟩ := hb.cells
        obtain ⟨f0, f1, f2, f3⟩ := hb.free
        go_wp2_with fail
        have hk8 := hk.put 2 (.int .u64 ((addw v7.c v7.b) : Int))
        have hb8 : WB 105 (w.setCell ⟨g, 2, none⟩ (.int .u64 ((addw v7.c v7.b) : Int))) g v7.s8 := hb.set_c (W64.addw _ _)
        clear hval hk hb c0 c1 c2 c3 f0 f1 f2 f3
        generalize w.setCell ⟨g, 2, none⟩ (.int .u64 ((addw v7.c v7.b) : Int)) = w8 at hk8 hb8 ⊢
        generalize hv8 : v7.s8 = v8 at hb8
        have HV8 := Lib.hid hv8
        clear hv8
        --STEP8
        as_aux_lemma =>
          obtain ⟨c0, c1, c2, c3⟩ := hb8.cells
          obtain ⟨f0, f1, f2, f3⟩ := hb8.free
          have hval := xor64 (hb8.ok.b.rot 17) hb8.ok.c
          go_still_tail 13, (by kernel_rfl)
          still_call (rotate_word v8.b 17 _ hb8.ok.b (by omega) (by omega))
          repeat still_step
          refine wpStill_nil ?_
          change wpList _ _ _ _ _ w8.drew
          have hk := hk8.drew
          have hb := hb8.drew
          generalize w8.drew = w at hk hb ⊢
          clear c0 c1 c2 c3 f0 f1 f2 f3 hk8 hb8
          obtain ⟨c0, c1, c2, c3⟩ := hb.cells
          obtain ⟨f0, f1, f2, f3⟩ := hb.free
          go_wp2_with fail
          have hk9 := hk.put 1 (.int .u64 ((rot v8.b 17 ^^^ v8.c) : Int))
          have hb9 : WB 105 (w.setCell ⟨g, 1, none⟩ (.int .u64 ((rot v8.b 17 ^^^ v8.c) : Int))) g v8.s9 := hb.set_b ((hb.ok.b.rot _).xor hb.ok.c)
          clear hval hk hb c0 c1 c2 c3 f0 f1 f2 f3
          generalize w.setCell ⟨g, 1, none⟩ (.int .u64 ((rot v8.b 17 ^^^ v8.c) : Int)) = w9 at hk9 hb9 ⊢
          --STEP9
          as_aux_lemma =>
            obtain ⟨c0, c1, c2, c3⟩ := hb9.cells
            obtain ⟨f0, f1, f2, f3⟩ := hb9.free
            have hk := hk9
            have hb := hb9
            clear hk9 hb9
            have hval := True.intro
            refine (rotate_any v8.c 32 _ hb.ok.c (by omega) (by omega)).mono ?_
            rintro e w' ⟨rfl, rfl⟩
            go_wp2_with fail
            have hk10 := hk.put 2 (.int .u64 ((rot v8.c 32) : Int))
            have hb10 : WB 105 (w9.setCell ⟨g, 2, none⟩ (.int .u64 ((rot v8.c 32) : Int))) g v8.s9.s10 := hb.set_c (hb.ok.c.rot _)
            clear hval hk hb c0 c1 c2 c3 f0 f1 f2 f3
            generalize w9.setCell ⟨g, 2, none⟩ (.int .u64 ((rot v8.c 32) : Int)) = w10 at hk10 hb10 ⊢
            generalize hv10 : v8.s9.s10 = v10 at hb10
            have HV10 := Lib.hid hv10
            clear hv10
            --STEP10
            go_end0
            refine ⟨rfl, hk10, ?_⟩
            unfold V4.rnd
            rw [HV1.out, HV3.out, HV4.out, HV5.out, HV6.out, HV7.out, HV8.out, HV10.out]
            exact hb10
end Go.Proofs.Ytpendcaefjbomaa
