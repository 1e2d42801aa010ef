/- The code of packets: link.Encode, link.Decode. No condition but that a packet's body lies in memory. -/
import Derived.Test.YtfgceplafjbmhaaLkB
import Derived.Test.YtfgceplafjbmhaaLink
import Derived.Deep.RegionHeld3
namespace Go.Proofs.Ytfgceplafjbmhaa
open Go.RowKit
set_option linter.unusedVariables false
set_option linter.unusedSimpArgs false

/-- The code of a packet. -/
def encP (p : Pk) : List UInt8 := (numCell p.seq ++ numCell p.ack) ++ (numCell (p.body.length : Int) ++ p.body)
/-- What any bytes are as a packet. -/
def decP (b : List UInt8) : Option Pk :=
  if (ttext (tnum (tnum (some b) 0 1099511627776).2 0 1099511627776).2 2048).2 = some [] ∧
     mayP ⟨(tnum (some b) 0 1099511627776).1, (tnum (tnum (some b) 0 1099511627776).2 0 1099511627776).1, (ttext (tnum (tnum (some b) 0 1099511627776).2 0 1099511627776).2 2048).1⟩ = true
  then some ⟨(tnum (some b) 0 1099511627776).1, (tnum (tnum (some b) 0 1099511627776).2 0 1099511627776).1, (ttext (tnum (tnum (some b) 0 1099511627776).2 0 1099511627776).2 2048).1⟩ else none
theorem put_fits (b x : List UInt8) (h : b.length + x.length ≤ 262144) : put (some b) x = some (b ++ x) := by
  show (if 262144 < b.length + x.length then none else some (b ++ x)) = _
  rw [if_neg (by omega)]
theorem mayP_facts {p : Pk} (h : mayP p = true) : 0 ≤ p.seq ∧ p.seq ≤ 1099511627776 ∧ 0 ≤ p.ack ∧ p.ack ≤ 1099511627776 ∧ p.body.length ≤ 2048 := by
  rw [mayPn_of p _ rfl, mayPn_iff] at h
  omega
theorem encP_len {p : Pk} (h : mayP p = true) : (encP p).length ≤ 4096 := by
  have := (mayP_facts h).2.2.2.2
  have h1 := numCell_len p.seq
  have h2 := numCell_len p.ack
  have h3 := numCell_len (p.body.length : Int)
  unfold encP
  simp only [List.length_append]
  omega
theorem encP_fits {p : Pk} (h : mayP p = true) : put (put (put (some []) (numCell p.seq)) (numCell p.ack)) (numCell (p.body.length : Int) ++ p.body) = some (encP p) := by
  have := (mayP_facts h).2.2.2.2
  have h1 := numCell_len p.seq
  have h2 := numCell_len p.ack
  have h3 := numCell_len (p.body.length : Int)
  rw [put_fits _ _ (by simp; omega), List.nil_append, put_fits _ _ (by omega), put_fits _ _ (by simp only [List.length_append]; omega)]
  rfl
theorem take_num (n : Int) (r : List UInt8) (h0 : -9223372036854775808 ≤ n) (h1 : n ≤ 9223372036854775807) (a b : Int) (ha : a ≤ n) (hb : n ≤ b) : tnum (some (numCell n ++ r)) a b = (n, some r) := by
  rw [pt_some_first (st := some (numCell n ++ r)) a b (first_num n r h0 h1), if_neg (by omega)]
  simp
theorem take_text (s : List UInt8) (r : List UInt8) (b : Int) (hs : s.length ≤ 9223372036854775807) (hb : (s.length : Int) ≤ b) : ttext (some (numCell s.length ++ s ++ r)) b = (s, some r) := by
  have hf := first_num s.length (s ++ r) (by omega) (by omega)
  rw [← List.append_assoc] at hf
  have hft : ft (numCell s.length ++ s ++ r) = some ((numCell (s.length : Int)).length, s.length) := by
    rw [ft_some hf, if_neg (by rw [List.length_append, List.length_append]; omega)]
    simp
  rw [pt_some_ft (st := some (numCell s.length ++ s ++ r)) b hft, if_neg (by omega), Option.getD_some]
  have h1 : (numCell (s.length : Int) ++ s ++ r).drop (numCell (s.length : Int)).length = s ++ r := by
    rw [List.append_assoc]
    simp
  rw [h1, ← List.drop_drop, h1, List.take_left' rfl, List.drop_left' rfl]
/-- What was made is taken. -/
theorem decP_enc {p : Pk} (h : mayP p = true) : decP (encP p) = some p := by
  obtain ⟨h1, h2, h3, h4, h5⟩ := mayP_facts h
  have e1 : tnum (some (encP p)) 0 1099511627776 = (p.seq, some (numCell p.ack ++ (numCell (p.body.length : Int) ++ p.body))) := by
    unfold encP
    rw [List.append_assoc]
    exact take_num _ _ (by omega) (by omega) _ _ h1 h2
  have e2 : tnum (some (numCell p.ack ++ (numCell (p.body.length : Int) ++ p.body))) 0 1099511627776 = (p.ack, some (numCell (p.body.length : Int) ++ p.body)) := take_num _ _ (by omega) (by omega) _ _ h3 h4
  have e3 : ttext (some (numCell (p.body.length : Int) ++ p.body)) 2048 = (p.body, some []) := by
    have := take_text p.body [] 2048 (by omega) (by omega)
    rwa [List.append_nil] at this
  unfold decP
  rw [e1, e2, e3]
  exact if_pos ⟨rfl, h⟩

theorem foot_new {g i : Nat} (h : MF g (.slice none 0 0) i) : i = g := by
  rcases h with h | h
  · exact h
  · cases h
/-- A maker beside a packet's box, and its body. -/
structure MB (base : Nat) (w : World) (g : Nat) (v : Value) (B : Nat) (s a : Int) (A : Option Addr) (n c : Nat) (body : List UInt8) (W : World) (v' : Value) (st : Option (List UInt8)) : Prop where
  mo : MK base W g v' st
  keep : Keep (MF g v) w W
  foot : ∀ i, MF g v' i → MF g v i ∨ w.heap.size ≤ i
  box : Blk W B 32 #[.int .i64 s, .int .i64 a, .slice A n c]
  out : ¬ MF g v' B
  rb : RB W A n body
  rout : 0 < n → ∀ ad, A = some ad → ¬ MF g v' ad.block
theorem MB.step {base : Nat} {w : World} {g : Nat} {v : Value} {B : Nat} {s a : Int} {A : Option Addr} {n c : Nat} {body : List UInt8} {W W' : World} {v' v2 : Value} {st st2 : Option (List UInt8)} (h : MB base w g v B s a A n c body W v' st) (hm : MK base W' g v2 st2) (hk : Keep (MF g v') W W') (hf : ∀ i, MF g v2 i → MF g v' i ∨ W.heap.size ≤ i) : MB base w g v B s a A n c body W' v2 st2 := by
  refine ⟨hm, h.keep.trans hk (fun i hi h2 => (h.foot i h2).elim id (fun h3 => by omega)), fun i hi => ?_, h.box.kept hk h.out, fun hb => ?_, h.rb.kept' hk h.rout, fun hn ad ha hb => ?_⟩
  · rcases hf i hi with h2 | h2
    · exact h.foot i h2
    · exact .inr (Nat.le_trans h.keep.size h2)
  · rcases hf B hb with h2 | h2
    · exact h.out h2
    · have := h.box.lt
      omega
  · rcases hf _ hb with h2 | h2
    · exact h.rout hn ad ha h2
    · have := h.rb.addr_lt ha hn
      omega
theorem MB.first {w w2 : World} {B : Nat} {s a : Int} {A : Option Addr} {n c : Nat} {body : List UInt8} (hb : Blk w B 32 #[.int .i64 s, .int .i64 a, .slice A n c]) (hr : RB w A n body) (hm : MK w.heap.size w2 w.heap.size (.slice none 0 0) (some [])) (hx : Below w.heap.size w w2) : MB w.heap.size w w.heap.size (.slice none 0 0) B s a A n c body w2 (.slice none 0 0) (some []) := by
  refine ⟨hm, (Keep.of_below hx).mono (fun i hi h => by omega), fun i hi => .inl hi, hb.kept (Keep.of_below hx) (fun h => by have := hb.lt; omega), fun h => ?_, hr.below hx, fun hn ad ha h => ?_⟩
  · have := foot_new h
    have := hb.lt
    omega
  · have := foot_new h
    have := hr.addr_lt ha hn
    omega
theorem MB.S {base : Nat} {w : World} {g : Nat} {v : Value} {B : Nat} {s a : Int} {A : Option Addr} {n c : Nat} {body : List UInt8} {W : World} {v' : Value} {st : Option (List UInt8)} (h : MB base w g v B s a A n c body W v' st) : W.cell? ⟨B, 0, none⟩ = some (.int .i64 s) ∧ W.cell? ⟨B, 1, none⟩ = some (.int .i64 a) ∧ W.cell? ⟨B, 2, none⟩ = some (.slice A n c) ∧ (convert 30 9 (.slice A n c)).run Try.prog W = .ok (.string ⟨body.toArray⟩) W :=
  ⟨h.box.cell 0, h.box.cell 1, h.box.cell 2, run_str _ _ _ _ _ h.rb⟩
theorem MB.S' {base : Nat} {w : World} {g : Nat} {v : Value} {B : Nat} {s a : Int} {A : Option Addr} {n c : Nat} {body : List UInt8} {W W' : World} {v' : Value} {st : Option (List UInt8)} (h : MB base w g v B s a A n c body W v' st) (hx : Below W.heap.size W W') : W'.cell? ⟨B, 0, none⟩ = some (.int .i64 s) ∧ W'.cell? ⟨B, 1, none⟩ = some (.int .i64 a) ∧ W'.cell? ⟨B, 2, none⟩ = some (.slice A n c) ∧ (convert 30 9 (.slice A n c)).run Try.prog W' = .ok (.string ⟨body.toArray⟩) W' := by
  have hb := h.box.kept (Keep.of_below hx) (Nat.not_le.2 h.box.lt)
  exact ⟨hb.cell 0, hb.cell 1, hb.cell 2, run_str _ _ _ _ _ (h.rb.below hx)⟩
theorem MB.bel {w W : World} {B : Nat} {s a : Int} {A : Option Addr} {n c : Nat} {body : List UInt8} {v' : Value} {st : Option (List UInt8)} (h : MB w.heap.size w w.heap.size (.slice none 0 0) B s a A n c body W v' st) : Below w.heap.size w W :=
  h.keep.below (Nat.le_refl _) (fun i hi h2 => by have := foot_new h2; omega)

/-- What Encode answers. -/
def EncPPost (ok : Bool) (code : List UInt8) (w : World) (e : Ending) (w' : World) : Prop :=
  Below w.heap.size w w' ∧ match ok with
    | false => e = .returned (.tuple #[.slice none 0 0, .int .i64 1])
    | true => ∃ A c, e = .returned (.tuple #[.slice A code.length c, .int .i64 0]) ∧ code.length ≤ c ∧ c ≤ maxLen ∧ RB w' A code.length code ∧ ∀ ad, A = some ad → w.heap.size ≤ ad.block ∧ ad.block < w'.heap.size

set_option maxRecDepth 100000 in
set_option maxHeartbeats 6400000 in
theorem lencode_any (p : Pk) (A : Option Addr) (n c : Nat) (w : World) (hr : RB w A n p.body) (hn : n ≤ 9223372036854775807) :
    Calls Try.prog 28 #[PKV p.seq p.ack A n c] w (EncPPost (mayP p) (encP p) w) := by
  have hln : p.body.length = n := hr.1
  cases hx : mayP p with
  | false =>
    have hmn := hx
    rw [mayPn_of p n hln] at hmn
    obtain ⟨s, a, body⟩ := p
    dsimp only at hr hln hmn
    have hb1 := (Below.refl w.heap.size w).alloc (Nat.le_refl _) (.cells #[.int .i64 s, .int .i64 a, .slice A n c] 32)
    have hb2 := hb1.alloc hb1.size (.cells #[.int .i64 s, .int .i64 a, .slice A n c] 32)
    go_enter Try.func28, Try.ntmps28
    go_wp2_with fail
    refine (may_any s a A n c _ hn).mono ?_
    rintro e w1 ⟨rfl, rfl⟩
    rw [hmn]
    go_wp2
    go_ret2
    exact ⟨hb2, rfl⟩
  | true =>
    have hfit := encP_fits hx
    have hmn := hx
    rw [mayPn_of p n hln] at hmn
    obtain ⟨f1, f2, f3, f4, f5⟩ := mayP_facts hx
    obtain ⟨CODE, hCODE⟩ : ∃ CODE, encP p = CODE := ⟨_, rfl⟩
    rw [hCODE] at hfit ⊢
    clear hCODE hx
    obtain ⟨s, a, body⟩ := p
    dsimp only at hr hln hmn hfit f1 f2 f3 f4 f5
    have hb0 := (Below.refl w.heap.size w).alloc (Nat.le_refl _) (.cells #[.int .i64 s, .int .i64 a, .slice A n c] 32)
    have hbx0 := Blk.new w 32 #[.int .i64 s, .int .i64 a, .slice A n c]
    have hb1 := hb0.alloc hb0.size (.cells #[.int .i64 s, .int .i64 a, .slice A n c] 32)
    have hbx1 := hbx0.alloc (.cells #[.int .i64 s, .int .i64 a, .slice A n c] 32)
    have hrb1 := (hr.alloc (.cells #[.int .i64 s, .int .i64 a, .slice A n c] 32)).alloc (.cells #[.int .i64 s, .int .i64 a, .slice A n c] 32)
    go_enter Try.func28, Try.ntmps28
    go_wp2_with fail
    refine (may_any s a A n c _ hn).mono ?_
    rintro e w1 ⟨rfl, hww⟩
    rw [← hww] at hb1 hbx1 hrb1
    rw [hmn]
    clear hww hb0 hbx0
    have hbx := hbx1.drew
    have hrb := hrb1.drew
    have hbw := Below.drew hb1
    have hS1 : w1.drew.cell? ⟨w.heap.size, 0, none⟩ = some (.int .i64 s) ∧ w1.drew.cell? ⟨w.heap.size, 1, none⟩ = some (.int .i64 a) ∧ w1.drew.cell? ⟨w.heap.size, 2, none⟩ = some (.slice A n c) ∧ (convert 30 9 (.slice A n c)).run Try.prog w1.drew = .ok (.string ⟨body.toArray⟩) w1.drew := ⟨hbx.cell 0, hbx.cell 1, hbx.cell 2, run_str _ _ _ _ _ hrb⟩
    clear hb1 hbx1 hrb1
    have HFIT := hfit
    clear hfit
    go_wp2_with fail
    --R
    refine wp_region_held_drew (S := (fun w' => w'.cell? ⟨w.heap.size, 0, none⟩ = some (.int .i64 s) ∧ w'.cell? ⟨w.heap.size, 1, none⟩ = some (.int .i64 a) ∧ w'.cell? ⟨w.heap.size, 2, none⟩ = some (.slice A n c) ∧ (convert 30 9 (.slice A n c)).run Try.prog w' = .ok (.string ⟨body.toArray⟩) w')) (by kernel_rfl) hS1 (fun hHeld => ?_)
    refine wpAnyH_take (i := 1) (oi := ?oi1) (v := ?v1) ?hi1 (by kernel_rfl) (by kernel_rfl) (by kernel_rfl) ?hq1 (Or.inl ⟨?hw1, ?hy1⟩) (by assumption) ?rest1
    case hi1 => (simp only [List.getElem?_toArray, List.getElem?_cons_succ, List.getElem?_cons_zero]; rfl)
    case hq1 => exact fun _ _ _ h => h
    case hw1 => rfl
    case hy1 => (intro w hSw; (try dsimp only at hSw); go_simp <;> with_reducible rfl)
    try simp only [Act.put, List.setIfInBounds_toArray, List.set_cons_zero, List.set_cons_succ]
    refine wpAnyH_take (i := 2) (oi := ?oi2) (v := ?v2) ?hi2 (by kernel_rfl) (by kernel_rfl) (by kernel_rfl) ?hq2 (Or.inl ⟨?hw2, ?hy2⟩) (by assumption) ?rest2
    case hi2 => (simp only [List.getElem?_toArray, List.getElem?_cons_succ, List.getElem?_cons_zero]; rfl)
    case hq2 => exact fun _ _ _ h => h
    case hw2 => rfl
    case hy2 => (intro w hSw; (try dsimp only at hSw); go_simp <;> with_reducible rfl)
    try simp only [Act.put, List.setIfInBounds_toArray, List.set_cons_zero, List.set_cons_succ]
    refine wpAnyH_take (i := 4) (oi := ?oi4) (v := ?v4) ?hi4 (by kernel_rfl) (by kernel_rfl) (by kernel_rfl) ?hq4 (Or.inl ⟨?hw4, ?hy4⟩) (by assumption) ?rest4
    case hi4 => (simp only [List.getElem?_toArray, List.getElem?_cons_succ, List.getElem?_cons_zero]; rfl)
    case hq4 => exact fun _ _ _ h => h
    case hw4 => rfl
    case hy4 => (intro w hSw; (try dsimp only at hSw); go_simp <;> with_reducible rfl)
    try simp only [Act.put, List.setIfInBounds_toArray, List.set_cons_zero, List.set_cons_succ]
    refine wpAnyH_take (i := 5) (oi := ?oi5) (v := ?v5) ?hi5 (by kernel_rfl) (by kernel_rfl) (by kernel_rfl) ?hq5 (Or.inl ⟨?hw5, ?hy5⟩) (by assumption) ?rest5
    case hi5 => (simp only [List.getElem?_toArray, List.getElem?_cons_succ, List.getElem?_cons_zero]; rfl)
    case hq5 => exact fun _ _ _ h => h
    case hw5 => rfl
    case hy5 => (intro w hSw; (try dsimp only at hSw); go_simp <;> with_reducible rfl)
    try simp only [Act.put, List.setIfInBounds_toArray, List.set_cons_zero, List.set_cons_succ]
    refine wpAnyH_take (i := 7) (oi := ?oi7) (v := ?v7) ?hi7 (by kernel_rfl) (by kernel_rfl) (by kernel_rfl) ?hq7 (Or.inl ⟨?hw7, ?hy7⟩) (by assumption) ?rest7
    case hi7 => (simp only [List.getElem?_toArray, List.getElem?_cons_succ, List.getElem?_cons_zero]; rfl)
    case hq7 => exact fun _ _ _ h => h
    case hw7 => rfl
    case hy7 => (intro w hSw; (try dsimp only at hSw); go_simp <;> with_reducible rfl)
    try simp only [Act.put, List.setIfInBounds_toArray, List.set_cons_zero, List.set_cons_succ]
    refine wpAnyH_take (i := 8) (oi := ?oi8) (v := ?v8) ?hi8 (by kernel_rfl) (by kernel_rfl) (by kernel_rfl) ?hq8 (Or.inl ⟨?hw8, ?hy8⟩) (by assumption) ?rest8
    case hi8 => (simp only [List.getElem?_toArray, List.getElem?_cons_succ, List.getElem?_cons_zero]; rfl)
    case hq8 => exact fun _ _ _ h => h
    case hw8 => rfl
    case hy8 => (intro w hSw; (try dsimp only at hSw); go_simp <;> with_reducible rfl)
    try simp only [Act.put, List.setIfInBounds_toArray, List.set_cons_zero, List.set_cons_succ]
    refine wpAnyH_take (i := 9) (oi := ?oi9) (v := ?v9) ?hi9 (by kernel_rfl) (by kernel_rfl) (by kernel_rfl) ?hq9 (Or.inl ⟨?hw9, ?hy9⟩) (by assumption) ?rest9
    case hi9 => (simp only [List.getElem?_toArray, List.getElem?_cons_succ, List.getElem?_cons_zero]; rfl)
    case hq9 => exact fun _ _ _ h => h
    case hw9 => rfl
    case hy9 => (intro w hSw; (try dsimp only at hSw); go_simp <;> with_reducible rfl)
    try simp only [Act.put, List.setIfInBounds_toArray, List.set_cons_zero, List.set_cons_succ]
    refine wpAnyH_ready (rs := [0]) (by kernel_rfl) (by simp) ?_
    refine AllReadyH.cons (o := ?o0) ?hi0 (fun K hK => ?st0) AllReadyH.nil
    case hi0 => (simp only [List.getElem?_toArray, List.getElem?_cons_succ, List.getElem?_cons_zero]; rfl)
    go_simp
    refine (new_any _).mono ?_
    rintro e w2 ⟨rfl, hm2, hx2⟩
    have hP2 := MB.first hbx hrb hm2 hx2
    have hS2 := hP2.S
    go_wp2_with fail
    refine hK.out _ _ hS2 (fun hHeld2 => ?_)
    clear hK K hHeld
    have hHeld := hHeld2
    clear hHeld2
    try simp only [Act.put, List.setIfInBounds_toArray, List.set_cons_zero, List.set_cons_succ]
    refine wpAnyH_ready (rs := [3]) (by kernel_rfl) (by simp) ?_
    refine AllReadyH.cons (o := ?o3) ?hi3 (fun K hK => ?st3) AllReadyH.nil
    case hi3 => (simp only [List.getElem?_toArray, List.getElem?_cons_succ, List.getElem?_cons_zero]; rfl)
    go_simp
    refine (mnum_any w1.drew.heap.size w1.drew.heap.size _ _ s _ hP2.mo (by omega) (by omega)).mono ?_
    rintro e w3 ⟨v3, rfl, hm3, hk3, hf3⟩
    have hP3 := hP2.step hm3 hk3 hf3
    have hS3 := hP3.S
    go_wp2_with fail
    refine hK.out _ _ hS3 (fun hHeld2 => ?_)
    clear hK K hHeld
    have hHeld := hHeld2
    clear hHeld2
    try simp only [Act.put, List.setIfInBounds_toArray, List.set_cons_zero, List.set_cons_succ]
    refine wpAnyH_ready (rs := [6]) (by kernel_rfl) (by simp) ?_
    refine AllReadyH.cons (o := ?o6) ?hi6 (fun K hK => ?st6) AllReadyH.nil
    case hi6 => (simp only [List.getElem?_toArray, List.getElem?_cons_succ, List.getElem?_cons_zero]; rfl)
    go_simp
    refine (mnum_any w1.drew.heap.size w1.drew.heap.size _ _ a _ hP3.mo (by omega) (by omega)).mono ?_
    rintro e w4 ⟨v4, rfl, hm4, hk4, hf4⟩
    have hP4 := hP3.step hm4 hk4 hf4
    have hS4 := hP4.S
    go_wp2_with fail
    refine hK.out _ _ hS4 (fun hHeld2 => ?_)
    clear hK K hHeld
    have hHeld := hHeld2
    clear hHeld2
    try simp only [Act.put, List.setIfInBounds_toArray, List.set_cons_zero, List.set_cons_succ]
    refine wpAnyH_ready (rs := [10]) (by kernel_rfl) (by simp) ?_
    refine AllReadyH.cons (o := ?o10) ?hi10 (fun K hK => ?st10) AllReadyH.nil
    case hi10 => (simp only [List.getElem?_toArray, List.getElem?_cons_succ, List.getElem?_cons_zero]; rfl)
    go_simp
    refine (mtext_any w1.drew.heap.size w1.drew.heap.size _ _ ⟨body.toArray⟩ _ hP4.mo (by simp [ByteArray.size]; omega)).mono ?_
    rintro e w5 ⟨v5, rfl, hm5, hk5, hf5⟩
    have hP5 := hP4.step hm5 hk5 hf5
    have hS5 := hP5.S
    change MK _ _ _ _ (put (put (put (some []) (numCell s)) (numCell a)) (numCell (body.length : Int) ++ body)) at hm5
    rw [HFIT] at hm5
    go_wp2_with fail
    refine hK.out _ _ hS5 (fun hHeld2 => ?_)
    clear hK K hHeld
    have hHeld := hHeld2
    clear hHeld2
    try simp only [Act.put, List.setIfInBounds_toArray, List.set_cons_zero, List.set_cons_succ]
    refine wpAnyH_ready (rs := [11]) (by kernel_rfl) (by simp) ?_
    refine AllReadyH.cons (o := ?o11) ?hi11 (fun K hK => ?st11) AllReadyH.nil
    case hi11 => (simp only [List.getElem?_toArray, List.getElem?_cons_succ, List.getElem?_cons_zero]; rfl)
    go_simp
    refine (mdone_any w1.drew.heap.size w1.drew.heap.size v5 _ _ hm5).mono ?_
    rintro e w6 ⟨hx6, A6, c6, rfl, q1, q2, q3, q4⟩
    have hS6 := hP5.S' hx6
    go_wp2_with fail
    refine hK.out _ _ hS6 (fun hHeld2 => ?_)
    clear hK K hHeld
    have hHeld := hHeld2
    clear hHeld2
    try simp only [Act.put, List.setIfInBounds_toArray, List.set_cons_zero, List.set_cons_succ]
    refine wpAnyH_take (i := 12) (oi := ?oi12) (v := ?v12) ?hi12 (by kernel_rfl) (by kernel_rfl) (by kernel_rfl) ?hq12 (Or.inl ⟨?hw12, ?hy12⟩) (by assumption) ?rest12
    case hi12 => (simp only [List.getElem?_toArray, List.getElem?_cons_succ, List.getElem?_cons_zero]; rfl)
    case hq12 => exact fun _ _ _ h => h
    case hw12 => rfl
    case hy12 => (intro w hSw; (try dsimp only at hSw); go_simp <;> with_reducible rfl)
    try simp only [Act.put, List.setIfInBounds_toArray, List.set_cons_zero, List.set_cons_succ]
    refine wpAnyH_take (i := 13) (oi := ?oi13) (v := ?v13) ?hi13 (by kernel_rfl) (by kernel_rfl) (by kernel_rfl) ?hq13 (Or.inl ⟨?hw13, ?hy13⟩) (by assumption) ?rest13
    case hi13 => (simp only [List.getElem?_toArray, List.getElem?_cons_succ, List.getElem?_cons_zero]; rfl)
    case hq13 => exact fun _ _ _ h => h
    case hw13 => rfl
    case hy13 => (intro w hSw; (try dsimp only at hSw); go_simp <;> with_reducible rfl)
    try simp only [Act.put, List.setIfInBounds_toArray, List.set_cons_zero, List.set_cons_succ]
    refine wpAnyH_take (i := 14) (oi := ?oi14) (v := ?v14) ?hi14 (by kernel_rfl) (by kernel_rfl) (by kernel_rfl) ?hq14 (Or.inl ⟨?hw14, ?hy14⟩) (by assumption) ?rest14
    case hi14 => (simp only [List.getElem?_toArray, List.getElem?_cons_succ, List.getElem?_cons_zero]; rfl)
    case hq14 => exact fun _ _ _ h => h
    case hw14 => rfl
    case hy14 => (intro w hSw; (try dsimp only at hSw); go_simp <;> with_reducible rfl)
    try simp only [Act.put, List.setIfInBounds_toArray, List.set_cons_zero, List.set_cons_succ]
    refine wpAnyH_take (i := 15) (oi := ?oi15) (v := ?v15) ?hi15 (by kernel_rfl) (by kernel_rfl) (by kernel_rfl) ?hq15 (Or.inl ⟨?hw15, ?hy15⟩) (by assumption) ?rest15
    case hi15 => (simp only [List.getElem?_toArray, List.getElem?_cons_succ, List.getElem?_cons_zero]; rfl)
    case hq15 => exact fun _ _ _ h => h
    case hw15 => rfl
    case hy15 => (intro w hSw; (try dsimp only at hSw); go_simp <;> with_reducible rfl)
    try simp only [Act.put, List.setIfInBounds_toArray, List.set_cons_zero, List.set_cons_succ]
    refine wpAnyH_done (by kernel_rfl) ?_ _
    have hb5 := hbw.trans (hP5.bel.mono hbw.size)
    have hb6 := hb5.trans (hx6.mono hb5.size)
    have hz5 := hb5.size
    go_wp2
    go_ret2
    exact ⟨hb6, A6, c6, rfl, q1, q2, q3, fun ad had => ⟨by have := (q4 ad had).1; omega, (q4 ad had).2⟩⟩
theorem TKbelow {t : TypeId} {w w' : World} {g : Nat} {A : Option Addr} {c : Nat} {l : List UInt8} {bad : Bool} (h : TK t w g A c l bad) (hb : Below w.heap.size w w') : TK t w' g A c l bad :=
  ⟨h.blk.kept (Keep.of_below hb) (by have := h.blk.lt; omega), h.rd.below hb, h.cap, h.apart⟩
theorem ttext_len (st : Option (List UInt8)) (m : Nat) : (ttext st m).1.length ≤ m := by
  cases st with
  | none => exact Nat.zero_le _
  | some l =>
    unfold ttext
    dsimp only
    split
    · split
      · exact Nat.zero_le _
      · dsimp only
        rw [List.length_take]
        omega
    · exact Nat.zero_le _
/-- What Decode answers. -/
def DecPPost (r : Option Pk) (w : World) (e : Ending) (w' : World) : Prop :=
  Below w.heap.size w w' ∧ match r with
    | none => e = .returned (.tuple #[pkN, .int .i64 10])
    | some p => ∃ A c, e = .returned (.tuple #[PKV p.seq p.ack A p.body.length c, .int .i64 0]) ∧ RB w' A p.body.length p.body ∧ ∀ ad, A = some ad → w.heap.size ≤ ad.block ∧ ad.block < w'.heap.size
set_option maxRecDepth 100000 in
set_option maxHeartbeats 6400000 in
theorem ldecode_any (A : Option Addr) (n c : Nat) (b : List UInt8) (w : World) (hr : RB w A n b) (hn : n ≤ 140737488355328) :
    Calls Try.prog 29 #[.slice A n c] w (DecPPost (decP b) w) := by
  obtain ⟨s, st1, e1⟩ : ∃ s st1, tnum (some b) 0 1099511627776 = (s, st1) := ⟨_, _, rfl⟩
  obtain ⟨a, st2, e2⟩ : ∃ a st2, tnum st1 0 1099511627776 = (a, st2) := ⟨_, _, rfl⟩
  obtain ⟨x, st3, e3⟩ : ∃ x st3, ttext st2 2048 = (x, st3) := ⟨_, _, rfl⟩
  have hxl : x.length ≤ 2048 := by have := ttext_len st2 2048; rw [show ttext st2 ((2048 : Nat) : Int) = (x, st3) from e3] at this; exact this
  have hD : decP b = if st3 = some [] ∧ mayP ⟨s, a, x⟩ = true then some ⟨s, a, x⟩ else none := by
    unfold decP
    rw [e1, e2, e3]
  obtain ⟨D, hDD⟩ : ∃ D, decP b = D := ⟨_, rfl⟩
  rw [hDD] at hD ⊢
  clear hDD
  have HD := Lib.hid hD
  clear hD
  have T1 := fun W g At ct h => tnum_any W g At ct (some b) 0 1099511627776 h
  have T2 := fun W g At ct h => tnum_any W g At ct st1 0 1099511627776 h
  have T3 := fun W g At ct h => ttext_any W g At ct st2 2048 h
  rw [e1] at T1
  rw [e2] at T2
  rw [e3] at T3
  dsimp only at T1 T2 T3
  clear e1 e2 e3
  have T1' := Lib.hid T1
  have T2' := Lib.hid T2
  have T3' := Lib.hid T3
  clear T1 T2 T3
  have hb1 := (Below.refl w.heap.size w).alloc (Nat.le_refl _) (.cells #[.int .i64 0, .int .i64 0, .slice none 0 0] 32)
  have hz1 := Blk.new w 32 #[.int .i64 0, .int .i64 0, .slice none 0 0]
  have hr1 := hr.alloc (.cells #[.int .i64 0, .int .i64 0, .slice none 0 0] 32)
  go_enter Try.func29, Try.ntmps29
  go_wp2_with fail
  refine (take_any A n c b _ hr1 hn).mono ?_
  rintro e w2 ⟨g, A2, c2, rfl, hg, hp2, hx2, hA2⟩
  have hgw : w.heap.size < g := by rw [World.size_alloc] at hg; omega
  have hb2 := hb1.trans (hx2.mono hb1.size)
  have hz2 := hz1.kept (Keep.of_below hx2) (Nat.not_le.2 hz1.lt)
  clear hx2 hr1 hb1 hz1
  go_wp2_with fail
  refine (T1'.out _ g A2 c2 hp2).mono ?_
  rintro e w3 ⟨A3, c3, rfl, hp3, hk3, hs3⟩
  have hb3 := hb2.trans (hk3.below (B := w.heap.size) hb2.size (fun i hi h => by omega))
  have hz3 := hz2.kept hk3 (by omega)
  clear hp2 hb2 hz2 hk3
  go_wp2_with fail
  refine (T2'.out _ g A3 c3 hp3).mono ?_
  rintro e w4 ⟨A4, c4, rfl, hp4, hk4, hs4⟩
  have hb4 := hb3.trans (hk4.below (B := w.heap.size) hb3.size (fun i hi h => by omega))
  have hz4 := hz3.kept hk4 (by omega)
  clear hp3 hb3 hz3 hk4
  go_wp2_with fail
  refine (T3'.out _ g A4 c4 hp4).mono ?_
  rintro e w5 ⟨A5, c5, rfl, hp5, hk5, hs5⟩
  have hb5 := hb4.trans (hk5.below (B := w.heap.size) hb4.size (fun i hi h => by omega))
  have hz5 := hz4.kept hk5 (by omega)
  clear hp4 hb4 hz4 hk5 T1' T2' T3'
  unfold strV
  go_wp2_with fail
  refine (lfreshS_any x _ (by omega)).mono ?_
  rintro e w6 ⟨v6, rfl, hg6⟩
  have hx6 := hg6.fresh
  have hb6 := hb5.trans (hx6.mono hb5.size)
  have hz6 := hz5.kept (Keep.of_below hx6) (Nat.not_le.2 hz5.lt)
  have hp6 : PT w6 g A5 c5 st3 := TKbelow hp5 hx6
  obtain ⟨A6, c6, rfl, q1, q2, hr6, ha6⟩ := hg6.own.form
  have hz5' := hz5.lt
  clear hg6 hx6 hp5 hz5 hb5
  obtain ⟨N, hN⟩ : ∃ N, x.length = N := ⟨_, rfl⟩
  rw [hN] at hr6 hxl ⊢
  have hm : mayP ⟨s, a, x⟩ = mayPn s a N := mayPn_of ⟨s, a, x⟩ N hN
  rw [hm] at HD
  clear hm
  have hb7 := hb6.alloc hb6.size (.cells #[.int .i64 s, .int .i64 a, .slice A6 N c6] 32)
  have hz7 := hz6.alloc (.cells #[.int .i64 s, .int .i64 a, .slice A6 N c6] 32)
  have hx7 := Blk.new w6 32 #[.int .i64 s, .int .i64 a, .slice A6 N c6]
  have hp7 : PT (w6.alloc (.cells #[.int .i64 s, .int .i64 a, .slice A6 N c6] 32)) g A5 c5 st3 := TKbelow hp6 ((Below.refl _ _).alloc (Nat.le_refl _) _)
  have hr7 := hr6.alloc (.cells #[.int .i64 s, .int .i64 a, .slice A6 N c6] 32)
  have ha7 : ∀ ad, A6 = some ad → w.heap.size < ad.block ∧ ad.block < w6.heap.size + 1 := fun ad h => by have := ha6 ad h; omega
  have hw6 := hz6.lt
  clear hp6 hz6 hb6 hr6 ha6 hz5' q1
  by_cases h3 : st3 = some []
  · have hdone : tdoneN st3 = 0 := if_pos h3
    have hTD := fun W h => tdone_any W g A5 c5 st3 h
    rw [hdone] at hTD
    have HD2 : Hid (D = if mayPn s a N = true then some ⟨s, a, x⟩ else none) := Lib.hid (by rw [HD.out]; simp [h3])
    clear HD
    clear h3 hdone
    go_wp2_with fail
    refine (hTD _ hp7).mono ?_
    rintro e w' ⟨rfl, hww⟩
    subst w'
    have hb8 := hb7.alloc hb7.size (.cells #[.int .i64 s, .int .i64 a, .slice A6 N c6] 32)
    have hz8 := hz7.alloc (.cells #[.int .i64 s, .int .i64 a, .slice A6 N c6] 32)
    have hx8 := hx7.alloc (.cells #[.int .i64 s, .int .i64 a, .slice A6 N c6] 32)
    have hr8 := hr7.alloc (.cells #[.int .i64 s, .int .i64 a, .slice A6 N c6] 32)
    have hsz8 : ((w6.alloc (.cells #[.int .i64 s, .int .i64 a, .slice A6 N c6] 32)).alloc (.cells #[.int .i64 s, .int .i64 a, .slice A6 N c6] 32)).heap.size = w6.heap.size + 1 + 1 := by simp
    have y0 := hx7.cell 0
    have y1 := hx7.cell 1
    have y2 := hx7.cell 2
    simp at y0 y1 y2
    cases hmm : mayPn s a N with
    | false =>
      have HD3 : D = none := by rw [HD2.out, hmm, if_neg (by simp)]
      clear HD2
      go_wp2_with fail
      refine (may_any s a A6 N c6 _ (by omega)).mono ?_
      rintro e w9 ⟨rfl, hww⟩
      rw [← hww] at hb8 hz8 hx8 hr8 hsz8
      rw [hmm]
      clear hww hz7 hx7 hr7 hb7 y0 y1 y2
      have z0 := hz8.cell 0
      have z1 := hz8.cell 1
      have z2 := hz8.cell 2
      have zf0 := hz8.frozen 0
      have zf1 := hz8.frozen 1
      have zf2 := hz8.frozen 2
      simp at z0 z1 z2
      go_wp2
      have hE := fill3 hz8 (.int .i64 0) (.int .i64 0) (.slice none 0 0)
      have hbE := ((hb8.setCell (p := ⟨w.heap.size, 0, none⟩) (Nat.le_refl _) (.int .i64 0)).setCell (p := ⟨w.heap.size, 1, none⟩) (Nat.le_refl _) (.int .i64 0)).setCell (p := ⟨w.heap.size, 2, none⟩) (Nat.le_refl _) (.slice none 0 0)
      generalize ((w9.setCell ⟨w.heap.size, 0, none⟩ (.int .i64 0)).setCell ⟨w.heap.size, 1, none⟩ (.int .i64 0)).setCell ⟨w.heap.size, 2, none⟩ (.slice none 0 0) = WE at *
      have E0 := hE.cell 0
      have E1 := hE.cell 1
      have E2 := hE.cell 2
      simp at E0 E1 E2
      refine bodyPost_ret (v := .tuple #[pkN, .int .i64 10]) (by simp [results, Try.results29, go_sem, E0, E1, E2, pkN]) rfl (by rw [HD3]; exact ⟨hbE, rfl⟩)
    | true =>
      have HD3 : Hid (D = some ⟨s, a, x⟩) := Lib.hid (by rw [HD2.out, hmm, if_pos rfl])
      clear HD2
      go_wp2_with fail
      refine (may_any s a A6 N c6 _ (by omega)).mono ?_
      rintro e w9 ⟨rfl, hww⟩
      rw [← hww] at hb8 hz8 hx8 hr8 hsz8
      rw [hmm]
      clear hww hz7 hx7 hr7 hb7 y0 y1 y2
      have y0 := hx8.cell 0
      have y1 := hx8.cell 1
      have y2 := hx8.cell 2
      have z0 := hz8.cell 0
      have z1 := hz8.cell 1
      have z2 := hz8.cell 2
      have zf0 := hz8.frozen 0
      have zf1 := hz8.frozen 1
      have zf2 := hz8.frozen 2
      simp at z0 z1 z2 y0 y1 y2
      go_wp2
      --E
      have hE := fill3 hz8 (.int .i64 s) (.int .i64 a) (.slice A6 N c6)
      have hbE := ((hb8.setCell (p := ⟨w.heap.size, 0, none⟩) (Nat.le_refl _) (.int .i64 s)).setCell (p := ⟨w.heap.size, 1, none⟩) (Nat.le_refl _) (.int .i64 a)).setCell (p := ⟨w.heap.size, 2, none⟩) (Nat.le_refl _) (.slice A6 N c6)
      have hrE := hr8.kept' (keep3 w9 w.heap.size (.int .i64 s) (.int .i64 a) (.slice A6 N c6)) (fun hp ad h => by have := ha7 ad h; omega)
      have hzE : (((w9.setCell ⟨w.heap.size, 0, none⟩ (.int .i64 s)).setCell ⟨w.heap.size, 1, none⟩ (.int .i64 a)).setCell ⟨w.heap.size, 2, none⟩ (.slice A6 N c6)).heap.size = w9.heap.size := by simp
      generalize ((w9.setCell ⟨w.heap.size, 0, none⟩ (.int .i64 s)).setCell ⟨w.heap.size, 1, none⟩ (.int .i64 a)).setCell ⟨w.heap.size, 2, none⟩ (.slice A6 N c6) = WE at *
      have E0 := hE.cell 0
      have E1 := hE.cell 1
      have E2 := hE.cell 2
      simp at E0 E1 E2
      subst hN
      refine bodyPost_ret (v := .tuple #[PKV s a A6 x.length c6, .int .i64 0]) (by simp [results, Try.results29, go_sem, E0, E1, E2]) rfl (by rw [HD3.out]; exact ⟨hbE, A6, c6, rfl, hrE, fun ad h => by have := ha7 ad h; omega⟩)
  · have hdone : tdoneN st3 = 10 := if_neg h3
    have hTD := fun W h => tdone_any W g A5 c5 st3 h
    rw [hdone] at hTD
    have HD3 : D = none := by rw [HD.out, if_neg (fun h => h3 h.1)]
    clear HD
    clear h3 hdone
    go_wp2_with fail
    refine (hTD _ hp7).mono ?_
    rintro e w' ⟨rfl, hww⟩
    subst w'
    have z0 := hz7.cell 0
    have z1 := hz7.cell 1
    have z2 := hz7.cell 2
    have zf0 := hz7.frozen 0
    have zf1 := hz7.frozen 1
    have zf2 := hz7.frozen 2
    simp at z0 z1 z2
    generalize w6.alloc (.cells #[.int .i64 s, .int .i64 a, .slice A6 N c6] 32) = w9 at *
    go_wp2
    have hE := fill3 hz7 (.int .i64 0) (.int .i64 0) (.slice none 0 0)
    have hbE := ((hb7.setCell (p := ⟨w.heap.size, 0, none⟩) (Nat.le_refl _) (.int .i64 0)).setCell (p := ⟨w.heap.size, 1, none⟩) (Nat.le_refl _) (.int .i64 0)).setCell (p := ⟨w.heap.size, 2, none⟩) (Nat.le_refl _) (.slice none 0 0)
    generalize ((w9.setCell ⟨w.heap.size, 0, none⟩ (.int .i64 0)).setCell ⟨w.heap.size, 1, none⟩ (.int .i64 0)).setCell ⟨w.heap.size, 2, none⟩ (.slice none 0 0) = WE at *
    have E0 := hE.cell 0
    have E1 := hE.cell 1
    have E2 := hE.cell 2
    simp at E0 E1 E2
    refine bodyPost_ret (v := .tuple #[pkN, .int .i64 10]) (by simp [results, Try.results29, go_sem, E0, E1, E2, pkN]) rfl (by rw [HD3]; exact ⟨hbE, rfl⟩)
end Go.Proofs.Ytfgceplafjbmhaa
