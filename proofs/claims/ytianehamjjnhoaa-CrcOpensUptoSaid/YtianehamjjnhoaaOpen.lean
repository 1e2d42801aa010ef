/- Open of a table. No condition. -/
import Derived.Test.YtianehamjjnhoaaFrame
namespace Go.Proofs.Ytianehamjjnhoaa
open Go.RowKit
set_option linter.unusedVariables false
set_option linter.unusedSimpArgs false

/-- The body that a frame says. -/
def bodyOf (l : List UInt8) : List UInt8 := (l.drop 16).take (hval (l.take 4) - 1)
/-- The first frame's body. -/
def opn (sl : Nat) (l : List UInt8) : Option (List UInt8) :=
  if l.length < 16 then none
  else if hval (l.take 4) < 1 then none
  else if 65537 < hval (l.take 4) then none
  else if l.length - 16 < hval (l.take 4) - 1 then none
  else if sumOn 0 (bodyOf l) ≠ hval ((l.drop 4).take 4) then none
  else if mixOf sl (bodyOf l) ≠ hval ((l.drop 8).take 8) then none
  else some (bodyOf l)

def OpenPost (g sl : Nat) (l : List UInt8) (w : World) (e : Ending) (w' : World) : Prop :=
  ∃ (v : Value) (m k : Int), e = .returned (.tuple #[v, .int .u64 m, .int .i64 k]) ∧ Keep (fun i => i = g) w w' ∧ TT w' g ∧
    match opn sl l with
    | none => v = .slice none 0 0 ∧ m = 0 ∧ k = 10
    | some b => OB w.heap.size w' v b ∧ m = (mixOf sl b : Int) ∧ k = 0
theorem OpenPost.no {g sl : Nat} {l : List UInt8} {w w' : World} (h : opn sl l = none) (hk : Keep (fun i => i = g) w w') (ht : TT w' g) :
    OpenPost g sl l w (.returned (.tuple #[.slice none 0 0, .int .u64 0, .int .i64 10])) w' :=
  ⟨_, _, _, rfl, hk, ht, by rw [h]; exact ⟨rfl, rfl, rfl⟩⟩
theorem OpenPost.yes {g sl : Nat} {l b : List UInt8} {w w' : World} {v : Value} {m : Int} (h : opn sl l = some b) (hk : Keep (fun i => i = g) w w') (ht : TT w' g) (ho : OB w.heap.size w' v b) (hm : m = (mixOf sl b : Int)) :
    OpenPost g sl l w (.returned (.tuple #[v, .int .u64 m, .int .i64 0])) w' :=
  ⟨_, _, _, rfl, hk, ht, by rw [h]; exact ⟨ho, hm, rfl⟩⟩

theorem high_q (A : Option Addr) (n c : Nat) (l : List UInt8) (w : World) (s : Nat) (hs : s = hval l) (hr : RB w A n l) (hn : n ≤ 8) (k : Nat) :
    Calls Try.prog 29 #[.slice A n c] (w.drewN k) fun e w' => e = .returned (.int .u64 (s : Int)) ∧ w' = w.drewN k := by
  subst hs
  exact (high_any A n c l _ (hr.drewN k) hn).mono fun _ _ ⟨a, b⟩ => ⟨a, b.symm⟩
theorem run_to64 (w : World) (A : Option Addr) (n cap : Nat) (h : Int) (h0 : 0 ≤ h) (h2 : h ≤ cap) :
    (Instr.slice 23 (.slice A n cap) none (some (.int .u64 h)) none).run Try.prog w = .ok (.slice A h.toNat cap) w := by
  rw [run_slice_h w 23 A n cap under_elem .u64 h h0 h2, elem_u8, Try.sizeOf5]
  simp [Result.andThen, sub_slice, sub_zero]

set_option maxRecDepth 100000 in
set_option maxHeartbeats 3200000 in
theorem open_any (g sl : Nat) (A : Option Addr) (n c : Nat) (l : List UInt8) (w : World) (hs : W64 sl) (ht : TT w g) (hr : RB w A n l) (hnc : n ≤ c) (hc : c ≤ 9223372036854775807) (hA : 0 < n → ∀ ad, A = some ad → ¬ ad.block = g) :
    Calls Try.prog 20 #[.pointer (some ⟨g, 0, none⟩), .int .u64 (sl : Int), .slice A n c] w (OpenPost g sl l w) := by
  have HL := Lib.hid hr.1
  have hgl := ht.lt
  have hk0 := Keep.refl (fun i => i = g) w
  by_cases h16 : n < 16
  · have HO : Hid (opn sl l = none) := Lib.hid (by unfold opn; rw [if_pos (by rw [HL.out]; exact h16)])
    go_enter Try.func20, Try.ntmps20
    go_wp2_with fail
    go_ret3
    exact OpenPost.no HO.out hk0 ht
  obtain ⟨r, rfl⟩ : ∃ r, n = r + 16 := ⟨n - 16, by omega⟩
  obtain ⟨s1, hs1⟩ : ∃ s, s = hval (l.take 4) := ⟨_, rfl⟩
  obtain ⟨s2, hs2⟩ : ∃ s, s = hval ((l.drop 4).take 4) := ⟨_, rfl⟩
  obtain ⟨s3, hs3⟩ : ∃ s, s = hval ((l.drop 8).take 8) := ⟨_, rfl⟩
  have c1 := fun k => high_q A 4 c _ w s1 hs1 (hr.take 4 (by omega)) (by omega) k
  have c2 := fun k => high_q (subA A c 4) 4 (c - 4) _ w s2 hs2 ((hr.sub 4 (by omega) hnc).take 4 (by omega)) (by omega) k
  have c3 := fun k => high_q (subA A c 8) 8 (c - 8) _ w s3 hs3 ((hr.sub 8 (by omega) hnc).take 8 (by omega)) (by omega) k
  have hx1 := fun W : World => run_to W A (r + 16) c 4 (by omega) (by omega)
  have hx2 := fun W : World => run_win W A (r + 16) c 4 8 (by omega) (by omega) (by omega)
  have hx3 := fun W : World => run_win W A (r + 16) c 8 16 (by omega) (by omega) (by omega)
  have hx4 := fun W : World => run_from W A (r + 16) c 16 (by omega) (by omega)
  simp only [show ((4 : Int).toNat) = 4 from rfl, show ((8 : Int).toNat) = 8 from rfl, show ((16 : Int).toNat) = 16 from rfl, show 8 - 4 = 4 from rfl, show 16 - 8 = 8 from rfl, Nat.add_sub_cancel] at hx1 hx2 hx3 hx4
  have HS1 := Lib.hid hs1
  have HS2 := Lib.hid hs2
  have HS3 := Lib.hid hs3
  clear hs1 hs2 hs3
  go_enter Try.func20, Try.ntmps20
  go_wp2_with fail
  --REGION
  go_quiet (first | (go_at_call 29; with_reducible exact Calls.quiet_of_same (c1 _)) | (go_at_call 29; with_reducible exact Calls.quiet_of_same (c2 _)) | (go_at_call 29; with_reducible exact Calls.quiet_of_same (c3 _)))
  have hk2 := hk0.drewN (w := w) nq
  have hr2 : RB _ _ r _ := (hr.drewN nq).sub 16 (by omega) hnc
  have ht2 := ht.kept ((Keep.refl (fun _ => False) w).drewN nq) id
  have hA2 : ∀ ad, subA A c 16 = some ad → ¬ ad.block = g := fun ad h => by
    obtain ⟨a0, h0, e0⟩ := subA_block h
    rw [e0]
    exact hA (by omega) a0 h0
  generalize w.drewN nq = w2 at hk2 hr2 ht2 ⊢
  clear c1 c2 c3 hx1 hx2 hx3
  by_cases h1 : s1 < 1
  · have HO : Hid (opn sl l = none) := Lib.hid (by unfold opn; rw [if_neg (by rw [HL.out]; exact h16), if_pos (by rw [← HS1.out]; exact h1)])
    obtain rfl : s1 = 0 := by omega
    go_wp2_with fail
    go_ret3
    exact OpenPost.no HO.out hk2 ht2
  have d1 : decide ((s1 : Int) < 1) = false := by simp; omega
  by_cases h2 : 65537 < s1
  · have HO : Hid (opn sl l = none) := Lib.hid (by unfold opn; rw [if_neg (by rw [HL.out]; exact h16), if_neg (by rw [← HS1.out]; exact h1), if_pos (by rw [← HS1.out]; exact h2)])
    have d2 : decide ((65537 : Int) < (s1 : Int)) = true := by simp; omega
    clear h2
    go_wp2_with fail
    --H2
    go_ret3
    exact OpenPost.no HO.out hk2 ht2
  have d2 : decide ((65537 : Int) < (s1 : Int)) = false := by simp; omega
  obtain ⟨q, hq⟩ : ∃ q, q = s1 - 1 := ⟨s1 - 1, rfl⟩
  have hqi : (s1 : Int) - 1 = (q : Int) := by omega
  have hql : q ≤ 65536 := by omega
  have e17 : r + 16 - 16 = r := by omega
  by_cases h3 : r < q
  · have HO : Hid (opn sl l = none) := Lib.hid (by unfold opn; rw [if_neg (by rw [HL.out]; exact h16), if_neg (by rw [← HS1.out]; exact h1), if_neg (by rw [← HS1.out]; exact h2), if_pos (by rw [← HS1.out, HL.out, e17, ← hq]; exact h3)])
    have g1 : 1 ≤ s1 := by omega
    clear h1 h2 hq
    go_wp2_with fail
    --H3
    go_ret3
    exact OpenPost.no HO.out hk2 ht2
  have HB : Hid (bodyOf l = (l.drop 16).take q) := Lib.hid (by unfold bodyOf; rw [← HS1.out, ← hq])
  have hx5 := fun W : World => run_to64 W (subA A c 16) r (c - 16) (q : Int) (by omega) (by omega)
  simp only [Int.toNat_natCast] at hx5
  have hrb := hr2.take q (by omega)
  have HO : Hid (opn sl l = if sumOn 0 ((l.drop 16).take q) ≠ s2 then none else if mixOf sl ((l.drop 16).take q) ≠ s3 then none else some ((l.drop 16).take q)) := Lib.hid (by
    unfold opn
    rw [if_neg (by rw [HL.out]; exact h16), if_neg (by rw [← HS1.out]; exact h1), if_neg (by rw [← HS1.out]; exact h2), if_neg (by rw [← HS1.out, HL.out, e17, ← hq]; exact h3), HB.out, ← HS2.out, ← HS3.out])
  have g1 : 1 ≤ s1 := by omega
  clear HB HS1 HS2 HS3 h1 h2 hq
  generalize (l.drop 16).take q = b at hrb HO
  have hsl := sumOn_lt 0 b (by omega)
  go_wp2_with fail
  refine (sum_any g (subA A c 16) q (c - 16) b _ ht2 hrb (by omega) fun _ => hA2).mono ?_
  rintro e w3 ⟨rfl, hk3, f, ht3⟩
  have hk13 := hk2.trans hk3 (fun _ _ h => h)
  have ht13 : TT w3 g := .inr ⟨f, ht3⟩
  have hr3 := hrb.kept hk3 hA2
  generalize sumOn 0 b = s4 at hsl HO ⊢
  by_cases h4 : s4 = s2
  · subst h4
    go_wp2_with fail
    refine (mix_any sl (subA A c 16) q (c - 16) b _ hs hr3 (by omega) (by omega)).mono ?_
    rintro e w4 ⟨rfl, hk4⟩
    have hk14 := hk13.trans (hk4.mono (T := fun k => k = g) fun _ _ h => h.elim) (fun _ _ h => h)
    have ht14 : TT w4 g := ht13.kept hk4 id
    have hr4 := hr3.kept hk4 (fun _ _ => id)
    have HM : ∃ m4, Hid (m4 = mixOf sl b) := ⟨_, Lib.hid rfl⟩
    obtain ⟨m4, HM⟩ := HM
    rw [← HM.out] at HO ⊢
    by_cases h5 : m4 = s3
    · subst h5
      have HO2 : Hid (opn sl l = some b) := Lib.hid (by rw [HO.out, if_neg (by simp), if_neg (by simp)])
      go_wp2_with (at_builtin; refine wpApp rfl (.const (.slice none 0 0)) (.tmp 57) rfl w.heap.size (.slice none 0 0) [] rfl (OB.nil _ _) (subA A c 16) q (c - 16) b rfl hr4 (by simp; omega) hk14.size ?_; intro v5 w5 hg5)
      go_ret3
      exact OpenPost.yes HO2.out (hk14.trans hg5.keep (fun i hi h => by simp [Value.ownBlock] at h)) (ht14.kept hg5.keep (by simp [Value.ownBlock])) (by simpa using hg5.own) (by rw [HM.out])
    · have HO2 : Hid (opn sl l = none) := Lib.hid (by rw [HO.out, if_neg (by simp), if_pos h5])
      have hd : ((m4 : Int) == (s3 : Int)) = false := by simp; omega
      have hd2 : ((m4 : Int) != (s3 : Int)) = true := by simp; omega
      have hd3 : (m4 == s3) = false := by simpa using h5
      go_wp2_with fail
      --E5
      go_ret3
      exact OpenPost.no HO2.out hk14 ht14
  · have HO2 : Hid (opn sl l = none) := Lib.hid (by rw [HO.out, if_pos h4])
    have hd : ((s4 : Int) == (s2 : Int)) = false := by simp; omega
    have hd2 : ((s4 : Int) != (s2 : Int)) = true := by simp; omega
    have hd3 : (s4 == s2) = false := by simpa using h4
    go_wp2_with fail
    --E4
    go_ret3
    exact OpenPost.no HO2.out hk13 ht13
end Go.Proofs.Ytianehamjjnhoaa
