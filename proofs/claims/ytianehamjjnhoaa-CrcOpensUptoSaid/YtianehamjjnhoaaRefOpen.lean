/- The document's Open and All. No condition. -/
import Derived.Test.YtianehamjjnhoaaChains
namespace Go.Proofs.Ytianehamjjnhoaa
open Go.RowKit
set_option linter.unusedVariables false
set_option linter.unusedSimpArgs false

theorem hval_lt (l : List UInt8) : hval l < 256 ^ l.length := by
  have : ∀ (l : List UInt8) (a : Nat), l.foldl (fun n x => n * 256 + x.toNat) a < (a + 1) * 256 ^ l.length := by
    intro l
    induction l with
    | nil => intro a; simp
    | cons x l ih =>
      intro a
      have h := ih (a * 256 + x.toNat)
      have hx := x.toNat_lt
      simp only [List.foldl_cons, List.length_cons]
      refine Nat.lt_of_lt_of_le h ?_
      rw [Nat.pow_succ, Nat.mul_comm (256 ^ l.length) 256, ← Nat.mul_assoc]
      exact Nat.mul_le_mul_right _ (by omega)
  have h := this l 0
  simpa [hval] using h
theorem hval_lt4 (l : List UInt8) : hval (l.take 4) < 4294967296 := by
  have h := hval_lt (l.take 4)
  have h2 : 256 ^ (l.take 4).length ≤ 256 ^ 4 := Nat.pow_le_pow_right (by decide) (by rw [List.length_take]; omega)
  omega

def RefOpenPost (sl : Nat) (l : List UInt8) (w : World) (e : Ending) (w' : World) : Prop :=
  ∃ (v : Value) (m : Int) (k : Bool), e = .returned (.tuple #[v, .int .u64 m, .bool k]) ∧ Keep (fun _ => False) w w' ∧
    match opn sl l with
    | none => v = .slice none 0 0 ∧ m = 0 ∧ k = false
    | some b => OB w.heap.size w' v b ∧ m = (mixOf sl b : Int) ∧ k = true
theorem RefOpenPost.no {sl : Nat} {l : List UInt8} {w w' : World} (h : opn sl l = none) (hk : Keep (fun _ => False) w w') :
    RefOpenPost sl l w (.returned (.tuple #[.slice none 0 0, .int .u64 0, .bool false])) w' :=
  ⟨_, _, _, rfl, hk, by rw [h]; exact ⟨rfl, rfl, rfl⟩⟩
theorem RefOpenPost.yes {sl : Nat} {l b : List UInt8} {w w' : World} {v : Value} {m : Int} (h : opn sl l = some b) (hk : Keep (fun _ => False) w w') (ho : OB w.heap.size w' v b) (hm : m = (mixOf sl b : Int)) :
    RefOpenPost sl l w (.returned (.tuple #[v, .int .u64 m, .bool true])) w' :=
  ⟨_, _, _, rfl, hk, by rw [h]; exact ⟨ho, hm, rfl⟩⟩
theorem low_q (A : Option Addr) (n c : Nat) (l : List UInt8) (w : World) (s : Nat) (hs : s = hval l) (hr : RB w A n l) (hn : n ≤ 8) (k : Nat) :
    Calls Try.prog 30 #[.slice A n c] (w.drewN k) fun e w' => e = .returned (.int .u64 (s : Int)) ∧ w' = w.drewN k := by
  subst hs
  exact (low_any A n c l _ (hr.drewN k) hn).mono fun _ _ ⟨a, b⟩ => ⟨a, b.symm⟩

set_option maxRecDepth 100000 in
set_option maxHeartbeats 3200000 in
theorem refOpen_any (sl : Nat) (A : Option Addr) (n c : Nat) (l : List UInt8) (w : World) (hs : W64 sl) (hr : RB w A n l) (hnc : n ≤ c) (hn : n ≤ 140737488351232) :
    Calls Try.prog 21 #[.int .u64 (sl : Int), .slice A n c] w (RefOpenPost sl l w) := by
  have HL := Lib.hid hr.1
  have hk0 := Keep.refl (fun _ => False) w
  by_cases h16 : n < 16
  · have HO : Hid (opn sl l = none) := Lib.hid (by unfold opn; rw [if_pos (by rw [HL.out]; exact h16)])
    go_enter Try.func21, Try.ntmps21
    go_wp2_with fail
    go_ret3
    exact RefOpenPost.no HO.out hk0
  obtain ⟨r, rfl⟩ : ∃ r, n = r + 16 := ⟨n - 16, by omega⟩
  obtain ⟨s1, hs1⟩ : ∃ s, s = hval (l.take 4) := ⟨_, rfl⟩
  obtain ⟨s2, hs2⟩ : ∃ s, s = hval ((l.drop 4).take 4) := ⟨_, rfl⟩
  obtain ⟨s3, hs3⟩ : ∃ s, s = hval ((l.drop 8).take 8) := ⟨_, rfl⟩
  have c1 := fun k => low_q A 4 c _ w s1 hs1 (hr.take 4 (by omega)) (by omega) k
  have c2 := fun k => low_q (subA A c 4) 4 (c - 4) _ w s2 hs2 ((hr.sub 4 (by omega) hnc).take 4 (by omega)) (by omega) k
  have c3 := fun k => low_q (subA A c 8) 8 (c - 8) _ w s3 hs3 ((hr.sub 8 (by omega) hnc).take 8 (by omega)) (by omega) k
  have hx1 := fun W : World => run_to W A (r + 16) c 4 (by omega) (by omega)
  have hx2 := fun W : World => run_win W A (r + 16) c 4 8 (by omega) (by omega) (by omega)
  have hx3 := fun W : World => run_win W A (r + 16) c 8 16 (by omega) (by omega) (by omega)
  simp only [show ((4 : Int).toNat) = 4 from rfl, show ((8 : Int).toNat) = 8 from rfl, show ((16 : Int).toNat) = 16 from rfl, show 8 - 4 = 4 from rfl, show 16 - 8 = 8 from rfl] at hx1 hx2 hx3
  have b1 : s1 < 4294967296 := by rw [hs1]; exact hval_lt4 l
  have b2 : s2 < 4294967296 := by rw [hs2]; exact hval_lt4 _
  have HS1 := Lib.hid hs1
  have HS2 := Lib.hid hs2
  have HS3 := Lib.hid hs3
  clear hs1 hs2 hs3
  have hw1 := IntWalk.i64_in (s1 : Int) ⟨by omega, by omega⟩
  have hw2 := IntWalk.i64_in ((s1 : Int) - 1) ⟨by omega, by omega⟩
  go_enter Try.func21, Try.ntmps21
  go_wp2_with fail
  --REGION
  go_quiet (first | (go_at_call 30; with_reducible exact Calls.quiet_of_same (c1 _)) | (go_at_call 30; with_reducible exact Calls.quiet_of_same (c2 _)) | (go_at_call 30; with_reducible exact Calls.quiet_of_same (c3 _)))
  --AFTER
  have hk2 := hk0.drewN (w := w) nq
  have hr2 : RB _ _ r _ := (hr.drewN nq).sub 16 (by omega) hnc
  generalize w.drewN nq = w2 at hk2 hr2 ⊢
  clear c1 c2 c3 hx1 hx2 hx3 hw1 hw2
  by_cases h1 : s1 < 1
  · have HO : Hid (opn sl l = none) := Lib.hid (by unfold opn; rw [if_neg (by rw [HL.out]; exact h16), if_pos (by rw [← HS1.out]; exact h1)])
    obtain rfl : s1 = 0 := by omega
    go_wp2_with fail
    go_ret3
    exact RefOpenPost.no HO.out hk2
  obtain ⟨q, hq⟩ : ∃ q, q = s1 - 1 := ⟨s1 - 1, rfl⟩
  have hqi : (s1 : Int) - 1 = (q : Int) := by omega
  have hq0 : ¬ ((q : Int) < 0) := by omega
  by_cases h2 : 65537 < s1
  · have HO : Hid (opn sl l = none) := Lib.hid (by unfold opn; rw [if_neg (by rw [HL.out]; exact h16), if_neg (by rw [← HS1.out]; exact h1), if_pos (by rw [← HS1.out]; exact h2)])
    have d2 : decide ((65536 : Int) < (q : Int)) = true := by simp; omega
    clear h1 h2 hq b1
    go_wp2_with fail
    --H2
    go_ret3
    exact RefOpenPost.no HO.out hk2
  have d2 : decide ((65536 : Int) < (q : Int)) = false := by simp; omega
  have hql : q ≤ 65536 := by omega
  have e17 : r + 16 - 16 = r := by omega
  have ei : (r : Int) + 16 - 16 = (r : Int) := by omega
  by_cases h3 : r < q
  · have HO : Hid (opn sl l = none) := Lib.hid (by unfold opn; rw [if_neg (by rw [HL.out]; exact h16), if_neg (by rw [← HS1.out]; exact h1), if_neg (by rw [← HS1.out]; exact h2), if_pos (by rw [← HS1.out, HL.out, e17, ← hq]; exact h3)])
    clear h1 h2 hq b1
    go_wp2_with fail
    --H3
    go_ret3
    exact RefOpenPost.no HO.out hk2
  have HB : Hid (bodyOf l = (l.drop 16).take q) := Lib.hid (by unfold bodyOf; rw [← HS1.out, ← hq])
  have hx5 := fun W : World => run_win W A (r + 16) c 16 (16 + (q : Int)) (by omega) (by omega) (by omega)
  have e5 : (16 + (q : Int)).toNat - 16 = q := by omega
  simp only [show ((16 : Int).toNat) = 16 from rfl, e5] at hx5
  have hrb := hr2.take q (by omega)
  have HO : Hid (opn sl l = if sumOn 0 ((l.drop 16).take q) ≠ s2 then none else if mixOf sl ((l.drop 16).take q) ≠ s3 then none else some ((l.drop 16).take q)) := Lib.hid (by
    unfold opn
    rw [if_neg (by rw [HL.out]; exact h16), if_neg (by rw [← HS1.out]; exact h1), if_neg (by rw [← HS1.out]; exact h2), if_neg (by rw [← HS1.out, HL.out, e17, ← hq]; exact h3), HB.out, ← HS2.out, ← HS3.out])
  clear HB HS1 HS2 HS3 h1 h2 hq b1 e5 e17
  generalize (l.drop 16).take q = b at hrb HO
  have hsl := sumOn_lt 0 b (by omega)
  go_wp2_with fail
  --SUM
  refine (refOn_any 0 (subA A c 16) q (c - 16) b _ (by omega) hrb (by omega)).mono ?_
  rintro e w3 ⟨rfl, rfl⟩
  generalize sumOn 0 b = s4 at hsl HO ⊢
  by_cases h4 : s4 = s2
  · subst h4
    go_wp2_with fail
    refine (refMix_any sl (subA A c 16) q (c - 16) b _ hs hrb (by omega)).mono ?_
    rintro e w4 ⟨rfl, hk4⟩
    have hk14 := hk2.trans hk4 (fun _ _ h => h)
    have hr4 := hrb.kept hk4 (fun _ _ => id)
    have HM : ∃ m4, Hid (m4 = mixOf sl b) := ⟨_, Lib.hid rfl⟩
    obtain ⟨m4, HM⟩ := HM
    rw [← HM.out] at HO ⊢
    by_cases h5 : m4 = s3
    · subst h5
      have HO2 : Hid (opn sl l = some b) := Lib.hid (by rw [HO.out, if_neg (by simp), if_neg (by simp)])
      have hE : OB w4.heap.size (w4.alloc (.cells #[] 5)) (.slice (some ⟨w4.heap.size, 0, none⟩) 0 0) [] := by
        simpa using OB.built w4.heap.size w4 [] (Nat.le_refl _) (by simp [maxLen])
      have hz4 := hk14.size
      go_wp2_with (at_builtin; refine wpApp rfl (.tmp 57) (.tmp 61) rfl w4.heap.size (.slice (some ⟨w4.heap.size, 0, none⟩) 0 0) [] rfl hE (subA A c 16) q (c - 16) b rfl (hr4.alloc _) (by simp; omega) (by simp) ?_; intro v5 w5 hg5)
      --YES
      go_ret3
      exact RefOpenPost.yes HO2.out ((hk14.alloc _).trans hg5.keep (fun i hi h => by simp [Value.ownBlock] at h; omega)) ((by simpa using hg5.own : OB w4.heap.size w5 v5 b).mono hz4) (by rw [HM.out])
    · have HO2 : Hid (opn sl l = none) := Lib.hid (by rw [HO.out, if_neg (by simp), if_pos h5])
      have hd : ((m4 : Int) == (s3 : Int)) = false := by simp; omega
      have hd2 : ((m4 : Int) != (s3 : Int)) = true := by simp; omega
      have hd3 : (m4 == s3) = false := by simpa using h5
      go_wp2_with fail
      go_ret3
      exact RefOpenPost.no HO2.out hk14
  · have HO2 : Hid (opn sl l = none) := Lib.hid (by rw [HO.out, if_pos h4])
    have hd : ((s4 : Int) == (s2 : Int)) = false := by simp; omega
    have hd2 : ((s4 : Int) != (s2 : Int)) = true := by simp; omega
    have hd3 : (s4 == s2) = false := by simpa using h4
    go_wp2_with fail
    go_ret3
    exact RefOpenPost.no HO2.out hk2
end Go.Proofs.Ytianehamjjnhoaa
