/- Identities: each call in one piece; what is refused, and the calls on nil. No condition but that the table and the bodies lie in memory. -/
import Derived.Test.YtpendcaefjbomaaIdL
namespace Go.Proofs.Ytpendcaefjbomaa
open Go.RowKit Go.Maps Go.Shelf Go.Sort
set_option linter.unusedVariables false
set_option linter.unusedSimpArgs false

instance (c : Int) : Decidable (mayC c) := inferInstanceAs (Decidable (_ ∧ _))
instance (c : Int) : Decidable (mayN c) := inferInstanceAs (Decidable (_ ∧ _))
/-- A table whose blocks lie in F. -/
def TI (F : Nat → Prop) (w : World) (p b K : Nat) (cl : Int → Cl) (cs : List Int) : Prop := TS F w p b K cl cs ∧ ∀ g, F g → g < w.heap.size
section
variable {F : Nat → Prop} {w w' : World} {p b K : Nat} {cl : Int → Cl} {cs : List Int}
theorem TI.below (h : TI F w p b K cl cs) (k : Below w.heap.size w w') : TI F w' p b K cl cs := ⟨TS.below h.1 k, fun g hg => by have := h.2 g hg; have := k.size; omega⟩
theorem TI.kept {S : Nat → Prop} (h : TI F w p b K cl cs) (k : Keep S w w') (hs : ∀ g, F g → ¬ S g) : TI F w' p b K cl cs := ⟨TS.kept h.1 k hs, fun g hg => by have := h.2 g hg; have := k.size; omega⟩
theorem TI.up {K' : Nat} (h : TI F w p b K cl cs) (hK : K ≤ K') : TI F w p b K' cl cs := ⟨TS.up h.1 hK, h.2⟩
theorem TI.of (h : TS (fun k => w.heap.size ≤ k) w' p b K cl cs) : TI (fun k => w.heap.size ≤ k ∧ k < w'.heap.size) w' p b K cl cs := ⟨TS.mono h (fun i h1 h2 => ⟨h2, h1⟩), fun g hg => hg.2⟩
theorem TI.ne (h : TI F w p b K cl cs) : ∀ g, F g → g ≠ w.heap.size := fun g hg => by have := h.2 g hg; omega
/-- The verdict, and what is answered. -/
def vd (cl : Int → Cl) (c n M : Int) : Int := if mayC c ∧ mayN n then askV (cl c) n M else 0
def vr (cl : Int → Cl) (c n M : Int) : Rq := if vd cl c n M = 3 then (cl c).g n else rq0
/-- What becomes of the table. -/
def AskTo (cl cl' : Int → Cl) (c n M : Int) : Prop :=
  (vd cl c n M ≠ 1 → cl' = cl) ∧ (vd cl c n M = 1 → (∀ i, i ≠ c → cl' i = cl i) ∧ (cl' c).k = (cl c).k ∧ (cl' c).ns = (cl c).ns ++ [n] ∧ (cl' c).g = fun j => if j = n then ⟨M, false, 0, 0, 0, 0⟩ else (cl c).g j)
theorem AskTo.same (cl : Int → Cl) (c n M : Int) (h : vd cl c n M ≠ 1) : AskTo cl cl c n M := ⟨fun _ => rfl, fun e => absurd e h⟩
set_option maxRecDepth 100000 in
theorem ask_i (h : TI F w p b K cl cs) (c n : Int) (wc : (Lit.int .i64 c).wf = true) (wn : (Lit.int .i64 n).wf = true) (A : Option Addr) (len cap : Nat) (l : List UInt8) (hl : RB w A len l) (hlc : len ≤ cap) (hcm : cap ≤ 9223372036854775807) (hK : K < maxLen) :
    Calls Try.prog 11 #[.pointer (some ⟨p, 0, none⟩), .int .i64 c, .int .i64 n, .slice A len cap] w fun e w' => e = .returned (.tuple #[.int .i64 (vd cl c n (mixOf 7 l : Int)), (vr cl c n (mixOf 7 l : Int)).a]) ∧ ∃ F' cl' cs', TI F' w' p b (K + 1) cl' cs' ∧ Keep F w w' ∧ (∀ i, F' i → F i ∨ w.heap.size ≤ i) ∧ AskTo cl cl' c n (mixOf 7 l : Int) := by
  have keep : ∀ {V : Int} {r : Rq}, vd cl c n (mixOf 7 l : Int) = V → V ≠ 1 → vr cl c n (mixOf 7 l : Int) = r → ∀ (e : Ending) (w' : World), (e = .returned (.tuple #[.int .i64 V, r.a]) ∧ Below w.heap.size w w') → (e = .returned (.tuple #[.int .i64 (vd cl c n (mixOf 7 l : Int)), (vr cl c n (mixOf 7 l : Int)).a]) ∧ ∃ F' cl' cs', TI F' w' p b (K + 1) cl' cs' ∧ Keep F w w' ∧ (∀ i, F' i → F i ∨ w.heap.size ≤ i) ∧ AskTo cl cl' c n (mixOf 7 l : Int)) :=
    fun hV hne hr e w' hp => ⟨by rw [hV, hr]; exact hp.1, F, cl, cs, (h.below hp.2).up (by omega), Keep.ofB hp.2, fun i hi => .inl hi, AskTo.same _ _ _ _ (by rw [hV]; exact hne)⟩
  by_cases hmay : mayC c ∧ mayN n
  · obtain ⟨hc, hn⟩ := hmay
    have hv : vd cl c n (mixOf 7 l : Int) = askV (cl c) n (mixOf 7 l : Int) := if_pos ⟨hc, hn⟩
    unfold askV at hv
    by_cases h1 : n < (cl c).k
    · rw [if_pos h1] at hv
      exact (ask_stale h.1 c n wc wn hc hn A len cap l hl hlc hcm h1).mono (keep hv (by decide) (by simp [vr, hv]))
    rw [if_neg h1] at hv
    by_cases h2 : n ∈ (cl c).ns
    · rw [if_pos h2] at hv
      by_cases h3 : ((cl c).g n).m ≠ (mixOf 7 l : Int)
      · rw [if_pos h3] at hv
        exact (ask_clash h.1 c n wc wn hc hn A len cap l hl hlc hcm h1 h2 h3).mono (keep hv (by decide) (by simp [vr, hv]))
      rw [if_neg h3] at hv
      have h3' : ((cl c).g n).m = (mixOf 7 l : Int) := Classical.byContradiction h3
      by_cases h4 : ((cl c).g n).d = true
      · rw [if_pos h4] at hv
        exact (ask_done h.1 c n wc wn hc hn A len cap l hl hlc hcm h1 h2 h3' h4).mono (keep hv (by decide) (by simp [vr, hv]))
      · rw [if_neg h4] at hv
        exact (ask_open h.1 c n wc wn hc hn A len cap l hl hlc hcm h1 h2 h3' (by simpa using h4)).mono (keep hv (by decide) (by simp [vr, hv]))
    rw [if_neg h2] at hv
    by_cases h5 : 128 ≤ (cl c).ns.length
    · rw [if_pos h5] at hv
      exact (ask_full h.1 c n wc wn hc hn A len cap l hl hlc hcm h1 h2 h5).mono (keep hv (by decide) (by simp [vr, hv]))
    rw [if_neg h5] at hv
    refine (ask_new h.1 c n wc wn hc hn A len cap l hl hlc hcm h1 h2 (by omega) hK h.ne).mono ?_
    rintro e w' ⟨rfl, mb, hmb, hT, hk⟩
    have hz := hk.size
    refine ⟨by rw [hv, show vr cl c n (mixOf 7 l : Int) = rq0 by simp [vr, hv]], fun k => (F k ∨ k = mb) ∧ k < w'.heap.size, _, _, ⟨TS.mono hT (fun i hi e => ⟨e, hi⟩), fun g hg => hg.2⟩, hk, fun i hi => hi.1.elim .inl (fun e => by rw [e]; exact hmb), fun e => absurd hv e, fun _ => ⟨fun i hi => if_neg hi, by simp, by simp, by simp⟩⟩
  · have hv : vd cl c n (mixOf 7 l : Int) = 0 := if_neg hmay
    exact (ask_arg (some ⟨p, 0, none⟩) c n (.inr (by
      by_cases hc : mayC c
      · exact .inr (fun hn => hmay ⟨hc, hn⟩)
      · exact .inl hc)) A len cap w).mono (keep hv (by decide) (by simp [vr, hv]))
/-- What Tell answers, and what becomes of the table. -/
def tE (cl : Int → Cl) (c n e : Int) : Int := if mayC c ∧ mayN n ∧ 0 ≤ e ∧ e ≤ 1000 then (if n ∈ (cl c).ns then (if ((cl c).g n).d = true then 5 else 0) else 4) else 1
def TellTo (cl cl' : Int → Cl) (c n e x : Int) : Prop :=
  (tE cl c n e ≠ 0 → cl' = cl) ∧ (tE cl c n e = 0 → (∀ i, i ≠ c → cl' i = cl i) ∧ (cl' c).k = (cl c).k ∧ (cl' c).ns = (cl c).ns ∧ (cl' c).g = fun j => if j = n then ⟨((cl c).g n).m, true, c, n, e, x⟩ else (cl c).g j)
theorem tell_i (h : TI F w p b K cl cs) (c n e x : Int) (wc : (Lit.int .i64 c).wf = true) (wn : (Lit.int .i64 n).wf = true) (hK : K < maxLen) :
    Calls Try.prog 13 #[.pointer (some ⟨p, 0, none⟩), .agg #[.int .i64 c, .int .i64 n, .int .i64 e, .int .i64 x]] w fun e' w' => e' = .returned (.int .i64 (tE cl c n e)) ∧ ∃ cl', TI F w' p b (K + 1) cl' cs ∧ Keep F w w' ∧ TellTo cl cl' c n e x := by
  have keep : ∀ {V : Int}, tE cl c n e = V → V ≠ 0 → ∀ (e' : Ending) (w' : World), (e' = .returned (.int .i64 V) ∧ Below w.heap.size w w') → (e' = .returned (.int .i64 (tE cl c n e)) ∧ ∃ cl', TI F w' p b (K + 1) cl' cs ∧ Keep F w w' ∧ TellTo cl cl' c n e x) :=
    fun hV hne e' w' hp => ⟨by rw [hV]; exact hp.1, cl, (h.below hp.2).up (by omega), Keep.ofB hp.2, fun _ => rfl, fun e0 => absurd (hV.symm.trans e0) hne⟩
  by_cases hmay : mayC c ∧ mayN n ∧ 0 ≤ e ∧ e ≤ 1000
  · obtain ⟨hc, hn, he⟩ := hmay
    have hv : tE cl c n e = _ := if_pos ⟨hc, hn, he⟩
    by_cases h2 : n ∈ (cl c).ns
    · rw [if_pos h2] at hv
      by_cases h4 : ((cl c).g n).d = true
      · rw [if_pos h4] at hv
        exact (tell_twice h.1 c n e x wc wn hc hn he h2 h4).mono (keep hv (by decide))
      · rw [if_neg h4] at hv
        refine (tell_ok h.1 c n e x wc wn hc hn he hK h2 (by simpa using h4)).mono ?_
        rintro e' w' ⟨rfl, hT, hk⟩
        exact ⟨by rw [hv], _, ⟨hT, fun g hg => by have := h.2 g hg; have := hk.size; omega⟩, hk, fun e0 => absurd hv e0, fun _ => ⟨fun i hi => if_neg hi, by simp, by simp, by simp⟩⟩
    · rw [if_neg h2] at hv
      exact (tell_none h.1 c n e x wc wn hc hn he h2).mono (keep hv (by decide))
  · have hv : tE cl c n e = 1 := if_neg hmay
    exact (tell_arg ⟨p, 0, none⟩ c n e x hmay w).mono (keep hv (by decide))
end
set_option maxRecDepth 100000 in
set_option maxHeartbeats 1600000 in
theorem low_nil (c m : Int) (w : World) : Calls Try.prog 15 #[.pointer none, .int .i64 c, .int .i64 m] w fun e w' => e = .returned (.int .i64 6) ∧ Below w.heap.size w w' := by
  have e6 := Blk.new (w.alloc (.cells #[.int .i64 m] 3)) 33 #[.int .i64 0]
  rw [World.size_alloc] at e6
  have hb0 := ((Below.refl w.heap.size w).alloc (Nat.le_refl _) (.cells #[.int .i64 m] 3)).alloc (by simp) (.cells #[.int .i64 0] 33)
  go_enter Try.func15, Try.ntmps15
  go_wp2
  have h6 := Blk.new (w.alloc (.cells #[.int .i64 m] 3)) 33 #[.int .i64 6]
  rw [World.size_alloc] at h6
  have E0 := h6.cell 0
  simp only [List.getElem?_toArray, List.getElem?_cons_succ, List.getElem?_cons_zero] at E0
  refine bodyPost_ret (v := .int .i64 6) (by simp [results, Try.results15, go_sem, E0]) rfl ?_
  exact ⟨rfl, ((Below.refl w.heap.size w).alloc (Nat.le_refl _) (.cells #[.int .i64 m] 3)).alloc (by simp) _⟩
set_option maxRecDepth 100000 in
set_option maxHeartbeats 1600000 in
theorem low_arg (q : Addr) (c m : Int) (hq : ¬ (mayC c ∧ 1 ≤ m ∧ m ≤ 4294967297)) (w : World) : Calls Try.prog 15 #[.pointer (some q), .int .i64 c, .int .i64 m] w fun e w' => e = .returned (.int .i64 1) ∧ Below w.heap.size w w' := by
  have e5 := (Blk.new w 3 #[.int .i64 m]).alloc (.cells #[.int .i64 0] 33)
  have a5 := e5.cell 0
  simp only [List.getElem?_toArray, List.getElem?_cons_succ, List.getElem?_cons_zero] at a5
  by_cases hc : mayC c
  · by_cases h1 : 1 ≤ m
    · have d1 : decide (m < (1 : Int)) = false := decide_eq_false (by omega)
      have d2 : decide ((4294967297 : Int) < m) = true := decide_eq_true (Classical.byContradiction fun h => hq ⟨hc, h1, by omega⟩)
      clear hq
      go_enter Try.func15, Try.ntmps15
      go_wp2_with fail
      refine (client_yes hc _).mono ?_
      rintro e' w' ⟨rfl, hww⟩
      subst w'
      go_wp2
      have h6 := Blk.new (w.alloc (.cells #[.int .i64 m] 3)) 33 #[.int .i64 1]
      rw [World.size_alloc] at h6
      have E0 := h6.cell 0
      simp only [List.getElem?_toArray, List.getElem?_cons_succ, List.getElem?_cons_zero] at E0
      refine bodyPost_ret (v := .int .i64 1) (by simp [results, Try.results15, go_sem, E0]) rfl ?_
      exact ⟨rfl, ((Below.refl w.heap.size w).alloc (Nat.le_refl _) (.cells #[.int .i64 m] 3)).alloc (by simp) _⟩
    · have d1 : decide (m < (1 : Int)) = true := decide_eq_true (by omega)
      clear hq
      go_enter Try.func15, Try.ntmps15
      go_wp2_with fail
      refine (client_yes hc _).mono ?_
      rintro e' w' ⟨rfl, hww⟩
      subst w'
      go_wp2
      have h6 := Blk.new (w.alloc (.cells #[.int .i64 m] 3)) 33 #[.int .i64 1]
      rw [World.size_alloc] at h6
      have E0 := h6.cell 0
      simp only [List.getElem?_toArray, List.getElem?_cons_succ, List.getElem?_cons_zero] at E0
      refine bodyPost_ret (v := .int .i64 1) (by simp [results, Try.results15, go_sem, E0]) rfl ?_
      exact ⟨rfl, ((Below.refl w.heap.size w).alloc (Nat.le_refl _) (.cells #[.int .i64 m] 3)).alloc (by simp) _⟩
  · go_enter Try.func15, Try.ntmps15
    go_wp2_with fail
    refine (client_no hc _).mono ?_
    rintro e' w' ⟨rfl, hww⟩
    subst w'
    go_wp2
    have h6 := Blk.new (w.alloc (.cells #[.int .i64 m] 3)) 33 #[.int .i64 1]
    rw [World.size_alloc] at h6
    have E0 := h6.cell 0
    simp only [List.getElem?_toArray, List.getElem?_cons_succ, List.getElem?_cons_zero] at E0
    refine bodyPost_ret (v := .int .i64 1) (by simp [results, Try.results15, go_sem, E0]) rfl ?_
    exact ⟨rfl, ((Below.refl w.heap.size w).alloc (Nat.le_refl _) (.cells #[.int .i64 m] 3)).alloc (by simp) _⟩
/-- What Low answers, and what becomes of the table. -/
def LowTo (cl cl' : Int → Cl) (c m E : Int) : Prop :=
  (E = 1 ∧ ¬ (mayC c ∧ 1 ≤ m ∧ m ≤ 4294967297) ∧ cl' = cl) ∨ (E = 80 ∧ (mayC c ∧ 1 ≤ m ∧ m ≤ 4294967297) ∧ badL (cl c) m ∧ cl' = cl) ∨ (E = 0 ∧ (mayC c ∧ 1 ≤ m ∧ m ≤ 4294967297) ∧ ¬ badL (cl c) m ∧ m ≤ (cl c).k ∧ cl' = cl) ∨
    (E = 0 ∧ (mayC c ∧ 1 ≤ m ∧ m ≤ 4294967297) ∧ ¬ badL (cl c) m ∧ (cl c).k < m ∧ (∀ i, i ≠ c → cl' i = cl i) ∧ (cl' c).k = m ∧ (cl' c).ns.Nodup ∧ (∀ y, y ∈ (cl' c).ns ↔ y ∈ (cl c).ns ∧ ¬ y < m) ∧ ∀ y, y ∈ (cl' c).ns → (cl' c).g y = (cl c).g y)
theorem low_i {F : Nat → Prop} {w : World} {p b K : Nat} {cl : Int → Cl} {cs : List Int} (h : TI F w p b K cl cs) (c m : Int) (wc : (Lit.int .i64 c).wf = true) (hfew : (cl c).ns.length ≤ 1048576) (hK : K < maxLen) :
    Calls Try.prog 15 #[.pointer (some ⟨p, 0, none⟩), .int .i64 c, .int .i64 m] w fun e w' => ∃ E, e = .returned (.int .i64 E) ∧ ∃ F' cl' cs', TI F' w' p b (K + 1) cl' cs' ∧ Keep F w w' ∧ (∀ i, F' i → F i ∨ w.heap.size ≤ i) ∧ LowTo cl cl' c m E := by
  by_cases hmay : mayC c ∧ 1 ≤ m ∧ m ≤ 4294967297
  · refine (low_any h.1 c m wc hmay.1 hmay.2 hfew hK h.2).mono ?_
    rintro e w' (⟨rfl, h1, h2⟩ | ⟨rfl, h1, h2, h3⟩ | ⟨rfl, h1, h2, mb, g', ns', hmb, hT, hk, h3, h4, h5⟩)
    · exact ⟨80, rfl, F, cl, cs, (h.below h2).up (by omega), Keep.ofB h2, fun i hi => .inl hi, .inr (.inl ⟨rfl, hmay, h1, rfl⟩)⟩
    · exact ⟨0, rfl, F, cl, cs, (h.below h3).up (by omega), Keep.ofB h3, fun i hi => .inl hi, .inr (.inr (.inl ⟨rfl, hmay, h1, h2, rfl⟩))⟩
    · exact ⟨0, rfl, fun k => (F k ∨ k = mb) ∧ k < w'.heap.size, _, _, ⟨TS.mono hT (fun i hi e => ⟨e, hi⟩), fun g hg => hg.2⟩, hk, fun i hi => hi.1.elim .inl (fun e => by rw [e]; exact hmb), .inr (.inr (.inr ⟨rfl, hmay, h1, h2, fun i hi => if_neg hi, by simp, by simp; exact h3, fun y => by simp; rw [h4 y]; simp, fun y hy => by simp at hy ⊢; exact h5 y hy⟩))⟩
  · refine (low_arg ⟨p, 0, none⟩ c m hmay w).mono ?_
    rintro e w' ⟨rfl, h2⟩
    exact ⟨1, rfl, F, cl, cs, (h.below h2).up (by omega), Keep.ofB h2, fun i hi => .inl hi, .inl ⟨rfl, hmay, rfl⟩⟩
set_option maxRecDepth 100000 in
theorem pack_nil (w : World) : Calls Try.prog 18 #[.pointer none] w fun e w' => e = .returned (.slice none 0 0) ∧ w' = w := by
  go_enter Try.func18, Try.ntmps18
  go_wp2
  go_ret
  exact ⟨rfl, rfl⟩
theorem topen_make (q : Option Addr) (w : World) : Calls Try.prog 23 #[.pointer q] w fun e w' => e = .returned (.func (.func 45) #[] #[.pointer (some ⟨w.heap.size, 0, none⟩)]) ∧ w' = w.alloc (.cells #[.pointer q] 23) := by
  go_enter Try.func23, Try.ntmps23
  go_wp2
  go_ret
  exact ⟨rfl, rfl⟩
end Go.Proofs.Ytpendcaefjbomaa
