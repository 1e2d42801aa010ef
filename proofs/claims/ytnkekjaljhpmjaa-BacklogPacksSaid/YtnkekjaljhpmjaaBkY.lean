/- The document's backlog: Push, News, Try, Drop. No condition but that it lies in memory. -/
import Derived.Test.YtnkekjaljhpmjaaBkQ
import Derived.Test.YtnkekjaljhpmjaaBkX
import Derived.Test.YtnkekjaljhpmjaaHeldZ
namespace Go.Proofs.Ytnkekjaljhpmjaa
open Go.RowKit
set_option linter.unusedVariables false
set_option linter.unusedSimpArgs false

/-- A slice of orders that is new becomes the backlog's. -/
theorem QV.given {F : Nat → Prop} {w W : World} {p : Nat} {A5 : Option Addr} {M c5 : Nat} {l5 : List Wt} {o5 : Int} (hfp : F p) (hb : Below w.heap.size w W) (hO : QO w.heap.size W (.slice A5 M c5) l5) (hp : p < w.heap.size) {W2 : World} (hpc : Blk W2 p 28 #[.slice A5 M c5, .int .i64 o5]) (k : Keep (fun k => k = p) W W2) :
    QK (fun k => F k ∨ w.heap.size ≤ k) W2 p l5 o5 ∧ Keep F w W2 := by
  have hne : (Value.slice A5 M c5).ownBlock ≠ some p := fun e => by have := (hO.lt p e).1; omega
  exact ⟨⟨_, hpc, (hO.mono (Nat.zero_le _)).kept k (fun g hg e => hne (by rw [hg, e])), hne, .inl hfp, fun g hg => .inr (hO.lt g hg).1⟩,
    ((Keep.of_below hb).mono fun k h1 h2 => by omega).trans k (fun i hi e => by rw [e]; exact hfp)⟩
theorem wp_appQOn {w : World} {o : Oper} {a : Act} {K : Act → World → Prop} {Q : Exit → Act → World → Prop} (s x : Operand) (ho : o.op = .call { callee := .builtin .append, args := #[s, x], argTypes := #[26, 26] })
    (base : Nat) (v : Value) (l : List Wt) (hs : a.eval s = v) (hown : QO base w v l) (A : Option Addr) (m c : Nat) (hx : a.eval x = .slice A m c) (news : List Wt) (hr : QR w A m news) (hA : A = none ∨ ∃ b off, A = some ⟨b, off, none⟩)
    (hn : (l.length + m) * 16 ≤ 140737488355328) (hbase : base ≤ w.heap.size)
    (h : ∀ v' w', QO base w' v' (l ++ news) → Keep (fun k => v.ownBlock = some k) w w' → (v'.ownBlock = v.ownBlock ∨ v'.ownBlock = some w.heap.size) → K (a.put o.dst v') w') : o.wp Try.prog a w K Q := by
  obtain ⟨v', w', hrun, h2, h3, h4⟩ := run_appQOn w base o.type v l hown A m c news hr hA hn hbase
  unfold Oper.wp execOp
  simp only [ho, resolve, invoke, builtin, Sem.run_bind, Sem.run_pure, Result.andThen_ok, List.map_toArray, List.map_cons, List.map_nil, hs, hx, hrun]
  exact h v' w' h2 h3 h4
theorem wrapEqQ (x : Int) : IntKind.i64.wrap x = wrap64 x := by
  rw [IntKind.wrap_i64, wrap64]
section
variable {F : Nat → Prop} {w : World} {p : Nat} {l : List Wt} {o : Int}
set_option maxRecDepth 100000 in
set_option maxHeartbeats 1600000 in
theorem rpush_any (k : Int) (h : QK F w p l o) (hl : l.length ≤ 1048576) : Calls Try.prog 13 #[.pointer (some ⟨p, 0, none⟩), .int .i64 k] w fun e w' => e = .returned (.int .i64 (pushE l k)) ∧ QK (fun k => F k ∨ w.heap.size ≤ k) w' p (pushL l k) o ∧ Keep F w w' := by
  have hp := rplace_any k h hl
  by_cases hk : k < 1
  · have hB : pushE l k = 1 := by unfold pushE; rw [if_pos hk]
    have hR : pushL l k = l := by unfold pushL; rw [hB]; rfl
    rw [hB, hR]
    clear hB hR
    go_enter Try.func13, Try.ntmps13
    go_wp2
    go_ret
    exact ⟨rfl, h.mono fun k _ hk => .inl hk, Keep.refl _ _⟩
  rcases Int.lt_or_le (placeW l k) 0 with hn | hn
  · obtain ⟨P, hP⟩ : ∃ P, placeW l k = P := ⟨_, rfl⟩
    by_cases hf : 256 ≤ l.length
    · have hB : pushE l k = 2 := by unfold pushE; rw [if_neg hk, if_neg (by omega), if_pos hf]
      have hR : pushL l k = l := by unfold pushL; rw [hB]; rfl
      rw [hB, hR]
      clear hB hR
      rw [hP] at hp hn
      have hnn : decide (0 ≤ P) = false := decide_eq_false (by omega)
      have hfz : decide ((256 : Int) ≤ (l.length : Int)) = true := decide_eq_true (by omega)
      obtain ⟨v, h3⟩ := h
      obtain ⟨h0, h1⟩ := h3.fields
      obtain ⟨A, c, rfl, _⟩ := h3.own.form
      go_enter Try.func13, Try.ntmps13
      go_wp2_with fail
      refine hp.mono ?_
      rintro e w' ⟨rfl, hww⟩
      subst w'
      go_wp2
      go_ret
      exact ⟨rfl, ⟨_, h3.mono fun k _ hk => .inl hk⟩, Keep.refl _ _⟩
    · have hB : pushE l k = 0 := by unfold pushE; rw [if_neg hk, if_neg (by omega), if_neg hf]
      have hR : pushL l k = l ++ [⟨k, false⟩] := by unfold pushL; rw [hB]; rfl
      obtain ⟨l2, hl2⟩ : ∃ l2, l ++ [(⟨k, false⟩ : Wt)] = l2 := ⟨_, rfl⟩
      rw [hB, hR, hl2]
      clear hB hR
      rw [hP] at hp hn
      have hnn : decide (0 ≤ P) = false := decide_eq_false (by omega)
      obtain ⟨v, h⟩ := h
      obtain ⟨A, c, rfl, hfm⟩ := h.own.form
      have hA : A = none ∨ ∃ b off, A = some ⟨b, off, none⟩ := by
        cases A with
        | none => exact .inl rfl
        | some ad => obtain ⟨b, hb, _⟩ := hfm.2.2.1 ad rfl; exact .inr ⟨b, 0, by rw [hb]⟩
      clear hfm
      obtain ⟨N, hN⟩ : ∃ N, l.length = N := ⟨_, rfl⟩
      rw [hN] at h hl
      obtain ⟨h0, h1⟩ := h.fields
      have hpl := h.pc.lt
      have hz0 := QO.form0 w
      have hr0 := (h.own.alloc (.cells #[] 62)).wr
      have hb0 := (Below.refl w.heap.size w).alloc (Nat.le_refl _) (.cells #[] 62)
      have hs0 : w.heap.size ≤ (w.alloc (.cells #[] 62)).heap.size := hb0.size
      have hfz : decide ((256 : Int) ≤ (N : Int)) = false := decide_eq_false (by omega)
      go_enter Try.func13, Try.ntmps13
      go_wp2_with fail
      refine hp.mono ?_
      rintro e w' ⟨rfl, hww⟩
      subst w'
      clear hp
      go_wp2_with (first | (at_builtin; refine wpAppQOn rfl (.tmp 18) (.tmp 22) rfl w.heap.size (.slice (some ⟨w.heap.size, 0, none⟩) 0 0) [] rfl hz0 A N c rfl l hr0 hA (by simp; omega) hs0 ?_; intro v5 w5 hO5 hK5 e5; rw [List.nil_append] at hO5; obtain ⟨A5, c5, hv5, hx5⟩ := hO5.form; clear hx5; subst hv5) | (have hb5 := hb0.trans (hK5.below (B := w.heap.size) hs0 (fun i hi e => by simp [Value.ownBlock] at e; omega)); rw [hN] at hO5; have hO6 := hO5.alloc (.cells #[.int .i64 k, .bool false] 62); have hn6 := Blk.new w5 62 #[.int .i64 k, .bool false]; have hb6 := hb5.alloc hb5.size (.cells #[.int .i64 k, .bool false] 62); at_builtin; refine wpAppQO rfl (.tmp 23) (.tmp 26) rfl w.heap.size (.slice A5 N c5) l rfl hO6 ⟨w5.heap.size, 0, none⟩ rfl ⟨k, false⟩ (fun j u hu => by rw [Addr.add_lit, Nat.zero_add, hn6.cell]; simpa [Wt.cs] using hu) (by omega) hb6.size ?_; intro v7 w7 hO7 hK7 e7; rw [hl2] at hO7; obtain ⟨A7, c7, hv7, hx7⟩ := hO7.form; clear hx7; subst hv7; have hb7 := hb6.trans (hK7.below (B := w.heap.size) hb6.size (fun i hi e => by have := (hO6.lt i e).1; omega)); have h7 := h.below hb7; have f7 := h7.pc.frozen 0; have hpl7 := h7.pc.lt; have q7 := h7.pc.cell 0; simp at q7))
      have hpc8 := h7.pc.set_ 0 (.slice A7 l2.length c7)
      simp only [List.setIfInBounds_toArray, List.set_cons_zero] at hpc8
      obtain ⟨hQ, hKF⟩ := QV.given h7.fp hb7 hO7 hpl hpc8 ((Keep.refl (fun k => k = p) w7).setCell (p := ⟨p, 0, none⟩) (fun _ => rfl) _)
      go_ret
      exact ⟨rfl, hQ, hKF⟩
  · have hB : pushE l k = 5 := by unfold pushE; rw [if_neg hk, if_pos hn]
    have hR : pushL l k = l := by unfold pushL; rw [hB]; rfl
    rw [hB, hR]
    clear hB hR
    obtain ⟨P, hP⟩ : ∃ P, placeW l k = P := ⟨_, rfl⟩
    rw [hP] at hp hn
    go_enter Try.func13, Try.ntmps13
    go_wp2_with fail
    refine hp.mono ?_
    rintro e w' ⟨rfl, hww⟩
    subst w'
    go_wp2
    go_ret
    exact ⟨rfl, h.mono fun k _ hk => .inl hk, Keep.refl _ _⟩
theorem mix_keep {l : List Wt} {o : Int} {k : Nat} {x : Wt} (hx : (mixL l o k)[k]? = some x) (ho : x.k = o) (hr : x.r = false) : mixL l o (k + 1) = mixL l o k := by
  rw [← mix_set (mix_at hx)]
  have he : (⟨x.k, x.k != o⟩ : Wt) = x := by
    cases x
    simp at ho hr
    simp [ho, hr]
  rw [he]
  obtain ⟨hk, hxe⟩ := List.getElem?_eq_some_iff.1 hx
  rw [← hxe]
  exact List.set_getElem_self _
set_option maxRecDepth 100000 in
set_option maxHeartbeats 1600000 in
theorem rnews_any (h : QK F w p l o) (hl : l.length ≤ 1048576) (hout : ∀ x ∈ l, x.k = o → x.r = false) : Calls Try.prog 17 #[.pointer (some ⟨p, 0, none⟩)] w fun e w' => (∃ v, e = .returned v) ∧ QK (fun k => F k ∨ w.heap.size ≤ k) w' p (newsL l o) o ∧ Keep F w w' := by
  obtain ⟨v, h⟩ := h
  obtain ⟨A, c, rfl, hfm⟩ := h.own.form
  have hA : A = none ∨ ∃ b off, A = some ⟨b, off, none⟩ := by
    cases A with
    | none => exact .inl rfl
    | some ad => obtain ⟨b, hb, _⟩ := hfm.2.2.1 ad rfl; exact .inr ⟨b, 0, by rw [hb]⟩
  clear hfm
  obtain ⟨N, hN⟩ : ∃ N, l.length = N := ⟨_, rfl⟩
  rw [hN] at h hl
  obtain ⟨h0, h1⟩ := h.fields
  have hpl := h.pc.lt
  have hz0 := QO.form0 w
  have hr0 := (h.own.alloc (.cells #[] 62)).wr
  have hb0 := (Below.refl w.heap.size w).alloc (Nat.le_refl _) (.cells #[] 62)
  have hs0 : w.heap.size ≤ (w.alloc (.cells #[] 62)).heap.size := hb0.size
  go_enter Try.func17, Try.ntmps17
  go_wp2_with (at_builtin; refine wpAppQOn rfl (.tmp 4) (.tmp 8) rfl w.heap.size (.slice (some ⟨w.heap.size, 0, none⟩) 0 0) [] rfl hz0 A N c rfl l hr0 hA (by simp; omega) hs0 ?_; intro v5 w5 hO5 hK5 e5; rw [List.nil_append] at hO5; obtain ⟨A5, c5, hv5, hx5⟩ := hO5.form; clear hx5; subst hv5)
  have hownlt := fun g hg => (h.own.lt g hg).2
  have hb5 := hb0.trans (hK5.below (B := w.heap.size) hs0 (fun i hi e => by simp [Value.ownBlock] at e; omega))
  rw [hN] at hO5
  have h5 := h.below hb5
  clear hK5 e5 hz0 hr0 hb0 hs0 h hA
  go_loopw [3] (fun i wr => ∃ k : Nat, i = .int .i64 (k : Int) ∧ k ≤ N ∧ QO w.heap.size wr (.slice A5 N c5) (mixL l o k) ∧ QV F wr p (.slice A N c) l o ∧ Below w.heap.size w wr) (fun i _ => N - (intOf i).toNat)
  case atStart => exact ⟨0, by go_num, by omega, by rw [mix_zero]; exact hO5, h5, hb5⟩
  case round =>
    obtain ⟨k, rfl, hk, hOr, hr, hb⟩ := hrel
    clear hO5 h5 hb5 h0 h1
    obtain ⟨h0, h1⟩ := hr.fields
    have hml : (mixL l o k).length = N := by rw [mix_len, hN]
    by_cases hlt : k < N
    · have hlz : (k : Int) < (N : Int) := by omega
      have hk0 : (0 : Int) ≤ (k : Int) := by omega
      obtain ⟨g, x, rfl, hx, c0, c1⟩ := hOr.place hlt
      have hgl := (hOr.lt g rfl).2
      have hgw := (hOr.lt g rfl).1
      have hxl := mix_at hx
      by_cases hxo : x.k = o
      · have hne : (x.k != o) = false := by simp [hxo]
        have hmk := mix_keep hx hxo (hout x (List.mem_of_getElem? hxl) hxo)
        have hO2 := hOr.drew
        rw [← hmk] at hO2
        have hr2 := hr.drew
        have hb2 := hb.drew
        clear hx hxl hxo hmk
        go_wp2
        go_region
        go_wp2
        go_roundw
        case measure => simp [intOf]; omega
        case rel => exact ⟨k + 1, by go_num, by omega, hO2, hr2, hb2⟩
      · have hne : (x.k != o) = true := by simp [hxo]
        have hp2 := hOr.put hml k 1 x ⟨x.k, x.k != o⟩ (.bool true) hx (by rw [hne]; rfl) (by omega)
        rw [mix_set hxl] at hp2
        have hgp : ¬ p = g := fun e => by omega
        have hOd := hOr.drew
        obtain ⟨W, hW⟩ : ∃ W, wr.drew = W := ⟨_, rfl⟩
        have kg : Keep (fun k => k = g) wr.drew (wr.drew.setCell ⟨g, k * 2 + 1, none⟩ (.bool true)) := (Keep.refl (fun k => k = g) wr.drew).setCell (p := ⟨g, k * 2 + 1, none⟩) (fun _ => rfl) _
        have hp3 := hOr.drew.put hml k 1 x ⟨x.k, x.k != o⟩ (.bool true) hx (by rw [hne]; rfl) (by omega)
        rw [mix_set hxl] at hp3
        have hr2 : QV F (wr.drew.setCell ⟨g, k * 2 + 1, none⟩ (.bool true)) p (.slice A N c) l o := ⟨hr.drew.pc.kept kg hgp, hr.drew.own.kept kg (fun b hb2 e => by have h1 := hownlt b hb2; omega), hr.ne, hr.fp, hr.fv⟩
        have hb2 : Below w.heap.size w (wr.drew.setCell ⟨g, k * 2 + 1, none⟩ (.bool true)) := hb.drew.trans (kg.below (B := w.heap.size) hb.size (fun i hi e => by omega))
        have f1 := hOr.drew.fz (g := g) rfl (k * 2 + 1)
        clear hx hxl hxo hp2 kg hOr hr hb hW hOd
        go_wp2
        go_region
        go_wp2
        go_roundw
        case measure => simp [intOf]; omega
        case rel => exact ⟨k + 1, by go_num, by omega, hp3, hr2, hb2⟩
    · have hlz : ¬ (k : Int) < (N : Int) := by omega
      have hkn : k = N := by omega
      rw [hkn, mix_all l o N (by omega)] at hOr
      have f0 := hr.pc.frozen 0
      have hplr := hr.pc.lt
      have hpc8 := hr.pc.set_ 0 (.slice A5 N c5)
      simp only [List.setIfInBounds_toArray, List.set_cons_zero] at hpc8
      obtain ⟨hQ, hKF⟩ := QV.given hr.fp hb hOr hpl hpc8 ((Keep.refl (fun k => k = p) wr).setCell (p := ⟨p, 0, none⟩) (fun _ => rfl) _)
      clear hkn hOr hr hb hpc8
      go_wp2
      go_end0
      exact ⟨⟨_, rfl⟩, hQ, hKF⟩
/-- What Try answers. -/
def RTryPost (F : Nat → Prop) (w : World) (p : Nat) (r : Int × Bool × List Wt × Int) (e : Ending) (w' : World) : Prop :=
  e = .returned (.tuple #[.int .i64 r.1, .bool r.2.1]) ∧ QK (fun k => F k ∨ w.heap.size ≤ k) w' p r.2.2.1 r.2.2.2 ∧ Keep F w w'
set_option maxRecDepth 100000 in
set_option maxHeartbeats 1600000 in
theorem rtry_any (h : QK F w p l o) (hl : l.length ≤ 1048576) (ho : 0 ≤ o) : Calls Try.prog 19 #[.pointer (some ⟨p, 0, none⟩)] w (RTryPost F w p (tryP l o)) := by
  obtain ⟨v, h⟩ := h
  obtain ⟨A, c, rfl, hfm⟩ := h.own.form
  have hA : A = none ∨ ∃ b off, A = some ⟨b, off, none⟩ := by
    cases A with
    | none => exact .inl rfl
    | some ad => obtain ⟨b, hb, _⟩ := hfm.2.2.1 ad rfl; exact .inr ⟨b, 0, by rw [hb]⟩
  clear hfm
  obtain ⟨N, hN⟩ : ∃ N, l.length = N := ⟨_, rfl⟩
  rw [hN] at h hl
  obtain ⟨h0, h1⟩ := h.fields
  have hpl := h.pc.lt
  have hz0 := QO.form0 w
  have hr0 := (h.own.alloc (.cells #[] 62)).wr
  have hb0 := (Below.refl w.heap.size w).alloc (Nat.le_refl _) (.cells #[] 62)
  have hs0 : w.heap.size ≤ (w.alloc (.cells #[] 62)).heap.size := hb0.size
  by_cases hz : o = 0
  case neg =>
    have hne : (o != 0) = true := by simp [hz]
    have hne2 : (o == 0) = false := beq_eq_false_iff_ne.2 hz
    have ht : tryP l o = (0, false, l, o) := try_out (by omega)
    rw [ht]
    clear ht hz ho
    go_enter Try.func19, Try.ntmps19
    go_wp2
    refine bodyPost_ret (v := .tuple #[.int .i64 0, .bool false]) (by simp [results, Try.results19, go_sem]) rfl ⟨rfl, ⟨_, h.mono fun k _ hk => .inl hk⟩, Keep.refl _ _⟩
  case pos =>
  subst hz
  go_enter Try.func19, Try.ntmps19
  go_wp2_with (at_builtin; refine wpAppQOn rfl (.tmp 11) (.tmp 15) rfl w.heap.size (.slice (some ⟨w.heap.size, 0, none⟩) 0 0) [] rfl hz0 A N c rfl l hr0 hA (by simp; omega) hs0 ?_; intro v5 w5 hO5 hK5 e5; rw [List.nil_append] at hO5; obtain ⟨A5, c5, hv5, hx5⟩ := hO5.form; clear hx5; subst hv5)
  have hownlt := fun g hg => (h.own.lt g hg).2
  have hb5 := hb0.trans (hK5.below (B := w.heap.size) hs0 (fun i hi e => by simp [Value.ownBlock] at e; omega))
  rw [hN] at hO5
  have h5 := h.below hb5
  clear hK5 e5 hz0 hr0 hb0 hs0 h hA
  go_loopw [5] (fun i wr => ∃ k : Nat, i = .int .i64 (k : Int) ∧ k ≤ N ∧ QO w.heap.size wr (.slice A5 N c5) l ∧ QV F wr p (.slice A N c) l 0 ∧ Below w.heap.size w wr ∧ Hid (k ≤ l.findIdx isR)) (fun i _ => N - (intOf i).toNat)
  case atStart => exact ⟨0, by go_num, by omega, hO5, h5, hb5, Lib.hid (Nat.zero_le _)⟩
  case round =>
    obtain ⟨k, rfl, hk, hOr, hr, hb, hf⟩ := hrel
    clear hO5 h5 hb5 h0 h1 ho
    obtain ⟨h0, h1⟩ := hr.fields
    by_cases hlt : k < N
    · have hlz : (k : Int) < (N : Int) := by omega
      have hk0 : (0 : Int) ≤ (k : Int) := by omega
      obtain ⟨g, x, rfl, hx, c0, c1⟩ := hOr.place hlt
      have hgl := (hOr.lt g rfl).2
      have hgw := (hOr.lt g rfl).1
      obtain ⟨xk, xr⟩ := x
      cases xr with
      | false =>
        have hf2 := Lib.hid (idx_step hf.out hx rfl)
        clear hx hf
        dsimp only at c0 c1
        go_wp2
        go_roundw
        case measure => simp [intOf]; omega
        case rel => exact ⟨k + 1, by go_num, by omega, hOr, hr, hb, hf2⟩
      | true =>
        have hfi := (idx_found hf.out hx rfl).2
        have ht := try_at (o := 0) (by omega) (show l.findIdx (fun x => x.r) = k from hfi) hx
        have HT := Lib.hid ht
        have hgp : ¬ p = g := fun e => by omega
        have hpg : ¬ g = p := fun e => hgp e.symm
        have f1 := hOr.fz (g := g) rfl (k * 2 + 1)
        have kg : Keep (fun k => k = g) wr (wr.setCell ⟨g, k * 2 + 1, none⟩ (.bool false)) := (Keep.refl (fun k => k = g) wr).setCell (p := ⟨g, k * 2 + 1, none⟩) (fun _ => rfl) _
        have hp3 := hOr.put hN k 1 ⟨xk, true⟩ ⟨xk, false⟩ (.bool false) hx rfl (by omega)
        have pc2 := hr.pc.kept kg hgp
        have hb2 : Below w.heap.size w (wr.setCell ⟨g, k * 2 + 1, none⟩ (.bool false)) := hb.trans (kg.below (B := w.heap.size) hb.size (fun i hi e => by omega))
        have fp0 := hr.pc.frozen 0
        have fp1 := hr.pc.frozen 1
        have hplr := hr.pc.lt
        have pc3 := (pc2.set_ 0 (.slice (some ⟨g, 0, none⟩) N c5)).set_ 1 (.int .i64 xk)
        simp only [List.setIfInBounds_toArray, List.set_cons_zero, List.set_cons_succ] at pc3
        obtain ⟨W2, hW2⟩ : ∃ W2, wr.setCell ⟨g, k * 2 + 1, none⟩ (.bool false) = W2 := ⟨_, rfl⟩
        have hpost : RTryPost F w p (xk, true, l.set k ⟨xk, false⟩, xk) (.returned (.tuple #[.int .i64 xk, .bool true])) (((wr.setCell ⟨g, k * 2 + 1, none⟩ (.bool false)).setCell ⟨p, 0, none⟩ (.slice (some ⟨g, 0, none⟩) N c5)).setCell ⟨p, 1, none⟩ (.int .i64 xk)) := by
          obtain ⟨hQ, hKF⟩ := QV.given hr.fp hb2 hp3 hpl pc3 (((Keep.refl (fun k => k = p) (wr.setCell ⟨g, k * 2 + 1, none⟩ (.bool false))).setCell (p := ⟨p, 0, none⟩) (fun _ => rfl) _).setCell (p := ⟨p, 1, none⟩) (fun _ => rfl) _)
          exact ⟨rfl, hQ, hKF⟩
        clear hx hf hfi ht hp3 kg pc2 pc3 hOr hr hb hb2 hW2
        dsimp only at c0 c1
        go_wp2
        exact bodyPost_ret (v := .tuple #[.int .i64 xk, .bool true]) (by simp [results, Try.results19, go_sem]) rfl (by rw [HT.out]; exact hpost)
    · have hlz : ¬ (k : Int) < (N : Int) := by omega
      have HT := Lib.hid (try_none (o := 0) (show readyW l = -1 from idx_end hf.out (by omega)))
      clear hf
      go_wp2
      refine bodyPost_ret (v := .tuple #[.int .i64 0, .bool false]) (by simp [results, Try.results19, go_sem]) rfl (by rw [HT.out]; exact ⟨rfl, ⟨_, hr.mono fun k _ hk => .inl hk⟩, (Keep.of_below hb).mono fun k h1 h2 => by omega⟩)
/-- What Drop answers. -/
def RDropPost (F : Nat → Prop) (w : World) (p : Nat) (l : List Wt) (o k : Int) (e : Ending) (w' : World) : Prop := e = .returned (.bool (decide (0 ≤ placeW l k))) ∧ QK (fun k => F k ∨ w.heap.size ≤ k) w' p (dropL l k) (dropO l o k) ∧ Keep F w w'
set_option maxRecDepth 100000 in
set_option maxHeartbeats 3200000 in
theorem rdrop_any (k : Int) (h : QK F w p l o) (hl : l.length ≤ 1048576) (hone : ∀ x ∈ l, 1 ≤ x.k) : Calls Try.prog 15 #[.pointer (some ⟨p, 0, none⟩), .int .i64 k] w (RDropPost F w p l o k) := by
  have hp := rplace_any k h hl
  unfold RDropPost
  rcases idx_cases (fun x => decide (x.k = k)) l with ⟨hn, _⟩ | ⟨i, x, hix, hx, hr, hil, hfi⟩
  · have hpl : placeW l k = -1 := hn
    rw [dropL_none hpl, show dropO l o k = o from by unfold dropO; rw [hpl]; rfl, hpl]
    rw [hpl] at hp
    clear hn hpl
    go_enter Try.func15, Try.ntmps15
    go_wp2_with fail
    refine hp.mono ?_
    rintro e w1 ⟨rfl, hww⟩
    subst w1
    go_wp2
    go_ret
    exact ⟨rfl, h.mono fun k _ hk => .inl hk, Keep.refl _ _⟩
  · have hk1 : 1 ≤ k := by have h1 := hone x (List.mem_of_getElem? hx); have h2 : x.k = k := by simpa using hr
                           omega
    have hpl : placeW l k = (i : Int) := hix
    have hlt : decide ((i : Int) < 0) = false := decide_eq_false (by omega)
    have hdp : (decide (0 ≤ (i : Int))) = true := decide_eq_true (by omega)
    rw [show dropL l k = l.eraseIdx i from by unfold dropL; rw [hfi], show dropO l o k = backO o k from by unfold dropO; rw [if_pos (by omega)], hpl, hdp]
    rw [hpl] at hp
    clear hpl hix hfi hr hdp
    obtain ⟨l2, hl2⟩ : ∃ l2, l.eraseIdx i = l2 := ⟨_, rfl⟩
    rw [hl2]
    obtain ⟨v, h⟩ := h
    obtain ⟨A, c, rfl, hfm⟩ := h.own.form
    clear hfm
    obtain ⟨N, hN⟩ : ∃ N, l.length = N := ⟨_, rfl⟩
    rw [hN] at h hl hil
    have hnl := h.own.len
    obtain ⟨g, x', rfl, hx', c0, c1⟩ := h.own.place hil
    clear hx hx' c0 c1
    obtain ⟨h0, h1⟩ := h.fields
    have hpl := h.pc.lt
    have hz0 := QO.form0 w
    have hb0 := (Below.refl w.heap.size w).alloc (Nat.le_refl _) (.cells #[] 62)
    have hs0 : w.heap.size ≤ (w.alloc (.cells #[] 62)).heap.size := hb0.size
    have hto := ((h.own.alloc (.cells #[] 62)).wr).to i (by omega)
    obtain ⟨off, hoe, hoff⟩ := sliceW_at g N c i hil hnl.2
    have hfr : QR w (some ⟨g, off, none⟩) (N - (i + 1)) (l.drop (i + 1)) := by
      by_cases h1 : i + 1 < N
      · have := h.own.wr.from g 0 rfl (i + 1) (by omega)
        rw [hoff h1]
        simpa using this
      · have e1 : l.drop (i + 1) = [] := List.drop_eq_nil_of_le (by omega)
        have e2 : N - (i + 1) = 0 := by omega
        rw [e1, e2]
        exact QR.nil _ _
    have HOE := Lib.hid hoe
    have cell0 : w.drew.cell? ⟨p, 0, none⟩ = some (.slice (some ⟨g, 0, none⟩) N c) := h0
    have cellp := fun (W : World) (hb : Below w.heap.size w W) => ((h.below hb).fields).1
    have hb5' : ∀ (W : World), Below w.heap.size w W → Below w.heap.size w W := fun _ h => h
    have hzi : (i : Int) ≤ (c : Int) := by omega
    have hic : i ≤ c := by omega
    have hz00 : (0 : Int) ≤ (i : Int) + 1 := by omega
    have hzn : (i : Int) + 1 ≤ (N : Int) := by omega
    have hwr : IntKind.i64.wrap ((i : Int) + 1) = (i : Int) + 1 := by rw [wrapEqQ, IntWalk.wrap64_in _ (by omega)]
    have htn : ((i : Int) + 1).toNat = i + 1 := by omega
    clear hoe hoff
    go_enter Try.func15, Try.ntmps15
    go_wp2_with fail
    refine hp.mono ?_
    rintro e w1 ⟨rfl, hww⟩
    subst w1
    clear hp
    go_wp2
    refine wp_region_z (S := (fun w' => w'.cell? ⟨p, 0, none⟩ = some (.slice (some ⟨g, 0, none⟩) N c))) 19 (by kernel_rfl) cell0 (fun hHeld => ?_)
    refine wpAnyZ_take (i := 0) (oi := ?oi0) (u := ?v0) ?hi0 (by kernel_rfl) (by decide) (by kernel_rfl) (by kernel_rfl) (by kernel_rfl) ?hq0 (Or.inl ⟨?hw0, ?hy0⟩) (by assumption) ?rest0
    case hi0 => (simp only [List.getElem?_toArray, List.getElem?_cons_succ, List.getElem?_cons_zero]; rfl)
    case hq0 => exact fun _ _ _ h => h
    case hw0 => rfl
    case hy0 => (intro w hSw; (try dsimp only at hSw); go_simp <;> with_reducible rfl)
    try simp only [Act.put, List.setIfInBounds_toArray, List.set_cons_zero, List.set_cons_succ]
    refine wpAnyZ_take (i := 2) (oi := ?oi2) (u := ?v2) ?hi2 (by kernel_rfl) (by decide) (by kernel_rfl) (by kernel_rfl) (by kernel_rfl) ?hq2 (Or.inl ⟨?hw2, ?hy2⟩) (by assumption) ?rest2
    case hi2 => (simp only [List.getElem?_toArray, List.getElem?_cons_succ, List.getElem?_cons_zero]; rfl)
    case hq2 => exact fun _ _ _ h => h
    case hw2 => rfl
    case hy2 => (intro w hSw; (try dsimp only at hSw); go_simp <;> with_reducible rfl)
    try simp only [Act.put, List.setIfInBounds_toArray, List.set_cons_zero, List.set_cons_succ]
    refine wpAnyZ_take (i := 3) (oi := ?oi3) (u := ?v3) ?hi3 (by kernel_rfl) (by decide) (by kernel_rfl) (by kernel_rfl) (by kernel_rfl) ?hq3 (Or.inl ⟨?hw3, ?hy3⟩) (by assumption) ?rest3
    case hi3 => (simp only [List.getElem?_toArray, List.getElem?_cons_succ, List.getElem?_cons_zero]; rfl)
    case hq3 => exact fun _ _ _ h => h
    case hw3 => rfl
    case hy3 => (intro w hSw; (try dsimp only at hSw); go_simp <;> with_reducible rfl)
    try simp only [Act.put, List.setIfInBounds_toArray, List.set_cons_zero, List.set_cons_succ]
    refine wpAnyZ_take (i := 4) (oi := ?oi4) (u := ?v4) ?hi4 (by kernel_rfl) (by decide) (by kernel_rfl) (by kernel_rfl) (by kernel_rfl) ?hq4 (Or.inl ⟨?hw4, ?hy4⟩) (by assumption) ?rest4
    case hi4 => (simp only [List.getElem?_toArray, List.getElem?_cons_succ, List.getElem?_cons_zero]; rfl)
    case hq4 => exact fun _ _ _ h => h
    case hw4 => rfl
    case hy4 => (intro w hSw; (try dsimp only at hSw); go_simp <;> with_reducible rfl)
    try simp only [Act.put, List.setIfInBounds_toArray, List.set_cons_zero, List.set_cons_succ]
    refine wpAnyZ_take (i := 5) (oi := ?oi5) (u := ?v5) ?hi5 (by kernel_rfl) (by decide) (by kernel_rfl) (by kernel_rfl) (by kernel_rfl) ?hq5 (Or.inl ⟨?hw5, ?hy5⟩) (by assumption) ?rest5
    case hi5 => (simp only [List.getElem?_toArray, List.getElem?_cons_succ, List.getElem?_cons_zero]; rfl)
    case hq5 => exact fun _ _ _ h => h
    case hw5 => rfl
    case hy5 => (intro w hSw; (try dsimp only at hSw); go_simp <;> with_reducible rfl)
    try simp only [Act.put, List.setIfInBounds_toArray, List.set_cons_zero, List.set_cons_succ]
    refine wpAnyZ_take (i := 6) (oi := ?oi6) (u := ?v6) ?hi6 (by kernel_rfl) (by decide) (by kernel_rfl) (by kernel_rfl) (by kernel_rfl) ?hq6 (Or.inl ⟨?hw6, ?hy6⟩) (by assumption) ?rest6
    case hi6 => (simp only [List.getElem?_toArray, List.getElem?_cons_succ, List.getElem?_cons_zero]; rfl)
    case hq6 => exact fun _ _ _ h => h
    case hw6 => rfl
    case hy6 => (intro w hSw; (try dsimp only at hSw); go_simp <;> with_reducible rfl)
    try simp only [Act.put, List.setIfInBounds_toArray, List.set_cons_zero, List.set_cons_succ]
    refine wpAnyZ_take (i := 7) (oi := ?oi7) (u := ?v7) ?hi7 (by kernel_rfl) (by decide) (by kernel_rfl) (by kernel_rfl) (by kernel_rfl) ?hq7 (Or.inl ⟨?hw7, ?hy7⟩) (by assumption) ?rest7
    case hi7 => (simp only [List.getElem?_toArray, List.getElem?_cons_succ, List.getElem?_cons_zero]; rfl)
    case hq7 => exact fun _ _ _ h => h
    case hw7 => rfl
    case hy7 => (intro w hSw; (try dsimp only at hSw); go_simp <;> with_reducible rfl)
    try simp only [Act.put, List.setIfInBounds_toArray, List.set_cons_zero, List.set_cons_succ]
    refine wpAnyZ_take (i := 9) (oi := ?oi9) (u := ?v9) ?hi9 (by kernel_rfl) (by decide) (by kernel_rfl) (by kernel_rfl) (by kernel_rfl) ?hq9 (Or.inl ⟨?hw9, ?hy9⟩) (by assumption) ?rest9
    case hi9 => (simp only [List.getElem?_toArray, List.getElem?_cons_succ, List.getElem?_cons_zero]; rfl)
    case hq9 => exact fun _ _ _ h => h
    case hw9 => rfl
    case hy9 => (intro w hSw; (try dsimp only at hSw); go_simp <;> with_reducible rfl)
    try simp only [Act.put, List.setIfInBounds_toArray, List.set_cons_zero, List.set_cons_succ]
    refine wpAnyZ_take (i := 10) (oi := ?oi10) (u := ?v10) ?hi10 (by kernel_rfl) (by decide) (by kernel_rfl) (by kernel_rfl) (by kernel_rfl) ?hq10 (Or.inl ⟨?hw10, ?hy10⟩) (by assumption) ?rest10
    case hi10 => (simp only [List.getElem?_toArray, List.getElem?_cons_succ, List.getElem?_cons_zero]; rfl)
    case hq10 => exact fun _ _ _ h => h
    case hw10 => rfl
    case hy10 => (intro w hSw; (try dsimp only at hSw); go_simp <;> with_reducible rfl)
    try simp only [Act.put, List.setIfInBounds_toArray, List.set_cons_zero, List.set_cons_succ]
    refine wpAnyZ_take (i := 11) (oi := ?oi11) (u := ?v11) ?hi11 (by kernel_rfl) (by decide) (by kernel_rfl) (by kernel_rfl) (by kernel_rfl) ?hq11 (Or.inl ⟨?hw11, ?hy11⟩) (by assumption) ?rest11
    case hi11 => (simp only [List.getElem?_toArray, List.getElem?_cons_succ, List.getElem?_cons_zero]; rfl)
    case hq11 => exact fun _ _ _ h => h
    case hw11 => rfl
    case hy11 => (intro w hSw; (try dsimp only at hSw); go_simp <;> with_reducible rfl)
    try simp only [Act.put, List.setIfInBounds_toArray, List.set_cons_zero, List.set_cons_succ]
    refine wpAnyZ_take (i := 12) (oi := ?oi12) (u := ?v12) ?hi12 (by kernel_rfl) (by decide) (by kernel_rfl) (by kernel_rfl) (by kernel_rfl) ?hq12 (Or.inl ⟨?hw12, ?hy12⟩) (by assumption) ?rest12
    case hi12 => (simp only [List.getElem?_toArray, List.getElem?_cons_succ, List.getElem?_cons_zero]; rfl)
    case hq12 => exact fun _ _ _ h => h
    case hw12 => rfl
    case hy12 => (intro w hSw; (try dsimp only at hSw); go_simp <;> with_reducible rfl)
    try simp only [Act.put, List.setIfInBounds_toArray, List.set_cons_zero, List.set_cons_succ]
    refine wpAnyZ_take (i := 13) (oi := ?oi13) (u := ?v13) ?hi13 (by kernel_rfl) (by decide) (by kernel_rfl) (by kernel_rfl) (by kernel_rfl) ?hq13 (Or.inl ⟨?hw13, ?hy13⟩) (by assumption) ?rest13
    case hi13 => (simp only [List.getElem?_toArray, List.getElem?_cons_succ, List.getElem?_cons_zero]; rfl)
    case hq13 => exact fun _ _ _ h => h
    case hw13 => rfl
    case hy13 => (intro w hSw; (try dsimp only at hSw); go_simp <;> with_reducible rfl)
    try simp only [Act.put, List.setIfInBounds_toArray, List.set_cons_zero, List.set_cons_succ]
    refine wpAnyZ_take (i := 14) (oi := ?oi14) (u := ?v14) ?hi14 (by kernel_rfl) (by decide) (by kernel_rfl) (by kernel_rfl) (by kernel_rfl) ?hq14 (Or.inl ⟨?hw14, ?hy14⟩) (by assumption) ?rest14
    case hi14 => (simp only [List.getElem?_toArray, List.getElem?_cons_succ, List.getElem?_cons_zero]; rfl)
    case hq14 => exact fun _ _ _ h => h
    case hw14 => rfl
    case hy14 => (intro w hSw; (try dsimp only at hSw); go_simp <;> with_reducible rfl)
    try simp only [Act.put, List.setIfInBounds_toArray, List.set_cons_zero, List.set_cons_succ]
    refine wpAnyZ_take (i := 15) (oi := ?oi15) (u := ?v15) ?hi15 (by kernel_rfl) (by decide) (by kernel_rfl) (by kernel_rfl) (by kernel_rfl) ?hq15 (Or.inl ⟨?hw15, ?hy15⟩) (by assumption) ?rest15
    case hi15 => (simp only [List.getElem?_toArray, List.getElem?_cons_succ, List.getElem?_cons_zero]; rfl)
    case hq15 => exact fun _ _ _ h => h
    case hw15 => rfl
    case hy15 => (intro w hSw; (try dsimp only at hSw); go_simp <;> with_reducible rfl)
    try simp only [Act.put, List.setIfInBounds_toArray, List.set_cons_zero, List.set_cons_succ]
    refine wpAnyZ_one (i := 1) (o := ?o1) (by kernel_rfl) ?hi1 (fun K hK => ?st1)
    case hi1 => (simp only [List.getElem?_toArray, List.getElem?_cons_succ, List.getElem?_cons_zero]; rfl)
    go_simp
    have cA := cellp _ hb0.drew
    refine hK.out _ _ (fun _ => cA) (fun hHeld2 => ?_)
    clear hK K hHeld
    have hHeld := hHeld2 (by decide)
    clear hHeld2
    try simp only [Act.put, List.setIfInBounds_toArray, List.set_cons_zero, List.set_cons_succ]
    refine wpAnyZ_one (i := 8) (o := ?o8) (by kernel_rfl) ?hi8 (fun K hK => ?st8)
    case hi8 => (simp only [List.getElem?_toArray, List.getElem?_cons_succ, List.getElem?_cons_zero]; rfl)
    rw [if_pos (by rfl)]
    refine wp_appQOn (.tmp 12) (.tmp 18) rfl w.heap.size (.slice (some ⟨w.heap.size, 0, none⟩) 0 0) [] rfl hz0 (some ⟨g, 0, none⟩) i c rfl (l.take i) ⟨hto.len, hto.at_⟩ (.inr ⟨g, 0, rfl⟩) (by simp; omega) hs0 ?_
    intro v5 w5 hO5 hK5 e5
    rw [List.nil_append] at hO5
    have hb5 := hb0.drew.trans (hK5.below (B := w.heap.size) hs0 (fun i hi e => by simp [Value.ownBlock] at e; omega))
    have cB := cellp _ hb5
    have hfr5 := hfr.below (hb5' _ hb5)
    refine hK.out _ _ (fun _ => cB) (fun hHeld2 => ?_)
    clear hK K hHeld
    have hHeld := hHeld2 (by decide)
    clear hHeld2
    try simp only [Act.put, List.setIfInBounds_toArray, List.set_cons_zero, List.set_cons_succ]
    refine wpAnyZ_one (i := 16) (o := ?o16) (by kernel_rfl) ?hi16 (fun K hK => ?st16)
    case hi16 => (simp only [List.getElem?_toArray, List.getElem?_cons_succ, List.getElem?_cons_zero]; rfl)
    rw [if_pos (by rfl)]
    refine wp_appQOn (.tmp 19) (.tmp 26) rfl w.heap.size v5 (l.take i) rfl hO5 _ (N - (i + 1)) (c - (i + 1)) rfl (l.drop (i + 1)) (by rw [HOE.out]; exact hfr5) (by rw [HOE.out]; exact .inr ⟨g, off, rfl⟩) (by rw [List.length_take]; omega) hb5.size ?_
    intro v7 w7 hO7 hK7 e7
    rw [← List.eraseIdx_eq_take_drop_succ, hl2] at hO7
    have hb7 := hb5.trans (hK7.below (B := w.heap.size) hb5.size (fun i hi e => by have := (hO5.lt i e).1; omega))
    have cC := cellp _ hb7
    obtain ⟨A7, c7, rfl, _⟩ := hO7.form
    refine hK.out _ _ (fun _ => cC) (fun hHeld2 => ?_)
    clear hK K hHeld
    have hHeld := hHeld2 (by decide)
    clear hHeld2
    try simp only [Act.put, List.setIfInBounds_toArray, List.set_cons_zero, List.set_cons_succ]
    refine wpAnyZ_one (i := 17) (o := ?o17) (by kernel_rfl) ?hi17 (fun K hK => ?st17)
    case hi17 => (simp only [List.getElem?_toArray, List.getElem?_cons_succ, List.getElem?_cons_zero]; rfl)
    go_simp
    refine hK.out _ _ (fun _ => cC) (fun hHeld2 => ?_)
    clear hK K hHeld
    have hHeld := hHeld2 (by decide)
    clear hHeld2
    try simp only [Act.put, List.setIfInBounds_toArray, List.set_cons_zero, List.set_cons_succ]
    refine wpAnyZ_take (i := 18) (oi := ?oi18) (u := ?v18) ?hi18 (by kernel_rfl) (by decide) (by kernel_rfl) (by kernel_rfl) (by kernel_rfl) ?hq18 (Or.inl ⟨?hw18, ?hy18⟩) (by assumption) ?rest18
    case hi18 => (simp only [List.getElem?_toArray, List.getElem?_cons_succ, List.getElem?_cons_zero]; rfl)
    case hq18 => exact fun _ _ _ h => h
    case hw18 => rfl
    case hy18 => (intro w hSw; (try dsimp only at hSw); go_simp <;> with_reducible rfl)
    try simp only [Act.put, List.setIfInBounds_toArray, List.set_cons_zero, List.set_cons_succ]
    refine wpAnyZ_one (i := 19) (o := ?o19) (by kernel_rfl) ?hi19 (fun K hK => ?st19)
    case hi19 => (simp only [List.getElem?_toArray, List.getElem?_cons_succ, List.getElem?_cons_zero]; rfl)
    have h7 := h.below hb7
    have f7 := h7.pc.frozen 0
    have hpl7 := h7.pc.lt
    go_simp
    refine hK.out _ _ (fun h => absurd rfl h) (fun hHeld2 => ?_)
    clear hK K hHeld
    clear hHeld2
    try simp only [Act.put, List.setIfInBounds_toArray, List.set_cons_zero, List.set_cons_succ]
    refine wpAnyZ_done (by kernel_rfl) ?_ _
    rw [HOE.out]
    have pc8 := h7.pc.set_ 0 (.slice A7 l2.length c7)
    simp only [List.setIfInBounds_toArray, List.set_cons_zero] at pc8
    have k8 : Keep (fun k => k = p) w7 (w7.setCell ⟨p, 0, none⟩ (.slice A7 l2.length c7)) := (Keep.refl (fun k => k = p) w7).setCell (p := ⟨p, 0, none⟩) (fun _ => rfl) _
    have hfp := h.fp
    have hpl8 := pc8.lt
    have f8 := pc8.frozen 1
    have q8 := pc8.cell 1
    simp at q8
    clear h hz0 hb0 hs0 hto hfr HOE cell0 cellp hb5' h0 h1 cA hO5 hK5 e5 hfr5 hK7 e7 h7 cB cC
    obtain ⟨W8, hW8⟩ : ∃ W8, w7.setCell ⟨p, 0, none⟩ (.slice A7 l2.length c7) = W8 := ⟨_, rfl⟩
    rw [hW8] at pc8 k8 hpl8 f8 q8 ⊢
    by_cases hok : o = k
    · have he : (o == k) = true := by simp [hok]
      have hbo : backO o k = 0 := by unfold backO backB; simp [hok]; omega
      have HBO := Lib.hid hbo
      have pc9 := pc8.set_ 1 (.int .i64 0)
      simp only [List.setIfInBounds_toArray, List.set_cons_zero, List.set_cons_succ] at pc9
      obtain ⟨hQ, hKF⟩ := QV.given hfp hb7 hO7 hpl pc9 (k8.setCell (p := ⟨p, 1, none⟩) (fun _ => rfl) _)
      clear hok hbo
      go_wp2
      go_ret
      exact ⟨rfl, by rw [HBO.out]; exact hQ, hKF⟩
    · have he : (o == k) = false := beq_eq_false_iff_ne.2 hok
      have hbo : backO o k = o := by unfold backO backB; simp; omega
      have HBO := Lib.hid hbo
      obtain ⟨hQ, hKF⟩ := QV.given hfp hb7 hO7 hpl pc8 k8
      clear hok hbo
      go_wp2
      go_ret
      exact ⟨rfl, by rw [HBO.out]; exact hQ, hKF⟩
end
end Go.Proofs.Ytnkekjaljhpmjaa
