/- Norm, as the document has it. No condition but that the list is one of memory, of up to 2^20 items. -/
import Derived.Test.YtligpmnpfdaknaaRPut
import Derived.Test.YtligpmnpfdaknaaPar6
namespace Go.Proofs.Ytligpmnpfdaknaa
open Go.RowKit Go.Maps Go.Shelf Go.Sort
set_option linter.unusedVariables false
set_option linter.unusedSimpArgs false

theorem rise_ext : ∀ (l l' : List It), (l.map (·.1)).Pairwise (fun a b => a < b) → (l'.map (·.1)).Pairwise (fun a b => a < b) → (∀ x, x ∈ l ↔ x ∈ l') → l = l' := by
  intro l
  induction l with
  | nil =>
    intro l' _ _ e
    cases l' with
    | nil => rfl
    | cons y l' => exact absurd ((e y).2 List.mem_cons_self) (by simp)
  | cons x l ih =>
    intro l' hp hp' e
    cases l' with
    | nil => exact absurd ((e x).1 List.mem_cons_self) (by simp)
    | cons y l' =>
      rw [List.map_cons, List.pairwise_cons] at hp hp'
      have hxy : x = y := by
        rcases List.mem_cons.1 ((e x).1 List.mem_cons_self) with h1 | h1
        · exact h1
        · rcases List.mem_cons.1 ((e y).2 List.mem_cons_self) with h2 | h2
          · exact h2.symm
          · exact absurd (List.lt_trans (hp.1 _ (List.mem_map_of_mem h2)) (hp'.1 _ (List.mem_map_of_mem h1))) (List.lt_irrefl _)
      subst hxy
      rw [ih l' hp.2 hp'.2 fun z => ?_]
      have hz := e z
      rw [List.mem_cons, List.mem_cons] at hz
      constructor
      · intro hm
        rcases hz.1 (.inr hm) with rfl | h1
        · exact absurd (hp.1 _ (List.mem_map_of_mem hm)) (List.lt_irrefl _)
        · exact h1
      · intro hm
        rcases hz.2 (.inr hm) with rfl | h1
        · exact absurd (hp'.1 _ (List.mem_map_of_mem hm)) (List.lt_irrefl _)
        · exact h1
theorem putL_facts (g : List UInt8) (n : Int) : ∀ (l : List It), (l.map (·.1)).Pairwise (fun a b => a < b) → ((putL g n l).map (·.1)).Pairwise (fun a b => a < b) ∧ (∀ y, y ∈ putL g n l ↔ y = (g, n) ∨ (y ∈ l ∧ y.1 ≠ g)) ∧ (putL g n l).length ≤ l.length + 1
  | [], _ => by simp [putL]
  | x :: l, hp => by
    rw [List.map_cons, List.pairwise_cons] at hp
    obtain ⟨h1, h2, h3⟩ := putL_facts g n l hp.2
    unfold putL
    by_cases hx : x.1 < g
    · rw [if_pos hx]
      refine ⟨?_, fun y => ?_, by simp; omega⟩
      · rw [List.map_cons, List.pairwise_cons]
        refine ⟨fun a ha => ?_, h1⟩
        obtain ⟨y, hy, rfl⟩ := List.mem_map.1 ha
        rcases (h2 y).1 hy with rfl | ⟨hy, _⟩
        · exact hx
        · exact hp.1 _ (List.mem_map_of_mem hy)
      · rw [List.mem_cons, h2, List.mem_cons]
        constructor
        · rintro (rfl | h | ⟨h, h'⟩)
          · exact .inr ⟨.inl rfl, fun e => by rw [e] at hx; exact List.lt_irrefl _ hx⟩
          · exact .inl h
          · exact .inr ⟨.inr h, h'⟩
        · rintro (h | ⟨rfl | h, h'⟩)
          · exact .inr (.inl h)
          · exact .inl rfl
          · exact .inr (.inr ⟨h, h'⟩)
    · rw [if_neg hx]
      have hne : ∀ y ∈ l, x.1 < y.1 := fun y hy => hp.1 _ (List.mem_map_of_mem hy)
      by_cases he : x.1 = g
      · rw [if_pos he]
        refine ⟨by rw [List.map_cons, List.pairwise_cons]; exact hp, fun y => ?_, by simp⟩
        rw [List.mem_cons, List.mem_cons, he]
        constructor
        · rintro (h | h)
          · exact .inl h
          · exact .inr ⟨.inr h, fun e => by have := hne y h; rw [he, e] at this; exact List.lt_irrefl _ this⟩
        · rintro (h | ⟨rfl | h, h'⟩)
          · exact .inl h
          · exact absurd he h'
          · exact .inr h
      · rw [if_neg he]
        have hgx : g < x.1 := by
          by_cases h5 : g < x.1
          · exact h5
          · exact absurd (List.le_antisymm (List.not_lt.1 h5) (List.not_lt.1 hx)) he
        refine ⟨?_, fun y => ?_, by simp⟩
        · rw [List.map_cons, List.map_cons, List.pairwise_cons, List.pairwise_cons]
          refine ⟨fun a ha => ?_, hp⟩
          rcases List.mem_cons.1 ha with rfl | ha
          · exact hgx
          · exact List.lt_trans hgx (hp.1 a ha)
        · rw [List.mem_cons, List.mem_cons]
          constructor
          · rintro (h | rfl | h)
            · exact .inl h
            · exact .inr ⟨.inl rfl, he⟩
            · exact .inr ⟨.inr h, fun e => by have := List.lt_trans hgx (hne y h); rw [e] at this; exact List.lt_irrefl _ this⟩
          · rintro (h | ⟨rfl | h, h'⟩)
            · exact .inl h
            · exact .inr (.inl rfl)
            · exact .inr (.inr h)
/-- What has been put together of the first of a list. -/
structure PutTo (l : List It) (i : Nat) (out : List It) : Prop where
  rise : (out.map (·.1)).Pairwise (fun a b => a < b)
  mem : ∀ y, y ∈ out ↔ ∃ x ∈ l.take i, 0 < tot l x.1 ∧ y = (x.1, tot l x.1)
  len : out.length ≤ i
  small : ∀ x ∈ l.take i, tot l x.1 ≤ 1099511627776
theorem PutTo.zero (l : List It) : PutTo l 0 [] := ⟨List.Pairwise.nil, fun y => by simp, Nat.le_refl _, fun x h => by simp at h⟩
theorem PutTo.skip {l : List It} {i : Nat} {out : List It} {x : It} (h : PutTo l i out) (hx : l[i]? = some x) (h0 : ¬ 0 < tot l x.1) : PutTo l (i + 1) out := by
  have ht : l.take (i + 1) = l.take i ++ [x] := by rw [List.take_add_one, hx]; rfl
  refine ⟨h.rise, fun y => ?_, by have := h.len; omega, fun z hz => ?_⟩
  · rw [h.mem, ht]
    constructor
    · rintro ⟨z, hz, h1⟩
      exact ⟨z, by simp [hz], h1⟩
    · rintro ⟨z, hz, h1, h2⟩
      rcases List.mem_append.1 hz with hz | hz
      · exact ⟨z, hz, h1, h2⟩
      · rw [List.mem_singleton] at hz
        subst hz
        exact absurd h1 h0
  · rw [ht] at hz
    rcases List.mem_append.1 hz with hz | hz
    · exact h.small z hz
    · rw [List.mem_singleton] at hz
      subst hz
      omega
theorem PutTo.put {l : List It} {i : Nat} {out : List It} {x : It} (h : PutTo l i out) (hx : l[i]? = some x) (h0 : 0 < tot l x.1) (h1 : tot l x.1 ≤ 1099511627776) : PutTo l (i + 1) (putL x.1 (tot l x.1) out) := by
  have ht : l.take (i + 1) = l.take i ++ [x] := by rw [List.take_add_one, hx]; rfl
  obtain ⟨p1, p2, p3⟩ := putL_facts x.1 (tot l x.1) out h.rise
  refine ⟨p1, fun y => ?_, by have := h.len; omega, fun z hz => ?_⟩
  · rw [p2, h.mem, ht]
    constructor
    · rintro (rfl | ⟨⟨z, hz, h2⟩, _⟩)
      · exact ⟨x, by simp, h0, rfl⟩
      · exact ⟨z, by simp [hz], h2⟩
    · rintro ⟨z, hz, h2, rfl⟩
      by_cases e : z.1 = x.1
      · rw [e]
        exact .inl rfl
      · rcases List.mem_append.1 hz with hz | hz
        · exact .inr ⟨⟨z, hz, h2, rfl⟩, e⟩
        · rw [List.mem_singleton] at hz
          subst hz
          exact absurd rfl e
  · rw [ht] at hz
    rcases List.mem_append.1 hz with hz | hz
    · exact h.small z hz
    · rw [List.mem_singleton] at hz
      subst hz
      exact h1
theorem PutTo.done {l : List It} {out : List It} (h : PutTo l l.length out) (hok : Go.Proofs.Ytligpmnpfdaknaa.okN l = true) : overL l = false ∧ out = rowsN l := by
  have htk : l.take l.length = l := List.take_length
  have ho : overL l = false := List.any_eq_false.2 fun x hx => by
    have := h.small x (by rw [htk]; exact hx)
    simpa using this
  refine ⟨ho, ?_⟩
  obtain ⟨ks, hp, hm⟩ := rising_exists (l.map (·.1))
  rw [rowsN_eq l ks hp hm]
  refine rise_ext _ _ h.rise (listed_rise hp) fun y => ?_
  rw [h.mem, htk, mem_listed]
  constructor
  · rintro ⟨x, hx, h0, rfl⟩
    exact ⟨x.1, (hm _).2 (List.mem_map_of_mem hx), by omega, rfl⟩
  · rintro ⟨g, hg, h0, rfl⟩
    obtain ⟨x, hx, rfl⟩ := List.mem_map.1 ((hm g).1 hg)
    have := (tot_bound hok ho x.1).1
    exact ⟨x, hx, by omega, rfl⟩
theorem tot_take {l : List It} {k : Nat} {x : It} (g : List UInt8) (hx : l[k]? = some x) : tot (l.take (k + 1)) g = if x.1 = g then tot (l.take k) g + x.2 else tot (l.take k) g := by
  rw [List.take_add_one, hx]
  exact tot_snoc _ _ _
theorem okN_take {l : List It} {k : Nat} {x : It} (hx : l[k]? = some x) (h : Go.Proofs.Ytligpmnpfdaknaa.okN (l.take k) = true) : Go.Proofs.Ytligpmnpfdaknaa.okN (l.take (k + 1)) = okX x := by
  rw [List.take_add_one, hx]
  exact (okN_snoc _ _).trans (by rw [h]; rfl)

set_option maxRecDepth 100000 in
set_option maxHeartbeats 6400000 in
theorem refnorm_any (A : Option Addr) (n c : Nat) (l : List It) (w : World) (hl : IL w A n l) (hn : n ≤ 1048576) (hs : ∀ x ∈ l, x.1.length ≤ 9223372036854775807) :
    Calls Try.prog 36 #[.slice A n c] w fun e w' => ∃ v, e = .returned (.tuple #[v, .int .i64 (normE l)]) ∧ OI w.heap.size w' v (normR l) ∧ Below w.heap.size w w' := by
  have hlen := hl.len
  have hE60 : Go.Proofs.Ytligpmnpfdaknaa.okN l = false → normE l = 60 := fun h => by unfold normE; rw [h]
  have hE50 : Go.Proofs.Ytligpmnpfdaknaa.okN l = true → overL l = true → normE l = 50 := fun h h' => by unfold normE; rw [h, h']
  have hE3 : Go.Proofs.Ytligpmnpfdaknaa.okN l = true → overL l = false → 16 < (rowsN l).length → normE l = 3 := fun h h' h2 => by unfold normE; rw [h, h', decide_eq_true h2]
  have hE0 : Go.Proofs.Ytligpmnpfdaknaa.okN l = true → overL l = false → ¬ 16 < (rowsN l).length → normE l = 0 := fun h h' h2 => by unfold normE; rw [h, h', decide_eq_false h2]
  have hRn : ∀ e : Int, normE l = e → e ≠ 0 → normR l = [] := fun e h h' => by unfold normR; rw [h]; split <;> simp_all
  have hR0 : normE l = 0 → normR l = rowsN l := fun h => by unfold normR; rw [h]; rfl
  go_enter Try.func36, Try.ntmps36
  go_wp2
  go_loopw [4] (fun i wr => w = wr ∧ ∃ k : Nat, i = .int .i64 (k : Int) ∧ k ≤ n ∧ Go.Proofs.Ytligpmnpfdaknaa.okN (l.take k) = true) (fun i _ => n - (intOf i).toNat)
  case atStart => exact ⟨rfl, 0, by go_num, by omega, rfl⟩
  case round =>
    obtain ⟨rfl, k, rfl, hkn, hok⟩ := hrel
    by_cases hlt : k < n
    · have hlz : (k : Int) < (n : Int) := by omega
      obtain ⟨b, off, ⟨s1, q1⟩, rfl, hx, c0, c1⟩ := hl.place hlt
      have hs1 : s1.length ≤ 9223372036854775807 := hs (s1, q1) (List.mem_of_getElem? hx)
      dsimp only at c0 c1
      have htk := okN_take hx hok
      have hbad : okX (s1, q1) = false → normE l = 60 := fun h => hE60 (okN_not (List.take_prefix (k + 1) l) (htk.trans h))
      cases hg : gOK s1 with
      | false =>
        have hE := hbad (by simp [okX, hg])
        have hR := hRn 60 hE (by omega)
        go_wp2_with fail
        refine (refgood_any s1 _ hs1).mono ?_
        rintro e w5 ⟨rfl, rfl⟩
        rw [hg]
        go_wp2_with fail
        go_ret2
        exact ⟨.slice none 0 0, by rw [hE]; rfl, by rw [hR]; exact OI.nil _ _, Below.refl _ _⟩
      | true =>
        cases hc : cMay q1 with
        | false =>
          have hE := hbad (by simp [okX, hc])
          have hR := hRn 60 hE (by omega)
          go_wp2_with fail
          refine (refgood_any s1 _ hs1).mono ?_
          rintro e w5 ⟨rfl, rfl⟩
          rw [hg]
          go_wp2_with fail
          refine (refcmay_any q1 _).mono ?_
          rintro e w6 ⟨rfl, rfl⟩
          rw [hc]
          go_wp2_with fail
          go_ret2
          exact ⟨.slice none 0 0, by rw [hE]; rfl, by rw [hR]; exact OI.nil _ _, Below.refl _ _⟩
        | true =>
          have hgo := htk.trans (show okX (s1, q1) = true by simp [okX, hg, hc])
          go_wp2_with fail
          refine (refgood_any s1 _ hs1).mono ?_
          rintro e w5 ⟨rfl, rfl⟩
          rw [hg]
          go_wp2_with fail
          refine (refcmay_any q1 _).mono ?_
          rintro e w6 ⟨rfl, rfl⟩
          rw [hc]
          go_wp2_with fail
          go_roundw
          case measure => simp [intOf]; omega
          case rel => exact ⟨trivial, k + 1, by go_num, by omega, hgo⟩
    · have hlz : ¬ (k : Int) < (n : Int) := by omega
      rw [List.take_of_length_le (by omega)] at hok
      clear hkn hlt
      go_wp2
      go_loopw [5, 6, 7, 8] (fun v iv u7 u8 wr => ∃ (i : Nat) (out : List It), iv = .int .i64 (i : Int) ∧ i ≤ n ∧ OI w.heap.size wr v out ∧ PutTo l i out ∧ Below w.heap.size w wr) (fun _ iv _ _ _ => n - (intOf iv).toNat)
      case atStart => exact ⟨0, [], by go_num, by omega, OI.nil _ _, PutTo.zero l, Below.refl _ _⟩
      case round =>
        obtain ⟨i, out, rfl, hi, hO, hP, hbw⟩ := hrel
        by_cases hlti : i < n
        · have hliz : (i : Int) < (n : Int) := by omega
          have hlq := fun q : Nat => (hl.below hbw).drewN q
          have hOq : ∀ q : Nat, OI w.heap.size (wr.drewN q) u5 out := fun q => hO
          have hbq : ∀ q : Nat, Below w.heap.size w (wr.drewN q) := fun q => hbw.trans ((below_drewN wr q).mono hbw.size)
          obtain ⟨b, off, ⟨s0, q0⟩, hA, hx, e0, e1⟩ := (hl.below hbw).place hlti
          subst hA
          dsimp only at e0 e1
          have hx0 : (s0, q0) ∈ l := List.mem_of_getElem? hx
          have hnn : ∀ x ∈ l, 0 ≤ x.2 := fun x hx => (okN_mem hok hx).2.1
          have heq : ∀ q : Nat, (wr.drewN q).cell? ⟨b, off + i * 2, none⟩ = some (.string ⟨s0.toArray⟩) := fun q => e0
          go_wp2
          go_loopw [7, 8] (fun nv kv wq => ∃ (k q : Nat) (T : Int), kv = .int .i64 (k : Int) ∧ k ≤ n ∧ wq = wr.drewN q ∧ nv = .int .i64 T ∧ T = tot (l.take k) s0 ∧ T ≤ 1099511627776) (fun _ kv _ => n - (intOf kv).toNat)
          case atStart => exact ⟨0, 0, 0, by go_num, by omega, rfl, rfl, rfl, by omega⟩
          case round =>
            obtain ⟨k, q, T, rfl, hk, rfl, rfl, hT, hTs⟩ := hrel
            by_cases hlt : k < n
            · have hlz : (k : Int) < (n : Int) := by omega
              obtain ⟨b', off', ⟨s1, q1⟩, hA, hy, c0, c1⟩ := (hlq q).place hlt
              cases hA
              dsimp only at c0 c1
              have e0 := heq q
              have c1w := c1
              simp only [World.cell?_drewN] at c1w
              have hq1 := okN_mem hok (List.mem_of_getElem? hy)
              dsimp only at hq1
              have htk := tot_take s0 hy
              dsimp only at htk
              have hT0 : 0 ≤ T := by rw [hT]; exact tot_nonneg s0 fun x hx => hnn x (List.mem_of_mem_take hx)
              by_cases he : s1 = s0
              · have heb : (s1 == s0) = true := beq_iff_eq.2 he
                rw [if_pos he, ← hT] at htk
                obtain ⟨T2, hT2⟩ : ∃ T2, T + q1 = T2 := ⟨_, rfl⟩
                rw [hT2] at htk
                have hw1 : wrap64 (T + q1) = T2 := by unfold wrap64; omega
                have hw2 : IntKind.i64.wrap (T + q1) = T2 := by rw [IntKind.wrap_i64, ← hw1, wrap64]
                by_cases hbig : 1099511627776 < T2
                · have hgd : decide ((1099511627776 : Int) < T2) = true := decide_eq_true hbig
                  have hover : overL l = true := by
                    refine List.any_eq_true.2 ⟨(s0, q0), hx0, ?_⟩
                    have hm := tot_mono s0 (l.take (k + 1)) (t := l.drop (k + 1)) fun x hx => hnn x (List.mem_of_mem_drop hx)
                    rw [List.take_append_drop] at hm
                    simp only [decide_eq_true_eq]
                    omega
                  have hE := hE50 hok hover
                  have hR := hRn 50 hE (by omega)
                  have hbq1 := hbq (q + 1)
                  clear he hT0 hTs hT hq1 hT2 hbig htk
                  go_wp2
                  refine wp_region_held_drew (S := (fun w' => w'.cell? ⟨b, off + k * 2, none⟩ = some (.string ⟨s1.toArray⟩) ∧ w'.cell? ⟨b, off + i * 2, none⟩ = some (.string ⟨s0.toArray⟩))) (by kernel_rfl) ⟨c0, e0⟩ (fun hHeld => ?_)
                  refine wpAnyH_take (i := 0) (oi := ?oi0A) (v := ?v0A) ?hi0A (by kernel_rfl) (by kernel_rfl) (by kernel_rfl) ?hq0A (Or.inl ⟨?hw0A, ?hy0A⟩) (by assumption) ?rest0A
                  case hi0A => (simp only [List.getElem?_toArray, List.getElem?_cons_succ, List.getElem?_cons_zero]; rfl)
                  case hq0A => exact fun _ _ _ h => h
                  case hw0A => rfl
                  case hy0A => (intro w hSw; (try dsimp only at hSw); go_simp <;> with_reducible rfl)
                  try simp only [Act.put, List.setIfInBounds_toArray, List.set_cons_zero, List.set_cons_succ]
                  refine wpAnyH_take (i := 1) (oi := ?oi1A) (v := ?v1A) ?hi1A (by kernel_rfl) (by kernel_rfl) (by kernel_rfl) ?hq1A (Or.inl ⟨?hw1A, ?hy1A⟩) (by assumption) ?rest1A
                  case hi1A => (simp only [List.getElem?_toArray, List.getElem?_cons_succ, List.getElem?_cons_zero]; rfl)
                  case hq1A => exact fun _ _ _ h => h
                  case hw1A => rfl
                  case hy1A => (intro w hSw; (try dsimp only at hSw); go_simp <;> with_reducible rfl)
                  try simp only [Act.put, List.setIfInBounds_toArray, List.set_cons_zero, List.set_cons_succ]
                  refine wpAnyH_take (i := 2) (oi := ?oi2A) (v := ?v2A) ?hi2A (by kernel_rfl) (by kernel_rfl) (by kernel_rfl) ?hq2A (Or.inl ⟨?hw2A, ?hy2A⟩) (by assumption) ?rest2A
                  case hi2A => (simp only [List.getElem?_toArray, List.getElem?_cons_succ, List.getElem?_cons_zero]; rfl)
                  case hq2A => exact fun _ _ _ h => h
                  case hw2A => rfl
                  case hy2A => (intro w hSw; (try dsimp only at hSw); go_simp <;> with_reducible rfl)
                  try simp only [Act.put, List.setIfInBounds_toArray, List.set_cons_zero, List.set_cons_succ]
                  refine wpAnyH_take (i := 3) (oi := ?oi3A) (v := ?v3A) ?hi3A (by kernel_rfl) (by kernel_rfl) (by kernel_rfl) ?hq3A (Or.inl ⟨?hw3A, ?hy3A⟩) (by assumption) ?rest3A
                  case hi3A => (simp only [List.getElem?_toArray, List.getElem?_cons_succ, List.getElem?_cons_zero]; rfl)
                  case hq3A => exact fun _ _ _ h => h
                  case hw3A => rfl
                  case hy3A => (intro w hSw; (try dsimp only at hSw); go_simp <;> with_reducible rfl)
                  try simp only [Act.put, List.setIfInBounds_toArray, List.set_cons_zero, List.set_cons_succ]
                  refine wpAnyH_take (i := 4) (oi := ?oi4A) (v := ?v4A) ?hi4A (by kernel_rfl) (by kernel_rfl) (by kernel_rfl) ?hq4A (Or.inl ⟨?hw4A, ?hy4A⟩) (by assumption) ?rest4A
                  case hi4A => (simp only [List.getElem?_toArray, List.getElem?_cons_succ, List.getElem?_cons_zero]; rfl)
                  case hq4A => exact fun _ _ _ h => h
                  case hw4A => rfl
                  case hy4A => (intro w hSw; (try dsimp only at hSw); go_simp <;> with_reducible rfl)
                  try simp only [Act.put, List.setIfInBounds_toArray, List.set_cons_zero, List.set_cons_succ]
                  refine wpAnyH_take (i := 5) (oi := ?oi5A) (v := ?v5A) ?hi5A (by kernel_rfl) (by kernel_rfl) (by kernel_rfl) ?hq5A (Or.inl ⟨?hw5A, ?hy5A⟩) (by assumption) ?rest5A
                  case hi5A => (simp only [List.getElem?_toArray, List.getElem?_cons_succ, List.getElem?_cons_zero]; rfl)
                  case hq5A => exact fun _ _ _ h => h
                  case hw5A => rfl
                  case hy5A => (intro w hSw; (try dsimp only at hSw); go_simp <;> with_reducible rfl)
                  try simp only [Act.put, List.setIfInBounds_toArray, List.set_cons_zero, List.set_cons_succ]
                  refine wpAnyH_take (i := 6) (oi := ?oi6A) (v := ?v6A) ?hi6A (by kernel_rfl) (by kernel_rfl) (by kernel_rfl) ?hq6A (Or.inl ⟨?hw6A, ?hy6A⟩) (by assumption) ?rest6A
                  case hi6A => (simp only [List.getElem?_toArray, List.getElem?_cons_succ, List.getElem?_cons_zero]; rfl)
                  case hq6A => exact fun _ _ _ h => h
                  case hw6A => rfl
                  case hy6A => (intro w hSw; (try dsimp only at hSw); go_simp <;> with_reducible rfl)
                  try simp only [Act.put, List.setIfInBounds_toArray, List.set_cons_zero, List.set_cons_succ]
                  refine wpAnyH_take (i := 7) (oi := ?oi7A) (v := ?v7A) ?hi7A (by kernel_rfl) (by kernel_rfl) (by kernel_rfl) ?hq7A (Or.inl ⟨?hw7A, ?hy7A⟩) (by assumption) ?rest7A
                  case hi7A => (simp only [List.getElem?_toArray, List.getElem?_cons_succ, List.getElem?_cons_zero]; rfl)
                  case hq7A => exact fun _ _ _ h => h
                  case hw7A => rfl
                  case hy7A => (intro w hSw; (try dsimp only at hSw); go_simp <;> with_reducible rfl)
                  try simp only [Act.put, List.setIfInBounds_toArray, List.set_cons_zero, List.set_cons_succ]
                  refine wpAnyH_take (i := 8) (oi := ?oi8A) (v := ?v8A) ?hi8A (by kernel_rfl) (by kernel_rfl) (by kernel_rfl) ?hq8A (Or.inl ⟨?hw8A, ?hy8A⟩) (by assumption) ?rest8A
                  case hi8A => (simp only [List.getElem?_toArray, List.getElem?_cons_succ, List.getElem?_cons_zero]; rfl)
                  case hq8A => exact fun _ _ _ h => h
                  case hw8A => rfl
                  case hy8A => (intro w hSw; (try dsimp only at hSw); go_simp <;> with_reducible rfl)
                  try simp only [Act.put, List.setIfInBounds_toArray, List.set_cons_zero, List.set_cons_succ]
                  refine wpAnyH_take (i := 9) (oi := ?oi9A) (v := ?v9A) ?hi9A (by kernel_rfl) (by kernel_rfl) (by kernel_rfl) ?hq9A (Or.inl ⟨?hw9A, ?hy9A⟩) (by assumption) ?rest9A
                  case hi9A => (simp only [List.getElem?_toArray, List.getElem?_cons_succ, List.getElem?_cons_zero]; rfl)
                  case hq9A => exact fun _ _ _ h => h
                  case hw9A => rfl
                  case hy9A => (intro w hSw; (try dsimp only at hSw); go_simp <;> with_reducible rfl)
                  try simp only [Act.put, List.setIfInBounds_toArray, List.set_cons_zero, List.set_cons_succ]
                  refine wpAnyH_take (i := 10) (oi := ?oi10A) (v := ?v10A) ?hi10A (by kernel_rfl) (by kernel_rfl) (by kernel_rfl) ?hq10A (Or.inl ⟨?hw10A, ?hy10A⟩) (by assumption) ?rest10A
                  case hi10A => (simp only [List.getElem?_toArray, List.getElem?_cons_succ, List.getElem?_cons_zero]; rfl)
                  case hq10A => exact fun _ _ _ h => h
                  case hw10A => rfl
                  case hy10A => (intro w hSw; (try dsimp only at hSw); go_simp <;> with_reducible rfl)
                  try simp only [Act.put, List.setIfInBounds_toArray, List.set_cons_zero, List.set_cons_succ]
                  refine wpAnyH_done (by kernel_rfl) ?_ _
                  go_wp2
                  go_ret2
                  exact ⟨.slice none 0 0, by first | rfl | (rw [hE]; rfl), by first | exact OI.nil _ _ | (rw [hR]; exact OI.nil _ _), hbq1⟩
                · have hgd : decide ((1099511627776 : Int) < T2) = false := decide_eq_false hbig
                  have hT2s : T2 ≤ 1099511627776 := by omega
                  clear he hT0 hTs hT hq1 hT2 hbig
                  go_wp2
                  refine wp_region_held_drew (S := (fun w' => w'.cell? ⟨b, off + k * 2, none⟩ = some (.string ⟨s1.toArray⟩) ∧ w'.cell? ⟨b, off + i * 2, none⟩ = some (.string ⟨s0.toArray⟩))) (by kernel_rfl) ⟨c0, e0⟩ (fun hHeld => ?_)
                  refine wpAnyH_take (i := 0) (oi := ?oi0B) (v := ?v0B) ?hi0B (by kernel_rfl) (by kernel_rfl) (by kernel_rfl) ?hq0B (Or.inl ⟨?hw0B, ?hy0B⟩) (by assumption) ?rest0B
                  case hi0B => (simp only [List.getElem?_toArray, List.getElem?_cons_succ, List.getElem?_cons_zero]; rfl)
                  case hq0B => exact fun _ _ _ h => h
                  case hw0B => rfl
                  case hy0B => (intro w hSw; (try dsimp only at hSw); go_simp <;> with_reducible rfl)
                  try simp only [Act.put, List.setIfInBounds_toArray, List.set_cons_zero, List.set_cons_succ]
                  refine wpAnyH_take (i := 1) (oi := ?oi1B) (v := ?v1B) ?hi1B (by kernel_rfl) (by kernel_rfl) (by kernel_rfl) ?hq1B (Or.inl ⟨?hw1B, ?hy1B⟩) (by assumption) ?rest1B
                  case hi1B => (simp only [List.getElem?_toArray, List.getElem?_cons_succ, List.getElem?_cons_zero]; rfl)
                  case hq1B => exact fun _ _ _ h => h
                  case hw1B => rfl
                  case hy1B => (intro w hSw; (try dsimp only at hSw); go_simp <;> with_reducible rfl)
                  try simp only [Act.put, List.setIfInBounds_toArray, List.set_cons_zero, List.set_cons_succ]
                  refine wpAnyH_take (i := 2) (oi := ?oi2B) (v := ?v2B) ?hi2B (by kernel_rfl) (by kernel_rfl) (by kernel_rfl) ?hq2B (Or.inl ⟨?hw2B, ?hy2B⟩) (by assumption) ?rest2B
                  case hi2B => (simp only [List.getElem?_toArray, List.getElem?_cons_succ, List.getElem?_cons_zero]; rfl)
                  case hq2B => exact fun _ _ _ h => h
                  case hw2B => rfl
                  case hy2B => (intro w hSw; (try dsimp only at hSw); go_simp <;> with_reducible rfl)
                  try simp only [Act.put, List.setIfInBounds_toArray, List.set_cons_zero, List.set_cons_succ]
                  refine wpAnyH_take (i := 3) (oi := ?oi3B) (v := ?v3B) ?hi3B (by kernel_rfl) (by kernel_rfl) (by kernel_rfl) ?hq3B (Or.inl ⟨?hw3B, ?hy3B⟩) (by assumption) ?rest3B
                  case hi3B => (simp only [List.getElem?_toArray, List.getElem?_cons_succ, List.getElem?_cons_zero]; rfl)
                  case hq3B => exact fun _ _ _ h => h
                  case hw3B => rfl
                  case hy3B => (intro w hSw; (try dsimp only at hSw); go_simp <;> with_reducible rfl)
                  try simp only [Act.put, List.setIfInBounds_toArray, List.set_cons_zero, List.set_cons_succ]
                  refine wpAnyH_take (i := 4) (oi := ?oi4B) (v := ?v4B) ?hi4B (by kernel_rfl) (by kernel_rfl) (by kernel_rfl) ?hq4B (Or.inl ⟨?hw4B, ?hy4B⟩) (by assumption) ?rest4B
                  case hi4B => (simp only [List.getElem?_toArray, List.getElem?_cons_succ, List.getElem?_cons_zero]; rfl)
                  case hq4B => exact fun _ _ _ h => h
                  case hw4B => rfl
                  case hy4B => (intro w hSw; (try dsimp only at hSw); go_simp <;> with_reducible rfl)
                  try simp only [Act.put, List.setIfInBounds_toArray, List.set_cons_zero, List.set_cons_succ]
                  refine wpAnyH_take (i := 5) (oi := ?oi5B) (v := ?v5B) ?hi5B (by kernel_rfl) (by kernel_rfl) (by kernel_rfl) ?hq5B (Or.inl ⟨?hw5B, ?hy5B⟩) (by assumption) ?rest5B
                  case hi5B => (simp only [List.getElem?_toArray, List.getElem?_cons_succ, List.getElem?_cons_zero]; rfl)
                  case hq5B => exact fun _ _ _ h => h
                  case hw5B => rfl
                  case hy5B => (intro w hSw; (try dsimp only at hSw); go_simp <;> with_reducible rfl)
                  try simp only [Act.put, List.setIfInBounds_toArray, List.set_cons_zero, List.set_cons_succ]
                  refine wpAnyH_take (i := 6) (oi := ?oi6B) (v := ?v6B) ?hi6B (by kernel_rfl) (by kernel_rfl) (by kernel_rfl) ?hq6B (Or.inl ⟨?hw6B, ?hy6B⟩) (by assumption) ?rest6B
                  case hi6B => (simp only [List.getElem?_toArray, List.getElem?_cons_succ, List.getElem?_cons_zero]; rfl)
                  case hq6B => exact fun _ _ _ h => h
                  case hw6B => rfl
                  case hy6B => (intro w hSw; (try dsimp only at hSw); go_simp <;> with_reducible rfl)
                  try simp only [Act.put, List.setIfInBounds_toArray, List.set_cons_zero, List.set_cons_succ]
                  refine wpAnyH_take (i := 7) (oi := ?oi7B) (v := ?v7B) ?hi7B (by kernel_rfl) (by kernel_rfl) (by kernel_rfl) ?hq7B (Or.inl ⟨?hw7B, ?hy7B⟩) (by assumption) ?rest7B
                  case hi7B => (simp only [List.getElem?_toArray, List.getElem?_cons_succ, List.getElem?_cons_zero]; rfl)
                  case hq7B => exact fun _ _ _ h => h
                  case hw7B => rfl
                  case hy7B => (intro w hSw; (try dsimp only at hSw); go_simp <;> with_reducible rfl)
                  try simp only [Act.put, List.setIfInBounds_toArray, List.set_cons_zero, List.set_cons_succ]
                  refine wpAnyH_take (i := 8) (oi := ?oi8B) (v := ?v8B) ?hi8B (by kernel_rfl) (by kernel_rfl) (by kernel_rfl) ?hq8B (Or.inl ⟨?hw8B, ?hy8B⟩) (by assumption) ?rest8B
                  case hi8B => (simp only [List.getElem?_toArray, List.getElem?_cons_succ, List.getElem?_cons_zero]; rfl)
                  case hq8B => exact fun _ _ _ h => h
                  case hw8B => rfl
                  case hy8B => (intro w hSw; (try dsimp only at hSw); go_simp <;> with_reducible rfl)
                  try simp only [Act.put, List.setIfInBounds_toArray, List.set_cons_zero, List.set_cons_succ]
                  refine wpAnyH_take (i := 9) (oi := ?oi9B) (v := ?v9B) ?hi9B (by kernel_rfl) (by kernel_rfl) (by kernel_rfl) ?hq9B (Or.inl ⟨?hw9B, ?hy9B⟩) (by assumption) ?rest9B
                  case hi9B => (simp only [List.getElem?_toArray, List.getElem?_cons_succ, List.getElem?_cons_zero]; rfl)
                  case hq9B => exact fun _ _ _ h => h
                  case hw9B => rfl
                  case hy9B => (intro w hSw; (try dsimp only at hSw); go_simp <;> with_reducible rfl)
                  try simp only [Act.put, List.setIfInBounds_toArray, List.set_cons_zero, List.set_cons_succ]
                  refine wpAnyH_take (i := 10) (oi := ?oi10B) (v := ?v10B) ?hi10B (by kernel_rfl) (by kernel_rfl) (by kernel_rfl) ?hq10B (Or.inl ⟨?hw10B, ?hy10B⟩) (by assumption) ?rest10B
                  case hi10B => (simp only [List.getElem?_toArray, List.getElem?_cons_succ, List.getElem?_cons_zero]; rfl)
                  case hq10B => exact fun _ _ _ h => h
                  case hw10B => rfl
                  case hy10B => (intro w hSw; (try dsimp only at hSw); go_simp <;> with_reducible rfl)
                  try simp only [Act.put, List.setIfInBounds_toArray, List.set_cons_zero, List.set_cons_succ]
                  refine wpAnyH_done (by kernel_rfl) ?_ _
                  go_wp2
                  go_roundw
                  case measure => simp [intOf]; omega
                  case rel => exact ⟨k + 1, q + 1, T2, by go_num, by omega, rfl, rfl, htk.symm, hT2s⟩
              · have heb : (s1 == s0) = false := beq_eq_false_iff_ne.2 he
                rw [if_neg he, ← hT] at htk
                clear he hT0 hq1
                go_wp2
                refine wp_region_held_drew (S := (fun w' => w'.cell? ⟨b, off + k * 2, none⟩ = some (.string ⟨s1.toArray⟩) ∧ w'.cell? ⟨b, off + i * 2, none⟩ = some (.string ⟨s0.toArray⟩))) (by kernel_rfl) ⟨c0, e0⟩ (fun hHeld => ?_)
                refine wpAnyH_take (i := 0) (oi := ?oi0C) (v := ?v0C) ?hi0C (by kernel_rfl) (by kernel_rfl) (by kernel_rfl) ?hq0C (Or.inl ⟨?hw0C, ?hy0C⟩) (by assumption) ?rest0C
                case hi0C => (simp only [List.getElem?_toArray, List.getElem?_cons_succ, List.getElem?_cons_zero]; rfl)
                case hq0C => exact fun _ _ _ h => h
                case hw0C => rfl
                case hy0C => (intro w hSw; (try dsimp only at hSw); go_simp <;> with_reducible rfl)
                try simp only [Act.put, List.setIfInBounds_toArray, List.set_cons_zero, List.set_cons_succ]
                refine wpAnyH_take (i := 1) (oi := ?oi1C) (v := ?v1C) ?hi1C (by kernel_rfl) (by kernel_rfl) (by kernel_rfl) ?hq1C (Or.inl ⟨?hw1C, ?hy1C⟩) (by assumption) ?rest1C
                case hi1C => (simp only [List.getElem?_toArray, List.getElem?_cons_succ, List.getElem?_cons_zero]; rfl)
                case hq1C => exact fun _ _ _ h => h
                case hw1C => rfl
                case hy1C => (intro w hSw; (try dsimp only at hSw); go_simp <;> with_reducible rfl)
                try simp only [Act.put, List.setIfInBounds_toArray, List.set_cons_zero, List.set_cons_succ]
                refine wpAnyH_take (i := 2) (oi := ?oi2C) (v := ?v2C) ?hi2C (by kernel_rfl) (by kernel_rfl) (by kernel_rfl) ?hq2C (Or.inl ⟨?hw2C, ?hy2C⟩) (by assumption) ?rest2C
                case hi2C => (simp only [List.getElem?_toArray, List.getElem?_cons_succ, List.getElem?_cons_zero]; rfl)
                case hq2C => exact fun _ _ _ h => h
                case hw2C => rfl
                case hy2C => (intro w hSw; (try dsimp only at hSw); go_simp <;> with_reducible rfl)
                try simp only [Act.put, List.setIfInBounds_toArray, List.set_cons_zero, List.set_cons_succ]
                refine wpAnyH_take (i := 3) (oi := ?oi3C) (v := ?v3C) ?hi3C (by kernel_rfl) (by kernel_rfl) (by kernel_rfl) ?hq3C (Or.inl ⟨?hw3C, ?hy3C⟩) (by assumption) ?rest3C
                case hi3C => (simp only [List.getElem?_toArray, List.getElem?_cons_succ, List.getElem?_cons_zero]; rfl)
                case hq3C => exact fun _ _ _ h => h
                case hw3C => rfl
                case hy3C => (intro w hSw; (try dsimp only at hSw); go_simp <;> with_reducible rfl)
                try simp only [Act.put, List.setIfInBounds_toArray, List.set_cons_zero, List.set_cons_succ]
                refine wpAnyH_take (i := 4) (oi := ?oi4C) (v := ?v4C) ?hi4C (by kernel_rfl) (by kernel_rfl) (by kernel_rfl) ?hq4C (Or.inl ⟨?hw4C, ?hy4C⟩) (by assumption) ?rest4C
                case hi4C => (simp only [List.getElem?_toArray, List.getElem?_cons_succ, List.getElem?_cons_zero]; rfl)
                case hq4C => exact fun _ _ _ h => h
                case hw4C => rfl
                case hy4C => (intro w hSw; (try dsimp only at hSw); go_simp <;> with_reducible rfl)
                try simp only [Act.put, List.setIfInBounds_toArray, List.set_cons_zero, List.set_cons_succ]
                refine wpAnyH_take (i := 5) (oi := ?oi5C) (v := ?v5C) ?hi5C (by kernel_rfl) (by kernel_rfl) (by kernel_rfl) ?hq5C (Or.inl ⟨?hw5C, ?hy5C⟩) (by assumption) ?rest5C
                case hi5C => (simp only [List.getElem?_toArray, List.getElem?_cons_succ, List.getElem?_cons_zero]; rfl)
                case hq5C => exact fun _ _ _ h => h
                case hw5C => rfl
                case hy5C => (intro w hSw; (try dsimp only at hSw); go_simp <;> with_reducible rfl)
                try simp only [Act.put, List.setIfInBounds_toArray, List.set_cons_zero, List.set_cons_succ]
                refine wpAnyH_take (i := 6) (oi := ?oi6C) (v := ?v6C) ?hi6C (by kernel_rfl) (by kernel_rfl) (by kernel_rfl) ?hq6C (Or.inl ⟨?hw6C, ?hy6C⟩) (by assumption) ?rest6C
                case hi6C => (simp only [List.getElem?_toArray, List.getElem?_cons_succ, List.getElem?_cons_zero]; rfl)
                case hq6C => exact fun _ _ _ h => h
                case hw6C => rfl
                case hy6C => (intro w hSw; (try dsimp only at hSw); go_simp <;> with_reducible rfl)
                try simp only [Act.put, List.setIfInBounds_toArray, List.set_cons_zero, List.set_cons_succ]
                refine wpAnyH_take (i := 7) (oi := ?oi7C) (v := ?v7C) ?hi7C (by kernel_rfl) (by kernel_rfl) (by kernel_rfl) ?hq7C (Or.inl ⟨?hw7C, ?hy7C⟩) (by assumption) ?rest7C
                case hi7C => (simp only [List.getElem?_toArray, List.getElem?_cons_succ, List.getElem?_cons_zero]; rfl)
                case hq7C => exact fun _ _ _ h => h
                case hw7C => rfl
                case hy7C => (intro w hSw; (try dsimp only at hSw); go_simp <;> with_reducible rfl)
                try simp only [Act.put, List.setIfInBounds_toArray, List.set_cons_zero, List.set_cons_succ]
                refine wpAnyH_take (i := 8) (oi := ?oi8C) (v := ?v8C) ?hi8C (by kernel_rfl) (by kernel_rfl) (by kernel_rfl) ?hq8C (Or.inl ⟨?hw8C, ?hy8C⟩) (by assumption) ?rest8C
                case hi8C => (simp only [List.getElem?_toArray, List.getElem?_cons_succ, List.getElem?_cons_zero]; rfl)
                case hq8C => exact fun _ _ _ h => h
                case hw8C => rfl
                case hy8C => (intro w hSw; (try dsimp only at hSw); go_simp <;> with_reducible rfl)
                try simp only [Act.put, List.setIfInBounds_toArray, List.set_cons_zero, List.set_cons_succ]
                refine wpAnyH_take (i := 9) (oi := ?oi9C) (v := ?v9C) ?hi9C (by kernel_rfl) (by kernel_rfl) (by kernel_rfl) ?hq9C (Or.inl ⟨?hw9C, ?hy9C⟩) (by assumption) ?rest9C
                case hi9C => (simp only [List.getElem?_toArray, List.getElem?_cons_succ, List.getElem?_cons_zero]; rfl)
                case hq9C => exact fun _ _ _ h => h
                case hw9C => rfl
                case hy9C => (intro w hSw; (try dsimp only at hSw); go_simp <;> with_reducible rfl)
                try simp only [Act.put, List.setIfInBounds_toArray, List.set_cons_zero, List.set_cons_succ]
                refine wpAnyH_take (i := 10) (oi := ?oi10C) (v := ?v10C) ?hi10C (by kernel_rfl) (by kernel_rfl) (by kernel_rfl) ?hq10C (Or.inl ⟨?hw10C, ?hy10C⟩) (by assumption) ?rest10C
                case hi10C => (simp only [List.getElem?_toArray, List.getElem?_cons_succ, List.getElem?_cons_zero]; rfl)
                case hq10C => exact fun _ _ _ h => h
                case hw10C => rfl
                case hy10C => (intro w hSw; (try dsimp only at hSw); go_simp <;> with_reducible rfl)
                try simp only [Act.put, List.setIfInBounds_toArray, List.set_cons_zero, List.set_cons_succ]
                refine wpAnyH_done (by kernel_rfl) ?_ _
                go_wp2
                go_roundw
                case measure => simp [intOf]; omega
                case rel => exact ⟨k + 1, q + 1, T, by go_num, by omega, rfl, rfl, htk.symm, hTs⟩
            · have hlz : ¬ (k : Int) < (n : Int) := by omega
              rw [List.take_of_length_le (by omega)] at hT
              have e0 := heq q
              by_cases hpos : 0 < T
              · have hpd : decide (0 < T) = true := decide_eq_true hpos
                have hP2 := hP.put hx (by show 0 < tot l s0; omega) (by show tot l s0 ≤ _; omega)
                dsimp only at hP2
                rw [← hT] at hP2
                obtain ⟨OA, oc, hv5, hl5, hm5, hil5, _⟩ := (hOq q).form
                subst hv5
                have hol := hP.len
                have hbqq := hbq q
                unfold maxLen at hm5
                clear hpos hTs hT
                go_wp2_with fail
                refine (refput_any OA out.length oc out s0 T _ hil5 hl5 hm5 (by omega)).mono ?_
                rintro e w7 ⟨v7, rfl, ho7, hb7⟩
                go_wp2
                go_roundw
                case measure => simp [intOf]; omega
                case rel => exact ⟨i + 1, _, by go_num, by omega, ho7.mono hbqq.size, hP2, hbqq.trans (hb7.mono hbqq.size)⟩
              · have hpd : decide (0 < T) = false := decide_eq_false hpos
                have hP2 := hP.skip hx (by show ¬ 0 < tot l s0; omega)
                have hbqq := hbq q
                have hOqq := hOq q
                clear hpos hTs hT
                go_wp2
                go_roundw
                case measure => simp [intOf]; omega
                case rel => exact ⟨i + 1, out, by go_num, by omega, hOqq, hP2, hbqq⟩
        · have hliz : ¬ (i : Int) < (n : Int) := by omega
          have hin : i = l.length := by omega
          rw [hin] at hP
          obtain ⟨hno, rfl⟩ := hP.done hok
          obtain ⟨OA, oc, hv5, _, _, _, _⟩ := hO.form
          have hE3' := hE3 hok hno
          have hE0' := hE0 hok hno
          obtain ⟨N, hN⟩ : ∃ N, (rowsN l).length = N := ⟨_, rfl⟩
          rw [hN] at hv5 hE3' hE0'
          subst hv5
          clear hE3 hE0 hE50 hE60 hN hin
          by_cases h16 : 16 < N
          · have hz16 : decide ((16 : Int) < (N : Int)) = true := decide_eq_true (by omega)
            have hz16n : decide (16 < N) = true := decide_eq_true h16
            have hE := hE3' h16
            have hR := hRn 3 hE (by omega)
            clear h16 hE3' hE0' hRn hR0
            go_wp2
            go_ret2
            exact ⟨.slice none 0 0, by first | rfl | (rw [hE]; rfl), by first | exact OI.nil _ _ | (rw [hR]; exact OI.nil _ _), hbw⟩
          · have hz16 : decide ((16 : Int) < (N : Int)) = false := decide_eq_false (by omega)
            have hz16n : decide (16 < N) = false := decide_eq_false h16
            have hE := hE0' h16
            have hR := hR0 hE
            clear h16 hE3' hE0' hRn hR0
            go_wp2
            go_ret2
            exact ⟨_, by first | rfl | (rw [hE]; rfl), by first | exact hO | (rw [hR]; exact hO), hbw⟩
end Go.Proofs.Ytligpmnpfdaknaa
