/- items.Put and the document's, over a maker. No condition but that the list lies apart from the maker. -/
import Derived.Test.YtjjghhhhalendaaGreatEnc6
namespace Go.Proofs.YtjjghhhhalendaaGreat
open Go.RowKit Go.Maps Go.Shelf
set_option linter.unusedVariables false
set_option linter.unusedSimpArgs false
attribute [local go_sem] Oper.semAt_some

theorem OB.cellsOf {base : Nat} {w : World} {v : Value} {l : List UInt8} (h : OB base w v l) : ∀ g, v.ownBlock = some g → ∃ o : Obj, w.heap[g]? = some o ∧ o.isCells = true := by
  intro g hg
  rcases h.2 with ⟨rfl, _⟩ | ⟨g', cap, cur, rfl, _, hgg, _⟩
  · simp [Value.ownBlock] at hg
  · simp [Value.ownBlock] at hg
    subst hg
    exact ⟨_, hgg, rfl⟩
theorem MK.cellsOf {base : Nat} {w : World} {g : Nat} {v : Value} {st : Option (List UInt8)} (h : MK base w g v st) : ∀ i, MF g v i → ∃ o : Obj, w.heap[i]? = some o ∧ o.isCells = true := by
  rintro i (rfl | hi)
  · exact ⟨_, h.blk, rfl⟩
  · exact h.own.cellsOf i hi
theorem MK.row {base n : Nat} {X Y : World} {g : Nat} {v : Value} {st : Option (List UInt8)} {row : Option Nat} (h : MK base X g v st) (hg : X.grownBy Y row) (hr : ∀ r, row = some r → n ≤ r ∧ ∃ o : Obj, X.heap[r]? = some o ∧ o.isCells = false) : MK base Y g v st :=
  h.kept (Keep.of_grown hg) fun i hi => by
    obtain ⟨o, h1, h2⟩ := h.cellsOf i hi
    exact row_not hr h1 h2
theorem keep_then_row {S : Nat → Prop} {w X Y : World} {row : Option Nat} {n : Nat} (h : Keep S w X) (hg : X.grownBy Y row) (hr : ∀ r, row = some r → n ≤ r ∧ ∃ o : Obj, X.heap[r]? = some o ∧ o.isCells = false) (hn : w.heap.size ≤ n) : Keep S w Y :=
  h.trans (Keep.of_grown hg) fun i hi e => by have := (hr i e).1; omega

theorem mtext_l (base : Nat) (g : Nat) (v : Value) (st : Option (List UInt8)) (s : List UInt8) (w : World) (hm : MK base w g v st) (hs : s.length ≤ 140737488355328) :
    Calls Tryz.prog 60 #[.pointer (some ⟨g, 0, none⟩), .string ⟨s.toArray⟩] w (MakerPost base w g v (put st (numCell s.length ++ s))) := by
  have h := mtext_any base g v st ⟨s.toArray⟩ w hm (by rw [str_size]; exact hs)
  rw [str_size] at h
  exact h

theorem MakerPost.foot {base : Nat} {w w' : World} {g : Nat} {v v' : Value} (hf : ∀ i, MF g v' i → MF g v i ∨ w.heap.size ≤ i) {S : Nat → Prop} (hs : ∀ i, MF g v i → S i) (hn : ∀ i, w.heap.size ≤ i → S i) : ∀ i, MF g v' i → S i :=
  fun i hi => (hf i hi).elim (hs i) (hn i)

/-- Items whose texts are short. -/
def SI (l : List It) : Prop := ∀ x ∈ l, x.1.length ≤ 262144 ∧ -9223372036854775808 ≤ x.2 ∧ x.2 ≤ 9223372036854775807
theorem mayL_SI {l : List It} (h : mayL l = true) : SI l := fun x hx => by
  obtain ⟨h1, h2, h3⟩ := (mayL_okI h).2 x hx
  exact ⟨by omega, by omega, by omega⟩

set_option maxRecDepth 100000 in
set_option maxHeartbeats 1600000 in
theorem iput_any (base : Nat) (g : Nat) (v : Value) (st : Option (List UInt8)) (A : Option Addr) (n c : Nat) (l : List It) (w : World) (hm : MK base w g v st) (hl : IL w A n l) (hw : SI l) (hn : n ≤ 9223372036854775807)
    (hA : ∀ ad, A = some ad → 0 < n → ¬ MF g v ad.block) :
    Calls Tryz.prog 34 #[.pointer (some ⟨g, 0, none⟩), .slice A n c] w (MakerPost base w g v (putLE st l)) := by
  have hlen := hl.len
  have hfm := hm.foot
  have hm0 := hm.alloc_ (.cells #[.pointer (some ⟨g, 0, none⟩)] 69)
  have hb0 := CL.new w (.pointer (some ⟨g, 0, none⟩)) 69
  refine (callsIn_wide (n := 9)).1 ?_
  refine callsIn_of_wp_marks Tryz.func34 rfl trivial ?_ rfl
  simp only [Tryz.ntmps34, List.size_toArray, List.length_cons, List.length_nil, Nat.reduceAdd, Nat.reduceSub, Array.replicate_succ, Array.replicate_zero, List.push_toArray, List.append_toArray, List.nil_append, List.cons_append]
  gi_wp2_with (first
    | (refine ⟨trivial, ?_⟩; gi_at_call 32; refine (callsIn_wide.2 (mnum_any base g v st (n : Int) _ hm0 (by omega) (by omega))).mono ?_; rintro e w1 ⟨v1, rfl, hm1, hk1, hf1⟩)
    | (refine ⟨trivial, ?_⟩; gi_at_call 51; refine (callsIn_wide.2 (over_make A n c _)).mono ?_; rintro e w2 ⟨rfl, rfl⟩))
  --NAME
  have hz1 := hk1.size
  rw [World.size_alloc] at hz1 hf1
  have hC := CL.new w1 (.slice A n c) 30
  have hm2 := hm1.alloc_ (.cells #[.slice A n c] 30)
  have hk2 := hk1.alloc (.cells #[.slice A n c] 30)
  have hbx := hb0.kept hk2 (fun e => by have := (hfm _ e).2; omega)
  have hkw : Keep (MF g v) w (w1.alloc (.cells #[.slice A n c] 30)) := ((Keep.refl (MF g v) w).alloc (.cells #[.pointer (some ⟨g, 0, none⟩)] 69)).trans hk2 fun _ _ h => h
  have hl2 := hl.kept hkw hA
  have hlt := hl.lt
  generalize hW : w1.alloc (.cells #[.slice A n c] 30) = W0 at *
  have hz0 : W0.heap.size = w1.heap.size + 1 := by rw [← hW]; simp
  clear hW hm1 hk1 hk2 hm0 hb0
  refine range_over' A n c l w1.heap.size (fun k => MF g v k ∨ w.heap.size + 1 ≤ k) rfl rfl hC.at_ hl2 (fun ad h h' => by have := hlt ad h h'; have := hA ad h h'; intro e; rcases e with e | e; exact this e; omega) hn
    (fun pre W => ∃ v', MK base W g v' (putsI (put st (numCell n)) pre) ∧ CL W w.heap.size (.pointer (some ⟨g, 0, none⟩)) ∧ Keep (MF g v) w W ∧ ∀ i, MF g v' i → MF g v i ∨ w.heap.size + 1 ≤ i)
    (fun c pre W => False)
    (fun s X Y row h hg hr => h.elim fun v' hv => ⟨v', hv.1.row hg hr, hv.2.1.row hg hr, keep_then_row hv.2.2.1 hg hr (by omega), hv.2.2.2⟩)
    (fun c s X Y row h hg hr => h)
    ⟨v1, hm2, hbx, hkw, hf1⟩ ?round ?done ?stop
  case round =>
    apply Exists.intro
    constructor
    · intro l' x W K hx hK
      gi_wp2
      exact hK
    · rintro l' pre ⟨s, q⟩ W hx hzW ⟨v2, hmk, hcl, hkk, hff⟩ hlen'
      obtain ⟨hs, hq⟩ := hw _ hx
      dsimp only at hx hs hq ⊢
      have hq' := hq
      have c0 := hcl.at_
      gi_wp2_with (first
        | (refine ⟨trivial, ?_⟩; gi_at_call 60; refine (CallsIn.inRound l' (callsIn_wide.2 (mtext_l base g v2 _ s _ hmk (by omega)))).mono ?_; rintro e w4 ⟨v4, rfl, hm4, hk4, hf4⟩)
        | (refine ⟨trivial, ?_⟩; gi_at_call 32; refine (CallsIn.inRound l' (callsIn_wide.2 (mnum_any base g v4 _ q _ hm4 hq'.1 hq'.2))).mono ?_; rintro e w5 ⟨v5, rfl, hm5, hk5, hf5⟩))
      --NAME2
      have hz4 := hk4.size
      have hz := hkk.size
      have hff4 : ∀ i, MF g v4 i → MF g v i ∨ w.heap.size + 1 ≤ i := fun i hi => (hf4 i hi).elim (hff i) fun h => .inr (by omega)
      have hff5 : ∀ i, MF g v5 i → MF g v i ∨ w.heap.size + 1 ≤ i := fun i hi => (hf5 i hi).elim (hff4 i) fun h => .inr (by omega)
      have hnb : ∀ v', (∀ i, MF g v' i → MF g v i ∨ w.heap.size + 1 ≤ i) → ¬ MF g v' w.heap.size := fun v' h e => by
        rcases h _ e with h | h
        · have := (hfm _ h).2
          omega
        · omega
      refine ⟨(hk4.from fun k _ _ e => hmk.cellsOf k e).trans (hk5.from fun k _ _ e => hm4.cellsOf k e), (hk4.kx (T := fun k => MF g v k ∨ w.heap.size + 1 ≤ k) (by omega) fun k _ e => hff k e).trans (hk5.kx (by omega) fun k _ e => hff4 k e), v5, ?_, (hcl.kept hk4 (hnb _ hff)).kept hk5 (hnb _ hff4), ?_, hff5⟩
      · rw [putsI_snoc]
        exact hm5
      · refine (hkk.trans hk4 fun i hi e => (hff i e).elim id fun h => absurd h (by omega)).trans hk5 fun i hi e => (hff4 i e).elim id fun h => absurd h (by omega)
  case done =>
    rintro D W hD ⟨v2, hmk, hcl, hkk, hff⟩ hDf
    have c0 := hcl.at_
    dsimp only
    gi_wp2
    refine ⟨by simp, .inl ⟨_, _, rfl, run_takeDeferred hDf, ?_⟩⟩
    have hg := grownBy_putObj' W D (.deferred none)
    have hr : ∀ r, some D = some r → W0.heap.size ≤ r ∧ ∃ o : Obj, W.heap[r]? = some o ∧ o.isCells = false := by intro r e; cases e; exact ⟨hD, _, hDf, rfl⟩
    refine ⟨_, results_tmp rfl _ _ _, v2, rfl, ?_, keep_then_row hkk hg hr (by omega), fun i hi => (hff i hi).imp_right fun h => by omega⟩
    have := hmk.row hg hr
    rw [← hlen] at this
    exact this
  case stop => exact fun D c pre W hD hpre h hDf => h.elim

/-! The document's. -/
theorem rtext_l (base : Nat) (g : Nat) (v : Value) (l : List UInt8) (long : Bool) (s : List UInt8) (w : World) (hm : RM base w g v l long) (hs : s.length ≤ 140737488351232) :
    Calls Tryz.prog 68 #[.pointer (some ⟨g, 0, none⟩), .string ⟨s.toArray⟩] w (RefPost base w g v (put (rst l long) (numCell s.length ++ s))) := by
  have h := rtext_any base g v l long ⟨s.toArray⟩ w hm (by rw [str_size]; exact hs)
  rw [str_size] at h
  exact h
theorem takeI_succ {st : Option (List UInt8)} {l : List It} {k : Nat} {x : It} (h : l[k]? = some x) : putsI st (l.take (k + 1)) = putI (putsI st (l.take k)) x := by
  rw [List.take_add_one, h, Option.toList_some, putsI_snoc]

set_option maxRecDepth 100000 in
set_option maxHeartbeats 1600000 in
theorem riput_any (base : Nat) (g : Nat) (v : Value) (lb : List UInt8) (long : Bool) (A : Option Addr) (n c : Nat) (l : List It) (w : World) (hm : RM base w g v lb long) (hl : IL w A n l) (hw : SI l) (hn : n ≤ 9223372036854775807)
    (hA : ∀ ad, A = some ad → 0 < n → ¬ MF g v ad.block) :
    Calls Tryz.prog 42 #[.pointer (some ⟨g, 0, none⟩), .slice A n c] w (RefPost base w g v (putLE (rst lb long) l)) := by
  have hlen := hl.len
  go_enter Tryz.func42, Tryz.ntmps42
  go_wp2_with fail
  refine (rnum_any base g v lb long (n : Int) w hm (by omega) (by omega)).mono ?_
  rintro e w1 ⟨v1, l1, long1, rfl, hm1, hr1, hf1⟩
  go_wp2_with fail
  go_loopw [4] (fun i wr => ∃ (k : Nat) (v' : Value) (l' : List UInt8) (long' : Bool), i = .int .i64 (k : Int) ∧ k ≤ n ∧ RM base wr g v' l' long' ∧ rst l' long' = putsI (put (rst lb long) (numCell n)) (l.take k) ∧ Foot (MF g v) w (MF g v') wr) (fun i _ => n - (intOf i).toNat)
  case atStart => exact ⟨0, v1, l1, long1, by go_num, by omega, hm1, by simpa [putsI] using hr1, hf1⟩
  case round =>
    obtain ⟨k, v2, l2, long2, rfl, hk, hm2, hr2, hf2⟩ := hrel
    by_cases hlt : k < n
    · have hlz : (k : Int) < (n : Int) := by omega
      obtain ⟨b, off, x, rfl, hx, c0, c1⟩ := (hl.kept hf2.keep hA).place hlt
      obtain ⟨hs, hq⟩ := hw x (List.mem_of_getElem? hx)
      have hq' := hq
      have hAb := hA _ rfl (by omega)
      have hltb := hl.lt _ rfl (by omega)
      have hsx := takeI_succ (st := put (rst lb long) (numCell n)) hx
      obtain ⟨s, q⟩ := x
      dsimp only at hs hq hq' c0 c1 hAb hltb
      go_wp2_with fail
      refine (rtext_l base g v2 l2 long2 s _ hm2 (by omega)).mono ?_
      rintro e w3 ⟨v3, l3, long3, rfl, hm3, hr3, hf3⟩
      have hf23 := hf2.trans hf3
      have c3 := hf23.keep.cell (p := ⟨b, off + k * 2 + 1, none⟩) ((hl.at_ k _ hx).elim fun b' h => h.elim fun off' h => by obtain ⟨e, _, h2⟩ := h; cases e; exact h2) hAb
      dsimp only at c3
      go_wp2_with fail
      refine (rnum_any base g v3 l3 long3 q _ hm3 hq'.1 hq'.2).mono ?_
      rintro e w4 ⟨v4, l4, long4, rfl, hm4, hr4, hf4⟩
      go_wp2_with fail
      go_roundw
      case rel =>
        refine ⟨k + 1, v4, l4, long4, by go_num, by omega, hm4, ?_, hf23.trans hf4⟩
        rw [hr4, hr3, hr2, hsx]
        rfl
      case measure => simp [intOf]; omega
    · have hlz : ¬ (k : Int) < (n : Int) := by omega
      rw [List.take_of_length_le (by omega)] at hr2
      go_wp2
      go_end0
      exact ⟨v2, l2, long2, rfl, hm2, by rw [hr2, ← hlen]; rfl, hf2⟩
end Go.Proofs.YtjjghhhhalendaaGreat
