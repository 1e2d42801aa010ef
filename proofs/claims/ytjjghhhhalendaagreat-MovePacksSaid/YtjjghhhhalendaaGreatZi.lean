/- Texts of this proof in one: MwR, MwS, MwT, MxT. No condition. -/
import Derived.Test.YtjjghhhhalendaaGreatMwK
import Derived.Test.YtjjghhhhalendaaGreatZg
import Derived.ProofKit
import Derived.OpenShut
import Derived.ShutString
import Derived.ChangeOld
import Derived.SizedLaws
import Derived.ChangeArms
import Derived.Deep.Slices
import Derived.Test.YtjjghhhhalendaaGreatZh
namespace Go.Proofs.YtjjghhhhalendaaGreat
section
open Go.RowKit Go.Maps Go.Shelf Go.Sort
set_option linter.unusedVariables false
set_option linter.unusedSimpArgs false

structure HR (w0 : World) (p b q : Nat) (wc : World) (N : Nat) (f : Int → Rec) (ks : List Int) (rs : List Rec) (F G : Nat → Prop) : Prop where
  ps : PS F wc p b N f ks
  qk : QK G wc q rs
  fF : ∀ k, F k → w0.heap.size ≤ k ∧ k < wc.heap.size
  fG : ∀ k, G k → w0.heap.size ≤ k ∧ k < wc.heap.size
  dj : ∀ k, F k → ¬ G k
  bel : Below w0.heap.size w0 wc
section
variable {w0 wc w' : World} {p b q N : Nat} {f : Int → Rec} {ks : List Int} {rs : List Rec} {F G : Nat → Prop}
theorem HR.below (h : HR w0 p b q wc N f ks rs F G) (k : Below wc.heap.size wc w') : HR w0 p b q w' N f ks rs F G :=
  ⟨h.ps.below k, h.qk.below k, fun i e => by have := h.fF i e; have := k.size; omega, fun i e => by have := h.fG i e; have := k.size; omega, h.dj, h.bel.trans (k.mono h.bel.size)⟩
theorem HR.drew (h : HR w0 p b q wc N f ks rs F G) : HR w0 p b q wc.drew N f ks rs F G := h.below (Below.refl _ _).drew
theorem HR.alloc (h : HR w0 p b q wc N f ks rs F G) (o : Obj) : HR w0 p b q (wc.alloc o) N f ks rs F G := h.below ((Below.refl _ _).alloc (Nat.le_refl _) o)
/-- What touches neither. -/
theorem HR.other {S : Nat → Prop} (h : HR w0 p b q wc N f ks rs F G) (k : Keep S wc w') (hS : ∀ i, S i → w0.heap.size ≤ i ∧ ¬ F i ∧ ¬ G i) : HR w0 p b q w' N f ks rs F G :=
  ⟨h.ps.kept k (fun g hg e => (hS g e).2.1 hg), h.qk.kept k (fun g hg e => (hS g e).2.2 hg), fun i e => by have := h.fF i e; have := k.size; omega, fun i e => by have := h.fG i e; have := k.size; omega, h.dj,
    h.bel.trans (k.below (B := w0.heap.size) h.bel.size (fun i hi e => by have := (hS i e).1; omega))⟩
/-- A call on the moves. -/
theorem HR.m {N' : Nat} {f' : Int → Rec} {ks' : List Int} (h : HR w0 p b q wc N f ks rs F G) (k : Keep (fun i => i = b) wc w') (hP : PS (fun k => F k ∨ wc.heap.size ≤ k) w' p b N' f' ks') :
    HR w0 p b q w' N' f' ks' rs (fun k => (F k ∨ wc.heap.size ≤ k) ∧ k < w'.heap.size) G :=
  ⟨hP.mono (fun i h1 h2 => ⟨h2, h1⟩), h.qk.kept k (fun g hg e => h.dj b h.ps.fp.2 (by rw [← e]; exact hg)), fun i e => ⟨e.1.elim (fun e => (h.fF i e).1) (fun e => by have := h.bel.size; omega), e.2⟩,
    fun i e => by have := h.fG i e; have := k.size; omega, fun i e hg => e.1.elim (fun e => h.dj i e hg) (fun e => by have := (h.fG i hg).2; omega),
    h.bel.trans (k.below (B := w0.heap.size) h.bel.size (fun i hi e => by have := (h.fF b h.ps.fp.2).1; omega))⟩
/-- A call on the moves that keeps what lies in F. -/
theorem HR.m0 {N' : Nat} {f' : Int → Rec} {ks' : List Int} (h : HR w0 p b q wc N f ks rs F G) (k : Keep (fun i => i = b) wc w') (hP : PS F w' p b N' f' ks') :
    HR w0 p b q w' N' f' ks' rs F G :=
  ⟨hP, h.qk.kept k (fun g hg e => h.dj b h.ps.fp.2 (by rw [← e]; exact hg)), fun i e => by have := h.fF i e; have := k.size; omega,
    fun i e => by have := h.fG i e; have := k.size; omega, h.dj,
    h.bel.trans (k.below (B := w0.heap.size) h.bel.size (fun i hi e => by have := (h.fF b h.ps.fp.2).1; omega))⟩
/-- A call on the document's. -/
theorem HR.x {rs' : List Rec} (h : HR w0 p b q wc N f ks rs F G) (k : Keep G wc w') (hQ : QK (fun k => G k ∨ wc.heap.size ≤ k) w' q rs') :
    HR w0 p b q w' N f ks rs' F (fun k => (G k ∨ wc.heap.size ≤ k) ∧ k < w'.heap.size) :=
  ⟨h.ps.kept k (fun g hg e => h.dj g hg e), hQ.mono (fun i h1 h2 => ⟨h2, h1⟩), fun i e => by have := h.fF i e; have := k.size; omega,
    fun i e => ⟨e.1.elim (fun e => (h.fG i e).1) (fun e => by have := h.bel.size; omega), e.2⟩, fun i e hg => hg.1.elim (fun g => h.dj i e g) (fun g => by have := (h.fF i e).2; omega),
    h.bel.trans (k.below (B := w0.heap.size) h.bel.size (fun i hi e => by have := (h.fG i e).1; omega))⟩
theorem HR.lt (h : HR w0 p b q wc N f ks rs F G) : p < wc.heap.size ∧ b < wc.heap.size ∧ q < wc.heap.size := ⟨h.ps.lt.1, h.ps.lt.2, h.qk.lt⟩
/-- Lists that the rows name, read where they came in. -/
def LsW (w0 : World) (rs : List Rec) : Prop := ∀ r ∈ rs, IL w0 r.l.A r.l.n r.l.l ∧ MY r.l.l
theorem LsW.gone (h : LsW w0 rs) {r : Rec} (hr : IL w0 r.l.A r.l.n r.l.l ∧ MY r.l.l) : LsW w0 (insW rs r) := fun x hx => by
  rcases List.mem_cons.1 ((insW_perm rs r).mem_iff.1 hx) with rfl | hx
  · exact hr
  · exact h x hx
theorem LsW.came (h : LsW w0 rs) {i : Nat} {x : Rec} (hx : rs[i]? = some x) (c : Bool) : LsW w0 (rs.set i ⟨x.m, x.f, x.t, x.l, c⟩) := fun r hr => by
  rcases List.mem_or_eq_of_mem_set hr with hr | rfl
  · exact h r hr
  · exact h x (List.mem_of_getElem? hx)
theorem LsW.forgot (h : LsW w0 rs) (i : Nat) : LsW w0 (rs.eraseIdx i) := fun r hr => h r ((List.eraseIdx_sublist rs i).mem hr)
theorem LsW.at {W : World} (h : LsW w0 rs) (k : Below w0.heap.size w0 W) : ∀ r ∈ rs, IL W r.l.A r.l.n r.l.l ∧ MY r.l.l := fun r hr => ⟨(h r hr).1.below k, (h r hr).2⟩
end
end
section
open Go.RowKit
set_option linter.unusedVariables false

theorem bytes_op : Tryz.prog.bytesOf 32 = 56 := by kernel_rfl
theorem ops_size {H : Type} {enc : TypeId × Value → H} {W : World} {a : Option Addr} {len cap : Nat} {d : DataW H} {p : List MemPlace}
    (h : DataW.Trod enc Tryz.prog W 0 (fun _ => true) true 22 (.slice a len cap) d p) :
    (d = .nil ∧ cap = 0) ∨ ∃ es sp, d = .slice es sp ∧ es.length + sp.length = cap := by
  obtain ⟨fuel, hf⟩ := h
  rcases Go.Deep.open_slice Tryz.underlying22 hf with ⟨hcs, hx⟩ | ⟨x, l, c, m, n, D, Pl, hcs, _, hl, hm, hmm, hx, hi⟩
  · simp [Value.cells] at hcs
    obtain ⟨rfl, rfl, rfl⟩ := hcs
    simp only [Prod.mk.injEq] at hx
    exact .inl ⟨hx.1, rfl⟩
  · simp [Value.cells] at hcs
    obtain ⟨rfl, rfl, rfl⟩ := hcs
    simp at hmm
    subst hmm
    simp only [Prod.mk.injEq] at hx
    refine .inr ⟨_, _, hx.1, ?_⟩
    simp
    omega
end
section
open Go.RowKit Go.Maps Go.Shelf Go.Sort
set_option linter.unusedVariables false
set_option linter.unusedSimpArgs false

theorem keep_none {S : Nat → Prop} {w w' : World} (h : Below w.heap.size w w') : Keep S w w' := (Keep.of_below h).mono fun i h1 h2 => absurd h1 (Nat.not_lt.2 h2)
section
variable {w0 wc : World} {p b q N : Nat} {f : Int → Rec} {ks : List Int} {rs : List Rec} {F G : Nat → Prop}
theorem forget_u (h : HR w0 p b q wc N f ks rs F G) (hW : WJ f ks rs) (hL : LsW w0 rs) (hfew : ks.length ≤ 256) (k : Int) (wk : (Lit.int .i64 k).wf = true) :
    ∃ (E : Int) (f' : Int → Rec) (ks' : List Int) (rs' : List Rec), (Calls Tryz.prog 11 #[.pointer (some ⟨p, 0, none⟩), .int .i64 k] wc fun e w' => e = .returned (.int .i64 E) ∧ HR w0 p b q w' N f' ks' rs F G ∧ Keep (fun i => i = b) wc w') ∧
      (∀ W, HR w0 p b q W N f' ks' rs F G → Calls Tryz.prog 12 #[.pointer (some ⟨q, 0, none⟩), .int .i64 k] W fun e w' => e = .returned (.int .i64 E) ∧ ∃ G', HR w0 p b q w' N f' ks' rs' F G' ∧ Keep G W w' ∧ ∀ i, G' i → G i ∨ W.heap.size ≤ i) ∧
      WJ f' ks' rs' ∧ LsW w0 rs' ∧ ks'.length ≤ 256 := by
  have hlen : rs.length ≤ 1048576 := by have := hW.len; omega
  by_cases hk : k ∈ ks
  · obtain ⟨i, x, h1, h2, h3, h4⟩ := hW.at_ hk
    have hc : x.c = (f k).c := by unfold core at h4; simp only [Prod.mk.injEq] at h4; exact h4.2.2.2.2
    by_cases hcc : (f k).c = true
    · refine ⟨0, _, _, _, (forget_ok h.ps k wk hk hcc).mono ?_, fun W hR => (rforget_ok k hR.qk hlen ⟨h1, h2, by rw [hc, hcc]⟩).mono ?_, hW.forgot h2 h3 hk, hL.forgot i, ?_⟩
      · rintro e w' ⟨rfl, hP, hx⟩
        exact ⟨rfl, h.m0 hx hP, hx⟩
      · rintro e w' ⟨rfl, hQ, hx⟩
        exact ⟨rfl, _, hR.x hx hQ, hx, fun i e => e.1⟩
      · have := (List.erase_sublist (a := k) (l := ks)).length_le
        omega
    · have hcf : (f k).c = false := by simpa using hcc
      refine ⟨80, f, ks, rs, (forget_state h.ps k wk hk hcf).mono ?_, fun W hR => (rforget_state k hR.qk hlen ⟨h1, h2, by rw [hc, hcf]⟩).mono ?_, hW, hL, hfew⟩
      · rintro e w' ⟨rfl, hx⟩
        exact ⟨rfl, h.below hx, keep_none hx⟩
      · rintro e w' ⟨rfl, rfl⟩
        exact ⟨rfl, _, hR, Keep.refl _ _, fun i e => .inl e⟩
  · refine ⟨4, f, ks, rs, (forget_no h.ps k wk hk).mono ?_, fun W hR => (rforget_no k hR.qk hlen (hW.not hk)).mono ?_, hW, hL, hfew⟩
    · rintro e w' ⟨rfl, hx⟩
      exact ⟨rfl, h.below hx, keep_none hx⟩
    · rintro e w' ⟨rfl, rfl⟩
      exact ⟨rfl, _, hR, Keep.refl _ _, fun i e => .inl e⟩
theorem come_u (h : HR w0 p b q wc N f ks rs F G) (hW : WJ f ks rs) (hL : LsW w0 rs) (hfew : ks.length ≤ 256) (hN : N < maxLen) (k : Int) (wk : (Lit.int .i64 k).wf = true) :
    ∃ (E : Int) (l : List It) (N' : Nat) (f' : Int → Rec) (rs' : List Rec), N' ≤ N + 1 ∧ l.length ≤ 16 ∧
      (Calls Tryz.prog 9 #[.pointer (some ⟨p, 0, none⟩), .int .i64 k] wc fun e w' => ∃ A c, e = .returned (.tuple #[.slice A l.length c, .int .i64 E]) ∧ IL w' A l.length l ∧ (∀ ad, A = some ad → 0 < l.length → wc.heap.size ≤ ad.block) ∧ HR w0 p b q w' N' f' ks rs F G ∧ Keep (fun i => i = b) wc w') ∧
      (∀ W, HR w0 p b q W N' f' ks rs F G → Calls Tryz.prog 10 #[.pointer (some ⟨q, 0, none⟩), .int .i64 k] W fun e w' => ∃ A c G', e = .returned (.tuple #[.slice A l.length c, .int .i64 E]) ∧ IL w0 A l.length l ∧ HR w0 p b q w' N' f' ks rs' F G' ∧ Keep G W w' ∧ ∀ i, G' i → G i ∨ W.heap.size ≤ i) ∧
      WJ f' ks rs' ∧ LsW w0 rs' := by
  have hlen : rs.length ≤ 1048576 := by have := hW.len; omega
  by_cases hk : k ∈ ks
  · obtain ⟨i, x, h1, h2, h3, h4⟩ := hW.at_ hk
    have hc : x.c = (f k).c ∧ x.l.l = (f k).l.l := by unfold core at h4; simp only [Prod.mk.injEq] at h4; exact ⟨h4.2.2.2.2, h4.2.2.2.1⟩
    by_cases hcc : (f k).c = true
    · refine ⟨5, [], N, f, rs, by omega, by simp, (come_twice h.ps k wk hk hcc).mono ?_, fun W hR => (rcome_twice k hR.qk hlen ⟨h1, h2, by rw [hc.1, hcc]⟩).mono ?_, hW, hL⟩
      · rintro e w' ⟨rfl, hx⟩
        exact ⟨none, 0, rfl, IL.nil _ _, fun ad e => (by cases e), h.below hx, keep_none hx⟩
      · rintro e w' ⟨rfl, rfl⟩
        exact ⟨none, 0, _, rfl, IL.nil _ _, hR, Keep.refl _ _, fun i e => .inl e⟩
    · have hcf : (f k).c = false := by simpa using hcc
      obtain ⟨hilx, hmyx⟩ := hL x (List.mem_of_getElem? h2)
      refine ⟨0, (f k).l.l, N + 1, _, _, by omega, by rw [← hc.2]; exact hmyx.len, (come_ok h.ps hN k wk hk hcf).mono ?_, fun W hR => (rcome_ok k hR.qk hlen ⟨h1, h2, by rw [hc.1, hcf]⟩).mono ?_, hW.came h2 h3, hL.came h2 true⟩
      · rintro e w' ⟨v, rfl, hO, hP, hx⟩
        obtain ⟨A, c, rfl, _, _, hil, had⟩ := hO.form
        exact ⟨A, c, rfl, hil, fun ad e _ => (had ad e).1, h.m0 hx hP, hx⟩
      · rintro e w' ⟨rfl, hQ, hx⟩
        have hn := hilx.len
        refine ⟨x.l.A, x.l.c, _, ?_, by rw [← hc.2, hn]; exact hilx, hR.x hx hQ, hx, fun i e => e.1⟩
        rw [← hc.2, hn]
        rfl
  · refine ⟨4, [], N, f, rs, by omega, by simp, (come_no h.ps k wk hk).mono ?_, fun W hR => (rcome_no k hR.qk hlen (hW.not hk)).mono ?_, hW, hL⟩
    · rintro e w' ⟨rfl, hx⟩
      exact ⟨none, 0, rfl, IL.nil _ _, fun ad e => (by cases e), h.below hx, keep_none hx⟩
    · rintro e w' ⟨rfl, rfl⟩
      exact ⟨none, 0, _, rfl, IL.nil _ _, hR, Keep.refl _ _, fun i e => .inl e⟩
theorem go_u (h : HR w0 p b q wc N f ks rs F G) (hW : WJ f ks rs) (hL : LsW w0 rs) (hfew : ks.length ≤ 256) (hN : N < maxLen) (k fr to : Int) (wk : (Lit.int .i64 k).wf = true) (A A2 : Option Addr) (c c2 : Nat) (l : List It)
    (hil : IL wc A l.length l) (hil2 : IL w0 A2 l.length l) (hwl : WL l) (hll : l.length ≤ 500000) :
    ∃ (E : Int) (rs' : List Rec),
      (Calls Tryz.prog 7 #[.pointer (some ⟨p, 0, none⟩), .int .i64 k, .int .i64 fr, .int .i64 to, .slice A l.length c] wc fun e w' => e = .returned (.int .i64 E) ∧ ∃ N' f' ks' F', N' ≤ N + 1 ∧ ks'.length ≤ 256 ∧ HR w0 p b q w' N' f' ks' rs F' G ∧ (∀ i, F' i → F i ∨ wc.heap.size ≤ i) ∧ WJ f' ks' rs' ∧ Keep (fun i => i = b) wc w') ∧
      (∀ W N' f' ks' F', HR w0 p b q W N' f' ks' rs F' G → Calls Tryz.prog 8 #[.pointer (some ⟨q, 0, none⟩), .int .i64 k, .int .i64 fr, .int .i64 to, .slice A2 l.length c2] W fun e w' => e = .returned (.int .i64 E) ∧ ∃ G', HR w0 p b q w' N' f' ks' rs' F' G' ∧ Keep G W w' ∧ ∀ i, G' i → G i ∨ W.heap.size ≤ i) ∧
      LsW w0 rs' := by
  have hlen : rs.length ≤ 1048576 := by have := hW.len; omega
  have hgw := hW.goW k fr to l
  by_cases hE : goE ks k fr to l = 0
  · obtain ⟨hmb, hbt, hmay, hl0, hks, hk256⟩ := goE_ok hE
    refine ⟨0, insW rs ⟨k, fr, to, ⟨A2, l.length, c2, l⟩, false⟩, (go_ok h.ps hN k fr to A c l hil hwl wk hE).mono ?_, fun W N' f' ks' F' hR => (rgo_ok hR.qk hlen k fr to A2 l.length c2 l (hil2.below hR.bel) hwl hll (by rw [hgw, hE])).mono ?_, hL.gone ⟨hil2, MY.of_ hmay⟩⟩
    · rintro e w' ⟨rfl, x, hx, hP, hk⟩
      refine ⟨rfl, N + 1, _, _, _, by omega, ?_, h.m hk hP, fun i e => e.1, hW.gone hks (by rw [hx]), hk⟩
      unfold addK
      rw [if_neg hks, List.length_append, List.length_singleton]
      omega
    · rintro e w' ⟨rfl, hQ, hx⟩
      exact ⟨rfl, _, hR.x hx hQ, hx, fun i e => e.1⟩
  · refine ⟨goE ks k fr to l, rs, (go_no h.ps k fr to A c l hil wk hll hE).mono ?_, fun W N' f' ks' F' hR => (rgo_no hR.qk hlen k fr to A2 l.length c2 l (hil2.below hR.bel) hwl hll (by rw [hgw]; exact hE)).mono ?_, hL⟩
    · rintro e w' ⟨rfl, hx⟩
      exact ⟨rfl, N, f, ks, F, by omega, hfew, h.below hx, fun i e => .inl e, hW, keep_none hx⟩
    · rintro e w' ⟨rfl, hx⟩
      exact ⟨by rw [hgw], _, hR.below hx, keep_none hx, fun i e => .inl e⟩
end
end
section
open Go.RowKit Go.Maps Go.Shelf Go.Sort
set_option linter.unusedVariables false
set_option linter.unusedSimpArgs false

/-- Each row is a move that may be. -/
def OkR (rs : List Rec) : Prop := ∀ r ∈ rs, OkC (core r)
theorem OkR.gone {rs : List Rec} (h : OkR rs) {r : Rec} (hr : OkC (core r)) : OkR (insW rs r) := fun x hx => by
  rcases List.mem_cons.1 ((insW_perm rs r).mem_iff.1 hx) with rfl | hx
  · exact hr
  · exact h x hx
theorem OkR.came {rs : List Rec} (h : OkR rs) {i : Nat} {x : Rec} (hx : rs[i]? = some x) (c : Bool) : OkR (rs.set i ⟨x.m, x.f, x.t, x.l, c⟩) := fun r hr => by
  rcases List.mem_or_eq_of_mem_set hr with hr | rfl
  · exact h r hr
  · have := h x (List.mem_of_getElem? hx)
    exact ⟨this.mb, this.bt, this.may, this.ne⟩
theorem OkR.forgot {rs : List Rec} (h : OkR rs) (i : Nat) : OkR (rs.eraseIdx i) := fun r hr => h r ((List.eraseIdx_sublist rs i).mem hr)
theorem WJ.rise {f : Int → Rec} {ks : List Int} {rs : List Rec} (h : WJ f ks rs) : ((rs.map core).map fun x => x.1).Pairwise (fun a b => a < b) := by
  have e : (rs.map core).map (fun x => x.1) = rs.map Rec.m := by rw [List.map_map]; rfl
  rw [e, h.ms]
  have h1 := sortI_le ks
  have h2 : (sortI ks).Nodup := (sortI_p ks).nodup_iff.2 h.nd
  exact (h1.and h2).imp fun ⟨a, b⟩ => by omega
theorem HR.fresh {w0 W w' : World} {p b q N p' b' N' : Nat} {f f' : Int → Rec} {ks ks' : List Int} {rs : List Rec} {F G : Nat → Prop} (h : HR w0 p b q W N f ks rs F G) (hb : Below W.heap.size W w') (hP : PS (fun k => W.heap.size ≤ k) w' p' b' N' f' ks') :
    HR w0 p' b' q w' N' f' ks' rs (fun k => W.heap.size ≤ k ∧ k < w'.heap.size) G :=
  ⟨hP.mono (fun i h1 h2 => ⟨h2, h1⟩), h.qk.below hb, fun i e => by have := h.bel.size; omega, fun i e => by have := h.fG i e; have := hb.size; omega, fun i e hg => by have := h.fG i hg; omega, h.bel.trans (hb.mono h.bel.size)⟩
section
variable {w0 wc : World} {p b q N : Nat} {f : Int → Rec} {ks : List Int} {rs : List Rec} {F G : Nat → Prop}
theorem forget_o (h : HR w0 p b q wc N f ks rs F G) (hW : WJ f ks rs) (hL : LsW w0 rs) (hOK : OkR rs) (hfew : ks.length ≤ 256) (k : Int) (wk : (Lit.int .i64 k).wf = true) :
    ∃ (E : Int) (f' : Int → Rec) (ks' : List Int) (rs' : List Rec), (Calls Tryz.prog 11 #[.pointer (some ⟨p, 0, none⟩), .int .i64 k] wc fun e w' => e = .returned (.int .i64 E) ∧ HR w0 p b q w' N f' ks' rs F G ∧ Keep (fun i => i = b) wc w') ∧
      (∀ W, HR w0 p b q W N f' ks' rs F G → Calls Tryz.prog 12 #[.pointer (some ⟨q, 0, none⟩), .int .i64 k] W fun e w' => e = .returned (.int .i64 E) ∧ ∃ G', HR w0 p b q w' N f' ks' rs' F G' ∧ Keep G W w' ∧ ∀ i, G' i → G i ∨ W.heap.size ≤ i) ∧
      WJ f' ks' rs' ∧ LsW w0 rs' ∧ ks'.length ≤ 256 ∧ OkR rs' := by
  have hlen : rs.length ≤ 1048576 := by have := hW.len; omega
  by_cases hk : k ∈ ks
  · obtain ⟨i, x, h1, h2, h3, h4⟩ := hW.at_ hk
    have hc : x.c = (f k).c := by unfold core at h4; simp only [Prod.mk.injEq] at h4; exact h4.2.2.2.2
    by_cases hcc : (f k).c = true
    · refine ⟨0, _, _, _, (forget_ok h.ps k wk hk hcc).mono ?_, fun W hR => (rforget_ok k hR.qk hlen ⟨h1, h2, by rw [hc, hcc]⟩).mono ?_, hW.forgot h2 h3 hk, hL.forgot i, ?_, hOK.forgot i⟩
      · rintro e w' ⟨rfl, hP, hx⟩
        exact ⟨rfl, h.m0 hx hP, hx⟩
      · rintro e w' ⟨rfl, hQ, hx⟩
        exact ⟨rfl, _, hR.x hx hQ, hx, fun i e => e.1⟩
      · have := (List.erase_sublist (a := k) (l := ks)).length_le
        omega
    · have hcf : (f k).c = false := by simpa using hcc
      refine ⟨80, f, ks, rs, (forget_state h.ps k wk hk hcf).mono ?_, fun W hR => (rforget_state k hR.qk hlen ⟨h1, h2, by rw [hc, hcf]⟩).mono ?_, hW, hL, hfew, hOK⟩
      · rintro e w' ⟨rfl, hx⟩
        exact ⟨rfl, h.below hx, keep_none hx⟩
      · rintro e w' ⟨rfl, rfl⟩
        exact ⟨rfl, _, hR, Keep.refl _ _, fun i e => .inl e⟩
  · refine ⟨4, f, ks, rs, (forget_no h.ps k wk hk).mono ?_, fun W hR => (rforget_no k hR.qk hlen (hW.not hk)).mono ?_, hW, hL, hfew, hOK⟩
    · rintro e w' ⟨rfl, hx⟩
      exact ⟨rfl, h.below hx, keep_none hx⟩
    · rintro e w' ⟨rfl, rfl⟩
      exact ⟨rfl, _, hR, Keep.refl _ _, fun i e => .inl e⟩
theorem come_o (h : HR w0 p b q wc N f ks rs F G) (hW : WJ f ks rs) (hL : LsW w0 rs) (hOK : OkR rs) (hfew : ks.length ≤ 256) (hN : N < maxLen) (k : Int) (wk : (Lit.int .i64 k).wf = true) :
    ∃ (E : Int) (l : List It) (N' : Nat) (f' : Int → Rec) (rs' : List Rec), N' ≤ N + 1 ∧ l.length ≤ 16 ∧
      (Calls Tryz.prog 9 #[.pointer (some ⟨p, 0, none⟩), .int .i64 k] wc fun e w' => ∃ A c, e = .returned (.tuple #[.slice A l.length c, .int .i64 E]) ∧ IL w' A l.length l ∧ (∀ ad, A = some ad → 0 < l.length → wc.heap.size ≤ ad.block) ∧ HR w0 p b q w' N' f' ks rs F G ∧ Keep (fun i => i = b) wc w') ∧
      (∀ W, HR w0 p b q W N' f' ks rs F G → Calls Tryz.prog 10 #[.pointer (some ⟨q, 0, none⟩), .int .i64 k] W fun e w' => ∃ A c G', e = .returned (.tuple #[.slice A l.length c, .int .i64 E]) ∧ IL w0 A l.length l ∧ HR w0 p b q w' N' f' ks rs' F G' ∧ Keep G W w' ∧ ∀ i, G' i → G i ∨ W.heap.size ≤ i) ∧
      WJ f' ks rs' ∧ LsW w0 rs' ∧ OkR rs' := by
  have hlen : rs.length ≤ 1048576 := by have := hW.len; omega
  by_cases hk : k ∈ ks
  · obtain ⟨i, x, h1, h2, h3, h4⟩ := hW.at_ hk
    have hc : x.c = (f k).c ∧ x.l.l = (f k).l.l := by unfold core at h4; simp only [Prod.mk.injEq] at h4; exact ⟨h4.2.2.2.2, h4.2.2.2.1⟩
    by_cases hcc : (f k).c = true
    · refine ⟨5, [], N, f, rs, by omega, by simp, (come_twice h.ps k wk hk hcc).mono ?_, fun W hR => (rcome_twice k hR.qk hlen ⟨h1, h2, by rw [hc.1, hcc]⟩).mono ?_, hW, hL, hOK⟩
      · rintro e w' ⟨rfl, hx⟩
        exact ⟨none, 0, rfl, IL.nil _ _, fun ad e => (by cases e), h.below hx, keep_none hx⟩
      · rintro e w' ⟨rfl, rfl⟩
        exact ⟨none, 0, _, rfl, IL.nil _ _, hR, Keep.refl _ _, fun i e => .inl e⟩
    · have hcf : (f k).c = false := by simpa using hcc
      obtain ⟨hilx, hmyx⟩ := hL x (List.mem_of_getElem? h2)
      refine ⟨0, (f k).l.l, N + 1, _, _, by omega, by rw [← hc.2]; exact hmyx.len, (come_ok h.ps hN k wk hk hcf).mono ?_, fun W hR => (rcome_ok k hR.qk hlen ⟨h1, h2, by rw [hc.1, hcf]⟩).mono ?_, hW.came h2 h3, hL.came h2 true, hOK.came h2 true⟩
      · rintro e w' ⟨v, rfl, hO, hP, hx⟩
        obtain ⟨A, c, rfl, _, _, hil, had⟩ := hO.form
        exact ⟨A, c, rfl, hil, fun ad e _ => (had ad e).1, h.m0 hx hP, hx⟩
      · rintro e w' ⟨rfl, hQ, hx⟩
        have hn := hilx.len
        refine ⟨x.l.A, x.l.c, _, ?_, by rw [← hc.2, hn]; exact hilx, hR.x hx hQ, hx, fun i e => e.1⟩
        rw [← hc.2, hn]
        rfl
  · refine ⟨4, [], N, f, rs, by omega, by simp, (come_no h.ps k wk hk).mono ?_, fun W hR => (rcome_no k hR.qk hlen (hW.not hk)).mono ?_, hW, hL, hOK⟩
    · rintro e w' ⟨rfl, hx⟩
      exact ⟨none, 0, rfl, IL.nil _ _, fun ad e => (by cases e), h.below hx, keep_none hx⟩
    · rintro e w' ⟨rfl, rfl⟩
      exact ⟨none, 0, _, rfl, IL.nil _ _, hR, Keep.refl _ _, fun i e => .inl e⟩
theorem go_o (h : HR w0 p b q wc N f ks rs F G) (hW : WJ f ks rs) (hL : LsW w0 rs) (hOK : OkR rs) (hfew : ks.length ≤ 256) (hN : N < maxLen) (k fr to : Int) (wk : (Lit.int .i64 k).wf = true) (A A2 : Option Addr) (c c2 : Nat) (l : List It)
    (hil : IL wc A l.length l) (hil2 : IL w0 A2 l.length l) (hwl : WL l) (hll : l.length ≤ 500000) :
    ∃ (E : Int) (rs' : List Rec),
      (Calls Tryz.prog 7 #[.pointer (some ⟨p, 0, none⟩), .int .i64 k, .int .i64 fr, .int .i64 to, .slice A l.length c] wc fun e w' => e = .returned (.int .i64 E) ∧ ∃ N' f' ks' F', N' ≤ N + 1 ∧ ks'.length ≤ 256 ∧ HR w0 p b q w' N' f' ks' rs F' G ∧ (∀ i, F' i → F i ∨ wc.heap.size ≤ i) ∧ WJ f' ks' rs' ∧ Keep (fun i => i = b) wc w') ∧
      (∀ W N' f' ks' F', HR w0 p b q W N' f' ks' rs F' G → Calls Tryz.prog 8 #[.pointer (some ⟨q, 0, none⟩), .int .i64 k, .int .i64 fr, .int .i64 to, .slice A2 l.length c2] W fun e w' => e = .returned (.int .i64 E) ∧ ∃ G', HR w0 p b q w' N' f' ks' rs' F' G' ∧ Keep G W w' ∧ ∀ i, G' i → G i ∨ W.heap.size ≤ i) ∧
      LsW w0 rs' ∧ OkR rs' := by
  have hlen : rs.length ≤ 1048576 := by have := hW.len; omega
  have hgw := hW.goW k fr to l
  by_cases hE : goE ks k fr to l = 0
  · obtain ⟨hmb, hbt, hmay, hl0, hks, hk256⟩ := goE_ok hE
    refine ⟨0, insW rs ⟨k, fr, to, ⟨A2, l.length, c2, l⟩, false⟩, (go_ok h.ps hN k fr to A c l hil hwl wk hE).mono ?_, fun W N' f' ks' F' hR => (rgo_ok hR.qk hlen k fr to A2 l.length c2 l (hil2.below hR.bel) hwl hll (by rw [hgw, hE])).mono ?_, hL.gone ⟨hil2, MY.of_ hmay⟩, hOK.gone ⟨hmb, hbt, hmay, hl0⟩⟩
    · rintro e w' ⟨rfl, x, hx, hP, hk⟩
      refine ⟨rfl, N + 1, _, _, _, by omega, ?_, h.m hk hP, fun i e => e.1, hW.gone hks (by rw [hx]), hk⟩
      unfold addK
      rw [if_neg hks, List.length_append, List.length_singleton]
      omega
    · rintro e w' ⟨rfl, hQ, hx⟩
      exact ⟨rfl, _, hR.x hx hQ, hx, fun i e => e.1⟩
  · refine ⟨goE ks k fr to l, rs, (go_no h.ps k fr to A c l hil wk hll hE).mono ?_, fun W N' f' ks' F' hR => (rgo_no hR.qk hlen k fr to A2 l.length c2 l (hil2.below hR.bel) hwl hll (by rw [hgw]; exact hE)).mono ?_, hL, hOK⟩
    · rintro e w' ⟨rfl, hx⟩
      exact ⟨rfl, N, f, ks, F, by omega, hfew, h.below hx, fun i e => .inl e, hW, keep_none hx⟩
    · rintro e w' ⟨rfl, hx⟩
      exact ⟨by rw [hgw], _, hR.below hx, keep_none hx, fun i e => .inl e⟩
end
end
end Go.Proofs.YtjjghhhhalendaaGreat
