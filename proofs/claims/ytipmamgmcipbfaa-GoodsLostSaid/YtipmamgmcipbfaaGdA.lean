/- Rows added; Level, Flow and Kept of goods; pointers that a slice reads as. No condition. -/
import Derived.Test.YtipmamgmcipbfaaSmC
import Derived.Test.YtipmamgmcipbfaaHeldY
namespace Go.Proofs.Ytipmamgmcipbfaa
open Go.RowKit Go.Maps Go.Shelf Go.Sort
set_option linter.unusedVariables false
set_option linter.unusedSimpArgs false

def addR (a b : Row) : Row := ⟨wrap64 (a.fr + b.fr), wrap64 (a.he + b.he), wrap64 (a.pi + b.pi), wrap64 (a.sa + b.sa), wrap64 (a.re + b.re), wrap64 (a.rt + b.rt), wrap64 (a.cn + b.cn), wrap64 (a.cm + b.cm), wrap64 (a.sh + b.sh), wrap64 (a.sc + b.sc), wrap64 (a.se + b.se)⟩
def sumR (l : List Row) : Row := l.foldl addR row0
theorem sumR_snoc (l : List Row) (x : Row) : sumR (l ++ [x]) = addR (sumR l) x := by simp [sumR]
def lvV (r : Row) : Value := .agg #[.int .i64 r.fr, .int .i64 r.he, .int .i64 r.pi, .int .i64 r.sa]
def flV (r : Row) : Value := .agg #[.int .i64 r.re, .int .i64 r.rt, .int .i64 r.cn, .int .i64 r.cm, .int .i64 r.sh, .int .i64 r.sc, .int .i64 r.se]
set_option maxRecDepth 100000 in
set_option maxHeartbeats 3200000 in
theorem glevel_any (a0 a1 a2 a3 b0 b1 b2 b3 : Int) (w : World) : Calls Try.prog 21 #[.agg #[.int .i64 a0, .int .i64 a1, .int .i64 a2, .int .i64 a3], .agg #[.int .i64 b0, .int .i64 b1, .int .i64 b2, .int .i64 b3]] w fun e w' => e = .returned (.agg #[.int .i64 (wrap64 (a0 + b0)), .int .i64 (wrap64 (a1 + b1)), .int .i64 (wrap64 (a2 + b2)), .int .i64 (wrap64 (a3 + b3))]) ∧ Below w.heap.size w w' := by
  have hb0 := (Below.refl w.heap.size w).alloc (Nat.le_refl _) (.cells #[.int .i64 a0, .int .i64 a1, .int .i64 a2, .int .i64 a3] 29)
  have hb1 := hb0.alloc hb0.size (.cells #[.int .i64 b0, .int .i64 b1, .int .i64 b2, .int .i64 b3] 29)
  go_enter Try.func21, Try.ntmps21
  go_wp2
  --E
  have hbl := Blk.new ((w.alloc (.cells #[.int .i64 a0, .int .i64 a1, .int .i64 a2, .int .i64 a3] 29)).alloc (.cells #[.int .i64 b0, .int .i64 b1, .int .i64 b2, .int .i64 b3] 29)) 29 #[.int .i64 (wrap64 (a0 + b0)), .int .i64 (wrap64 (a1 + b1)), .int .i64 (wrap64 (a2 + b2)), .int .i64 (wrap64 (a3 + b3))]
  rw [World.size_alloc, World.size_alloc] at hbl
  have j0 := hbl.cell 0
  have j1 := hbl.cell 1
  have j2 := hbl.cell 2
  have j3 := hbl.cell 3
  refine bodyPost_ret (v := .agg #[.int .i64 (wrap64 (a0 + b0)), .int .i64 (wrap64 (a1 + b1)), .int .i64 (wrap64 (a2 + b2)), .int .i64 (wrap64 (a3 + b3))]) (by simp [results, Try.results21, go_sem, j0, j1, j2, j3]) rfl ⟨rfl, hb1.alloc hb1.size _⟩
set_option maxRecDepth 100000 in
set_option maxHeartbeats 3200000 in
theorem gflow_any (a0 a1 a2 a3 a4 a5 a6 b0 b1 b2 b3 b4 b5 b6 : Int) (w : World) : Calls Try.prog 23 #[.agg #[.int .i64 a0, .int .i64 a1, .int .i64 a2, .int .i64 a3, .int .i64 a4, .int .i64 a5, .int .i64 a6], .agg #[.int .i64 b0, .int .i64 b1, .int .i64 b2, .int .i64 b3, .int .i64 b4, .int .i64 b5, .int .i64 b6]] w fun e w' => e = .returned (.agg #[.int .i64 (wrap64 (a0 + b0)), .int .i64 (wrap64 (a1 + b1)), .int .i64 (wrap64 (a2 + b2)), .int .i64 (wrap64 (a3 + b3)), .int .i64 (wrap64 (a4 + b4)), .int .i64 (wrap64 (a5 + b5)), .int .i64 (wrap64 (a6 + b6))]) ∧ Below w.heap.size w w' := by
  have hb0 := (Below.refl w.heap.size w).alloc (Nat.le_refl _) (.cells #[.int .i64 a0, .int .i64 a1, .int .i64 a2, .int .i64 a3, .int .i64 a4, .int .i64 a5, .int .i64 a6] 31)
  have hb1 := hb0.alloc hb0.size (.cells #[.int .i64 b0, .int .i64 b1, .int .i64 b2, .int .i64 b3, .int .i64 b4, .int .i64 b5, .int .i64 b6] 31)
  go_enter Try.func23, Try.ntmps23
  go_wp2
  --E
  have hbl := Blk.new ((w.alloc (.cells #[.int .i64 a0, .int .i64 a1, .int .i64 a2, .int .i64 a3, .int .i64 a4, .int .i64 a5, .int .i64 a6] 31)).alloc (.cells #[.int .i64 b0, .int .i64 b1, .int .i64 b2, .int .i64 b3, .int .i64 b4, .int .i64 b5, .int .i64 b6] 31)) 31 #[.int .i64 (wrap64 (a0 + b0)), .int .i64 (wrap64 (a1 + b1)), .int .i64 (wrap64 (a2 + b2)), .int .i64 (wrap64 (a3 + b3)), .int .i64 (wrap64 (a4 + b4)), .int .i64 (wrap64 (a5 + b5)), .int .i64 (wrap64 (a6 + b6))]
  rw [World.size_alloc, World.size_alloc] at hbl
  have j0 := hbl.cell 0
  have j1 := hbl.cell 1
  have j2 := hbl.cell 2
  have j3 := hbl.cell 3
  have j4 := hbl.cell 4
  have j5 := hbl.cell 5
  have j6 := hbl.cell 6
  refine bodyPost_ret (v := .agg #[.int .i64 (wrap64 (a0 + b0)), .int .i64 (wrap64 (a1 + b1)), .int .i64 (wrap64 (a2 + b2)), .int .i64 (wrap64 (a3 + b3)), .int .i64 (wrap64 (a4 + b4)), .int .i64 (wrap64 (a5 + b5)), .int .i64 (wrap64 (a6 + b6))]) (by simp [results, Try.results23, go_sem, j0, j1, j2, j3, j4, j5, j6]) rfl ⟨rfl, hb1.alloc hb1.size _⟩

/-- Whether a total is kept. -/
def keptB (r : Row) (way : Int) : Bool := decide (0 ≤ way) && decide (wrap64 (wrap64 (wrap64 (wrap64 (r.fr + r.he) + r.pi) + r.sa) + way) = wrap64 (wrap64 (wrap64 (r.re + r.rt) + r.cn) - wrap64 (r.sh + r.sc)))
def totV (g : List UInt8) (r : Row) (way : Int) : Value := .agg #[.string ⟨g.toArray⟩, .int .i64 r.fr, .int .i64 r.he, .int .i64 r.pi, .int .i64 r.sa, .int .i64 r.re, .int .i64 r.rt, .int .i64 r.cn, .int .i64 r.cm, .int .i64 r.sh, .int .i64 r.sc, .int .i64 r.se, .int .i64 way]
set_option maxRecDepth 100000 in
set_option maxHeartbeats 3200000 in
theorem gkept_any (g : List UInt8) (r : Row) (way : Int) (w : World) : Calls Try.prog 15 #[totV g r way] w fun e w' => e = .returned (.bool (keptB r way)) ∧ Below w.heap.size w w' := by
  obtain ⟨fr, he, pi, sa, re, rt, cn, cm, sh, sc, se⟩ := r
  unfold totV keptB
  dsimp only
  have hb0 := (Below.refl w.heap.size w).alloc (Nat.le_refl _) (.cells #[.string ⟨g.toArray⟩, .int .i64 fr, .int .i64 he, .int .i64 pi, .int .i64 sa, .int .i64 re, .int .i64 rt, .int .i64 cn, .int .i64 cm, .int .i64 sh, .int .i64 sc, .int .i64 se, .int .i64 way] 33)
  obtain ⟨x, hx⟩ : ∃ x, wrap64 (wrap64 (wrap64 (wrap64 (fr + he) + pi) + sa) + way) = x := ⟨_, rfl⟩
  obtain ⟨y, hy⟩ : ∃ y, wrap64 (wrap64 (wrap64 (re + rt) + cn) - wrap64 (sh + sc)) = y := ⟨_, rfl⟩
  by_cases hw : 0 ≤ way
  · have hwb : decide ((0 : Int) ≤ way) = true := decide_eq_true hw
    rw [hwb]
    go_enter Try.func15, Try.ntmps15
    go_wp2
    go_ret
    exact ⟨by rw [hx, hy, Bool.true_and]; rfl, hb0⟩
  · have hwb : decide ((0 : Int) ≤ way) = false := decide_eq_false hw
    rw [hwb]
    go_enter Try.func15, Try.ntmps15
    go_wp2
    go_ret
    exact ⟨by simp, hb0⟩
/-- The values that a slice of pointers reads as. -/
structure VL (w : World) (A : Option Addr) (n : Nat) (l : List Value) : Prop where
  len : l.length = n
  at_ : ∀ (j : Nat) (x : Value), l[j]? = some x → ∃ b off, A = some ⟨b, off, none⟩ ∧ w.cell? ⟨b, off + j, none⟩ = some x
theorem VL.nil (w : World) (A : Option Addr) : VL w A 0 [] := ⟨rfl, fun j x h => by simp at h⟩
theorem VL.kept {S : Nat → Prop} {w w' : World} {A : Option Addr} {n : Nat} {l : List Value} (h : VL w A n l) (k : Keep S w w') (hs : ∀ ad, A = some ad → ¬ S ad.block) : VL w' A n l :=
  ⟨h.len, fun j x hx => by
    obtain ⟨b, off, e, h1⟩ := h.at_ j x hx
    exact ⟨b, off, e, k.cell h1 (hs ⟨b, off, none⟩ e)⟩⟩
theorem VL.below {w w' : World} {A : Option Addr} {n : Nat} {l : List Value} (h : VL w A n l) (k : Below w.heap.size w w') : VL w' A n l :=
  ⟨h.len, fun j x hx => by
    obtain ⟨b, off, e, h1⟩ := h.at_ j x hx
    exact ⟨b, off, e, (k.cell (p := ⟨b, off + j, none⟩) (World.block_lt_of_cell? _ _ h1)).trans h1⟩⟩
theorem VL.place {w : World} {A : Option Addr} {n : Nat} {l : List Value} (h : VL w A n l) {k : Nat} (hk : k < n) : ∃ b off x, A = some ⟨b, off, none⟩ ∧ l[k]? = some x ∧ w.cell? ⟨b, off + k, none⟩ = some x := by
  have hl : k < l.length := by rw [h.len]; exact hk
  obtain ⟨b, off, e, h1⟩ := h.at_ k _ (List.getElem?_eq_getElem hl)
  exact ⟨b, off, _, e, List.getElem?_eq_getElem hl, h1⟩
/-- A stock by its pointer, live or nil: what rows it has, which goods it knows. -/
structure Sk where
  v : Value
  f : List UInt8 → Row
  ks : List (List UInt8)
def SP (w : World) (x : Sk) : Prop := (x.v = .pointer none ∧ x.f = (fun _ => row0) ∧ x.ks = []) ∨ ∃ p b N, x.v = .pointer (some ⟨p, 0, none⟩) ∧ ST w p b N x.f x.ks
theorem SP.below {w w' : World} {x : Sk} (h : SP w x) (k : Below w.heap.size w w') : SP w' x := by
  rcases h with h | ⟨p, b, N, e, h⟩
  · exact .inl h
  · exact .inr ⟨p, b, N, e, h.below k⟩
theorem glev_any (w : World) {x : Sk} (h : SP w x) (g : List UInt8) (hg : g.length ≤ maxLen) : Calls Try.prog 29 #[x.v, .string ⟨g.toArray⟩] w fun e w' => e = .returned (lvV (x.f g)) ∧ Below w.heap.size w w' := by
  rcases h with ⟨e, e1, -⟩ | ⟨p, b, N, e, h⟩
  · rw [e, e1]; exact level_nil w g
  · rw [e]; exact level_any w h g hg
theorem gflo_any (w : World) {x : Sk} (h : SP w x) (g : List UInt8) (hg : g.length ≤ maxLen) : Calls Try.prog 32 #[x.v, .string ⟨g.toArray⟩] w fun e w' => e = .returned (flV (x.f g)) ∧ Below w.heap.size w w' := by
  rcases h with ⟨e, e1, -⟩ | ⟨p, b, N, e, h⟩
  · rw [e, e1]; exact flow_nil w g
  · rw [e]; exact flow_any w h g hg
end Go.Proofs.Ytipmamgmcipbfaa
