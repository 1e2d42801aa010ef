/- Parcels: Ship of ones that are, where the order is known. No condition but that they lie in memory. -/
import Derived.Test.YthccfmlfofdaeaaPcI
import Derived.Test.YthccfmlfofdaeaaPar6
import Derived.Test.YthccfmlfofdaeaaPcN
namespace Go.Proofs.Ythccfmlfofdaeaa
open Go.RowKit Go.Maps Go.Shelf Go.Sort
set_option linter.unusedVariables false
set_option linter.unusedSimpArgs false

def Fr.get (f : Fr) (r : Int) : Bool := if r = 0 then f.f0 else if r = 1 then f.f1 else if r = 2 then f.f2 else if r = 3 then f.f3 else if r = 4 then f.f4 else if r = 5 then f.f5 else if r = 6 then f.f6 else f.f7
def Fr.set (f : Fr) (r : Int) : Fr := if r = 0 then { f with f0 := true } else if r = 1 then { f with f1 := true } else if r = 2 then { f with f2 := true } else if r = 3 then { f with f3 := true } else if r = 4 then { f with f4 := true } else if r = 5 then { f with f5 := true } else if r = 6 then { f with f6 := true } else { f with f7 := true }
theorem regs {r : Int} (h0 : 0 ≤ r) (h8 : r < 8) : r = 0 ∨ r = 1 ∨ r = 2 ∨ r = 3 ∨ r = 4 ∨ r = 5 ∨ r = 6 ∨ r = 7 := by omega
theorem Fr.get_set (f : Fr) {r q : Int} (h0 : 0 ≤ r) (h8 : r < 8) (g0 : 0 ≤ q) (g8 : q < 8) : (f.set r).get q = if q = r then true else f.get q := by
  rcases regs h0 h8 with rfl | rfl | rfl | rfl | rfl | rfl | rfl | rfl <;> rcases regs g0 g8 with rfl | rfl | rfl | rfl | rfl | rfl | rfl | rfl <;> rfl
/-- The cells behind Ship's closure. -/
def shipCs (r : Rec) (rg : Int) (v : Value) : Array Value := #[.int .i64 r.o, r.w.v, v, r.b.v, .bool (r.f.set rg).f0, .bool (r.f.set rg).f1, .bool (r.f.set rg).f2, .bool (r.f.set rg).f3, .bool (r.f.set rg).f4, .bool (r.f.set rg).f5, .bool (r.f.set rg).f6, .bool (r.f.set rg).f7]
theorem ship1_any {w : World} {rb g g' : Nat} (r : Rec) (rg : Int) (h0 : 0 ≤ rg) (h8 : rg < 8) (A : Option Addr) (n c : Nat) (ll : List It) (hB : Blk w rb 55 r.cs.toArray) (hg : w.cell? ⟨g, 0, none⟩ = some (.int .i64 rg)) (hg' : w.cell? ⟨g', 0, none⟩ = some (.slice A n c)) (hn1 : g ≠ rb) (hn2 : g' ≠ rb) (hs : IL w r.s.A r.s.n r.s.l) (hl : IL w A n ll) (hw : IL w r.w.A r.w.n r.w.l)
    (hsb : ∀ ad, r.s.A = some ad → 0 < r.s.n → ad.block ≠ rb) (hlb : ∀ ad, A = some ad → 0 < n → ad.block ≠ rb) (hwb : ∀ ad, r.w.A = some ad → 0 < r.w.n → ad.block ≠ rb) (hns : r.s.n ≤ 500000) (hnl : n ≤ 500000) (hnw : r.w.n ≤ 500000) (hW : WL r.s.l) (hW2 : WL ll) (hwp : plusE r.s.l ll = 0 → WL (plusR r.s.l ll)) (hfew : (plusR r.s.l ll).length ≤ 500000) :
    Calls Try.prog 22 #[.pointer (some ⟨rb, 0, none⟩), .pointer (some ⟨g, 0, none⟩), .pointer (some ⟨g', 0, none⟩)] w fun e w' => ∃ x, e = .returned (.int .i64 x) ∧ ((r.f.get rg = true ∧ x = 5 ∧ Below w.heap.size w w') ∨ (r.f.get rg = false ∧ Shipped w.heap.size w w' rb (shipCs r rg) r.s.l ll r.w.l x)) := by
  obtain ⟨o, ⟨wA, wn, wc, wl⟩, ⟨sA, sn, sc, sl⟩, ⟨bA, bn, bc, bl⟩, ⟨f0, f1, f2, f3, f4, f5, f6, f7⟩⟩ := r
  rcases regs h0 h8 with rfl | rfl | rfl | rfl | rfl | rfl | rfl | rfl
  · exact ship1_0 o wA sA bA A wn wc sn sc bn bc n c f0 f1 f2 f3 f4 f5 f6 f7 wl sl ll hB hg hg' hn1 hn2 hs hl hw hsb hlb hwb hns hnl hnw hW hW2 hwp hfew
  · exact ship1_1 o wA sA bA A wn wc sn sc bn bc n c f0 f1 f2 f3 f4 f5 f6 f7 wl sl ll hB hg hg' hn1 hn2 hs hl hw hsb hlb hwb hns hnl hnw hW hW2 hwp hfew
  · exact ship1_2 o wA sA bA A wn wc sn sc bn bc n c f0 f1 f2 f3 f4 f5 f6 f7 wl sl ll hB hg hg' hn1 hn2 hs hl hw hsb hlb hwb hns hnl hnw hW hW2 hwp hfew
  · exact ship1_3 o wA sA bA A wn wc sn sc bn bc n c f0 f1 f2 f3 f4 f5 f6 f7 wl sl ll hB hg hg' hn1 hn2 hs hl hw hsb hlb hwb hns hnl hnw hW hW2 hwp hfew
  · exact ship1_4 o wA sA bA A wn wc sn sc bn bc n c f0 f1 f2 f3 f4 f5 f6 f7 wl sl ll hB hg hg' hn1 hn2 hs hl hw hsb hlb hwb hns hnl hnw hW hW2 hwp hfew
  · exact ship1_5 o wA sA bA A wn wc sn sc bn bc n c f0 f1 f2 f3 f4 f5 f6 f7 wl sl ll hB hg hg' hn1 hn2 hs hl hw hsb hlb hwb hns hnl hnw hW hW2 hwp hfew
  · exact ship1_6 o wA sA bA A wn wc sn sc bn bc n c f0 f1 f2 f3 f4 f5 f6 f7 wl sl ll hB hg hg' hn1 hn2 hs hl hw hsb hlb hwb hns hnl hnw hW hW2 hwp hfew
  · exact ship1_7 o wA sA bA A wn wc sn sc bn bc n c f0 f1 f2 f3 f4 f5 f6 f7 wl sl ll hB hg hg' hn1 hn2 hs hl hw hsb hlb hwb hns hnl hnw hW hW2 hwp hfew

/-- What becomes of Ship. -/
structure ShipTo (sl wl ll : List It) (was : Bool) (x : Int) : Prop where
  twice : was = true → x = 5
  over : was = false → ¬ (plusE sl ll = 0 ∧ coversL wl (plusR sl ll) = true) → x = 50
  ok : was = false → (plusE sl ll = 0 ∧ coversL wl (plusR sl ll) = true) → x = 0
def shipRec (r : Rec) (rg : Int) (s : Ls) : Rec := ⟨r.o, r.w, s, r.b, r.f.set rg⟩
theorem shipCs_rec (r : Rec) (rg : Int) (s : Ls) : shipCs r rg s.v = (shipRec r rg s).cs.toArray := rfl
theorem my_wl {l : List It} (h : MY l) : WL l := fun x hx => by
  have h1 := h.num x hx
  have h2 := h.good x hx
  refine ⟨?_, by simp [Lit.wf, IntKind.min, IntKind.max, IntKind.signed, IntKind.bits]; omega⟩
  unfold gOK at h2
  simp only [Bool.and_eq_true, decide_eq_true_eq] at h2
  have h3 := h2.1.2
  unfold maxLen
  omega
theorem plusR_few {a b : List It} (ha : MY a) (hb : MY b) : (plusR a b).length ≤ 500000 := by
  by_cases h : plusE a b = 0
  · have := (plus_ok ha hb h).1.len
    omega
  · rw [plusR_norm ha hb]
    rw [plusE_norm ha hb] at h
    unfold normR
    split
    · next e => exact absurd e h
    · exact Nat.zero_le _
abbrev ShipPhi (r0 : Rec) (rg : Int) (l : List It) (x : Int) (r : Rec) : Prop :=
  ShipTo r0.s.l r0.w.l l (r0.f.get rg) x ∧ (x = 0 → r0.f.get rg = false ∧ plusE r0.s.l l = 0 ∧ coversL r0.w.l (plusR r0.s.l l) = true ∧ ∃ s : Ls, s.l = plusR r0.s.l l ∧ r = shipRec r0 rg s)
set_option maxRecDepth 100000 in
set_option maxHeartbeats 3200000 in
theorem ship_any {F : Nat → Prop} {w : World} {p b N : Nat} {f : Int → Rec} {ks : List Int} (h : PS F w p b N f ks) (hN : N < maxLen) (k rg : Int) (hkw : (Lit.int .i64 k).wf = true) (hks : k ∈ ks) (h0 : 0 ≤ rg) (h8 : rg < 8) (A : Option Addr) (c : Nat) (l : List It) (hil : IL w A l.length l) (hlit : WL l) (hmay : mayL l = true) :
    Calls Try.prog 10 #[.pointer (some ⟨p, 0, none⟩), .int .i64 k, .int .i64 rg, .slice A l.length c] w fun e w' => ∃ x, e = .returned (.int .i64 x) ∧ ShipTo (f k).s.l (f k).w.l l ((f k).f.get rg) x ∧ Keep (fun i => i = b) w w' ∧
      ((x = 0 ∧ (f k).f.get rg = false ∧ plusE (f k).s.l l = 0 ∧ coversL (f k).w.l (plusR (f k).s.l l) = true ∧ ∃ s : Ls, s.l = plusR (f k).s.l l ∧ PS (fun k => F k ∨ w.heap.size ≤ k) w' p b (N + 1) (fun i => if i = k then shipRec (f k) rg s else f i) (addK ks k)) ∨ (x ≠ 0 ∧ PS (fun k => F k ∨ w.heap.size ≤ k) w' p b N f ks)) := by
  have hrc := h.ok k hks
  have hlt := h.lt
  have hm1 := MY.of_ hrc.s_.may
  have hm2 := MY.of_ hmay
  have hsfew := hrc.s_.few
  have hwfew := hrc.w_.few
  have hlfew := hm2.len
  have hsn := hrc.s_.il.len
  have hwn := hrc.w_.il.len
  have hpw : plusE (f k).s.l l = 0 → MY (plusR (f k).s.l l) := fun e => (plus_ok hm1 hm2 e).1
  have hpf : (plusR (f k).s.l l).length ≤ 500000 := plusR_few hm1 hm2
  have hb2 := ((Below.refl w.heap.size w).alloc (Nat.le_refl _) (.cells #[.int .i64 rg] 3)).alloc (by simp) (.cells #[.slice A l.length c] 27)
  have e1 := (Blk.new w 3 #[.int .i64 rg]).alloc (.cells #[.slice A l.length c] 27)
  have e2 := Blk.new (w.alloc (.cells #[.int .i64 rg] 3)) 27 #[.slice A l.length c]
  rw [World.size_alloc] at e2
  have hz2 : ((w.alloc (.cells #[.int .i64 rg] 3)).alloc (.cells #[.slice A l.length c] 27)).heap.size = w.heap.size + 2 := by simp
  have hP2 := h.below hb2
  have hil2 := hil.below hb2
  have HZ := Lib.hid hz2
  clear hz2
  have call : ∀ w2 : World, w2 = (w.alloc (.cells #[.int .i64 rg] 3)).alloc (.cells #[.slice A l.length c] 27) → Calls Try.prog 21 #[.pointer (some ⟨p, 0, none⟩), .int .i64 k, .slice A l.length c, .func (.func 22) #[] #[.pointer (some ⟨w.heap.size, 0, none⟩), .pointer (some ⟨w.heap.size + 1, 0, none⟩)]] w2 fun e w' => ∃ x r, e = .returned (.int .i64 x) ∧ ShipPhi (f k) rg l x r ∧ Keep (fun i => i = b) w2 w' ∧ ((x = 0 ∧ PS (fun k => F k ∨ w2.heap.size ≤ k) w' p b (N + 1) (fun i => if i = k then r else f i) (addK ks k)) ∨ (x ≠ 0 ∧ PS (fun k => F k ∨ w2.heap.size ≤ k) w' p b N f ks)) := by
    rintro w2 rfl
    refine change_any hP2 hN k hkw hks A c l hil2 (by omega) hmay 22 #[.pointer (some ⟨w.heap.size, 0, none⟩), .pointer (some ⟨w.heap.size + 1, 0, none⟩)] (ShipPhi (f k) rg l) (enters_of Try.func22 (by kernel_rfl) rfl) (fun W hbW hBW => ?_)
    have hrW := (hrc.below hb2).below hbW
    have hlW := hil2.below hbW
    have hz := hbW.size
    have hrb := hBW.lt
    rw [HZ.out] at hbW hBW hz hrb ⊢
    have g1 := e1.kept (Keep.of_below hbW) (by omega)
    have g2 := e2.kept (Keep.of_below hbW) (by omega)
    have c1 := g1.cell 0
    have c2 := g2.cell 0
    simp at c1 c2
    refine (ship1_any (f k) rg h0 h8 A l.length c l hBW c1 c2 (by omega) (by omega) hrW.s_.il hlW hrW.w_.il (fun ad e hn => by have := hrc.s_.il.lt ad e hn; omega) (fun ad e hn => by have := hil.lt ad e hn; omega) (fun ad e hn => by have := hrc.w_.il.lt ad e hn; omega) (by omega) (by omega) (by omega) hrc.s_.lit hlit (fun e => my_wl (hpw e)) hpf).mono ?_
    rintro e W' ⟨x, rfl, hx⟩
    rcases hx with ⟨hg, rfl, hb5⟩ | ⟨hg, hk5, ⟨rfl, hpe, hcv, v, hO, hBl⟩ | ⟨rfl, hno⟩⟩
    · exact ⟨5, f k, rfl, Keep.ofB hb5, ⟨⟨fun _ => rfl, fun e => (by rw [hg] at e; cases e), fun e => (by rw [hg] at e; cases e)⟩, fun e => absurd e (by decide)⟩, fun e => absurd e (by decide)⟩
    · obtain ⟨A', c', rfl, hcap, hm, hil', hal⟩ := hO.form
      have hmy := hpw hpe
      refine ⟨0, shipRec (f k) rg ⟨A', (plusR (f k).s.l l).length, c', plusR (f k).s.l l⟩, rfl, hk5, ⟨⟨fun e => (by rw [hg] at e; cases e), fun _ hn => absurd ⟨hpe, hcv⟩ hn, fun _ _ => rfl⟩, fun _ => ⟨hg, hpe, hcv, _, rfl, rfl⟩⟩, fun _ => ⟨hBl, ⟨?_, ?_, ?_⟩⟩⟩
      · exact ⟨hrW.w_.il.kept hk5 (fun ad e hn => by have := hrc.w_.il.lt ad e hn; omega), hrW.w_.cap, hrW.w_.few, hrW.w_.may, hrW.w_.lit, fun ad e hn => ⟨.inl (hrW.w_.lies ad e hn).1, (hrW.w_.lies ad e hn).2⟩⟩
      · exact ⟨hil', hcap, hmy.len, hmy.may, my_wl hmy, fun ad e hn => by have h1 := (hal ad e).1; exact ⟨.inr (by omega), by omega, by omega⟩⟩
      · exact ⟨hrW.b_.il.kept hk5 (fun ad e hn => by have := hrc.b_.il.lt ad e hn; omega), hrW.b_.cap, hrW.b_.few, hrW.b_.may, hrW.b_.lit, fun ad e hn => ⟨.inl (hrW.b_.lies ad e hn).1, (hrW.b_.lies ad e hn).2⟩⟩
    · exact ⟨50, f k, rfl, hk5, ⟨⟨fun e => (by rw [hg] at e; cases e), fun _ _ => rfl, fun _ e => absurd e hno⟩, fun e => absurd e (by decide)⟩, fun e => absurd e (by decide)⟩
  have n0 : ¬ rg < 0 := by omega
  have n8 : ¬ (8 : Int) ≤ rg := by omega
  clear e1 e2 hpw hpf hm1 hm2 hsfew hwfew hlfew hsn hwn hlt hil2 h0 h8
  go_enter Try.func10, Try.ntmps10
  go_wp2_with fail
  refine (call _ rfl).mono ?_
  rintro e w' ⟨x, r, rfl, ⟨hst, hx0⟩, hk, hP⟩
  rw [HZ.out] at hP
  clear call
  go_wp2
  go_ret
  refine ⟨x, rfl, hst, (Keep.ofB (S := fun i => i = b) hb2).trans hk (fun i hi e => e), ?_⟩
  rcases hP with ⟨rfl, hP⟩ | ⟨hne, hP⟩
  · obtain ⟨hg, hpe, hcv, s, hs, rfl⟩ := hx0 rfl
    exact .inl ⟨rfl, hg, hpe, hcv, s, hs, hP.mono (fun i _ e => e.elim .inl (fun e => .inr (by omega)))⟩
  · exact .inr ⟨hne, hP.mono (fun i _ e => e.elim .inl (fun e => .inr (by omega)))⟩
end Go.Proofs.Ythccfmlfofdaeaa
