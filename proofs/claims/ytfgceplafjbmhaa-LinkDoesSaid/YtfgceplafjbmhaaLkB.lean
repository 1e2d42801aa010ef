/- What the laws' rows of links take of bytes, a packet, a call of an end that came in. No condition. -/
import Derived.Test.YtfgceplafjbmhaaLkL
import Derived.ProofKit
import Derived.OpenShut
import Derived.ShutString
import Derived.ChangeOld
import Derived.ChangeArms
import Derived.SizedLaws
import Derived.Deep.Slices
namespace Go.Proofs.Ytfgceplafjbmhaa
open Go.RowKit
set_option linter.unusedVariables false

theorem own : ownKnob Try.prog.godebug = none := by kernel_rfl
theorem laidOut : laidOutB Try.prog = true := by kernel_rfl
theorem bytes_u8 : Try.prog.bytesOf 5 = 1 := by kernel_rfl

def toBytes (zs : List Int) : List UInt8 := zs.map fun z => UInt8.ofNat z.toNat

theorem wf_u8 {z : Int} (h : (Lit.int .u8 z).wf = true) : 0 ≤ z ∧ z < 256 := by
  simp [Lit.wf, IntKind.min, IntKind.max, IntKind.signed, IntKind.bits] at h
  omega

open Go.ChangeShapes Go.WideShapes in
theorem bytes_open {H : Type} {enc : TypeId × Value → H} {W : World} {a : Option Addr} {len cap : Nat} {d : DataW H} {p : List MemPlace}
    (h : DataW.Trod enc Try.prog W 0 (fun _ => true) true 30 (.slice a len cap) d p) :
    ∃ l, RB W a len l ∧ len ≤ cap ∧ cap ≤ 9223372036854775807 ∧ ((d = .nil ∧ cap = 0) ∨ ∃ es sp, d = .slice es sp ∧ es.length + sp.length = cap) := by
  obtain ⟨fuel, hf⟩ := h
  rcases open_ints Try.underlying30 Try.underlying5 (by kernel_rfl) hf with ⟨hcs, hx⟩ | ⟨x, l, c, zs, hcs, _, hl, hm, hz, hx, hcell, hwz⟩
  · simp [Value.cells] at hcs
    obtain ⟨rfl, rfl, rfl⟩ := hcs
    simp only [Prod.mk.injEq] at hx
    exact ⟨[], RB.nil _ _, Nat.le_refl _, by omega, .inl ⟨hx.1, rfl⟩⟩
  · simp [Value.cells] at hcs
    obtain ⟨rfl, rfl, rfl⟩ := hcs
    simp at hz
    simp only [Prod.mk.injEq] at hx
    have hget : ∀ i, i < zs.length → zs.getD i 0 ∈ zs := fun i hi => by
      simp [List.getD, List.getElem?_eq_getElem hi]
    refine ⟨toBytes (zs.take len), ⟨by simp [toBytes]; omega, fun hn => ?_⟩, hl, by unfold maxLen at hm; omega, .inr ⟨_, _, hx.1, by simp [lits]; omega⟩⟩
    obtain ⟨b, off, spot⟩ := x
    have hspot : spot = none := by
      have := World.cell?_spot (hcell 0 (by omega))
      simpa [Addr.add] using this
    subst hspot
    refine ⟨b, off, rfl, fun j y hy => ?_⟩
    have hj : j < len := by
      have := (List.getElem?_eq_some_iff.1 hy).1
      simp [toBytes] at this
      omega
    have hc := hcell j (by omega)
    rw [Addr.add_lit] at hc
    rw [hc]
    have hw := wf_u8 (hwz _ (hget j (by omega)))
    rw [toBytes, List.getElem?_map, List.getElem?_take_of_lt hj, List.getElem?_eq_getElem (by omega)] at hy
    simp only [List.getD, List.getElem?_eq_getElem (show j < zs.length by omega), Option.getD_some] at hw ⊢
    simp at hy
    subst hy
    unfold bv
    congr 2
    simp
    omega
theorem wf_int {a : Int} (h : (Lit.int .i64 a).wf = true) : -9223372036854775808 ≤ a ∧ a ≤ 9223372036854775807 := by
  simpa [Lit.wf, IntKind.min, IntKind.max, IntKind.signed, IntKind.bits] using h


theorem cells_int : Try.prog.cellsOf 3 = 1 := by kernel_rfl
theorem cells_bytes : Try.prog.cellsOf 30 = 1 := by kernel_rfl
theorem cells_pk : Try.prog.cellsOf 32 = 3 := by kernel_rfl
theorem cells_op : Try.prog.cellsOf 34 = 5 := by kernel_rfl
/-- What a packet that came in reads as. -/
structure PkAt (w : World) (p : Pk) (A : Option Addr) (c : Nat) : Prop where
  rb : RB w A p.body.length p.body
  cap : p.body.length ≤ c ∧ c ≤ 9223372036854775807
  ws : (Lit.int .i64 p.seq).wf = true
  wa : (Lit.int .i64 p.ack).wf = true
theorem PkAt.below {w w' : World} {p : Pk} {A : Option Addr} {c : Nat} (h : PkAt w p A c) (hb : Below w.heap.size w w') : PkAt w' p A c := ⟨h.rb.below hb, h.cap, h.ws, h.wa⟩
set_option maxRecDepth 100000 in
open Go.ChangeShapes Go.WideShapes in
theorem pk_cells {H : Type} {enc : TypeId × Value → H} {w : World} {fuel : Nat} {c0 c1 c2 : Value} {x : DataW H × List MemPlace}
    (h : DataW.trod enc Try.prog w 0 (fun _ => true) true fuel 32 [c0, c1, c2] = some x) :
    ∃ (p : Pk) (A : Option Addr) (c : Nat), c0 = .int .i64 p.seq ∧ c1 = .int .i64 p.ack ∧ c2 = .slice A p.body.length c ∧ PkAt w p A c := by
  obtain ⟨xs, m, _, hx, _, hlen, hg⟩ := DataW.trod_struct Try.underlying32 h
  have h0 : DataW.trod enc Try.prog w 0 (fun _ => true) true m 3 (([c0, c1, c2].drop 0).take (Try.prog.cellsOf 3)) = xs[0]? := hg 0 _ rfl
  have h1 : DataW.trod enc Try.prog w 0 (fun _ => true) true m 3 (([c0, c1, c2].drop 1).take (Try.prog.cellsOf 3)) = xs[1]? := hg 1 _ rfl
  have h2 : DataW.trod enc Try.prog w 0 (fun _ => true) true m 30 (([c0, c1, c2].drop 2).take (Try.prog.cellsOf 30)) = xs[2]? := hg 2 _ rfl
  match xs, hlen with
  | [y0, y1, y2], _ =>
    rw [cells_int] at h0 h1
    rw [cells_bytes] at h2
    simp at h0 h1 h2
    obtain ⟨s, e0, x0, w0⟩ := DataW.trod_int Try.underlying3 h0
    obtain ⟨a, e1, x1, w1⟩ := DataW.trod_int Try.underlying3 h1
    simp only [List.cons.injEq, and_true] at e0 e1
    have key : ∃ (A : Option Addr) (len cap : Nat), c2 = .slice A len cap := by
      rcases DataW.trod_slice Try.underlying30 h2 with ⟨hcs, _⟩ | ⟨a, len, cap, _, _, _, _, hcs, _⟩
      · simp only [List.cons.injEq, and_true] at hcs
        exact ⟨none, 0, 0, hcs⟩
      · simp only [List.cons.injEq, and_true] at hcs
        exact ⟨some a, len, cap, hcs⟩
    obtain ⟨A, len, cap, rfl⟩ := key
    obtain ⟨l, hrb, hlc, hcm, _⟩ := bytes_open (d := y2.1) (p := y2.2) ⟨m, by simpa [Value.cells] using h2⟩
    have hln := hrb.1
    subst hln
    exact ⟨⟨s, a, l⟩, A, cap, e0, e1, rfl, hrb, ⟨hlc, hcm⟩, w0, w1⟩
set_option maxRecDepth 100000 in
open Go.ChangeShapes Go.WideShapes in
theorem pk_open {H : Type} {enc : TypeId × Value → H} {w : World} {r : Reach} {b0 : Nat} {v : Value} {d : DataW H} {p : List MemPlace}
    (hv : Value.okWide Try.prog w r b0 32 v) (h : DataW.Trod enc Try.prog w 0 (fun _ => true) true 32 v d p) :
    ∃ (q : Pk) (A : Option Addr) (c : Nat), v = .agg #[.int .i64 q.seq, .int .i64 q.ack, .slice A q.body.length c] ∧ PkAt w q A c := by
  obtain ⟨cs, rfl, hsz⟩ := okWide_struct Try.underlying32 hv
  rw [cells_pk] at hsz
  obtain ⟨l⟩ := cs
  match l, hsz with
  | [c0, c1, c2], _ =>
    obtain ⟨fuel, hf⟩ := h
    obtain ⟨q, A, c, rfl, rfl, rfl, h1⟩ := pk_cells (by simpa [Value.cells] using hf)
    exact ⟨q, A, c, rfl, h1⟩
/-- A call of an end. -/
structure OpL where
  k : Int
  now : Int
  p : Pk
structure OpLAt (w : World) (o : OpL) (A : Option Addr) (c : Nat) : Prop where
  pk : PkAt w o.p A c
  wn : (Lit.int .i64 o.now).wf = true
theorem OpLAt.below {w w' : World} {o : OpL} {A : Option Addr} {c : Nat} (h : OpLAt w o A c) (hb : Below w.heap.size w w') : OpLAt w' o A c := ⟨h.pk.below hb, h.wn⟩
set_option maxRecDepth 100000 in
open Go.ChangeShapes Go.WideShapes in
theorem opl_cells {H : Type} {enc : TypeId × Value → H} {w : World} {fuel : Nat} {c0 c1 c2 c3 c4 : Value} {x : DataW H × List MemPlace}
    (h : DataW.trod enc Try.prog w 0 (fun _ => true) true fuel 34 [c0, c1, c2, c3, c4] = some x) :
    ∃ (o : OpL) (A : Option Addr) (c : Nat), c0 = .int .i64 o.k ∧ c1 = .int .i64 o.now ∧ c2 = .int .i64 o.p.seq ∧ c3 = .int .i64 o.p.ack ∧ c4 = .slice A o.p.body.length c ∧ OpLAt w o A c := by
  obtain ⟨xs, m, _, hx, _, hlen, hg⟩ := DataW.trod_struct Try.underlying34 h
  have h0 : DataW.trod enc Try.prog w 0 (fun _ => true) true m 3 (([c0, c1, c2, c3, c4].drop 0).take (Try.prog.cellsOf 3)) = xs[0]? := hg 0 _ rfl
  have h1 : DataW.trod enc Try.prog w 0 (fun _ => true) true m 3 (([c0, c1, c2, c3, c4].drop 1).take (Try.prog.cellsOf 3)) = xs[1]? := hg 1 _ rfl
  have h2 : DataW.trod enc Try.prog w 0 (fun _ => true) true m 32 (([c0, c1, c2, c3, c4].drop 2).take (Try.prog.cellsOf 32)) = xs[2]? := hg 2 _ rfl
  match xs, hlen with
  | [y0, y1, y2], _ =>
    rw [cells_int] at h0 h1
    rw [cells_pk] at h2
    simp at h0 h1 h2
    obtain ⟨k, e0, x0, w0⟩ := DataW.trod_int Try.underlying3 h0
    obtain ⟨n, e1, x1, w1⟩ := DataW.trod_int Try.underlying3 h1
    simp only [List.cons.injEq, and_true] at e0 e1
    obtain ⟨p, A, c, rfl, rfl, rfl, hp⟩ := pk_cells h2
    exact ⟨⟨k, n, p⟩, A, c, e0, e1, rfl, rfl, rfl, hp, w1⟩
set_option maxRecDepth 100000 in
open Go.ChangeShapes Go.WideShapes in
theorem opl_open {H : Type} {enc : TypeId × Value → H} {w : World} {r : Reach} {b0 : Nat} {v : Value} {d : DataW H} {p : List MemPlace}
    (hv : Value.okWide Try.prog w r b0 34 v) (h : DataW.Trod enc Try.prog w 0 (fun _ => true) true 34 v d p) :
    ∃ (o : OpL) (A : Option Addr) (c : Nat), v = .agg #[.int .i64 o.k, .int .i64 o.now, .int .i64 o.p.seq, .int .i64 o.p.ack, .slice A o.p.body.length c] ∧ OpLAt w o A c := by
  obtain ⟨cs, rfl, hsz⟩ := okWide_struct Try.underlying34 hv
  rw [cells_op] at hsz
  obtain ⟨l⟩ := cs
  match l, hsz with
  | [c0, c1, c2, c3, c4], _ =>
    obtain ⟨fuel, hf⟩ := h
    obtain ⟨o, A, c, rfl, rfl, rfl, rfl, rfl, h1⟩ := opl_cells (by simpa [Value.cells] using hf)
    exact ⟨o, A, c, rfl, h1⟩

/-- Are two packets the same? -/
def sameP (p q : Pk) : Bool := decide (p.seq = q.seq) && decide (p.ack = q.ack) && decide (p.body = q.body)
theorem sameP_self (p : Pk) : sameP p p = true := by simp [sameP]
set_option maxHeartbeats 1600000 in
theorem rsame_any (p q : Pk) (A A' : Option Addr) (n c n' c' : Nat) (w : World) (h : RB w A n p.body) (h' : RB w A' n' q.body) :
    Calls Try.prog 15 #[PKV p.seq p.ack A n c, PKV q.seq q.ack A' n' c'] w fun e w' => e = .returned (.bool (sameP p q)) ∧ Below w.heap.size w w' := by
  have hb := ((Below.refl w.heap.size w).alloc (Nat.le_refl _) (.cells #[.int .i64 p.seq, .int .i64 p.ack, .slice A n c] 32)).alloc (by simp) (.cells #[.int .i64 q.seq, .int .i64 q.ack, .slice A' n' c'] 32)
  obtain ⟨s, a, x⟩ := p
  obtain ⟨s', a', y⟩ := q
  have h1 := run_str _ A n c x ((h.alloc (.cells #[.int .i64 s, .int .i64 a, .slice A n c] 32)).alloc (.cells #[.int .i64 s', .int .i64 a', .slice A' n' c'] 32))
  have h2 := run_str _ A' n' c' y ((h'.alloc (.cells #[.int .i64 s, .int .i64 a, .slice A n c] 32)).alloc (.cells #[.int .i64 s', .int .i64 a', .slice A' n' c'] 32))
  unfold sameP
  dsimp only at hb ⊢
  by_cases es : s = s'
  case neg =>
    rw [decide_eq_false es]
    have bs : (s == s') = false := beq_eq_false_iff_ne.2 es
    clear es
    go_enter Try.func15, Try.ntmps15
    go_wp2
    go_ret
    exact ⟨by simp, hb⟩
  rw [decide_eq_true es]
  have bs : (s == s') = true := beq_iff_eq.2 es
  clear es
  by_cases ea : a = a'
  case neg =>
    rw [decide_eq_false ea]
    have ba : (a == a') = false := beq_eq_false_iff_ne.2 ea
    clear ea
    go_enter Try.func15, Try.ntmps15
    go_wp2
    go_ret
    exact ⟨by simp, hb⟩
  rw [decide_eq_true ea]
  have ba : (a == a') = true := beq_iff_eq.2 ea
  clear ea
  by_cases ex : x = y
  case neg =>
    rw [decide_eq_false ex]
    have bx : (x == y) = false := beq_eq_false_iff_ne.2 ex
    clear ex
    go_enter Try.func15, Try.ntmps15
    go_wp2
    go_ret
    exact ⟨by simp, hb⟩
  rw [decide_eq_true ex]
  have bx : (x == y) = true := beq_iff_eq.2 ex
  clear ex
  go_enter Try.func15, Try.ntmps15
  go_wp2
  go_ret
  exact ⟨by simp, hb⟩
end Go.Proofs.Ytfgceplafjbmhaa
