/- What a list of calls (Op) reads as, when it comes in. No condition. -/
import Derived.Test.YtdelbddgaekkaaaRef
import Derived.Deep.Slices
namespace Go.Proofs.Ytdelbddgaekkaaa
open Go.RowKit
set_option linter.unusedVariables false

structure OpV where
  k : Int
  n : Int
  le : Int
  mo : Int
  s : ByteArray

def opOk (o : OpV) : Prop := -9223372036854775808 ≤ o.n ∧ o.n ≤ 9223372036854775807 ∧ o.s.size ≤ 140737488351232

/-- The five cells of a call, at off in block b. -/
def OpAt (w : World) (b off : Nat) (o : OpV) : Prop :=
  w.cell? ⟨b, off, none⟩ = some (.int .i64 o.k) ∧ w.cell? ⟨b, off + 1, none⟩ = some (.int .i64 o.n) ∧ w.cell? ⟨b, off + 2, none⟩ = some (.string o.s) ∧
    w.cell? ⟨b, off + 3, none⟩ = some (.int .i64 o.le) ∧ w.cell? ⟨b, off + 4, none⟩ = some (.int .i64 o.mo)

/-- The slice reads as these calls. -/
def OPS (w : World) (A : Option Addr) (len : Nat) (f : Nat → OpV) : Prop :=
  (∀ i, i < len → opOk (f i)) ∧ (0 < len → ∃ b off, A = some ⟨b, off, none⟩ ∧ b < w.heap.size ∧ ∀ i, i < len → OpAt w b (off + i * 5) (f i))

theorem OpAt.below {w w' : World} {b off B : Nat} {o : OpV} (h : OpAt w b off o) (hb : Below B w w') (hlt : b < B) : OpAt w' b off o := by
  obtain ⟨h0, h1, h2, h3, h4⟩ := h
  exact ⟨(hb.cell (p := ⟨b, off, none⟩) hlt).trans h0, (hb.cell (p := ⟨b, off + 1, none⟩) hlt).trans h1, (hb.cell (p := ⟨b, off + 2, none⟩) hlt).trans h2, (hb.cell (p := ⟨b, off + 3, none⟩) hlt).trans h3, (hb.cell (p := ⟨b, off + 4, none⟩) hlt).trans h4⟩

theorem mem_weightsAll {H : Type} {P : Program} {e : TypeId} {d : DataW H} {n : Nat} : ∀ {l : List (DataW H)}, d ∈ l → n ∈ d.weights P e → n ∈ DataW.weightsAll P e l
  | a :: l, hd, hn => by
    unfold DataW.weightsAll
    rw [List.mem_append]
    rcases List.mem_cons.1 hd with rfl | hd
    · exact .inl hn
    · exact .inr (mem_weightsAll hd hn)

open Go.ChangeShapes Go.WideShapes in
theorem ops_open {H : Type} {enc : TypeId × Value → H} {W : World} {a : Option Addr} {len cap : Nat} {d : DataW H} {p : List MemPlace} {ts : List TypeId} {ds : List (DataW H)} {j : Nat}
    (h : DataW.Trod enc Try.prog W 0 (fun _ => true) true 33 (.slice a len cap) d p)
    (hsz : (DataW.weightsEach Try.prog ts ds).all (· ≤ reachBytes) = true) (ht : ts[j]? = some 33) (hd : ds[j]? = some d) :
    ∃ f, OPS W a len f ∧ len ≤ cap ∧ cap ≤ 9223372036854775807 := by
  obtain ⟨fuel, hf⟩ := h
  rcases Go.Deep.open_slice Try.underlying33 hf with ⟨hcs, hx⟩ | ⟨x, l, c, m, n, D, Pl, hcs, _, hl, hm, hmm, hx, hi⟩
  · simp [Value.cells] at hcs
    obtain ⟨rfl, rfl, rfl⟩ := hcs
    exact ⟨fun _ => ⟨0, 0, 0, 0, ⟨#[]⟩⟩, ⟨fun i hi => absurd hi (by omega), fun hn => absurd hn (by omega)⟩, Nat.le_refl _, by omega⟩
  · simp [Value.cells] at hcs
    obtain ⟨rfl, rfl, rfl⟩ := hcs
    simp at hmm
    subst hmm
    rw [cells_op] at hi
    simp only [Prod.mk.injEq] at hx
    obtain ⟨b, off, spot⟩ := x
    by_cases hpos : 0 < len
    · have hspot : spot = none := by
        obtain ⟨cs', hc, _⟩ := hi 0 (by omega)
        obtain ⟨_, hlen, hat⟩ := World.cells?_some hc
        have h0 := hat 0 (by omega)
        rw [List.getElem?_eq_getElem (by omega)] at h0
        have := World.cell?_spot h0
        simpa [Addr.add] using this
      subst hspot
      have key : ∀ i, ∃ o : OpV, i < len → opOk o ∧ OpAt W b (off + i * 5) o := by
        intro i
        by_cases hil : i < len
        · obtain ⟨cs', hc, ht'⟩ := hi i (by omega)
          obtain ⟨_, hlen, hat⟩ := World.cells?_some hc
          match cs', hlen with
          | [c0, c1, c2, c3, c4], _ =>
            obtain ⟨k, n', le, mo, s, q, rfl, rfl, rfl, rfl, rfl, hs, _, wn, _, _, hxx⟩ := op_cells ht'
            have h0 := hat 0 (by omega)
            have h1 := hat 1 (by omega)
            have h2 := hat 2 (by omega)
            have h3 := hat 3 (by omega)
            have h4 := hat 4 (by omega)
            simp only [Addr.add_lit, Nat.add_zero, List.getElem?_cons_zero, List.getElem?_cons_succ] at h0 h1 h2 h3 h4
            simp only [Prod.mk.injEq] at hxx
            refine ⟨⟨k, n', le, mo, s⟩, fun _ => ⟨⟨(wf_int wn).1, (wf_int wn).2, ?_⟩, h0, h1, h2, h3, h4⟩⟩
            have hmem : s.data.toList.length ∈ DataW.weightsEach Try.prog ts ds := by
              refine DataW.weights_mem_each ht hd _ ?_
              rw [hx.1]
              unfold DataW.weights
              rw [Try.underlying33]
              simp only [List.mem_cons, List.mem_append]
              refine .inr (.inl (mem_weightsAll (d := D i) (List.mem_map.2 ⟨i, List.mem_range.2 hil, rfl⟩) ?_))
              rw [hxx.1]
              unfold DataW.weights
              rw [Try.underlying40]
              simp [DataW.weightsEach, DataW.weights]
            have h5 := List.all_eq_true.1 hsz _ hmem
            simp [reachBytes] at h5
            exact of_decide_eq_true h5
        · exact ⟨⟨0, 0, 0, 0, ⟨#[]⟩⟩, fun h => absurd h hil⟩
      refine ⟨fun i => (key i).choose, ⟨fun i hil => ((key i).choose_spec hil).1, fun _ => ⟨b, off, rfl, ?_, fun i hil => ((key i).choose_spec hil).2⟩⟩, hl, by unfold maxLen at hm; omega⟩
      exact World.block_lt_of_cell? _ _ ((key 0).choose_spec hpos).2.1
    · exact ⟨fun _ => ⟨0, 0, 0, 0, ⟨#[]⟩⟩, ⟨fun i hi => absurd hi (by omega), fun hn => absurd hn hpos⟩, hl, by unfold maxLen at hm; omega⟩
end Go.Proofs.Ytdelbddgaekkaaa
