/- Words for bytes in memory, used by all proofs of this seat: what a slice of bytes reads as, what a call owns, what it has kept; the appends of this program in that form. No condition. -/
import Derived.WalkKit
import Derived.WalkSpells
import Derived.BigQuiet
import Derived.Lib.AppendStr
import Derived.Lib.Hide
import Derived.Deep.QuietTactic
import Derived.Deep.Draws
import Derived.Laws.BytesArg
import Derived.Maps.AppendAt
import Derived.Laws.BitsAllLaws
import Derived.IntWalk
import Derived.Test.YtfpcnenohidfpaaGreatRows
namespace Go.Proofs.YtfpcnenohidfpaaGreat
open Go.RowKit
set_option linter.unusedVariables false

/-- A byte as a cell. -/
def bv (b : UInt8) : Value := .int .u8 (b.toNat : Int)

theorem bv_one (l : List UInt8) : ∀ u ∈ l.map bv, u.oneCell' = true := by
  intro u hu
  obtain ⟨b, _, rfl⟩ := List.mem_map.1 hu
  rfl

/-- The world has kept all old blocks but those in S. -/
structure Keep (S : Nat → Prop) (w w' : World) : Prop where
  os : w'.os = w.os
  tape : w'.tape = w.tape
  output : w'.output = w.output
  size : w.heap.size ≤ w'.heap.size
  block : ∀ k, k < w.heap.size → ¬ S k → w'.heap[k]? = w.heap[k]?

theorem Keep.refl (S : Nat → Prop) (w : World) : Keep S w w := ⟨rfl, rfl, rfl, Nat.le_refl _, fun _ _ _ => rfl⟩
theorem Keep.mono {S T : Nat → Prop} {w w' : World} (h : Keep S w w') (hs : ∀ k, k < w.heap.size → S k → T k) : Keep T w w' :=
  ⟨h.os, h.tape, h.output, h.size, fun k hk hn => h.block k hk fun hs' => hn (hs k hk hs')⟩
theorem Keep.trans {S T : Nat → Prop} {a b c : World} (h : Keep S a b) (k : Keep T b c) (hs : ∀ i, i < a.heap.size → T i → S i) : Keep S a c :=
  ⟨k.os.trans h.os, k.tape.trans h.tape, k.output.trans h.output, Nat.le_trans h.size k.size,
    fun i hi hn => (k.block i (Nat.lt_of_lt_of_le hi h.size) fun ht => hn (hs i hi ht)).trans (h.block i hi hn)⟩
theorem Keep.drew {S : Nat → Prop} {a w : World} (h : Keep S a w) : Keep S a w.drew := ⟨h.os, h.tape, h.output, h.size, h.block⟩
theorem Keep.drewN {S : Nat → Prop} {a w : World} (h : Keep S a w) (n : Nat) : Keep S a (w.drewN n) := ⟨h.os, h.tape, h.output, h.size, h.block⟩
theorem Keep.alloc {S : Nat → Prop} {a w : World} (h : Keep S a w) (o : Obj) : Keep S a (w.alloc o) :=
  ⟨h.os, h.tape, h.output, Nat.le_trans h.size (by simp), fun k hk hn => (Below.heap_alloc w o k (Nat.lt_of_lt_of_le hk h.size)).trans (h.block k hk hn)⟩
theorem Keep.setCell {S : Nat → Prop} {a w : World} (h : Keep S a w) {p : Addr} (hp : p.block < a.heap.size → S p.block) (u : Value) : Keep S a (w.setCell p u) :=
  ⟨h.os, h.tape, h.output, by simpa [World.setCell] using h.size, fun k hk hn => (Below.heap_setCell w p u k (by
    rintro rfl
    exact hn (hp hk))).trans (h.block k hk hn)⟩
theorem Keep.of_grown {w w' : World} {row : Option Nat} (h : w.grownBy w' row) : Keep (fun k => row = some k) w w' :=
  ⟨h.os, h.tape, h.output, h.size, fun k hk hn => h.block k hk fun e => hn e.symm⟩
theorem Keep.of_below {w w' : World} {B : Nat} (h : Below B w w') : Keep (fun k => B ≤ k) w w' :=
  ⟨h.os, h.tape, h.output, h.size, fun k hk hn => h.block k (by omega)⟩
theorem Keep.below {w w' : World} {S : Nat → Prop} {B : Nat} (h : Keep S w w') (hB : B ≤ w.heap.size) (hs : ∀ k, k < B → ¬ S k) : Below B w w' :=
  ⟨h.os, h.tape, h.output, h.size, fun k hk => h.block k (by omega) (hs k hk)⟩
theorem Keep.cell {S : Nat → Prop} {w w' : World} (h : Keep S w w') {p : Addr} {u : Value} (hc : w.cell? p = some u) (hp : ¬ S p.block) : w'.cell? p = some u :=
  (World.cell?_of_block (h.block p.block (World.block_lt_of_cell? w p hc) hp)).trans hc

/-- The slice value with address A and n elements reads as the bytes l. -/
def RB (w : World) (A : Option Addr) (n : Nat) (l : List UInt8) : Prop :=
  l.length = n ∧ (0 < n → ∃ b off, A = some ⟨b, off, none⟩ ∧ ∀ j x, l[j]? = some x → w.cell? ⟨b, off + j, none⟩ = some (bv x))

section
variable {w w' : World} {A : Option Addr} {n : Nat} {l : List UInt8}
theorem RB.nil (w : World) (A : Option Addr) : RB w A 0 [] := ⟨rfl, fun h => absurd h (by omega)⟩
theorem RB.len (h : RB w A n l) : l.length = n := h.1
theorem RB.kept {S : Nat → Prop} (h : RB w A n l) (k : Keep S w w') (hs : ∀ ad, A = some ad → ¬ S ad.block) : RB w' A n l :=
  ⟨h.1, fun hn => by
    obtain ⟨b, off, e, hc⟩ := h.2 hn
    exact ⟨b, off, e, fun j x hx => k.cell (hc j x hx) (hs ⟨b, off, none⟩ e)⟩⟩
theorem RB.drew (h : RB w A n l) : RB w.drew A n l := h
theorem RB.drewN (h : RB w A n l) (k : Nat) : RB (w.drewN k) A n l := h
theorem RB.alloc (h : RB w A n l) (o : Obj) : RB (w.alloc o) A n l := h.kept ((Keep.refl (fun _ => False) w).alloc o) fun _ _ => id
theorem RB.cut (h : RB w A n l) (k : Nat) (A' : Option Addr) (hk : k ≤ n) (hA : k < n → A' = A.map (·.add k)) : RB w A' (n - k) (l.drop k) := by
  refine ⟨by rw [List.length_drop, h.1], fun hn => ?_⟩
  obtain ⟨b, off, rfl, hc⟩ := h.2 (by omega)
  refine ⟨b, off + k, by rw [hA (by omega)]; simp [Addr.add_lit], fun j x hx => ?_⟩
  rw [List.getElem?_drop] at hx
  rw [Nat.add_assoc]
  exact hc _ _ hx
theorem RB.take (h : RB w A n l) (k : Nat) (hk : k ≤ n) : RB w A k (l.take k) := by
  refine ⟨by rw [List.length_take, h.1]; omega, fun hn => ?_⟩
  obtain ⟨b, off, rfl, hc⟩ := h.2 (by omega)
  refine ⟨b, off, rfl, fun j x hx => ?_⟩
  rw [List.getElem?_take] at hx
  split at hx
  · exact hc _ _ hx
  · cases hx
theorem RB.at_ (h : RB w A n l) {k : Nat} (hk : k < n) : ∃ b off x, A = some ⟨b, off, none⟩ ∧ l[k]? = some x ∧ w.cell? ⟨b, off + k, none⟩ = some (bv x) := by
  obtain ⟨b, off, e, hc⟩ := h.2 (by omega)
  have hl : k < l.length := by rw [h.1]; exact hk
  exact ⟨b, off, l[k], e, List.getElem?_eq_getElem hl, hc k _ (List.getElem?_eq_getElem hl)⟩
theorem RB.place (h : RB w A n l) (hn : 0 < n) : ∃ b off, A = some ⟨b, off, none⟩ ∧ b < w.heap.size ∧ ∀ j, j < n → ∃ x : UInt8, Hid (l[j]? = some x) ∧ w.cell? ⟨b, off + j, none⟩ = some (.int .u8 (x.toNat : Int)) := by
  obtain ⟨b, off, e, hc⟩ := h.2 hn
  have hl : ∀ j, j < n → ∃ x, l[j]? = some x := fun j hj => by
    have : j < l.length := by rw [h.1]; exact hj
    exact ⟨_, List.getElem?_eq_getElem this⟩
  refine ⟨b, off, e, ?_, fun j hj => ?_⟩
  · obtain ⟨x, hx⟩ := hl 0 hn
    exact World.block_lt_of_cell? _ _ (hc 0 _ hx)
  · obtain ⟨x, hx⟩ := hl j hj
    exact ⟨x, hx, hc j x hx⟩
theorem RB.addr (h : RB w A n l) (hn : 0 < n) : ∃ b off, A = some ⟨b, off, none⟩ ∧ b < w.heap.size ∧ ∀ j, j < n → w.cell? ⟨b, off + j, none⟩ = some (.int .u8 ((l.getD j 0).toNat : Int)) := by
  obtain ⟨b, off, e, hc⟩ := h.2 hn
  have hl : ∀ j, j < n → l[j]? = some (l.getD j 0) := fun j hj => by
    have : j < l.length := by rw [h.1]; exact hj
    simp [List.getD, List.getElem?_eq_getElem this]
  refine ⟨b, off, e, ?_, fun j hj => hc j _ (hl j hj)⟩
  exact World.block_lt_of_cell? _ _ (hc 0 _ (hl 0 hn))
end

/-- The value v owns the bytes l. -/
def OB (base : Nat) (w : World) (v : Value) (l : List UInt8) : Prop := w.ownsRow base 5 1 v l.length (l.map bv)

section
variable {base : Nat} {w w' : World} {v : Value} {l : List UInt8}
theorem OB.nil (base : Nat) (w : World) : OB base w (.slice none 0 0) [] := World.ownsRow_nil _ _ _ _
theorem OB.form (h : OB base w v l) : ∃ A cap, v = .slice A l.length cap ∧ l.length ≤ cap ∧ cap ≤ maxLen ∧ RB w A l.length l ∧ ∀ ad, A = some ad → base ≤ ad.block ∧ ad.block < w.heap.size ∧ v.ownBlock = some ad.block := by
  rcases h.2 with ⟨rfl, h0⟩ | ⟨g, cap, cur, rfl, hb, hh, hl, hm, hs, ht⟩
  · have : l = [] := List.eq_nil_of_length_eq_zero h0
    subst this
    exact ⟨none, 0, rfl, Nat.le_refl _, by simp [maxLen], RB.nil _ _, fun _ h => by cases h⟩
  · refine ⟨_, cap, rfl, hl, hm, ⟨rfl, fun hn => ⟨g, 0, rfl, fun j x hx => ?_⟩⟩, fun ad had => ?_⟩
    · have hj := World.ownsRow.cells h (g := g) rfl j (bv x) (by rw [List.getElem?_map, hx]; rfl)
      rwa [Addr.add_lit] at hj
    · cases had
      exact ⟨hb, (Array.getElem?_eq_some_iff.1 hh).1, rfl⟩
theorem OB.kept {S : Nat → Prop} (h : OB base w v l) (k : Keep S w w') (hs : ∀ g, v.ownBlock = some g → ¬ S g) : OB base w' v l := by
  refine ⟨h.1, ?_⟩
  rcases h.2 with hn | ⟨g, cap, cur, rfl, hb, hgg, rest⟩
  · exact .inl hn
  · refine .inr ⟨g, cap, cur, rfl, hb, ?_, rest⟩
    rw [k.block g (Array.getElem?_eq_some_iff.1 hgg).1 (hs g rfl)]
    exact hgg
theorem OB.alloc (h : OB base w v l) (o : Obj) : OB base (w.alloc o) v l := h.kept ((Keep.refl (fun _ => False) w).alloc o) fun _ _ => id
theorem OB.drew (h : OB base w v l) : OB base w.drew v l := h
theorem OB.drewN (h : OB base w v l) (k : Nat) : OB base (w.drewN k) v l := h
theorem OB.lt (h : OB base w v l) : ∀ k, v.ownBlock = some k → base ≤ k ∧ k < w.heap.size := World.ownsRow.lt h
theorem OB.mono {base' : Nat} (h : OB base w v l) (hb : base' ≤ base) : OB base' w v l := by
  refine ⟨h.1, ?_⟩
  rcases h.2 with hn | ⟨g, cap, cur, hv, hb', rest⟩
  · exact .inl hn
  · exact .inr ⟨g, cap, cur, hv, by omega, rest⟩
end

/-- A slice that was just built of some bytes. -/
theorem OB.built (base : Nat) (w : World) (l : List UInt8) (hb : base ≤ w.heap.size) (hl : l.length ≤ maxLen) :
    OB base (w.alloc (.cells (l.map bv).toArray 5)) (.slice (some ⟨w.heap.size, 0, none⟩) l.length l.length) l :=
  ⟨by simp, .inr ⟨w.heap.size, _, _, rfl, hb, heap_alloc_new w _, Nat.le_refl _, hl, by simp, by simpa using List.take_of_length_le (l := l.map bv) (by simp)⟩⟩
theorem OB.one_ (base : Nat) (w : World) (z : Int) (x : UInt8) (hz : z = (x.toNat : Int)) (hb : base ≤ w.heap.size) :
    OB base (w.alloc (.cells #[.int .u8 z] 5)) (.slice (some ⟨w.heap.size, 0, none⟩) 1 1) [x] := by
  subst hz
  exact OB.built base w [x] hb (by simp [maxLen])

/-- From w with the owned value v0 the world has come to wr and v, which owns l: only v0's own row and new blocks have turned, and v lies in v0's row or in a new block. -/
structure Grew (base : Nat) (w : World) (v0 : Value) (wr : World) (v : Value) (l : List UInt8) : Prop where
  own : OB base wr v l
  keep : Keep (fun k => v0.ownBlock = some k) w wr
  lies : v.ownBlock = v0.ownBlock ∨ ∃ g, v.ownBlock = some g ∧ w.heap.size ≤ g

theorem Grew.start {base : Nat} {w : World} {v : Value} {l : List UInt8} (h : OB base w v l) : Grew base w v w v l := ⟨h, Keep.refl _ _, .inl rfl⟩
theorem Grew.alloc {base : Nat} {w wr : World} {v0 v : Value} {l : List UInt8} (h : Grew base w v0 wr v l) (o : Obj) : Grew base w v0 (wr.alloc o) v l := ⟨h.own.alloc o, h.keep.alloc o, h.lies⟩
theorem Grew.drewN {base : Nat} {w wr : World} {v0 v : Value} {l : List UInt8} (h : Grew base w v0 wr v l) (n : Nat) : Grew base w v0 (wr.drewN n) v l := ⟨h.own, h.keep.drewN n, h.lies⟩
theorem Grew.trans {base : Nat} {w w1 w2 : World} {v0 v1 v2 : Value} {l l' : List UInt8} (h : Grew base w v0 w1 v1 l) (k : Grew base w1 v1 w2 v2 l') : Grew base w v0 w2 v2 l' := by
  refine ⟨k.own, h.keep.trans k.keep fun i hi e => ?_, ?_⟩
  · rcases h.lies with e' | ⟨g, e', hg⟩
    · rw [← e', e]
    · rw [e'] at e
      injection e with e
      omega
  · rcases k.lies with e | ⟨g, e, hg⟩
    · rw [e]
      exact h.lies
    · exact .inr ⟨g, e, Nat.le_trans h.keep.size hg⟩
theorem Grew.below {base : Nat} {w wr : World} {v0 v : Value} {l l0 : List UInt8} (h : Grew base w v0 wr v l) (h0 : OB base w v0 l0) (hb : base ≤ w.heap.size) : Below base w wr :=
  h.keep.below hb fun k hk e => by have := (h0.lt k e).1; omega
theorem Grew.fresh {base : Nat} {w wr : World} {v : Value} {l : List UInt8} (h : Grew base w (.slice none 0 0) wr v l) : Below w.heap.size w wr :=
  h.keep.below (Nat.le_refl _) fun k hk e => by simp [Value.ownBlock] at e

theorem u8_info : (Tryz.prog.info? 5).map (fun i => (i.zero, i.size, i.bytes)) = some (some (.int .u8 0), 1, 1) := by kernel_rfl

theorem run_app_nil (w : World) (base : Nat) (ty : TypeId) (v : Value) (l : List UInt8) (hown : OB base w v l) (c : Nat) :
    (Builtin.append_ #[22, 22] ty #[v, .slice none 0 c]).run Tryz.prog w = .ok v w := by
  obtain ⟨i, hi, hz, hs, hb⟩ := info_parts u8_info
  rcases hown.2 with ⟨rfl, hn⟩ | ⟨g, cap, cur, rfl, _, _, hnc, _⟩
  · simp [Builtin.append_, run_underlying Tryz.underlying22, sizeOf, typeInfo, hi, Builtin.lenOf, Builtin.firstCells]
  · simp [Builtin.append_, run_underlying Tryz.underlying22, sizeOf, typeInfo, hi, Builtin.lenOf, Builtin.firstCells, hnc, storeCells]

theorem own_lies {w : World} {v v' : Value} (h : v'.ownBlock = v.ownBlock ∨ v'.ownBlock = some w.heap.size) : v'.ownBlock = v.ownBlock ∨ ∃ g, v'.ownBlock = some g ∧ w.heap.size ≤ g := by
  rcases h with h | h
  · exact .inl h
  · exact .inr ⟨_, h, Nat.le_refl _⟩

theorem run_app (w : World) (base : Nat) (ty : TypeId) (v : Value) (l : List UInt8) (hown : OB base w v l) (A : Option Addr) (m c : Nat) (news : List UInt8) (hr : RB w A m news)
    (hn : l.length + m ≤ 140737488355328) (hbase : base ≤ w.heap.size) (hmn : A = none → m = 0) :
    ∃ v' w', (Builtin.append_ #[22, 22] ty #[v, .slice A m c]).run Tryz.prog w = .ok v' w' ∧ Grew base w v w' v' (l ++ news) := by
  obtain ⟨i, hi, hz, hs, hb⟩ := info_parts u8_info
  rcases A with _ | ad
  · have hm := hmn rfl
    subst hm
    have hnw : news = [] := List.eq_nil_of_length_eq_zero hr.1
    subst hnw
    exact ⟨v, w, run_app_nil w base ty v l hown c, by simpa using Grew.start hown⟩
  · have hcells : ∀ j u, (news.map bv)[j]? = some u → w.cell? (ad.add j) = some u := by
      intro j u hu
      rcases Nat.eq_zero_or_pos m with h0 | h0
      · subst h0
        have hnw : news = [] := List.eq_nil_of_length_eq_zero hr.1
        subst hnw
        simp at hu
      · obtain ⟨b, off, he, hc⟩ := hr.2 h0
        cases he
        rw [List.getElem?_map, Option.map_eq_some_iff] at hu
        obtain ⟨x, hx, rfl⟩ := hu
        rw [Addr.add_lit]
        exact hc j x hx
    obtain ⟨v', w', hrun, h2, h3, _, h5⟩ := run_append_own_at (P := Tryz.prog) w base 22 ty 5 i (.int .u8 0) 1 1 Tryz.underlying22 hi hz hs hb rfl (by decide) v l.length (l.map bv) hown ad m c (news.map bv)
      (by simpa using hr.1) hcells (bv_one _) (by simp only [maxLen]; omega) (by omega) hbase
    refine ⟨v', w', hrun, ?_, Keep.of_grown h3, own_lies h5⟩
    show w'.ownsRow base 5 1 v' (l ++ news).length ((l ++ news).map bv)
    rw [List.length_append, hr.1, List.map_append]
    exact h2

theorem RB.none_zero {w : World} {m : Nat} {l : List UInt8} {A : Option Addr} (h : RB w A m l) : A = none → m = 0 := by
  rintro rfl
  rcases Nat.eq_zero_or_pos m with h0 | h0
  · exact h0
  · obtain ⟨b, off, he, _⟩ := h.2 h0
    cases he

theorem strCells_eq (s : ByteArray) : Lib.strCells s = s.data.toList.map bv := rfl

theorem run_app_str (w : World) (base : Nat) (ty : TypeId) (v : Value) (l : List UInt8) (hown : OB base w v l) (s : ByteArray) (hn : l.length + s.size ≤ 140737488355328) (hbase : base ≤ w.heap.size) :
    ∃ v' w', (Builtin.append_ #[22, 9] ty #[v, .string s]).run Tryz.prog w = .ok v' w' ∧ Grew base w v w' v' (l ++ s.data.toList) := by
  obtain ⟨i, hi, hz, hs, hb⟩ := info_parts u8_info
  obtain ⟨v', w', hrun, h2, h3, h4⟩ := Lib.run_append_own_string (P := Tryz.prog) w base 22 9 ty 5 i Tryz.underlying22 Tryz.underlying9 hi hz hs hb v l.length (l.map bv) hown s
    (by simp only [maxLen]; omega) hn hbase
  refine ⟨v', w', hrun, ?_, Keep.of_grown h3, own_lies ?_⟩
  · show w'.ownsRow base 5 1 v' (l ++ s.data.toList).length ((l ++ s.data.toList).map bv)
    rw [List.length_append, List.map_append]
    exact h2
  rcases hown.2 with ⟨rfl, h0⟩ | ⟨g, cap, cur, rfl, hbg, hg, hnc, hcm, hcs, htake⟩
  · by_cases hm : s.size = 0
    · rw [h4.2 ⟨rfl, hm⟩]
      exact .inl rfl
    · have hr := run_append_nil_string (P := Tryz.prog) w 22 9 ty 5 i (.int .u8 0) Tryz.underlying22 Tryz.underlying9 hi hz s (by omega) (by omega) (by rw [hb]; omega)
      rw [hr] at hrun
      injection hrun with e1 _
      subst e1
      exact .inr rfl
  · by_cases hroom : l.length + s.size ≤ cap
    · have hr := Lib.run_append_room_string (P := Tryz.prog) w 22 9 ty 5 i Tryz.underlying22 Tryz.underlying9 hi hs g l.length cap cur hg s hroom (by omega)
      rw [hr] at hrun
      injection hrun with e1 _
      subst e1
      exact .inl rfl
    · have holds : ∀ j u, (l.map bv)[j]? = some u → w.cell? ((⟨g, 0, none⟩ : Addr).add j) = some u := World.ownsRow.cells hown (g := g) rfl
      have hr := Lib.run_append_grow_string (P := Tryz.prog) w 22 9 ty 5 i (.int .u8 0) Tryz.underlying22 Tryz.underlying9 hi hz ⟨g, 0, none⟩ l.length cap (l.map bv) (by rw [hs]; simp) holds s (by omega) (by omega) (by rw [hb]; exact growslice_fits (by omega) (by omega))
      rw [hr] at hrun
      injection hrun with e1 _
      subst e1
      exact .inr rfl

section
variable {w : World} {ops : Array Oper} {rest : List Oper} {o : Oper} {a : Act} {Q : Exit → Act → World → Prop}

/-- append(v, x..): x a slice that reads as the bytes 'news'. -/
theorem wpApp (hgd : o.guard = none) (s x : Operand) (ho : o.op = .call { callee := .builtin .append, args := #[s, x], argTypes := #[22, 22] })
    (base : Nat) (v : Value) (l : List UInt8) (hs : a.eval s = v) (hown : OB base w v l) (A : Option Addr) (m c : Nat) (news : List UInt8) (hx : a.eval x = .slice A m c) (hr : RB w A m news)
    (hn : l.length + m ≤ 140737488355328) (hbase : base ≤ w.heap.size)
    (h : ∀ v' w', Grew base w v w' v' (l ++ news) → wpList Tryz.prog ops Q rest (a.put o.dst v') w') : wpList Tryz.prog ops Q (o :: rest) a w := by
  refine wpList_plain hgd fun K hK => ?_
  obtain ⟨v', w', hrun, h2⟩ := run_app w base o.type v l hown A m c news hr hn hbase hr.none_zero
  unfold Oper.wp execOp
  simp only [ho, resolve, invoke, builtin, Sem.run_bind, Sem.run_pure, Result.andThen_ok, List.map_toArray, List.map_cons, List.map_nil, hs, hx, hrun]
  exact hK _ _ (h v' w' h2)

/-- append(v, s..): s a string. -/
theorem wpAppStr (hgd : o.guard = none) (sl x : Operand) (ho : o.op = .call { callee := .builtin .append, args := #[sl, x], argTypes := #[22, 9] })
    (base : Nat) (v : Value) (l : List UInt8) (hs : a.eval sl = v) (hown : OB base w v l) (s : ByteArray) (hx : a.eval x = .string s)
    (hn : l.length + s.size ≤ 140737488355328) (hbase : base ≤ w.heap.size)
    (h : ∀ v' w', Grew base w v w' v' (l ++ s.data.toList) → wpList Tryz.prog ops Q rest (a.put o.dst v') w') : wpList Tryz.prog ops Q (o :: rest) a w := by
  refine wpList_plain hgd fun K hK => ?_
  obtain ⟨v', w', hrun, h2⟩ := run_app_str w base o.type v l hown s hn hbase
  unfold Oper.wp execOp
  simp only [ho, resolve, invoke, builtin, Sem.run_bind, Sem.run_pure, Result.andThen_ok, List.map_toArray, List.map_cons, List.map_nil, hs, hx, hrun]
  exact hK _ _ (h v' w' h2)
end

/-- A new block of one byte. -/
theorem RB.one (w : World) (x : UInt8) (t : TypeId) : RB (w.alloc (.cells #[bv x] t)) (some ⟨w.heap.size, 0, none⟩) 1 [x] := by
  refine ⟨rfl, fun _ => ⟨_, _, rfl, fun j y hy => ?_⟩⟩
  match j, hy with
  | 0, hy =>
    simp at hy
    subst hy
    rw [World.cell?_alloc_at _ _ _ _ rfl]
    rfl

theorem RB.one_ (w : World) (z : Int) (x : UInt8) (hz : z = (x.toNat : Int)) (t : TypeId) : RB (w.alloc (.cells #[.int .u8 z] t)) (some ⟨w.heap.size, 0, none⟩) 1 [x] := by
  subst hz
  exact RB.one w x t

theorem strOf_eq (l : List UInt8) : strOfNums (l.map fun b => (b.toNat : Int)) = ⟨l.toArray⟩ := by
  unfold strOfNums
  congr 2
  rw [List.map_map]
  conv => rhs; rw [← List.map_id l]
  apply List.map_congr_left
  intro x _
  simp

/-- string(b). -/
theorem run_str (w : World) (A : Option Addr) (n c : Nat) (l : List UInt8) (h : RB w A n l) : (convert 22 9 (.slice A n c)).run Tryz.prog w = .ok (.string ⟨l.toArray⟩) w := by
  rcases Nat.eq_zero_or_pos n with h0 | h0
  · subst h0
    have hl : l = [] := List.eq_nil_of_length_eq_zero h.1
    subst hl
    rcases A with _ | ad
    · exact run_convert_bytes_nil w _ _ Tryz.underlying22 Tryz.underlying5 0 c _ Tryz.underlying9
    · rw [run_convert_bytes_string w _ _ 5 _ 0 c Tryz.underlying22 Tryz.underlying5 Tryz.underlying9]
      rw [run_bytesToString w ad 0 c [] (by simp [loadCells, loadCellsFrom])]
      rfl
  · obtain ⟨b, off, rfl, hc⟩ := h.2 h0
    rw [run_convert_bytes_arg w _ _ Tryz.underlying22 Tryz.underlying5 b off n c (l.map fun b => (b.toNat : Int)) (by simpa using h.1) (fun i hi => by
      have hl : i < l.length := by rw [h.1]; exact hi
      rw [hc i _ (List.getElem?_eq_getElem hl)]
      simp [bv, List.getD, List.getElem?_eq_getElem hl]) _ Tryz.underlying9, strOf_eq]

/-- The address of a slice that was cut at k. -/
def subA (A : Option Addr) (cap k : Nat) : Option Addr := if cap = k then A else A.map (·.add k)

theorem block_of_add (a : Addr) (n : Nat) : (a.add n).block = a.block := by
  unfold Addr.add
  split <;> rfl
theorem subA_block {A : Option Addr} {cap k : Nat} {ad : Addr} (h : subA A cap k = some ad) : ∃ ad0, A = some ad0 ∧ ad.block = ad0.block := by
  unfold subA at h
  split at h
  · exact ⟨ad, h, rfl⟩
  · rw [Option.map_eq_some_iff] at h
    obtain ⟨a0, h0, rfl⟩ := h
    exact ⟨a0, h0, block_of_add _ _⟩
theorem RB.sub {w : World} {A : Option Addr} {n cap : Nat} {l : List UInt8} (h : RB w A n l) (k : Nat) (hk : k ≤ n) (hc : n ≤ cap) : RB w (subA A cap k) (n - k) (l.drop k) :=
  h.cut k _ hk fun hlt => by rw [subA, if_neg (by omega)]
theorem sub_slice (A : Option Addr) (l h m : Nat) : sliced A l h m 1 = .slice (subA A m l) (h - l) (m - l) := by
  unfold sliced subA
  rw [Nat.mul_one]
theorem sub_zero (A : Option Addr) (cap : Nat) : subA A cap 0 = A := by
  unfold subA
  split
  · rfl
  · cases A with
    | none => rfl
    | some ad =>
      unfold Addr.add
      simp
theorem elem_u8 : Tryz.prog.elem 22 = 5 := by simp [Program.elem, Tryz.underlying22]
theorem under_elem : Tryz.prog.underlying 22 = some (.slice (Tryz.prog.elem 22)) := by rw [elem_u8]; exact Tryz.underlying22

@[go_sem high] theorem run_from (w : World) (A : Option Addr) (n cap : Nat) (k : Int) (h0 : 0 ≤ k) (h1 : k ≤ n) :
    (Instr.slice 22 (.slice A n cap) (some (.int .i64 k)) none none).run Tryz.prog w = .ok (.slice (subA A cap k.toNat) (n - k.toNat) (cap - k.toNat)) w := by
  rw [run_slice_l w 22 A n cap under_elem .i64 k h0 h1, elem_u8, Tryz.sizeOf5]
  simp [Result.andThen, sub_slice]
@[go_sem high] theorem run_win (w : World) (A : Option Addr) (n cap : Nat) (k h : Int) (h0 : 0 ≤ k) (h1 : k ≤ h) (h2 : h ≤ cap) :
    (Instr.slice 22 (.slice A n cap) (some (.int .i64 k)) (some (.int .i64 h)) none).run Tryz.prog w = .ok (.slice (subA A cap k.toNat) (h.toNat - k.toNat) (cap - k.toNat)) w := by
  rw [run_slice_lh w 22 A n cap under_elem .i64 .i64 k h h0 h1 h2, elem_u8, Tryz.sizeOf5]
  simp [Result.andThen, sub_slice]
@[go_sem high] theorem run_to (w : World) (A : Option Addr) (n cap : Nat) (h : Int) (h0 : 0 ≤ h) (h2 : h ≤ cap) :
    (Instr.slice 22 (.slice A n cap) none (some (.int .i64 h)) none).run Tryz.prog w = .ok (.slice A h.toNat cap) w := by
  rw [run_slice_h w 22 A n cap under_elem .i64 h h0 h2, elem_u8, Tryz.sizeOf5]
  simp [Result.andThen, sub_slice, sub_zero]

/-- Block g is just these cells, none of them frozen. -/
def Blk (w : World) (g : Nat) (t : TypeId) (cs : Array Value) : Prop := w.heap[g]? = some (.cells cs t (0, 0))
section
variable {w w' : World} {g : Nat} {t : TypeId} {cs : Array Value}
theorem Blk.lt (h : Blk w g t cs) : g < w.heap.size := (Array.getElem?_eq_some_iff.1 h).1
theorem Blk.cell (h : Blk w g t cs) (i : Nat) : w.cell? ⟨g, i, none⟩ = cs[i]? := cell_of_row w g i cs t (0, 0) h
theorem Blk.frozen (h : Blk w g t cs) (i : Nat) : w.frozen? ⟨g, i, none⟩ = false := by
  unfold Blk at h
  simp [World.frozen?, h]
theorem Blk.new (w : World) (t : TypeId) (cs : Array Value) : Blk (w.alloc (.cells cs t)) w.heap.size t cs := heap_alloc_new w _
theorem Blk.kept {S : Nat → Prop} (h : Blk w g t cs) (k : Keep S w w') (hg : ¬ S g) : Blk w' g t cs := (k.block g h.lt hg).trans h
theorem Blk.alloc (h : Blk w g t cs) (o : Obj) : Blk (w.alloc o) g t cs := (Below.heap_alloc w o g h.lt).trans h
theorem Blk.drew (h : Blk w g t cs) : Blk w.drew g t cs := h
theorem Blk.drewN (h : Blk w g t cs) (n : Nat) : Blk (w.drewN n) g t cs := h
theorem Blk.set_ (h : Blk w g t cs) (i : Nat) (u : Value) : Blk (w.setCell ⟨g, i, none⟩ u) g t (cs.setIfInBounds i u) := by
  unfold Blk at h ⊢
  simp [World.setCell, Array.getElem?_modify, h]
theorem OB.ne_blk {base : Nat} {v : Value} {l : List UInt8} (h : OB base w v l) (hb : Blk w g t cs) (hne : t ≠ 5) : v.ownBlock ≠ some g := by
  rcases h.2 with ⟨rfl, _⟩ | ⟨g', cap, cur, rfl, _, hh, _⟩
  · simp [Value.ownBlock]
  · intro he
    have e : g' = g := by simpa [Value.ownBlock] using he
    subst e
    unfold Blk at hb
    rw [hh] at hb
    injection hb with hb
    injection hb with _ ht
    exact hne ht.symm
end

end Go.Proofs.YtfpcnenohidfpaaGreat
