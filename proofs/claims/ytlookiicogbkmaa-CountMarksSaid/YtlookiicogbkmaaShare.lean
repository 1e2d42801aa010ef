/- Share, over whatever its callees answer. -/
import Derived.Test.YtlookiicogbkmaaGreat2
namespace Go.Proofs.Ytlookiicogbkmaa
open Go.RowKit Go.Sort Go.Lib Go.Shelf
set_option linter.unusedVariables false
set_option linter.unusedSimpArgs false

theorem below_drewN {B : Nat} {w w' : World} (h : RowKit.Below B w w') (n : Nat) : RowKit.Below B w (w'.drewN n) := ⟨h.os, h.tape, h.output, h.size, h.block⟩

def natI (f : Nat → Nat) (n : Nat) : List Int := (List.range n).map fun i => ((f i : Nat) : Int)
def natW (f : Nat → Nat) (n : Nat) : List Nat := (List.range n).map f
def cutAt (f : Nat → Nat) (k : Nat) : Nat → Nat := fun i => if i < k then f i else 0
def upd (f : Nat → Nat) (k v : Nat) : Nat → Nat := fun i => if i = k then v else f i
theorem natI_len (f : Nat → Nat) (n : Nat) : (natI f n).length = n := by simp [natI]
theorem natW_len (f : Nat → Nat) (n : Nat) : (natW f n).length = n := by simp [natW]
theorem natI_at (f : Nat → Nat) (n k : Nat) (h : k < n) : (natI f n).getD k 0 = ((f k : Nat) : Int) := by simp [natI, h]
theorem natI_congr (f g : Nat → Nat) (n : Nat) (h : ∀ i, i < n → f i = g i) : natI f n = natI g n := by
  unfold natI
  exact List.map_congr_left fun i hi => by rw [h i (List.mem_range.1 hi)]
theorem natW_congr (f g : Nat → Nat) (n : Nat) (h : ∀ i, i < n → f i = g i) : natW f n = natW g n := by
  unfold natW
  exact List.map_congr_left fun i hi => by rw [h i (List.mem_range.1 hi)]
theorem natI_set (f : Nat → Nat) (n k v : Nat) : (natI f n).set k ((v : Nat) : Int) = natI (upd f k v) n := by
  apply List.ext_getElem?
  intro i
  unfold natI upd
  rw [List.getElem?_set]
  by_cases hi : i < n
  · by_cases hk : k = i
    · subst hk
      simp [hi]
    · rw [if_neg hk]
      simp [hi, Ne.symm hk]
  · by_cases hk : k = i
    · subst hk
      simp [hi]
    · rw [if_neg hk]
      simp [hi]
theorem natW_set (f : Nat → Nat) (n k v : Nat) : (natW f n).set k v = natW (upd f k v) n := by
  apply List.ext_getElem?
  intro i
  unfold natW upd
  rw [List.getElem?_set]
  by_cases hi : i < n
  · by_cases hk : k = i
    · subst hk
      simp [hi]
    · rw [if_neg hk]
      simp [hi, Ne.symm hk]
  · by_cases hk : k = i
    · subst hk
      simp [hi]
    · rw [if_neg hk]
      simp [hi]
theorem cut_upd (f : Nat → Nat) (k : Nat) : upd (cutAt f k) k (f k) = cutAt f (k + 1) := by
  funext i
  unfold upd cutAt
  by_cases h : i = k
  · subst h
    simp
  · by_cases h1 : i < k
    · simp [h, h1, show i < k + 1 by omega]
    · simp [h, h1, show ¬ i < k + 1 by omega]
theorem cut_upd' (f : Nat → Nat) (k v : Nat) (h : f k = v) : upd (cutAt f k) k v = cutAt f (k + 1) := by rw [← h, cut_upd]
theorem cut_all (f : Nat → Nat) (n i : Nat) (h : i < n) : cutAt f n i = f i := by simp [cutAt, h]
theorem natI_none (f : Nat → Nat) (n : Nat) : natI (cutAt f 0) n = List.replicate n 0 := by
  apply List.ext_getElem?
  intro i
  unfold natI cutAt
  by_cases hi : i < n <;> simp [hi]
theorem natW_none (f : Nat → Nat) (n : Nat) : natW (cutAt f 0) n = List.replicate n 0 := by
  apply List.ext_getElem?
  intro i
  unfold natW cutAt
  by_cases hi : i < n <;> simp [hi]
theorem words_set (l : List Nat) (k x : Nat) : (words l).setIfInBounds k (.int .u64 ((x : Nat) : Int)) = words (l.set k x) := by
  unfold words
  rw [List.setIfInBounds_toArray, List.map_set]
theorem words_at (f : Nat → Nat) (n k : Nat) (h : k < n) : (words (natW f n))[k]? = some (.int .u64 ((f k : Nat) : Int)) := by
  unfold words natW
  simp [h]
theorem elem_int : Try.prog.elem 31 = 3 := by simp [Program.elem, Try.underlying31]
theorem under_ints : Try.prog.underlying 31 = some (.slice (Try.prog.elem 31)) := by rw [elem_int]; exact Try.underlying31
theorem run_ints_to (w : World) (A : Option Addr) (n cap : Nat) (h : Int) (h0 : 0 ≤ h) (h2 : h ≤ cap) :
    (Instr.slice 31 (.slice A n cap) none (some (.int .i64 h)) none).run Try.prog w = .ok (.slice A h.toNat cap) w := by
  rw [run_slice_h w 31 A n cap under_ints .i64 h h0 h2, elem_int, Try.sizeOf3]
  simp only [Result.andThen, sliced, Nat.zero_mul, Nat.sub_zero]
  congr 2
  split
  · rfl
  · cases A with
    | none => rfl
    | some ad =>
      unfold Addr.add
      simp

/-- The first k of p together. -/
def psum (p : Nat → Nat) : Nat → Nat
  | 0 => 0
  | k + 1 => psum p k + p k
theorem psum_mono (p : Nat → Nat) (k n : Nat) (h : k ≤ n) : psum p k ≤ psum p n := by
  induction n with
  | zero => rw [Nat.le_zero.1 h]; exact Nat.le_refl _
  | succ n ih =>
    rcases Nat.eq_or_lt_of_le h with e | h'
    · subst e
      exact Nat.le_refl _
    · exact Nat.le_trans (ih (by omega)) (Nat.le_add_right _ _)
/-- p, and one more for each of the first j places. -/
def incs (p pl : Nat → Nat) : Nat → Nat → Nat
  | 0 => p
  | j + 1 => upd (incs p pl j) (pl j) (incs p pl j (pl j) + 1)
theorem incs_le (p pl : Nat → Nat) (j i : Nat) : incs p pl j i ≤ p i + j := by
  induction j with
  | zero => exact Nat.le_refl _
  | succ j ih =>
    unfold incs upd
    by_cases h : i = pl j
    · rw [if_pos h, ← h]
      omega
    · rw [if_neg h]
      omega

set_option maxRecDepth 100000 in
set_option maxHeartbeats 1600000 in
theorem share_any (n N L : Nat) (A : Option Addr) (c : Nat) (ws : List Int) (whole : Int) (w : World) (h : IR w A N ws) (hm : mays ws = true) (hN : N ≤ 64) (hn : n ≤ 1099511627776)
    (hw0 : ¬ whole = 0) (hw1 : 0 ≤ whole) (hw2 : whole ≤ 70368744177664) (hsum : ws.sum = whole) (hc : N ≤ c)
    (p r pl : Nat → Nat) (hp : ∀ (k : Nat) (x : Int) (W : World), ws[k]? = some x → Calls Try.prog 28 #[.int .i64 (n : Int), .int .i64 x, .int .i64 whole] W fun e w' => e = .returned (.tuple #[.int .i64 ((p k : Nat) : Int), .int .u64 ((r k : Nat) : Int)]) ∧ ∃ m, w' = W.drewN m)
    (hL : psum p N + L = n) (hLN : L ≤ N) (hpl : ∀ j, j < N → pl j < N)
    (hg : ∀ (W : World) (br : Nat), br < W.heap.size → (∀ i, i < N → W.cell? ⟨br, i, none⟩ = some (.int .u64 ((r i : Nat) : Int))) →
      Calls Try.prog 29 #[.slice (some ⟨br, 0, none⟩) N N] W fun e w' => e = .returned (.slice (some ⟨W.heap.size + 1, 0, none⟩) N N) ∧ Below W.heap.size W w' ∧ ∀ j, j < N → w'.cell? ⟨W.heap.size + 1, j, none⟩ = some (.int .i64 ((pl j : Nat) : Int))) :
    Calls Try.prog 18 #[.int .i64 (n : Int), .slice A N c] w fun e w' => ∃ bp, e = .returned (.tuple #[.slice (some ⟨bp, 0, none⟩) N N, .int .i64 0]) ∧ w.heap.size ≤ bp ∧ Below w.heap.size w w' ∧ Blk w' bp 3 (ints (natI (incs p pl L) N)) := by
  have hmn : may (n : Int) = true := (may_iff _).2 ⟨by omega, by omega⟩
  have hmk := run_make_ints N (by omega)
  have hmw := run_make_words N (by omega)
  have hI0 : ints (List.replicate N 0) = ints (natI (cutAt p 0) N) := by rw [natI_none]
  have hU0 : words (List.replicate N 0) = words (natW (cutAt r 0) N) := by rw [natW_none]
  go_enter Try.func18, Try.ntmps18
  go_wp2_with (first | (go_at_call 13; refine (may_any _ _).mono ?_; rintro e w' ⟨rfl, rfl⟩; rw [hmn]) | (go_at_call 27; refine (mayAll_any A N c ws _ h (by omega)).mono ?_; rintro e w' ⟨rfl, rfl⟩; rw [hm]))
  go_loopw [6, 31] (fun sv v wr => wr = w' ∧ ∃ (k : Nat) (s : Int), v = .int .i64 (k : Int) ∧ sv = .int .i64 s ∧ 0 ≤ s ∧ s ≤ k * 1099511627776 ∧ k ≤ N ∧ s + (ws.drop k).sum = whole) (fun _ v _ => N - (intOf v).toNat)
  case atStart => exact ⟨rfl, 0, 0, by go_num, rfl, by omega, by omega, by omega, by simpa using hsum⟩
  case round =>
    obtain ⟨rfl, k, s, rfl, rfl, hs0, hs1, hk, hs⟩ := hrel
    by_cases hlt : k < N
    · have hlz : (k : Int) < (N : Int) := by omega
      obtain ⟨b, off, x, rfl, hx, hcell⟩ := h.place hlt
      obtain ⟨hx0, hx1⟩ := mays_at hm hx
      have hdrop : (ws.drop k).sum = x + (ws.drop (k + 1)).sum := by
        have hk' : k < ws.length := (List.getElem?_eq_some_iff.1 hx).1
        have he : ws[k] = x := (List.getElem?_eq_some_iff.1 hx).2
        rw [List.drop_eq_getElem_cons hk', he, List.sum_cons]
      clear hmk hmw hI0 hU0 hp hg
      go_wp2
      go_roundw
      case measure => simp [intOf]; omega
      case rel => exact ⟨by trivial, k + 1, s + x, by go_num, by go_num, by omega, by omega, by omega, by rw [← hs, hdrop]; omega⟩
    · have hlz : ¬ (k : Int) < (N : Int) := by omega
      have hsw : s = whole := by
        rw [List.drop_eq_nil_of_le (by rw [h.len]; omega)] at hs
        simpa using hs
      subst hsw
      clear hs hs1 hsum
      obtain ⟨w0, rfl⟩ : ∃ w0, w0 = wr := ⟨_, rfl⟩
      go_wp2
      go_region
      all_goals (try go_wp2)
      · have hb0 := (((Below.refl w0.heap.size w0).alloc (Nat.le_refl _) (.cells (ints (natI (cutAt p 0) N)) 3)).alloc (by simp) (.cells (words (natW (cutAt r 0) N)) 51)).drew
        have hP0 : Blk (((w0.alloc (.cells (ints (natI (cutAt p 0) N)) 3)).alloc (.cells (words (natW (cutAt r 0) N)) 51)).drew) (w0.heap.size) 3 (ints (natI (cutAt p 0) N)) := by
          exact (Blk.new w0 _ _).alloc _
        have hR0 : Blk (((w0.alloc (.cells (ints (natI (cutAt p 0) N)) 3)).alloc (.cells (words (natW (cutAt r 0) N)) 51)).drew) (w0.heap.size + 1) 51 (words (natW (cutAt r 0) N)) := by
          have := Blk.new (w0.alloc (.cells (ints (natI (cutAt p 0) N)) 3)) 51 (words (natW (cutAt r 0) N))
          simpa using this.drew
        go_loopw [11, 50] (fun lv v wr => ∃ (k : Nat), v = .int .i64 (k : Int) ∧ lv = .int .i64 ((n : Int) - ((psum p k : Nat) : Int)) ∧ k ≤ N ∧ Below w0.heap.size w0 wr ∧ Blk wr (w0.heap.size) 3 (ints (natI (cutAt p k) N)) ∧ Blk wr (w0.heap.size + 1) 51 (words (natW (cutAt r k) N))) (fun _ v _ => N - (intOf v).toNat)
        case atStart => exact ⟨0, by go_num, by simp [psum], by omega, hb0, hP0, hR0⟩
        case round =>
          obtain ⟨k, rfl, rfl, hk, hb, hP, hR⟩ := hrel
          clear hb0 hP0 hR0 hmk hmw hI0 hU0
          by_cases hlt2 : k < N
          · have hlz2 : (k : Int) < (N : Int) := by omega
            obtain ⟨b, off, x, rfl, hx, hcell0⟩ := h.place hlt2
            have hcell := (hb.cell (World.block_lt_of_cell? _ _ hcell0)).trans hcell0
            have hq := hp k x wr hx
            have hps : psum p k + p k + psum p 0 ≤ n := by
              have h1 := psum_mono p (k + 1) N (by omega)
              simp only [psum] at h1 ⊢
              omega
            simp only [psum, Nat.add_zero] at hps
            have hs1 : psum p (k + 1) = psum p k + p k := rfl
            have hcP := hP.cell k
            rw [ints_at _ _ (by rw [natI_len]; exact hlt2)] at hcP
            have hcR := hR.cell k
            rw [words_at _ _ _ hlt2] at hcR
            have hfP := hP.frozen k
            have hfR := hR.frozen k
            generalize hpk : p k = pk at *
            generalize hrk : r k = rk at *
            clear hp hg hpl
            go_wp2_with (go_at_call 28; refine hq.mono ?_; rintro e w3 ⟨rfl, m3, rfl⟩)
            have hP' := (hP.drewN m3).set_ k (.int .i64 ((pk : Nat) : Int))
            rw [ints_set, natI_set, cut_upd' p k pk hpk] at hP'
            have hR0 := (hR.drewN m3).kept ((Keep.refl (fun i => i = w0.heap.size) _).setCell (p := ⟨w0.heap.size, k, none⟩) (fun _ => rfl) (.int .i64 ((pk : Nat) : Int))) (by omega)
            have hR' := hR0.set_ k (.int .u64 ((rk : Nat) : Int))
            rw [words_set, natW_set, cut_upd' r k rk hrk] at hR'
            have hP'' := hP'.kept ((Keep.refl (fun i => i = w0.heap.size + 1) _).setCell (p := ⟨w0.heap.size + 1, k, none⟩) (fun _ => rfl) (.int .u64 ((rk : Nat) : Int))) (by omega)
            have hb' := ((below_drewN hb m3).setCell (p := ⟨w0.heap.size, k, none⟩) (by simp) (.int .i64 ((pk : Nat) : Int))).setCell (p := ⟨w0.heap.size + 1, k, none⟩) (by simp) (.int .u64 ((rk : Nat) : Int))
            go_roundw
            case measure => simp [intOf]; omega
            case rel => exact ⟨k + 1, by go_num, by rw [hs1]; congr 1; omega, by omega, hb', hP'', hR'⟩
          · have hlz2 : ¬ (k : Int) < (N : Int) := by omega
            have hkN : k = N := by omega
            have hl : ((n : Int) - ((psum p k : Nat) : Int)) = ((L : Nat) : Int) := by rw [hkN]; omega
            rw [hl]
            rw [hkN, natI_congr _ p N (cut_all p N)] at hP
            rw [hkN, natW_congr _ r N (cut_all r N)] at hR
            have hgr := hg wr (w0.heap.size + 1) hR.lt (fun i hi => by rw [hR.cell i, words_at _ _ _ hi])
            have hsl := fun (W : World) => run_ints_to W (some ⟨wr.heap.size + 1, 0, none⟩) N N ((L : Nat) : Int) (by omega) (by omega)
            rw [Int.toNat_natCast] at hsl
            have hLz : ((L : Nat) : Int) ≤ (N : Int) := by omega
            have hbpl := hP.lt
            have hi0 : natI p N = natI (incs p pl 0) N := rfl
            have hpn : ∀ i, i < N → p i ≤ n := fun i hi => by
              have h1 := psum_mono p (i + 1) N (by omega)
              simp only [psum] at h1
              omega
            clear hg hp hl hkN
            go_wp2_with (go_at_call 29; refine hgr.mono ?_; rintro e w3 ⟨rfl, hb3, hpc3⟩)
            have hP3 := hP.kept (Keep.of_below hb3) (by omega)
            have hb03 := hb.trans (hb3.mono hb.size)
            rw [hi0] at hP3
            clear hR hP hgr hb hi0
            obtain ⟨pb, hpb⟩ : ∃ b, b = wr.heap.size + 1 := ⟨_, rfl⟩
            have hpbl : w0.heap.size < pb := by omega
            rw [← hpb] at hpc3
            go_loopw [80] (fun v w4 => ∃ (j : Nat), v = .int .i64 (j : Int) ∧ j ≤ L ∧ Below w0.heap.size w0 w4 ∧ Blk w4 (w0.heap.size) 3 (ints (natI (incs p pl j) N)) ∧ ∀ j, j < N → w4.cell? ⟨pb, j, none⟩ = some (.int .i64 ((pl j : Nat) : Int))) (fun v _ => L - (intOf v).toNat)
            case atStart => exact ⟨0, by go_num, by omega, hb03, hP3, hpc3⟩
            case round =>
              obtain ⟨j, rfl, hj, hb, hP, hpc⟩ := hrel
              clear hb03 hP3 hpc3 hsl
              by_cases hlt3 : j < L
              · have hlz3 : (j : Int) < ((L : Nat) : Int) := by omega
                have hplj := hpl j (by omega)
                have hcc := hpc j (by omega)
                rw [hpb] at hcc
                have hcP := hP.cell (pl j)
                rw [ints_at _ _ (by rw [natI_len]; exact hplj), natI_at _ _ _ hplj] at hcP
                have hfP := hP.frozen (pl j)
                have hle := incs_le p pl j (pl j)
                have hple := hpn (pl j) hplj
                have hP' := hP.set_ (pl j) (.int .i64 ((incs p pl j (pl j) + 1 : Nat) : Int))
                rw [ints_set, natI_set] at hP'
                have hP' : Blk (wr.setCell ⟨w0.heap.size, pl j, none⟩ (.int .i64 ((incs p pl j (pl j) + 1 : Nat) : Int))) (w0.heap.size) 3 (ints (natI (incs p pl (j + 1)) N)) := hP'
                have hb' := hb.setCell (p := ⟨w0.heap.size, pl j, none⟩) (by simp) (.int .i64 ((incs p pl j (pl j) + 1 : Nat) : Int))
                have hpc' : ∀ i, i < N → (wr.setCell ⟨w0.heap.size, pl j, none⟩ (.int .i64 ((incs p pl j (pl j) + 1 : Nat) : Int))).cell? ⟨pb, i, none⟩ = some (.int .i64 ((pl i : Nat) : Int)) := fun i hi =>
                  (World.cell?_setCell_other _ _ _ _ (by intro e; simp only [Addr.mk.injEq] at e; omega)).trans (hpc i hi)
                rw [Int.natCast_add] at hP' hb' hpc'
                have hplz : ((pl j : Nat) : Int) < (N : Int) := by omega
                generalize hq : pl j = q at *
                generalize hz : incs p pl j q = z at *
                clear hpc hP hpn hpl
                go_wp2
                go_roundw
                case measure => simp [intOf]; omega
                case rel => exact ⟨j + 1, by go_num, by omega, hb', hP', hpc'⟩
              · have hlz3 : ¬ (j : Int) < ((L : Nat) : Int) := by omega
                have hjL : j = L := by omega
                rw [hjL] at hP
                go_wp2
                go_ret2
                exact ⟨_, rfl, by omega, hb, hP⟩
      · have hb0 := (((Below.refl w0.heap.size w0).alloc (Nat.le_refl _) (.cells (words (natW (cutAt r 0) N)) 51)).alloc (by simp) (.cells (ints (natI (cutAt p 0) N)) 3)).drew
        have hP0 : Blk (((w0.alloc (.cells (words (natW (cutAt r 0) N)) 51)).alloc (.cells (ints (natI (cutAt p 0) N)) 3)).drew) (w0.heap.size + 1) 3 (ints (natI (cutAt p 0) N)) := by
          have := Blk.new (w0.alloc (.cells (words (natW (cutAt r 0) N)) 51)) 3 (ints (natI (cutAt p 0) N))
          simpa using this.drew
        have hR0 : Blk (((w0.alloc (.cells (words (natW (cutAt r 0) N)) 51)).alloc (.cells (ints (natI (cutAt p 0) N)) 3)).drew) (w0.heap.size) 51 (words (natW (cutAt r 0) N)) := by
          exact (Blk.new w0 _ _).alloc _
        go_loopw [11, 50] (fun lv v wr => ∃ (k : Nat), v = .int .i64 (k : Int) ∧ lv = .int .i64 ((n : Int) - ((psum p k : Nat) : Int)) ∧ k ≤ N ∧ Below w0.heap.size w0 wr ∧ Blk wr (w0.heap.size + 1) 3 (ints (natI (cutAt p k) N)) ∧ Blk wr (w0.heap.size) 51 (words (natW (cutAt r k) N))) (fun _ v _ => N - (intOf v).toNat)
        case atStart => exact ⟨0, by go_num, by simp [psum], by omega, hb0, hP0, hR0⟩
        case round =>
          obtain ⟨k, rfl, rfl, hk, hb, hP, hR⟩ := hrel
          clear hb0 hP0 hR0 hmk hmw hI0 hU0
          by_cases hlt2 : k < N
          · have hlz2 : (k : Int) < (N : Int) := by omega
            obtain ⟨b, off, x, rfl, hx, hcell0⟩ := h.place hlt2
            have hcell := (hb.cell (World.block_lt_of_cell? _ _ hcell0)).trans hcell0
            have hq := hp k x wr hx
            have hps : psum p k + p k + psum p 0 ≤ n := by
              have h1 := psum_mono p (k + 1) N (by omega)
              simp only [psum] at h1 ⊢
              omega
            simp only [psum, Nat.add_zero] at hps
            have hs1 : psum p (k + 1) = psum p k + p k := rfl
            have hcP := hP.cell k
            rw [ints_at _ _ (by rw [natI_len]; exact hlt2)] at hcP
            have hcR := hR.cell k
            rw [words_at _ _ _ hlt2] at hcR
            have hfP := hP.frozen k
            have hfR := hR.frozen k
            generalize hpk : p k = pk at *
            generalize hrk : r k = rk at *
            clear hp hg hpl
            go_wp2_with (go_at_call 28; refine hq.mono ?_; rintro e w3 ⟨rfl, m3, rfl⟩)
            have hP' := (hP.drewN m3).set_ k (.int .i64 ((pk : Nat) : Int))
            rw [ints_set, natI_set, cut_upd' p k pk hpk] at hP'
            have hR0 := (hR.drewN m3).kept ((Keep.refl (fun i => i = w0.heap.size + 1) _).setCell (p := ⟨w0.heap.size + 1, k, none⟩) (fun _ => rfl) (.int .i64 ((pk : Nat) : Int))) (by omega)
            have hR' := hR0.set_ k (.int .u64 ((rk : Nat) : Int))
            rw [words_set, natW_set, cut_upd' r k rk hrk] at hR'
            have hP'' := hP'.kept ((Keep.refl (fun i => i = w0.heap.size) _).setCell (p := ⟨w0.heap.size, k, none⟩) (fun _ => rfl) (.int .u64 ((rk : Nat) : Int))) (by omega)
            have hb' := ((below_drewN hb m3).setCell (p := ⟨w0.heap.size + 1, k, none⟩) (by simp) (.int .i64 ((pk : Nat) : Int))).setCell (p := ⟨w0.heap.size, k, none⟩) (by simp) (.int .u64 ((rk : Nat) : Int))
            go_roundw
            case measure => simp [intOf]; omega
            case rel => exact ⟨k + 1, by go_num, by rw [hs1]; congr 1; omega, by omega, hb', hP'', hR'⟩
          · have hlz2 : ¬ (k : Int) < (N : Int) := by omega
            have hkN : k = N := by omega
            have hl : ((n : Int) - ((psum p k : Nat) : Int)) = ((L : Nat) : Int) := by rw [hkN]; omega
            rw [hl]
            rw [hkN, natI_congr _ p N (cut_all p N)] at hP
            rw [hkN, natW_congr _ r N (cut_all r N)] at hR
            have hgr := hg wr (w0.heap.size) hR.lt (fun i hi => by rw [hR.cell i, words_at _ _ _ hi])
            have hsl := fun (W : World) => run_ints_to W (some ⟨wr.heap.size + 1, 0, none⟩) N N ((L : Nat) : Int) (by omega) (by omega)
            rw [Int.toNat_natCast] at hsl
            have hLz : ((L : Nat) : Int) ≤ (N : Int) := by omega
            have hbpl := hP.lt
            have hi0 : natI p N = natI (incs p pl 0) N := rfl
            have hpn : ∀ i, i < N → p i ≤ n := fun i hi => by
              have h1 := psum_mono p (i + 1) N (by omega)
              simp only [psum] at h1
              omega
            clear hg hp hl hkN
            go_wp2_with (go_at_call 29; refine hgr.mono ?_; rintro e w3 ⟨rfl, hb3, hpc3⟩)
            have hP3 := hP.kept (Keep.of_below hb3) (by omega)
            have hb03 := hb.trans (hb3.mono hb.size)
            rw [hi0] at hP3
            clear hR hP hgr hb hi0
            obtain ⟨pb, hpb⟩ : ∃ b, b = wr.heap.size + 1 := ⟨_, rfl⟩
            have hpbl : w0.heap.size + 1 < pb := by omega
            rw [← hpb] at hpc3
            go_loopw [80] (fun v w4 => ∃ (j : Nat), v = .int .i64 (j : Int) ∧ j ≤ L ∧ Below w0.heap.size w0 w4 ∧ Blk w4 (w0.heap.size + 1) 3 (ints (natI (incs p pl j) N)) ∧ ∀ j, j < N → w4.cell? ⟨pb, j, none⟩ = some (.int .i64 ((pl j : Nat) : Int))) (fun v _ => L - (intOf v).toNat)
            case atStart => exact ⟨0, by go_num, by omega, hb03, hP3, hpc3⟩
            case round =>
              obtain ⟨j, rfl, hj, hb, hP, hpc⟩ := hrel
              clear hb03 hP3 hpc3 hsl
              by_cases hlt3 : j < L
              · have hlz3 : (j : Int) < ((L : Nat) : Int) := by omega
                have hplj := hpl j (by omega)
                have hcc := hpc j (by omega)
                rw [hpb] at hcc
                have hcP := hP.cell (pl j)
                rw [ints_at _ _ (by rw [natI_len]; exact hplj), natI_at _ _ _ hplj] at hcP
                have hfP := hP.frozen (pl j)
                have hle := incs_le p pl j (pl j)
                have hple := hpn (pl j) hplj
                have hP' := hP.set_ (pl j) (.int .i64 ((incs p pl j (pl j) + 1 : Nat) : Int))
                rw [ints_set, natI_set] at hP'
                have hP' : Blk (wr.setCell ⟨w0.heap.size + 1, pl j, none⟩ (.int .i64 ((incs p pl j (pl j) + 1 : Nat) : Int))) (w0.heap.size + 1) 3 (ints (natI (incs p pl (j + 1)) N)) := hP'
                have hb' := hb.setCell (p := ⟨w0.heap.size + 1, pl j, none⟩) (by simp) (.int .i64 ((incs p pl j (pl j) + 1 : Nat) : Int))
                have hpc' : ∀ i, i < N → (wr.setCell ⟨w0.heap.size + 1, pl j, none⟩ (.int .i64 ((incs p pl j (pl j) + 1 : Nat) : Int))).cell? ⟨pb, i, none⟩ = some (.int .i64 ((pl i : Nat) : Int)) := fun i hi =>
                  (World.cell?_setCell_other _ _ _ _ (by intro e; simp only [Addr.mk.injEq] at e; omega)).trans (hpc i hi)
                rw [Int.natCast_add] at hP' hb' hpc'
                have hplz : ((pl j : Nat) : Int) < (N : Int) := by omega
                generalize hq : pl j = q at *
                generalize hz : incs p pl j q = z at *
                clear hpc hP hpn hpl
                go_wp2
                go_roundw
                case measure => simp [intOf]; omega
                case rel => exact ⟨j + 1, by go_num, by omega, hb', hP', hpc'⟩
              · have hlz3 : ¬ (j : Int) < ((L : Nat) : Int) := by omega
                have hjL : j = L := by omega
                rw [hjL] at hP
                go_wp2
                go_ret2
                exact ⟨_, rfl, by omega, hb, hP⟩
end Go.Proofs.Ytlookiicogbkmaa
