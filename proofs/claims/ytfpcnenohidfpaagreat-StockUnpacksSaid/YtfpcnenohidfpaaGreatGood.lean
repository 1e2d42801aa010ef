/- Good, May and what the document says of them. No condition. -/
import Derived.Test.YtfpcnenohidfpaaGreatOver
namespace Go.Proofs.YtfpcnenohidfpaaGreat
open Go.RowKit Go.Maps Go.Shelf
set_option linter.unusedVariables false
set_option linter.unusedSimpArgs false

theorem cMay_iff (n : Int) : cMay n = true ↔ 0 ≤ n ∧ n ≤ 1099511627776 := by simp [cMay]
theorem cMay_not (n : Int) : cMay n = false ↔ n < 0 ∨ 1099511627776 < n := by
  unfold cMay
  simp
  omega
theorem may_any (n : Int) (w : World) : Calls Tryz.prog 43 #[.int .i64 n] w fun e w' => e = .returned (.bool (cMay n)) ∧ w' = w := by
  by_cases h0 : 0 ≤ n
  · by_cases h1 : n ≤ 1099511627776
    · go_enter Tryz.func43, Tryz.ntmps43
      go_wp2
      go_ret
      exact ⟨by rw [(cMay_iff n).2 ⟨h0, h1⟩]; rfl, rfl⟩
    · go_enter Tryz.func43, Tryz.ntmps43
      go_wp2
      go_ret
      exact ⟨by rw [(cMay_not n).2 (by omega)]; rfl, rfl⟩
  · go_enter Tryz.func43, Tryz.ntmps43
    go_wp2
    go_ret
    exact ⟨by rw [(cMay_not n).2 (by omega)]; rfl, rfl⟩
theorem refcmay_any (n : Int) (w : World) : Calls Tryz.prog 47 #[.int .i64 n] w fun e w' => e = .returned (.bool (cMay n)) ∧ w' = w := by
  by_cases h0 : 0 ≤ n
  · by_cases h1 : n ≤ 1099511627776
    · go_enter Tryz.func47, Tryz.ntmps47
      go_wp2
      go_ret
      exact ⟨by rw [(cMay_iff n).2 ⟨h0, h1⟩]; rfl, rfl⟩
    · go_enter Tryz.func47, Tryz.ntmps47
      go_wp2
      go_ret
      exact ⟨by rw [(cMay_not n).2 (by omega)]; rfl, rfl⟩
  · go_enter Tryz.func47, Tryz.ntmps47
    go_wp2
    go_ret
    exact ⟨by rw [(cMay_not n).2 (by omega)]; rfl, rfl⟩

theorem str_size (l : List UInt8) : (⟨l.toArray⟩ : ByteArray).size = l.length := by simp [ByteArray.size]
theorem str_get (l : List UInt8) (k : Nat) (h : k < (⟨l.toArray⟩ : ByteArray).size) : (⟨l.toArray⟩ : ByteArray)[k]'h = l[k]'(by rw [str_size] at h; exact h) := rfl
theorem good_take (s : List UInt8) (k : Nat) (h : k < s.length) (ha : (s.take k).all letOK = true) : (s.take (k + 1)).all letOK = letOK s[k] := by
  rw [List.take_add_one, List.getElem?_eq_getElem h, List.all_append, ha]
  simp
theorem all_bad (s : List UInt8) (k : Nat) (h : k < s.length) (hb : letOK s[k] = false) : s.all letOK = false := by
  rw [List.all_eq_false]
  exact ⟨s[k], List.getElem_mem h, by simp [hb]⟩

set_option maxRecDepth 100000 in
set_option maxHeartbeats 1600000 in
theorem good_any (s : List UInt8) (w : World) : Calls Tryz.prog 14 #[.string ⟨s.toArray⟩] w fun e w' => e = .returned (.bool (gOK s)) ∧ Below w.heap.size w w' := by
  have hsz := str_size s
  by_cases h1 : 1 ≤ s.length
  case neg =>
    have hlz : (s.length : Int) < 1 := by omega
    have hg : gOK s = false := by simp [gOK]; omega
    rw [hg]
    go_enter Tryz.func14, Tryz.ntmps14
    go_wp2
    go_ret
    exact ⟨rfl, Below.refl _ _⟩
  by_cases h2 : s.length ≤ 16
  case neg =>
    have hl1 : ¬ (s.length : Int) < 1 := by omega
    have hl2 : (16 : Int) < (s.length : Int) := by omega
    have hg : gOK s = false := by simp [gOK]; omega
    rw [hg]
    go_enter Tryz.func14, Tryz.ntmps14
    go_wp2
    go_ret
    exact ⟨rfl, Below.refl _ _⟩
  have hl1 : ¬ (s.length : Int) < 1 := by omega
  have hl2 : ¬ (16 : Int) < (s.length : Int) := by omega
  have hgs : gOK s = s.all letOK := by simp [gOK, h1, h2]
  rw [hgs]
  go_enter Tryz.func14, Tryz.ntmps14
  go_wp2
  go_loopw [] (fun wr => ∃ pos : Nat, wr = w.iter ⟨s.toArray⟩ pos ∧ pos ≤ s.length ∧ (s.take pos).all letOK = true) (fun wr => s.length - wr.iterPos w.heap.size)
  case atStart => exact ⟨0, rfl, by omega, by simp⟩
  case round =>
    obtain ⟨pos, rfl, hle, hal⟩ := hrel
    by_cases hp : pos < s.length
    · have hp' : pos < (⟨s.toArray⟩ : ByteArray).size := by rw [hsz]; exact hp
      by_cases ha : s[pos].toNat < 128
      · have hnx := fun ty => run_next_ascii (P := Tryz.prog) w ⟨s.toArray⟩ pos ty hp' (by rw [str_get]; exact ha)
        rw [str_get] at hnx
        have ht := good_take s pos hp hal
        have hb := all_bad s pos hp
        generalize s[pos] = b at *
        obtain ⟨v, hv⟩ : ∃ v : Nat, b.toNat = v := ⟨_, rfl⟩
        have hlet : letOK b = ((decide (97 ≤ v) && decide (v ≤ 122)) || (decide (48 ≤ v) && decide (v ≤ 57)) || decide (v = 45)) := by rw [← hv]; rfl
        simp only [hv] at hnx ha
        clear hv
        by_cases hA : 97 ≤ (v : Int)
        · have hC : 48 ≤ (v : Int) := by omega
          have hD : ¬ (v : Int) ≤ 57 := by omega
          have hE : ¬ (v : Int) = 45 := by omega
          by_cases hB : (v : Int) ≤ 122
          · have hl : letOK b = true := by rw [hlet]; simp <;> omega
            go_wp2
            go_roundw
            case rel => exact ⟨pos + 1, rfl, by omega, by rw [ht, hl]⟩
            case measure => simp [World.iterPos_iter]; omega
          · have hl : letOK b = false := by rw [hlet]; simp <;> omega
            have hsb := hb hl
            go_wp2
            go_ret
            exact ⟨by simp [hsb], (Below.refl w.heap.size w).alloc (Nat.le_refl _) _⟩
        · by_cases hC : 48 ≤ (v : Int)
          · have hE : ¬ (v : Int) = 45 := by omega
            by_cases hD : (v : Int) ≤ 57
            · have hl : letOK b = true := by rw [hlet]; simp <;> omega
              go_wp2
              go_roundw
              case rel => exact ⟨pos + 1, rfl, by omega, by rw [ht, hl]⟩
              case measure => simp [World.iterPos_iter]; omega
            · have hl : letOK b = false := by rw [hlet]; simp <;> omega
              have hsb := hb hl
              go_wp2
              go_ret
              exact ⟨by simp [hsb], (Below.refl w.heap.size w).alloc (Nat.le_refl _) _⟩
          · by_cases hE : (v : Int) = 45
            · obtain rfl : v = 45 := by omega
              have hl : letOK b = true := by rw [hlet]; simp <;> omega
              go_wp2
              go_roundw
              case rel => exact ⟨pos + 1, rfl, by omega, by rw [ht, hl]⟩
              case measure => simp [World.iterPos_iter]; omega
            · have hl : letOK b = false := by rw [hlet]; simp <;> omega
              have hsb := hb hl
              go_wp2
              go_ret
              exact ⟨by simp [hsb], (Below.refl w.heap.size w).alloc (Nat.le_refl _) _⟩
      · have hnx := fun ty => run_next_any (P := Tryz.prog) w ⟨s.toArray⟩ pos ty hp'
        have hd := decode_high ⟨s.toArray⟩ pos hp' (by rw [str_get]; omega)
        have hd2 := decode_le ⟨s.toArray⟩ pos
        have hb := all_bad s pos hp (by simp [letOK]; omega)
        generalize (Utf8.decode ⟨s.toArray⟩ pos).1 = v at *
        generalize (Utf8.decode ⟨s.toArray⟩ pos).2 = q at *
        have hA : 97 ≤ (v : Int) := by omega
        have hB : ¬ (v : Int) ≤ 122 := by omega
        have hC : 48 ≤ (v : Int) := by omega
        have hD : ¬ (v : Int) ≤ 57 := by omega
        have hE : ¬ (v : Int) = 45 := by omega
        go_wp2
        go_ret
        exact ⟨by simp [hb], (Below.refl w.heap.size w).alloc (Nat.le_refl _) _⟩
    · have hnx := fun ty => run_next_end (P := Tryz.prog) w ⟨s.toArray⟩ pos ty (by rw [hsz]; exact hp)
      rw [List.take_of_length_le (by omega)] at hal
      go_wp2
      go_ret
      exact ⟨by simp [hal], (Below.refl w.heap.size w).alloc (Nat.le_refl _) _⟩

/-! The document's. -/
set_option maxRecDepth 100000 in
set_option maxHeartbeats 1600000 in
theorem refgood_any (s : List UInt8) (w : World) (hs : s.length ≤ 9223372036854775807) : Calls Tryz.prog 20 #[.string ⟨s.toArray⟩] w fun e w' => e = .returned (.bool (gOK s)) ∧ w' = w := by
  have hsz := str_size s
  go_enter Tryz.func20, Tryz.ntmps20
  go_wp2
  go_loopw [3] (fun i wr => wr = w ∧ ∃ k : Nat, i = .int .i64 (k : Int) ∧ k ≤ s.length ∧ (s.take k).all letOK = true) (fun i _ => s.length - (intOf i).toNat)
  case atStart => exact ⟨rfl, 0, by go_num, by omega, by simp⟩
  case round =>
    obtain ⟨rfl, pos, rfl, hle, hal⟩ := hrel
    by_cases hp : pos < s.length
    · have hlz : (pos : Int) < (s.length : Int) := by omega
      have hp' : pos < (⟨s.toArray⟩ : ByteArray).size := by rw [hsz]; exact hp
      have ht := good_take s pos hp hal
      have hb := all_bad s pos hp
      obtain ⟨b, hbv⟩ : ∃ b, s[pos] = b := ⟨_, rfl⟩
      rw [hbv] at ht hb
      obtain ⟨v, hv0⟩ : ∃ v : Nat, b.toNat = v := ⟨_, rfl⟩
      have hv : ((⟨s.toArray⟩ : ByteArray)[pos]'hp').toNat = v := by rw [str_get, hbv, hv0]
      have hlet : letOK b = ((decide (97 ≤ v) && decide (v ≤ 122)) || (decide (48 ≤ v) && decide (v ≤ 57)) || decide (v = 45)) := by rw [← hv0]; rfl
      clear hbv hv0
      by_cases hA : 97 ≤ (v : Int)
      · have hC : 48 ≤ (v : Int) := by omega
        have hD : ¬ (v : Int) ≤ 57 := by omega
        have hE : ¬ (v : Int) = 45 := by omega
        have hE2 : ((v : Int) == 45) = false := beq_eq_false_iff_ne.2 hE
        by_cases hB : (v : Int) ≤ 122
        · have hl : letOK b = true := by rw [hlet]; simp <;> omega
          go_wp2
          go_roundw
          case rel => exact ⟨trivial, pos + 1, by go_num, by omega, by rw [ht, hl]⟩
          case measure => simp [intOf]; omega
        · have hl : letOK b = false := by rw [hlet]; simp <;> omega
          have hsb := hb hl
          go_wp2
          go_ret
          exact ⟨by simp [gOK, hsb], rfl⟩
      · by_cases hC : 48 ≤ (v : Int)
        · have hE : ¬ (v : Int) = 45 := by omega
          have hE2 : ((v : Int) == 45) = false := beq_eq_false_iff_ne.2 hE
          by_cases hD : (v : Int) ≤ 57
          · have hl : letOK b = true := by rw [hlet]; simp <;> omega
            go_wp2
            go_roundw
            case rel => exact ⟨trivial, pos + 1, by go_num, by omega, by rw [ht, hl]⟩
            case measure => simp [intOf]; omega
          · have hl : letOK b = false := by rw [hlet]; simp <;> omega
            have hsb := hb hl
            go_wp2
            go_ret
            exact ⟨by simp [gOK, hsb], rfl⟩
        · by_cases hE : (v : Int) = 45
          · obtain rfl : v = 45 := by omega
            have hl : letOK b = true := by rw [hlet]; simp <;> omega
            go_wp2
            go_roundw
            case rel => exact ⟨trivial, pos + 1, by go_num, by omega, by rw [ht, hl]⟩
            case measure => simp [intOf]; omega
          · have hE2 : ((v : Int) == 45) = false := beq_eq_false_iff_ne.2 hE
            have hl : letOK b = false := by rw [hlet]; simp <;> omega
            have hsb := hb hl
            go_wp2
            go_ret
            exact ⟨by simp [gOK, hsb], rfl⟩
    · have hlz : ¬ (pos : Int) < (s.length : Int) := by omega
      rw [List.take_of_length_le (by omega)] at hal
      by_cases h1 : 1 ≤ s.length
      · have h1' : 1 ≤ (s.length : Int) := by omega
        by_cases h2 : s.length ≤ 16
        · have h2' : (s.length : Int) ≤ 16 := by omega
          go_wp2
          go_ret
          exact ⟨by simp [gOK, h1, h2, hal], rfl⟩
        · have h2' : ¬ (s.length : Int) ≤ 16 := by omega
          go_wp2
          go_ret
          exact ⟨by simp [gOK, h2], rfl⟩
      · have h1' : ¬ 1 ≤ (s.length : Int) := by omega
        go_wp2
        go_ret
        exact ⟨by simp [gOK, h1], rfl⟩
end Go.Proofs.YtfpcnenohidfpaaGreat
