/- Eight bytes of a number: plain mathematics, and the contracts of Fixed and TakeFixed. -/
import Derived.Test.YtnhkbbbafoglfaaVarM
import Derived.Test.YtnhkbbbafoglfaaVarB
import Derived.Test.YtnhkbbbafoglfaaVarQ
namespace Go.Proofs.Ytnhkbbbafoglfaa.VarF
open Go.RowKit VarM Byt VarP VarQ VarB

/-- The first k bytes of u, the least one first. -/
def fix : Nat → Nat → List UInt8
  | 0, _ => []
  | k + 1, u => UInt8.ofNat (u % 256) :: fix k (u / 256)
theorem fix_length : ∀ k u, (fix k u).length = k
  | 0, _ => rfl
  | k + 1, u => by simp [fix, fix_length k]
theorem fix_snoc : ∀ k u, fix (k + 1) u = fix k u ++ [UInt8.ofNat (u / 256 ^ k % 256)]
  | 0, u => by simp [fix]
  | k + 1, u => by
    rw [fix, fix_snoc k (u / 256), fix]
    simp only [List.cons_append]
    congr 5
    rw [Nat.div_div_eq_div_mul, Nat.pow_succ, Nat.mul_comm]

/-- The number of bytes, the least one first. -/
def num : List UInt8 → Nat
  | [] => 0
  | c :: l => c.toNat + 256 * num l
theorem num_append : ∀ (l r : List UInt8), num (l ++ r) = num l + 256 ^ l.length * num r
  | [], r => by simp [num]
  | c :: l, r => by
    rw [List.cons_append, num, num_append l r, num, List.length_cons, Nat.pow_succ, Nat.mul_add, ← Nat.mul_assoc, Nat.mul_comm 256 (256 ^ l.length), Nat.add_assoc]
theorem num_lt : ∀ l : List UInt8, num l < 256 ^ l.length
  | [] => by simp [num]
  | c :: l => by
    have := num_lt l
    have := c.toNat_lt
    rw [num, List.length_cons, Nat.pow_succ]
    omega
theorem num_fix : ∀ k u, num (fix k u) = u % 256 ^ k
  | 0, u => by simp [num, fix, Nat.mod_one]
  | k + 1, u => by
    rw [fix, num, num_fix k, toNat_ofNat (by omega), Nat.pow_succ, Nat.mul_comm (256 ^ k) 256, Nat.mod_mul]

/-- Bytes i up to 8 of a string, as a number. -/
theorem take_snoc (s : ByteArray) (k : Nat) (h : k < s.size) : s.data.toList.take (k + 1) = s.data.toList.take k ++ [s[k]] := by
  rw [List.take_succ_eq_append_getElem (by simpa using h)]; rfl
theorem num_snoc (s : ByteArray) (k : Nat) (h : k < s.size) : num (s.data.toList.take (k + 1)) = num (s.data.toList.take k) + s[k].toNat * 256 ^ k := by
  have hl : (s.data.toList.take k).length = k := by
    have e : s.data.toList.length = s.size := rfl
    rw [List.length_take, e]; omega
  rw [take_snoc s k h, num_append, hl]
  simp [num, Nat.mul_comm]
theorem num_take_lt (s : ByteArray) (k : Nat) : num (s.data.toList.take k) < 256 ^ k := by
  refine Nat.lt_of_lt_of_le (num_lt _) (Nat.pow_le_pow_right (by omega) (List.length_take_le _ _))
theorem num_drop (s : ByteArray) (k : Nat) (h : k < s.size) (hk : k < 8) : num ((s.data.toList.take 8).drop k) = s[k].toNat + 256 * num ((s.data.toList.take 8).drop (k + 1)) := by
  have hl : k < (s.data.toList.take 8).length := by
    have e : s.data.toList.length = s.size := rfl
    rw [List.length_take, e]; omega
  rw [List.drop_eq_getElem_cons hl, num, List.getElem_take]
  rfl
/-- What TakeFixed returns. -/
def fixed (l : List UInt8) : Nat × Nat := if l.length < 8 then (0, 4) else (num (l.take 8), 0)

theorem ret2 {u u' e e' : Int} (h1 : u = u') (h3 : e = e') : Ending.returned (.tuple #[.int .u64 u, .int .i64 e]) = .returned (.tuple #[.int .u64 u', .int .i64 e']) := by rw [h1, h3]

set_option maxRecDepth 100000 in
set_option maxHeartbeats 400000 in
theorem tfix_any (s : ByteArray) (w : World) (hs : s.size ≤ maxLen) :
    Calls Try.prog 22 #[.string s] w fun e w' => e = .returned (.tuple #[.int .u64 (fixed s.data.toList).1, .int .i64 (fixed s.data.toList).2]) ∧ w = w' := by
  unfold maxLen at hs
  by_cases h8 : s.size < 8
  · have Hf : Hid (fixed s.data.toList = (0, 4)) := Lib.hid (by unfold fixed; rw [if_pos (show s.data.toList.length < 8 from h8)])
    go_enter Try.func22, Try.ntmps22
    go_wp2
    go_ret2
    exact ⟨by rw [Hf.out]; rfl, rfl⟩
  · have Hf : Hid (fixed s.data.toList = (num (s.data.toList.take 8), 0)) := Lib.hid (by unfold fixed; rw [if_neg (show ¬ s.data.toList.length < 8 from h8)])
    have h8' : (8 : Int) ≤ s.size := by omega
    go_enter Try.func22, Try.ntmps22
    go_wp2
    go_loop [4, 5, 9] (fun u _ i => ∃ k : Nat, k ≤ 8 ∧ i = .int .i64 k ∧ u = .int .u64 (num (s.data.toList.take k))) (fun _ _ i => 8 - (intOf i).toNat)
    case atStart => exact ⟨0, by omega, rfl, by simp [num]⟩
    case round =>
      obtain ⟨k, hk, rfl, rfl⟩ := hrel
      by_cases hlt : k < 8
      · have Hs := Lib.hid (num_snoc s k (by omega))
        have Hb := Lib.hid (num_take_lt s (k + 1))
        have Ho := Lib.hid (or_eq256 (num_take_lt s k) (by
          rw [← Hs.out]
          have h1 := Hb.out
          have h2 : 256 ^ (k + 1) ≤ 256 ^ 8 := Nat.pow_le_pow_right (by omega) (by omega)
          omega))
        have hks : (k : Int) < s.size := by omega
        have hc1 : (s[k].toNat : Int) < 256 := by have := s[k].toNat_lt; omega
        go_wp2
        go_round
        case rel => exact ⟨k + 1, by omega, by go_num, by rw [Hs.out, Ho.out]⟩
        case measure => simp [intOf]; omega
      · obtain rfl : k = 8 := by omega
        go_wp2
        go_ret2
        exact ⟨by rw [Hf.out]; rfl, rfl⟩

set_option maxRecDepth 100000 in
set_option maxHeartbeats 400000 in
theorem rtfix_any (s : ByteArray) (w : World) (hs : s.size ≤ maxLen) :
    Calls Try.prog 23 #[.string s] w fun e w' => e = .returned (.tuple #[.int .u64 (fixed s.data.toList).1, .int .i64 (fixed s.data.toList).2]) ∧ w = w' := by
  unfold maxLen at hs
  by_cases h8 : s.size < 8
  · have Hf : Hid (fixed s.data.toList = (0, 4)) := Lib.hid (by unfold fixed; rw [if_pos (show s.data.toList.length < 8 from h8)])
    go_enter Try.func23, Try.ntmps23
    go_wp2
    go_ret2
    exact ⟨by rw [Hf.out]; rfl, rfl⟩
  · have Hf : Hid (fixed s.data.toList = (num (s.data.toList.take 8), 0)) := Lib.hid (by unfold fixed; rw [if_neg (show ¬ s.data.toList.length < 8 from h8)])
    have h8' : (8 : Int) ≤ s.size := by omega
    go_enter Try.func23, Try.ntmps23
    go_wp2
    go_loop [4, 5] (fun u i => ∃ k : Nat, k ≤ 8 ∧ i = .int .i64 ((k : Int) - 1) ∧ u = .int .u64 (num ((s.data.toList.take 8).drop k))) (fun _ i => (intOf i + 1).toNat)
    case atStart => exact ⟨8, by omega, rfl, by rw [List.drop_eq_nil_of_le (List.length_take_le _ _)]; rfl⟩
    case round =>
      obtain ⟨k, hk, rfl, rfl⟩ := hrel
      by_cases hlt : 1 ≤ k
      · obtain ⟨j, rfl⟩ : ∃ j, k = j + 1 := ⟨k - 1, by omega⟩
        have hjs : j < s.size := by omega
        have Hs := Lib.hid (num_drop s j hjs (by omega))
        have hc1 : (s[j].toNat : Int) < 256 := by have := s[j].toNat_lt; omega
        have hb : (256 : Int) * (num ((s.data.toList.take 8).drop (j + 1)) : Int) + (s[j].toNat : Int) ≤ 18446744073709551615 := by
          have h1 := num_lt ((s.data.toList.take 8).drop j)
          have h2 : 256 ^ ((s.data.toList.take 8).drop j).length ≤ 256 ^ 8 := Nat.pow_le_pow_right (by omega) (by
            rw [List.length_drop]
            have := List.length_take_le 8 s.data.toList
            omega)
          rw [Hs.out] at h1
          omega
        go_wp2
        go_round
        case rel => exact ⟨j, by omega, by go_num, by rw [Hs.out]; go_num⟩
        case measure => simp [intOf]
      · obtain rfl : k = 0 := by omega
        go_wp2
        go_ret2
        exact ⟨by rw [Hf.out]; rfl, rfl⟩

theorem slice8 (W : World) (a : Addr) : (Instr.sliceAt 44 (.pointer (some a)) none none none).run Try.prog W = .ok (.slice (some a) 8 8) W := by
  have hl : Try.prog.arrayLen 44 = 8 := by kernel_rfl
  have he : Try.prog.elem 44 = 5 := by kernel_rfl
  have hs : (Go.sizeOf 5).run Try.prog W = .ok 1 W := by
    obtain ⟨i, hi, _, h1, _⟩ := info_parts info
    simp [sizeOf, typeInfo, hi, h1]
  rw [run_sliceAt_array_all W 44 a (by rw [hl, he]; exact Try.underlying44), he, hs]
  simp [slicedAt, hl, Addr.add]

theorem fix_shift (k u : Nat) : (u : Int) / 2 ^ (8 * k) % 256 = ((UInt8.ofNat (u / 256 ^ k % 256)).toNat : Int) := by
  rw [toNat_ofNat (by omega), show (256 : Nat) ^ k = 2 ^ (8 * k) from by rw [Nat.pow_mul]]
  simp

set_option maxRecDepth 100000 in
set_option maxHeartbeats 400000 in
theorem fixed_any (u : Nat) (w : World) (_hu : u ≤ 18446744073709551615) :
    Calls Try.prog 24 #[.int .u64 u] w fun e w' => e = .returned (.string ⟨(fix 8 u).toArray⟩) ∧ Below w.heap.size w w' := by
  go_enter Try.func24, Try.ntmps24
  go_wp2
  go_loopw [4, 5] (fun _ i wr => ∃ (k : Nat) (f : Nat → Value), i = .int .i64 k ∧ k ≤ 8 ∧ wr.rowIs w.heap.size 44 8 f ∧ (∀ i, i < k → f i = bv ((fix k u).getD i 0)) ∧ Below w.heap.size w wr) (fun _ i _ => 8 - (intOf i).toNat)
  case atStart => exact ⟨0, _, rfl, by omega, World.rowIs_alloc _ (Array.replicate 8 (Value.int .u8 0)) _ (fun _ => .int .u8 0) (by intro i hi; rw [Array.getElem?_replicate]; simp at hi; simp [hi]), by simp, (Below.refl _ _).alloc (Nat.le_refl _) _⟩
  case round =>
    obtain ⟨k, f, rfl, hk, hrow, hf, hbel⟩ := hrel
    have Hf := Lib.hid hf
    clear hf
    have hs := hbel.size
    by_cases hlt : k < 8
    · have hc := hrow.cell (i := k) (by omega)
      have hz := hrow.frozen k
      have Hx := Lib.hid (fix_shift k u)
      go_wp2
      refine ⟨⟨k + 1, _, by go_num, by omega, hrow.set _ _, ?_, hbel.setCell (Nat.le_refl _) _⟩, by simp [intOf]; omega⟩
      intro i hi
      rw [fix_snoc]
      by_cases e : i = k
      · subst e
        have hl := fix_length i u
        simp [bv, Hx.out, List.getD, hl]
      · simp only [e, if_false]
        rw [Hf.out i (by omega), getD_app (by rw [fix_length]; omega)]
    · obtain rfl : k = 8 := by omega
      have hcv := conv_cells (w := wr) bytesT Try.underlying9 w.heap.size 8 8 (fix 8 u) (by rw [fix_length]) (by
        intro i hi
        rw [fix_length] at hi
        rw [hrow.cell (by omega), Hf.out i (by omega)])
      have hsl := slice8 wr ⟨w.heap.size, 0, none⟩
      go_wp2
      go_ret
      exact ⟨rfl, hbel⟩

set_option maxRecDepth 100000 in
set_option maxHeartbeats 400000 in
theorem rfixed_any (u : Nat) (w : World) (hu : u ≤ 18446744073709551615) :
    Calls Try.prog 25 #[.int .u64 u] w fun e w' => e = .returned (.string ⟨(fix 8 u).toArray⟩) ∧ Below w.heap.size w w' := by
  go_enter Try.func25, Try.ntmps25
  go_wp2
  go_loopw [0, 3, 4] (fun x v i wr => ∃ (k m : Nat), i = .int .i64 k ∧ k ≤ 8 ∧ x = .int .u64 m ∧ m = u / 256 ^ k ∧ OwnB wr w.heap.size 5 v (fix k u) ∧ Below w.heap.size w wr) (fun _ _ i _ => 8 - (intOf i).toNat)
  case atStart => exact ⟨0, u, rfl, by omega, rfl, by simp, OwnB.nil _ _ _, Below.refl _ _⟩
  case round =>
    obtain ⟨k, m, rfl, hk, rfl, hm, hown, hbel⟩ := hrel
    have Hm := Lib.hid hm
    have hmb : m ≤ 18446744073709551615 := by rw [hm]; exact Nat.le_trans (Nat.div_le_self _ _) hu
    clear hm
    have hs := hbel.size
    by_cases hlt : k < 8
    · have Hl := Lib.hid (fix_length k u)
      go_wp2_with (at_builtin; refine wpList_append_byte rfl _ _ bytesT rfl w.heap.size _ (fix k u) rfl (hown.alloc _) wr.heap.size _ ((m % 256 : Nat) : Int) (UInt8.ofNat (m % 256)) rfl ?_ ?c1 ?c2 ?c3 ?c4; intro v' w1 hown1 hg1)
      case c1 => exact cell_new _ _ _
      case c2 => rw [toNat_ofNat (by omega)]
      case c3 => rw [Hl.out]; omega
      case c4 => exact size_alloc hs
      refine ⟨⟨k + 1, m / 256, by go_num, by omega, by go_num, ?_, ?_, (hown.alloc _).below (hbel.alloc hs _) hg1 (size_alloc hs)⟩, by simp [intOf]; omega⟩
      · rw [Hm.out, Nat.div_div_eq_div_mul, Nat.pow_succ]
      · rw [fix_snoc, ← Hm.out]; exact hown1
    · obtain rfl : k = 8 := by omega
      have hcv := hown.conv bytesT Try.underlying9
      go_wp2
      go_ret
      exact ⟨rfl, hbel⟩
end Go.Proofs.Ytnhkbbbafoglfaa.VarF
