/- The bytes of a number and of a checksum; Mix, Seal and Open, of the program and of the reference. -/
import Derived.Test.YtkkbapgpjfehhaaDoorDigA
import Derived.Test.YtkkbapgpjfehhaaDoorBytT
import Derived.Deep.OwnRows
import Derived.Deep.RegionHeld3
import Derived.WalkSmall
set_option linter.unusedSimpArgs false
set_option linter.unusedVariables false
namespace Go.Proofs.YtkkbapgpjfehhaaDoor.DigB
open Go.RowKit VarM Byt BytT FixM DigM Dld Nums DigA

theorem slice4 (W : World) (a : Addr) : (Instr.sliceAt 51 (.pointer (some a)) none none none).run Tryd.prog W = .ok (.slice (some a) 4 4) W := by
  have hl : Tryd.prog.arrayLen 51 = 4 := by kernel_rfl
  have he : Tryd.prog.elem 51 = 5 := by kernel_rfl
  have hs : (Go.sizeOf 5).run Tryd.prog W = .ok 1 W := by
    obtain ⟨i, hi, _, h1, _⟩ := info_parts info
    simp [sizeOf, typeInfo, hi, h1]
  rw [run_sliceAt_array_all W 51 a (by rw [hl, he]; exact Tryd.underlying51), he, hs]
  simp [slicedAt, hl, Addr.add]
theorem slice16 (W : World) (a : Addr) : (Instr.sliceAt 43 (.pointer (some a)) none none none).run Tryd.prog W = .ok (.slice (some a) 16 16) W := by
  have hl : Tryd.prog.arrayLen 43 = 16 := by kernel_rfl
  have he : Tryd.prog.elem 43 = 5 := by kernel_rfl
  have hs : (Go.sizeOf 5).run Tryd.prog W = .ok 1 W := by
    obtain ⟨i, hi, _, h1, _⟩ := info_parts info
    simp [sizeOf, typeInfo, hi, h1]
  rw [run_sliceAt_array_all W 43 a (by rw [hl, he]; exact Tryd.underlying43), he, hs]
  simp [slicedAt, hl, Addr.add]
theorem fix_shift (k u : Nat) : (u : Int) / 2 ^ (8 * k) % 256 = ((UInt8.ofNat (u / 256 ^ k % 256)).toNat : Int) := by
  rw [toNat_ofNat (by omega), show (256 : Nat) ^ k = 2 ^ (8 * k) from by rw [Nat.pow_mul]]
  simp

theorem fix_shift2 (k u : Nat) : (u : Int) / 256 ^ k % 256 = ((UInt8.ofNat (u / 256 ^ k % 256)).toNat : Int) := by
  rw [toNat_ofNat (by omega)]
  simp

/-- A checksum in four bytes. -/
def sumB (l : List UInt8) : List UInt8 := fix 4 (sum l)
theorem sumB_len (l : List UInt8) : (sumB l).length = 4 := fix_length 4 _

set_option maxRecDepth 100000 in
set_option maxHeartbeats 400000 in
theorem sum_any (s : ByteArray) (hs : s.size ≤ 9223372036854775807) (w : World) (hL : Ld w) : Calls Tryd.prog 26 #[.string s] w fun e w' => e = .returned (.string ⟨(sumB s.data.toList).toArray⟩) ∧ Below w.heap.size w w' := by
  have HC := Lib.hid fun (w' : World) hb => crc_any s hs w' (hL.below hb)
  have hu := sum_lt s.data.toList
  have he : sumB s.data.toList = fix 4 (sum s.data.toList) := rfl
  rw [he]
  generalize sum s.data.toList = u at *
  clear he hL
  go_enter Tryd.func26, Tryd.ntmps26
  go_wp2_with (refine (HC.out _ ((Below.refl _ _).alloc (Nat.le_refl _) _)).mono ?_; rintro _ w1 ⟨rfl, rfl⟩)
  go_loopw [8] (fun i wr => ∃ (k : Nat) (f : Nat → Value), i = .int .i64 k ∧ k ≤ 4 ∧ wr.rowIs w.heap.size 51 4 f ∧ (∀ i, i < k → f i = bv ((fix k u).getD i 0)) ∧ Below w.heap.size w wr) (fun i _ => 4 - (intOf i).toNat)
  case atStart => exact ⟨0, _, rfl, by omega, World.rowIs_alloc _ (Array.replicate 4 (Value.int .u8 0)) _ (fun _ => .int .u8 0) (by intro i hi; rw [Array.getElem?_replicate]; simp at hi; simp [hi]), by simp, (Below.refl _ _).alloc (Nat.le_refl _) _⟩
  case round =>
    obtain ⟨k, f, rfl, hk, hrow, hf, hbel⟩ := hrel
    have Hf := Lib.hid hf
    clear hf HC
    have hs := hbel.size
    by_cases hlt : k < 4
    · have hc := hrow.cell (i := k) (by omega)
      have hz := hrow.frozen k
      have Hx := Lib.hid (fix_shift k u)
      go_wp2
      refine ⟨⟨k + 1, _, by go_num, by omega, hrow.set _ _, ?_, hbel.setCell (Nat.le_refl _) _⟩, by simp [intOf]; omega⟩
      intro i hi
      rw [fix_snoc]
      by_cases e : i = k
      · subst e
        have hl := fix_length i u
        simp [bv, Hx.out, List.getD, hl]
      · simp only [e, if_false]
        rw [Hf.out i (by omega), getD_app (by rw [fix_length]; omega)]
    · obtain rfl : k = 4 := by omega
      have hcv := conv_cells (w := wr) bytesT Tryd.underlying9 w.heap.size 4 4 (fix 4 u) (by rw [fix_length]) (by
        intro i hi
        rw [fix_length] at hi
        rw [hrow.cell (by omega), Hf.out i (by omega)])
      have hsl := slice4 wr ⟨w.heap.size, 0, none⟩
      go_wp2
      go_ret
      exact ⟨rfl, hbel⟩

/-- Mix. -/
def mixN (a b : Nat) : Nat := fnv fnv0 (fix 8 a ++ fix 8 b)

set_option maxRecDepth 100000 in
set_option maxHeartbeats 400000 in
theorem mix_any (a b : Nat) (w : World) : Calls Tryd.prog 14 #[.int .u64 a, .int .u64 b] w fun e w' => e = .returned (.int .u64 (mixN a b)) ∧ Below w.heap.size w w' := by
  have HC := Lib.hid fun (w' : World) => fnv_any ⟨(fix 8 a ++ fix 8 b).toArray⟩ (by rw [size_mk, List.length_append, fix_length, fix_length]; decide) w'
  go_enter Tryd.func14, Tryd.ntmps14
  go_wp2
  go_loopw [7] (fun i wr => ∃ (k : Nat) (f : Nat → Value), i = .int .i64 k ∧ k ≤ 8 ∧ wr.rowIs w.heap.size 43 16 f ∧ (∀ i, i < k → f i = bv ((fix k a).getD i 0)) ∧ (∀ i, i < k → f (8 + i) = bv ((fix k b).getD i 0)) ∧ Below w.heap.size w wr) (fun i _ => 8 - (intOf i).toNat)
  case atStart => exact ⟨0, _, rfl, by omega, World.rowIs_alloc _ (Array.replicate 16 (Value.int .u8 0)) _ (fun _ => .int .u8 0) (by intro i hi; rw [Array.getElem?_replicate]; simp at hi; simp [hi]), by simp, by simp, (Below.refl _ _).alloc (Nat.le_refl _) _⟩
  case round =>
    obtain ⟨k, f, rfl, hk, hrow, hf, hg, hbel⟩ := hrel
    have Hf := Lib.hid hf
    have Hg := Lib.hid hg
    clear hf hg
    have hs := hbel.size
    by_cases hlt : k < 8
    · have hc := hrow.cell (i := k) (by omega)
      have hz := hrow.frozen k
      have hrow2 := hrow.set k (.int .u8 ((a : Int) / 2 ^ (8 * k) % 256))
      have hc2 := hrow2.cell (i := 8 + k) (by omega)
      have hz2 := hrow2.frozen (8 + k)
      have Hx := Lib.hid (fix_shift k a)
      have Hy := Lib.hid (fix_shift k b)
      go_wp2_with fail
      refine ⟨⟨k + 1, _, by go_num, by omega, hrow2.set _ _, ?_, ?_, (hbel.setCell (Nat.le_refl _) _).setCell (Nat.le_refl _) _⟩, by simp [intOf]; omega⟩
      · intro i hi
        rw [fix_snoc]
        by_cases e : i = k
        · subst e
          have hl := fix_length i a
          have ne : ¬ i = 8 + i := by omega
          simp [bv, Hx.out, List.getD, hl, ne]
        · have ne : ¬ i = 8 + k := by omega
          simp only [e, ne, if_false]
          rw [Hf.out i (by omega), getD_app (by rw [fix_length]; omega)]
      · intro i hi
        rw [fix_snoc]
        by_cases e : i = k
        · subst e
          have hl := fix_length i b
          simp [bv, Hy.out, List.getD, hl]
        · have ne : ¬ 8 + i = 8 + k := by omega
          have ne2 : ¬ 8 + i = k := by omega
          simp only [ne, ne2, if_false]
          rw [Hg.out i (by omega), getD_app (by rw [fix_length]; omega)]
    · obtain rfl : k = 8 := by omega
      have hcv := conv_cells (w := wr) bytesT Tryd.underlying9 w.heap.size 16 16 (fix 8 a ++ fix 8 b) (by rw [List.length_append, fix_length, fix_length]) (by
        intro i hi
        rw [List.length_append, fix_length, fix_length] at hi
        rw [hrow.cell (by omega)]
        by_cases h8 : i < 8
        · rw [Hf.out i (by omega), getD_app (by rw [fix_length]; omega)]
        · obtain ⟨j, rfl⟩ : ∃ j, i = 8 + j := ⟨i - 8, by omega⟩
          rw [Hg.out j (by omega)]
          have hl := fix_length 8 a
          simp [List.getD, List.getElem?_append_right, hl])
      have hsl := slice16 wr ⟨w.heap.size, 0, none⟩
      clear Hf Hg hrow
      go_wp2_with (refine (HC.out _).mono ?_; rintro _ w1 ⟨rfl, rfl⟩)
      go_ret
      exact ⟨rfl, hbel⟩

set_option maxRecDepth 100000 in
set_option maxHeartbeats 400000 in
theorem eight_any (u : Nat) (hu : u ≤ 18446744073709551615) (w : World) :
    Calls Tryd.prog 25 #[.int .u64 u] w fun e w' => e = .returned (.string ⟨(fix 8 u).toArray⟩) ∧ Below w.heap.size w w' := by
  go_enter Tryd.func25, Tryd.ntmps25
  go_wp2
  go_loopw [0, 3, 4] (fun x v i wr => ∃ (k q : Nat) (l : List UInt8), i = .int .i64 k ∧ k ≤ 8 ∧ x = .int .u64 q ∧ q ≤ 18446744073709551615 ∧ OwnB wr w.heap.size 5 v l ∧ l.length ≤ 8 ∧ Below w.heap.size w wr ∧ Hid (fix 8 u = l ++ fix (8 - k) q)) (fun _ _ i _ => 8 - (intOf i).toNat)
  case atStart => exact ⟨0, u, [], rfl, by omega, rfl, hu, OwnB.nil _ _ _, by simp, Below.refl _ _, Lib.hid rfl⟩
  case round =>
    obtain ⟨k, q, l, rfl, hk, rfl, hq, hown, hl8, hbel, hfix⟩ := hrel
    have hs := hbel.size
    by_cases hlt : k < 8
    · have hl : l.length ≤ 7 := by
        have := congrArg List.length hfix.out
        simp only [fix_length, List.length_append] at this
        omega
      have hn : Hid (fix 8 u = (l ++ [UInt8.ofNat (q % 256)]) ++ fix (8 - (k + 1)) (q / 256)) := Lib.hid (by
        rw [hfix.out, show 8 - k = (8 - (k + 1)) + 1 by omega, fix]; simp)
      clear hfix
      go_wp2_with (at_builtin; refine wpList_append_byte rfl _ _ bytesT rfl w.heap.size _ l rfl (hown.alloc _) wr.heap.size _ ((q % 256 : Nat) : Int) (UInt8.ofNat (q % 256)) rfl ?_ ?d1 ?d2 ?d3 ?d4; intro v' w1 hown1 hg1)
      case d1 => exact cell_new _ _ _
      case d2 => rw [toNat_ofNat (by omega)]
      case d3 => omega
      case d4 => exact size_alloc hs
      refine ⟨⟨k + 1, q / 256, l ++ [UInt8.ofNat (q % 256)], by go_num, by omega, by go_num, by omega, hown1, by simp; omega, (hown.alloc _).below (hbel.alloc hs _) hg1 (size_alloc hs), hn⟩, ?_⟩
      simp [intOf]; omega
    · obtain rfl : k = 8 := by omega
      have hcv := hown.conv bytesT Tryd.underlying9
      have hf : fix 8 u = l := by rw [hfix.out]; simp [fix]
      clear hfix
      go_wp2
      go_ret
      exact ⟨ret_str (by rw [hf]), hbel⟩
end Go.Proofs.YtkkbapgpjfehhaaDoor.DigB
