/- The contract of the program's Fixed. -/
import Derived.Test.YtdgbbfhhjhhahaaFixM
import Derived.Test.YtdgbbfhhjhhahaaVarB
import Derived.Test.YtdgbbfhhjhhahaaBytT
import Derived.Deep.OwnRows
namespace Go.Proofs.Ytdgbbfhhjhhahaa.FixP
open Go.RowKit VarM Byt BytT FixM VarB

theorem slice8 (W : World) (a : Addr) : (Instr.sliceAt 61 (.pointer (some a)) none none none).run Try.prog W = .ok (.slice (some a) 8 8) W := by
  have hl : Try.prog.arrayLen 61 = 8 := by kernel_rfl
  have he : Try.prog.elem 61 = 5 := by kernel_rfl
  have hs : (Go.sizeOf 5).run Try.prog W = .ok 1 W := by
    obtain ⟨i, hi, _, h1, _⟩ := info_parts info
    simp [sizeOf, typeInfo, hi, h1]
  rw [run_sliceAt_array_all W 61 a (by rw [hl, he]; exact Try.underlying61), he, hs]
  simp [slicedAt, hl, Addr.add]

theorem fix_shift (k u : Nat) : (u : Int) / 2 ^ (8 * k) % 256 = ((UInt8.ofNat (u / 256 ^ k % 256)).toNat : Int) := by
  rw [toNat_ofNat (by omega), show (256 : Nat) ^ k = 2 ^ (8 * k) from by rw [Nat.pow_mul]]
  simp

set_option maxRecDepth 100000 in
set_option maxHeartbeats 400000 in
theorem fixed_any (u : Nat) (w : World) (_hu : u ≤ 18446744073709551615) :
    Calls Try.prog 26 #[.int .u64 u] w fun e w' => e = .returned (.string ⟨(fix 8 u).toArray⟩) ∧ Below w.heap.size w w' := by
  go_enter Try.func26, Try.ntmps26
  go_wp2
  go_loopw [4, 5] (fun _ i wr => ∃ (k : Nat) (f : Nat → Value), i = .int .i64 k ∧ k ≤ 8 ∧ wr.rowIs w.heap.size 61 8 f ∧ (∀ i, i < k → f i = bv ((fix k u).getD i 0)) ∧ Below w.heap.size w wr) (fun _ i _ => 8 - (intOf i).toNat)
  case atStart => exact ⟨0, _, rfl, by omega, World.rowIs_alloc _ (Array.replicate 8 (Value.int .u8 0)) _ (fun _ => .int .u8 0) (by intro i hi; rw [Array.getElem?_replicate]; simp at hi; simp [hi]), by simp, (Below.refl _ _).alloc (Nat.le_refl _) _⟩
  case round =>
    obtain ⟨k, f, rfl, hk, hrow, hf, hbel⟩ := hrel
    have Hf := Lib.hid hf
    clear hf
    have hs := hbel.size
    by_cases hlt : k < 8
    · have hc := hrow.cell (i := k) (by omega)
      have hz := hrow.frozen k
      have Hx := Lib.hid (fix_shift k u)
      go_wp2
      refine ⟨⟨k + 1, _, by go_num, by omega, hrow.set _ _, ?_, hbel.setCell (Nat.le_refl _) _⟩, by simp [intOf]; omega⟩
      intro i hi
      rw [fix_snoc]
      by_cases e : i = k
      · subst e
        have hl := fix_length i u
        simp [bv, Hx.out, List.getD, hl]
      · simp only [e, if_false]
        rw [Hf.out i (by omega), getD_app (by rw [fix_length]; omega)]
    · obtain rfl : k = 8 := by omega
      have hcv := conv_cells (w := wr) bytesT Try.underlying9 w.heap.size 8 8 (fix 8 u) (by rw [fix_length]) (by
        intro i hi
        rw [fix_length] at hi
        rw [hrow.cell (by omega), Hf.out i (by omega)])
      have hsl := slice8 wr ⟨w.heap.size, 0, none⟩
      go_wp2
      go_ret
      exact ⟨rfl, hbel⟩

end Go.Proofs.Ytdgbbfhhjhhahaa.FixP
