/- The contract of the reference's Put. -/
import Derived.Test.YtnhkbbbafoglfaaVarM
import Derived.Test.YtnhkbbbafoglfaaByt
namespace Go.Proofs.Ytnhkbbbafoglfaa.VarP
open Go.RowKit VarM Byt

theorem info : (Try.prog.info? 5).map (fun i => (i.zero, i.size, i.bytes)) = some (some (.int .u8 0), 1, 1) := by kernel_rfl
theorem bytesT : ByteTy Try.prog 36 5 := by
  refine ⟨Try.underlying36, Try.underlying5, ?_⟩
  obtain ⟨i, hi, h0, h1, h2⟩ := info_parts info
  exact ⟨i, hi, h0, h1, h2⟩

theorem ret_str {a b : ByteArray} (h : a = b) : Ending.returned (.string a) = .returned (.string b) := by rw [h]

set_option maxRecDepth 100000 in
set_option maxHeartbeats 400000 in
theorem rput_any (u : Nat) (w : World) (hu : u ≤ 18446744073709551615) :
    Calls Try.prog 11 #[.int .u64 u] w fun e w' => e = .returned (.string ⟨(put u).toArray⟩) ∧ Below w.heap.size w w' := by
  have hl10 : (put u).length ≤ 10 := put_le 9 u (by omega)
  go_enter Try.func11, Try.ntmps11
  go_wp2
  go_loopw [0, 3] (fun x v wr => ∃ (k : Nat) (l : List UInt8), x = .int .u64 k ∧ k ≤ 18446744073709551615 ∧ OwnB wr w.heap.size 5 v l ∧ Below w.heap.size w wr ∧ put u = l ++ put k) (fun x _ _ => (intOf x).toNat)
  case atStart => exact ⟨u, [], rfl, hu, OwnB.nil _ _ _, Below.refl _ _, rfl⟩
  case round =>
    obtain ⟨k, l, rfl, hk, hown, hbel, hput⟩ := hrel
    have Hput := Lib.hid hput
    clear hput
    have hl : l.length ≤ 10 := by have := congrArg List.length Hput.out; simp at this; omega
    have hs := hbel.size
    by_cases hlt : k < 128
    · have Hd := Lib.hid (put_small hlt)
      go_wp2_with (at_builtin; refine wpList_append_byte rfl _ _ bytesT rfl w.heap.size _ l rfl (hown.alloc _) wr.heap.size _ (k : Int) (UInt8.ofNat k) rfl ?_ ?c1 ?c2 ?c3 ?c4; intro v' w1 hown1 hg1; have hcv := hown1.conv bytesT Try.underlying9)
      case c1 => exact cell_new _ _ _
      case c2 => rw [toNat_ofNat (by omega)]
      case c3 => omega
      case c4 => exact size_alloc hs
      go_ret
      refine ⟨ret_str ?_, (hown.alloc _).below (hbel.alloc hs _) hg1 (size_alloc hs)⟩
      rw [Hput.out, Hd.out]
    · have Hd := Lib.hid (put_large hlt)
      go_wp2_with (at_builtin; refine wpList_append_byte rfl _ _ bytesT rfl w.heap.size _ l rfl (hown.alloc _) wr.heap.size _ ((k % 128 + 128 : Nat) : Int) (UInt8.ofNat (k % 128 + 128)) rfl ?_ ?d1 ?d2 ?d3 ?d4; intro v' w1 hown1 hg1)
      case d1 => exact cell_new _ _ _
      case d2 => rw [toNat_ofNat (by omega)]
      case d3 => omega
      case d4 => exact size_alloc hs
      refine ⟨⟨k / 128, l ++ [UInt8.ofNat (k % 128 + 128)], by go_num, by omega, hown1, (hown.alloc _).below (hbel.alloc hs _) hg1 (size_alloc hs), ?_⟩, ?_⟩
      · rw [Hput.out, Hd.out]; simp
      · simp [intOf]; omega
end Go.Proofs.Ytnhkbbbafoglfaa.VarP
