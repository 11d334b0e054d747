/- The contract of the program's Put. -/
import Derived.Test.YtdgbbfhhjhhahaaVarM
import Derived.Test.YtdgbbfhhjhhahaaVarB
import Derived.Test.YtdgbbfhhjhhahaaBytT
import Derived.Deep.OwnRows
namespace Go.Proofs.Ytdgbbfhhjhhahaa.PutP
open Go.RowKit VarM Byt BytT VarB

theorem slice10 (W : World) (a : Addr) (h : Int) (n : Nat) (e : h = n) (hn : n ≤ 10) : (Instr.sliceAt 59 (.pointer (some a)) none (some (.int .i64 h)) none).run Try.prog W = .ok (.slice (some a) n 10) W := by
  have hl : Try.prog.arrayLen 59 = 10 := by kernel_rfl
  have he : Try.prog.elem 59 = 5 := by kernel_rfl
  have hs : (Go.sizeOf 5).run Try.prog W = .ok 1 W := by
    obtain ⟨i, hi, _, h1, _⟩ := info_parts info
    simp [sizeOf, typeInfo, hi, h1]
  rw [run_sliceAt_array_h W 59 a (by rw [hl, he]; exact Try.underlying59) .i64 h (by omega) (by rw [hl]; omega), he, hs]
  simp [slicedAt, hl, e, Addr.add]

set_option maxRecDepth 100000 in
set_option maxHeartbeats 400000 in
theorem put_any (u : Nat) (w : World) (hu : u ≤ 18446744073709551615) :
    Calls Try.prog 25 #[.int .u64 u] w fun e w' => e = .returned (.string ⟨(put u).toArray⟩) ∧ Below w.heap.size w w' := by
  have hl10 : (put u).length ≤ 10 := put_le 9 u (by omega)
  go_enter Try.func25, Try.ntmps25
  go_wp2
  go_loopw [0, 4] (fun x n wr => ∃ (k : Nat) (l : List UInt8) (f : Nat → Value), x = .int .u64 k ∧ n = .int .i64 l.length ∧ k ≤ 18446744073709551615 ∧ wr.rowIs w.heap.size 59 10 f ∧ (∀ i, i < l.length → f i = bv (l.getD i 0)) ∧ Below w.heap.size w wr ∧ put u = l ++ put k) (fun x _ _ => (intOf x).toNat)
  case atStart => exact ⟨u, [], _, rfl, rfl, hu, World.rowIs_alloc _ (Array.replicate 10 (Value.int .u8 0)) _ (fun _ => .int .u8 0) (by intro i hi; rw [Array.getElem?_replicate]; simp at hi; simp [hi]), by simp, (Below.refl _ _).alloc (Nat.le_refl _) _, rfl⟩
  case round =>
    obtain ⟨k, l, f, rfl, rfl, hk, hrow, hf, hbel, hput⟩ := hrel
    have Hput := Lib.hid hput
    clear hput
    have Hf := Lib.hid hf
    clear hf
    have hl : l.length + (put k).length ≤ 10 := by have := congrArg List.length Hput.out; simp at this; omega
    have hp1 : 1 ≤ (put k).length := by
      have := put_ne k
      cases h : put k with
      | nil => exact absurd h this
      | cons a r => simp
    have hc := hrow.cell (i := l.length) (by omega)
    have hz := hrow.frozen l.length
    have hs := hbel.size
    have hl9 : (l.length : Int) < 10 := by omega
    have hset : ∀ (c : UInt8) (x : Int), x = (c.toNat : Int) → ∀ i, i < (l ++ [c]).length → (wr.setCell ⟨w.heap.size, l.length, none⟩ (.int .u8 x)).cell? ⟨w.heap.size, i, none⟩ = some (bv ((l ++ [c]).getD i 0)) := by
      intro c x hx i hi
      simp only [List.length_append, List.length_cons, List.length_nil] at hi
      rw [(hrow.set l.length _).cell (by omega)]
      by_cases e : i = l.length
      · subst e; simp [bv, hx]
      · rw [if_neg e, Hf.out i (by omega)]
        rw [getD_app (by omega)]
    have Hset := Lib.hid hset
    clear hset
    by_cases hlt : k < 128
    · have Hd := Lib.hid (put_small hlt)
      have hcv := conv_cells bytesT Try.underlying9 w.heap.size (l.length + 1) 10 (l ++ [UInt8.ofNat k]) (by simp) (Hset.out (UInt8.ofNat k) k (by rw [toNat_ofNat (by omega)]))
      have hsl := slice10 (wr.setCell ⟨w.heap.size, l.length, none⟩ (.int .u8 k)) ⟨w.heap.size, 0, none⟩ ((l.length : Int) + 1) (l.length + 1) (by simp) (by omega)
      go_wp2
      go_ret
      refine ⟨ret_str ?_, hbel.setCell (Nat.le_refl _) _⟩
      rw [Hput.out, Hd.out]
    · have Hd := Lib.hid (put_large hlt)
      have hor : bits .or .u8 ((k : Int) % 128) 128 = ((UInt8.ofNat (k % 128 + 128)).toNat : Int) := by
        rw [u8_or128_right _ (by omega) (by omega), toNat_ofNat (by omega)]; omega
      have Hor := Lib.hid hor
      clear hor
      go_wp2
      refine ⟨⟨k / 128, l ++ [UInt8.ofNat (k % 128 + 128)], _, by go_num, by simp, by omega, hrow.set _ _, ?_, hbel.setCell (Nat.le_refl _) _, ?_⟩, ?_⟩
      · intro i hi
        simp only [List.length_append, List.length_cons, List.length_nil] at hi
        by_cases e : i = l.length
        · subst e; simp [bv, Hor.out]
        · simp only [e, if_false]
          rw [Hf.out i (by omega), getD_app (by omega)]
      · rw [Hput.out, Hd.out]; simp
      · simp [intOf]; omega
end Go.Proofs.Ytdgbbfhhjhhahaa.PutP
