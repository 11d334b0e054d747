/- The walk of the law VarintLonger. -/
import Derived.Test.YtnhkbbbafoglfaaVarG
import Derived.Test.YtnhkbbbafoglfaaVarQ
import Derived.Test.YtnhkbbbafoglfaaVarV
import Derived.Test.YtnhkbbbafoglfaaByc
import Derived.Test.YtnhkbbbafoglfaaNums
namespace Go.Proofs.Ytnhkbbbafoglfaa.VarintLongerW
open Go.RowKit VarM VarS VarG VarP VarQ VarT VarU VarV Nums
open Byt (ByteTy bv cell_new size_alloc)
open Byc

set_option maxRecDepth 100000 in
set_option maxHeartbeats 800000 in
theorem walk (a z : Int) (w0 : (Lit.int .u64 a).wf = true) (w1 : (Lit.int .u8 z).wf = true) (w : World) :
    Calls Try.prog 8 #[.int .u64 a, .int .u8 z] w fun e w' => e = .returned (.bool true) ∧ Below w.heap.size w w' := by
  obtain ⟨u, rfl, hu⟩ := wf_u64 w0
  obtain ⟨y, rfl, hy⟩ := wf_u8 w1
  clear w0 w1
  have hp10 := put_le 9 u (by omega)
  obtain ⟨m, hm⟩ : ∃ m, (put u).length = m + 1 := ⟨(put u).length - 1, by
    have hne := put_ne u
    cases hh : put u with
    | nil => exact absurd hh hne
    | cons a l => simp⟩
  rw [hm] at hp10
  have Hm := Lib.hid hm
  clear hm
  go_enter Try.func8, Try.ntmps8
  go_wp2_with fail
  refine (put_any u _ hu).mono ?_
  rintro e W1 ⟨rfl, h1⟩
  obtain ⟨cap, W2, hcv, hown, hb2⟩ := conv_bytes W1 bytesT Try.underlying9 (put u) (m + 1) Hm.out.symm (by unfold maxLen; omega)
  obtain ⟨g, hg⟩ : ∃ g, g = W1.heap.size := ⟨_, rfl⟩
  have Hg := Lib.hid hg
  rw [← hg] at hcv hown
  clear hg
  have hz : (((m : Int) + 1) == 0) = false := by rw [beq_eq_false_iff_ne]; omega
  have hcap : m + 1 ≤ cap := hown.parts.2.2.2.1
  have hcp := hown.conv_part (cap' := cap) bytesT Try.underlying9 (n := m) (by omega)
  have Htake : Hid (take (List.take m (put u)) = (0, 0, 4)) := Lib.hid (by
    have h := take_before (u := u) (by omega)
    rw [List.dropLast_eq_take, Hm.out, Nat.add_sub_cancel] at h
    exact h)
  have Hset := Lib.hid (put_set u)
  have hlast : last (put u) = (put u).getD m 0 := by unfold last; rw [Hm.out, Nat.add_sub_cancel]
  have Hlast := Lib.hid hlast
  clear hlast
  have hcell := hown.cell (i := m) (by omega)
  have hfz := hown.frozen (i := m) (by omega)
  rw [← Hlast.out] at hcell
  obtain ⟨c, hc⟩ : ∃ c, c = last (put u) := ⟨_, rfl⟩
  have Hc := Lib.hid hc
  rw [← hc] at hcell
  clear hc
  have hc128 : (c.toNat : Int) < 128 := by have := Hset.out.2; rw [← Hc.out] at this; omega
  go_wp2_with fail
  refine (take_any _ _ (by rw [size_mk, List.length_take]; unfold maxLen; omega)).mono ?_
  rintro e w' ⟨rfl, rfl⟩
  rw [show (⟨(List.take m (put u)).toArray⟩ : ByteArray).data.toList = List.take m (put u) from rfl, Htake.out]
  go_wp2
  have hown2 := hown.set (j := m) (by omega) (UInt8.ofNat (c.toNat + 128)) (x := (c.toNat : Int) + 128) (by rw [toNat_ofNat (by omega)]; simp)
  have hputc : (put u).set m (UInt8.ofNat (c.toNat + 128)) = putc u := by
    have := Hset.out.1
    rw [Hm.out, Nat.add_sub_cancel, ← Hc.out] at this
    exact this
  rw [hputc] at hown2
  clear hputc
  have hb3 : Below g W1 (W2.setCell ⟨g, m, none⟩ (.int .u8 ((c.toNat : Int) + 128))) := by rw [Hg.out]; exact hb2.setCell (Nat.le_refl _) _
  have hgsz : g ≤ (W2.setCell ⟨g, m, none⟩ (.int .u8 ((c.toNat : Int) + 128))).heap.size := by have := hown2.parts.2.2.1; omega
  generalize W2.setCell ⟨g, m, none⟩ (.int .u8 ((c.toNat : Int) + 128)) = W3 at *
  obtain ⟨k, hk⟩ : ∃ k, k = y % 10 + 1 := ⟨_, rfl⟩
  have hk1 : (y : Int) % 10 + 1 = (k : Int) := by omega
  have hk2 : 1 ≤ k := by omega
  have hk3 : k ≤ 10 := by omega
  clear hk
  rw [hk1]
  clear hk1 hcell hfz hcv hcp hown hcap
  have Hpc := Lib.hid (putc_length u)
  go_loopw [5, 10] (fun v i wr => ∃ j : Nat, 1 ≤ j ∧ j ≤ k ∧ i = .int .i64 j ∧ OwnC wr g v (putc u ++ List.replicate (j - 1) 128) ∧ Below g W1 wr ∧ g ≤ wr.heap.size) (fun _ i _ => k - (intOf i).toNat)
  case atStart => exact ⟨1, by omega, by omega, rfl, by simpa using hown2, hb3, hgsz⟩
  case round =>
    obtain ⟨j, hj1, hj2, rfl, hown4, hb4, hs4⟩ := hrel
    have hl4 : (putc u ++ List.replicate (j - 1) (128 : UInt8)).length + 1 ≤ 140737488355328 := by rw [List.length_append, List.length_replicate, Hpc.out, Hm.out]; omega
    have Hl4 := Lib.hid hl4
    clear hl4
    by_cases hlt : j < k
    · go_wp2_with (at_builtin; refine wpList_append_byte rfl _ _ bytesT rfl g _ (putc u ++ List.replicate (j - 1) 128) rfl (hown4.alloc _) wr.heap.size _ 128 128 rfl ?_ ?c1 ?c2 ?c3 ?c4; intro v' w1 hown5 hb5)
      case c1 => exact cell_new _ _ _
      case c2 => rfl
      case c3 => exact Hl4.out
      case c4 => exact size_alloc hs4
      refine ⟨⟨j + 1, by omega, by omega, by go_num, ?_, ((hb4.alloc hs4 _).trans hb5), Nat.le_trans (size_alloc hs4) hb5.size⟩, by simp [intOf]; omega⟩
      rw [List.append_assoc, ← List.replicate_succ'] at hown5
      rw [show j + 1 - 1 = j - 1 + 1 from by omega]
      exact hown5
    · obtain rfl : j = k := by omega
      have Hlen := Lib.hid (longer_length (u := u) hk2)
      have Hsh := Lib.hid (longer_short (u := u) hk2)
      have Hsz : Hid ((⟨(longer u j).toArray⟩ : ByteArray).size ≤ maxLen) := Lib.hid (by rw [size_mk, Hlen.out, Hm.out]; unfold maxLen; omega)
      have hsz : ((⟨(longer u j).toArray⟩ : ByteArray).size : Int) = (m : Int) + 1 + j := by rw [size_mk, Hlen.out, Hm.out]; omega
      have Hsz2 := Lib.hid hsz
      clear hsz
      by_cases h10 : 10 < m + 1 + j
      · have Htk := Lib.hid (longer_range (u := u) hk2 (by rw [Hm.out]; exact h10))
        go_wp2_with (at_builtin; refine wpList_append_byte rfl _ _ bytesT rfl g _ (putc u ++ List.replicate (j - 1) 128) rfl (hown4.alloc _) wr.heap.size _ 0 0 rfl ?_ ?d1 ?d2 ?d3 ?d4; intro v' w1 hown5 hb5; have hcv2 := hown5.conv bytesT Try.underlying9; rw [show putc u ++ List.replicate (j - 1) (128 : UInt8) ++ [0] = longer u j from rfl] at hcv2)
        case d1 => exact cell_new _ _ _
        case d2 => rfl
        case d3 => exact Hl4.out
        case d4 => exact size_alloc hs4
        refine (take_any _ _ Hsz.out).mono ?_
        rintro e w' ⟨rfl, rfl⟩
        rw [show (⟨(longer u j).toArray⟩ : ByteArray).data.toList = longer u j from rfl, Htk.out]
        have hsz := Hsz2.out
        have hlen2 : ((longer u j).length : Int) = (m : Int) + 1 + j := by rw [Hlen.out, Hm.out]; omega
        have h10' : (10 : Int) < (m : Int) + 1 + j := by omega
        go_wp2_with fail
        refine (short_any _ _ Hsz.out).mono ?_
        rintro e w' ⟨rfl, rfl⟩
        rw [show (⟨(longer u j).toArray⟩ : ByteArray).data.toList = longer u j from rfl, Hsh.out]
        go_wp2
        go_ret
        exact ⟨rfl, below_trans h1 (Hg.out ▸ (hb4.alloc hs4 _).trans hb5)⟩
      · have Htk := Lib.hid (longer_ok (u := u) hk2 (by rw [Hm.out]; omega))
        rw [Hm.out] at Htk
        go_wp2_with (at_builtin; refine wpList_append_byte rfl _ _ bytesT rfl g _ (putc u ++ List.replicate (j - 1) 128) rfl (hown4.alloc _) wr.heap.size _ 0 0 rfl ?_ ?e1 ?e2 ?e3 ?e4; intro v' w1 hown5 hb5; have hcv2 := hown5.conv bytesT Try.underlying9; rw [show putc u ++ List.replicate (j - 1) (128 : UInt8) ++ [0] = longer u j from rfl] at hcv2)
        case e1 => exact cell_new _ _ _
        case e2 => rfl
        case e3 => exact Hl4.out
        case e4 => exact size_alloc hs4
        refine (take_any _ _ Hsz.out).mono ?_
        rintro e w' ⟨rfl, rfl⟩
        rw [show (⟨(longer u j).toArray⟩ : ByteArray).data.toList = longer u j from rfl, Htk.out]
        have hsz := Hsz2.out
        have hlen2 : ((longer u j).length : Int) = (m : Int) + 1 + j := by rw [Hlen.out, Hm.out]; omega
        have h10' : (m : Int) + 1 + j ≤ 10 := by omega
        have hcast : ((m + 1 + j : Nat) : Int) = (m : Int) + 1 + j := by omega
        rw [hcast]
        clear hcast
        go_wp2_with fail
        refine (short_any _ _ Hsz.out).mono ?_
        rintro e w' ⟨rfl, rfl⟩
        rw [show (⟨(longer u j).toArray⟩ : ByteArray).data.toList = longer u j from rfl, Hsh.out]
        go_wp2
        go_ret
        exact ⟨rfl, below_trans h1 (Hg.out ▸ (hb4.alloc hs4 _).trans hb5)⟩
end Go.Proofs.Ytnhkbbbafoglfaa.VarintLongerW
