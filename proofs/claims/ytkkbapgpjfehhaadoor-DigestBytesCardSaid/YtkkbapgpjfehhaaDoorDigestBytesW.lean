/- The walk of DigestBytes. -/
import Derived.Test.YtkkbapgpjfehhaaDoorDigX
import Derived.Test.YtkkbapgpjfehhaaDoorByc
import Derived.Deep.RegionHeld3
set_option linter.unusedSimpArgs false
set_option linter.unusedVariables false
namespace Go.Proofs.YtkkbapgpjfehhaaDoor.DigestBytesW
open Go.RowKit Dld Nums VarM FixM Byt BytT Byc DigM DigH DigA DigB DigC DigE DigX

theorem set_split (l : List UInt8) (k : Nat) (d : UInt8) (h : k < l.length) : l.set k d = l.take k ++ d :: l.drop (k + 1) := by
  rw [List.set_eq_take_append_cons_drop, if_pos h]
theorem get_split (l : List UInt8) (k : Nat) (h : k < l.length) : l = l.take k ++ l.getD k 0 :: l.drop (k + 1) := by
  have e : l.getD k 0 = l[k] := by simp [List.getD, List.getElem?_eq_getElem h]
  rw [e, List.getElem_cons_drop h, List.take_append_drop]

set_option maxRecDepth 100000 in
set_option maxHeartbeats 2000000 in
theorem walk (s : ByteArray) (at' : Int) (x : Nat) (hs : s.size ≤ 140737488351232) (ha : -9223372036854775808 ≤ at' ∧ at' ≤ 9223372036854775807) (hx : x ≤ 255) (w : World) (hL : Ld w) : Calls Tryd.prog 7 #[.string s, .int .i64 at', .int .u8 x] w fun e w' => e = .returned (.bool true) ∧ Below w.heap.size w w' := by
  have HA := Lib.hid fun w hL => awake_any w hL
  by_cases h3 : 3000 < s.size
  · go_enter Tryd.func7, Tryd.ntmps7
    go_wp2_with (go_at_call 9; refine (HA.out _ (by assumption)).mono ?_; rintro _ wa ⟨rfl, hba⟩)
    go_ret
    exact ⟨rfl, hba⟩
  by_cases h0 : at' < 0
  · go_enter Tryd.func7, Tryd.ntmps7
    go_wp2_with (go_at_call 9; refine (HA.out _ (by assumption)).mono ?_; rintro _ wa ⟨rfl, hba⟩)
    go_ret
    exact ⟨rfl, hba⟩
  by_cases h1 : (s.size : Int) ≤ at'
  · go_enter Tryd.func7, Tryd.ntmps7
    go_wp2_with (go_at_call 9; refine (HA.out _ (by assumption)).mono ?_; rintro _ wa ⟨rfl, hba⟩)
    go_ret
    exact ⟨rfl, hba⟩
  by_cases hx0 : x = 0
  · subst hx0
    go_enter Tryd.func7, Tryd.ntmps7
    go_wp2_with (go_at_call 9; refine (HA.out _ (by assumption)).mono ?_; rintro _ wa ⟨rfl, hba⟩)
    go_ret
    exact ⟨rfl, hba⟩
  obtain ⟨k, rfl⟩ : ∃ k : Nat, at' = k := ⟨at'.toNat, by omega⟩
  have hk : k < s.size := by omega
  have hl : s.data.toList.length = s.size := rfl
  obtain ⟨cap, W', hcv, hown, hb⟩ := conv_bytes w bytesT Tryd.underlying9 s.data.toList s.size hl.symm (by unfold maxLen; omega)
  rw [mk_toList] at hcv
  obtain ⟨c, hc⟩ : ∃ c, c = s.data.toList.getD k 0 := ⟨_, rfl⟩
  obtain ⟨d, hd⟩ : ∃ d, d = UInt8.ofNat (c.toNat ^^^ x) := ⟨_, rfl⟩
  have hcn := c.toNat_lt
  have hxx : c.toNat ^^^ x < 256 := Nat.xor_lt_two_pow (n := 8) c.toNat_lt (by omega)
  have hdn : d.toNat = c.toNat ^^^ x := by rw [hd, toNat_ofNat hxx]
  have hop : bits BinOp.xor .u8 (c.toNat : Int) (x : Int) = (d.toNat : Int) := by rw [hdn]; exact u8_xor_nat c.toNat x c.toNat_lt (by omega)
  have hne : c ≠ d := by
    intro e
    rw [← e] at hdn
    have : c.toNat ^^^ 0 = c.toNat ^^^ x := by rw [Nat.xor_zero]; exact hdn
    exact hx0 (xor_left this).symm
  have hcell : W'.cell? ⟨w.heap.size, k, none⟩ = some (.int .u8 (c.toNat : Int)) := by rw [hc]; exact hown.cell hk
  have hfr := hown.frozen hk
  have hown2 := hown.set hk d (x := (d.toNat : Int)) rfl
  have hcap := hown.parts.2.2.2.1
  have hcap2 : cap ≤ 9223372036854775807 := by have := hown.parts.2.2.2.2.1; unfold maxLen at this; omega
  have hcv2 := hown2.conv bytesT Tryd.underlying9
  have hbW := hb.setCell (p := ⟨w.heap.size, k, none⟩) (Nat.le_refl w.heap.size) (.int .u8 (d.toNat : Int))
  have hLW := hL.below hbW
  have e1 := get_split s.data.toList k (by omega)
  have e2 := set_split s.data.toList k d (by omega)
  rw [← hc] at e1
  have hf : fnv fnv0 (s.data.toList.set k d) ≠ fnv fnv0 s.data.toList := by
    rw [e2]; conv => rhs; rw [e1]
    exact fnv_differ (by decide) _ _ (Ne.symm hne)
  have hg : sum (s.data.toList.set k d) ≠ sum s.data.toList := by
    have h := crc_differ (r := 4294967295) (by decide) (s.data.toList.take k) (s.data.toList.drop (k + 1)) (Ne.symm hne)
    rw [← e2, ← e1] at h
    have b1 := crc_lt (s.data.toList.set k d) 4294967295 (by decide)
    have b2 := crc_lt s.data.toList 4294967295 (by decide)
    unfold sum
    omega
  have hz : (⟨(s.data.toList.set k d).toArray⟩ : ByteArray).size = s.size := by rw [size_mk, List.length_set, hl]
  have g1 := fun w => fnv_any ⟨(s.data.toList.set k d).toArray⟩ (by rw [hz]; omega) w
  have g2 := fun w => fnv_any s (by omega) w
  have g3 := fun w hL => crc_any ⟨(s.data.toList.set k d).toArray⟩ (by rw [hz]; omega) w hL
  have g4 := fun w hL => crc_any s (by omega) w hL
  simp only [str_toList] at g1 g3
  generalize (⟨(s.data.toList.set k d).toArray⟩ : ByteArray) = t at *
  generalize fnv fnv0 (s.data.toList.set k d) = m1 at *
  generalize fnv fnv0 s.data.toList = m2 at *
  generalize sum (s.data.toList.set k d) = n1 at *
  generalize sum s.data.toList = n2 at *
  have G1 := Lib.hid g1
  have G2 := Lib.hid g2
  have G3 := Lib.hid g3
  have G4 := Lib.hid g4
  have hf' : ((m1 : Int) != (m2 : Int)) = true := by simp; omega
  have hg' : ((n1 : Int) != (n2 : Int)) = true := by simp; omega
  have hks : (k : Int) < s.size := by omega
  have hxd : ((x : Int) == 0) = false := by simpa using hx0
  clear g1 g2 g3 g4 e1 e2 hown hown2 hc hd hne hdn hf hg hxx
  go_enter Tryd.func7, Tryd.ntmps7
  go_wp2_with fail
  refine (G1.out _).mono ?_
  rintro _ w1 ⟨rfl, rfl⟩
  go_wp2_with fail
  refine (G2.out _).mono ?_
  rintro _ w2 ⟨rfl, rfl⟩
  go_wp2_with fail
  refine (G3.out _ hLW).mono ?_
  rintro _ w3 ⟨rfl, rfl⟩
  go_wp2_with fail
  refine (G4.out _ hLW).mono ?_
  rintro _ w4 ⟨rfl, rfl⟩
  go_wp2_with (go_at_call 9; refine (HA.out _ (by assumption)).mono ?_; rintro _ wa ⟨rfl, hba⟩)
  go_ret
  exact ⟨rfl, below_trans hbW hba⟩
end Go.Proofs.YtkkbapgpjfehhaaDoor.DigestBytesW
