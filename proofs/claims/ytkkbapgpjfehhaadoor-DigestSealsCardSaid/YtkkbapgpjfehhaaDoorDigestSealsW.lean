/- The walk of DigestSeals. -/
import Derived.Test.YtkkbapgpjfehhaaDoorDigX
import Derived.Test.YtkkbapgpjfehhaaDoorByc
import Derived.Test.YtkkbapgpjfehhaaDoorDigS
import Derived.Deep.RegionHeld3
set_option linter.unusedSimpArgs false
set_option linter.unusedVariables false
namespace Go.Proofs.YtkkbapgpjfehhaaDoor.DigestSealsW
open Go.RowKit Dld Nums VarM FixM Byt BytT Byc DigM DigH DigA DigB DigC DigE DigX

open DigS
theorem fix_shift2' (wv k : Nat) : (wv : Int) / 2 ^ (8 * k) = (wv : Int) / 256 ^ k := by
  rw [Int.pow_mul]; rfl
set_option maxRecDepth 100000 in
set_option maxHeartbeats 4000000 in
theorem walk (s : ByteArray) (at' : Int) (wv : Nat) (hs : s.size ≤ 140737488351232) (ha : -9223372036854775808 ≤ at' ∧ at' ≤ 9223372036854775807) (hwv : wv ≤ 4294967295) (w : World) (hL : Ld w) : Calls Tryd.prog 6 #[.string s, .int .i64 at', .int .u32 wv] w fun e w' => e = .returned (.bool true) ∧ Below w.heap.size w w' := by
  have HA := Lib.hid fun w hL => awake_any w hL
  by_cases h3 : 3000 < s.size
  · go_enter Tryd.func6, Tryd.ntmps6
    go_wp2_with (go_at_call 9; refine (HA.out _ (by assumption)).mono ?_; rintro _ wa ⟨rfl, hba⟩)
    go_ret
    exact ⟨rfl, hba⟩
  have hl : s.data.toList.length = s.size := rfl
  have g1 := fun w hL => seal_any s (by omega) w hL
  obtain ⟨u, hu⟩ : ∃ u : ByteArray, u = ⟨(sealL s.data.toList).toArray⟩ := ⟨_, rfl⟩
  have hul : u.data.toList = sealL s.data.toList := by rw [hu]
  have hus : u.size = s.size + 4 := by
    have e : u.data.toList.length = u.size := rfl
    rw [hul] at e
    unfold sealL at e
    rw [List.length_append, sumB_len, hl] at e
    exact e.symm
  have g2 := fun w hL => open_any u (by omega) w hL
  rw [hul, open_seal] at g2
  simp only [mk_toList] at g2
  rw [← hu] at g1
  have G1 := Lib.hid g1
  have G2 := Lib.hid g2
  have g3 : ∀ (B : List UInt8) (ch : Bool), Inv (sealL s.data.toList) B at' 4 ch → ∀ (w : World) (_ : Ld w), Calls Tryd.prog 16 #[.string ⟨B.toArray⟩] w fun e w' => e = .returned (.tuple #[.string (if ch then ⟨#[]⟩ else s), .int .i64 (if ch then 25 else 0)]) ∧ Below w.heap.size w w' := by
    intro B ch hI w hL
    have hB : B.length = s.size + 4 := by
      rw [hI.len]; unfold sealL; rw [List.length_append, sumB_len, hl]
    have := open_any ⟨B.toArray⟩ (by rw [size_mk]; omega) w hL
    rw [str_toList] at this
    cases ch with
    | true => rw [hI.done_yes] at this; exact this
    | false => rw [hI.done_no] at this; exact this
  have G3 := Lib.hid g3
  have hI0 : Hid (Inv (sealL s.data.toList) u.data.toList at' 0 false) := Lib.hid (by rw [hul]; exact Inv.start _ _)
  have HU := Lib.hid hul
  have hc0 : (s.toList == s.toList) = true := beq_self_eq_true _
  clear g1 g2 g3 hu hul
  go_enter Tryd.func6, Tryd.ntmps6
  go_wp2_with fail
  refine (G1.out _ hL).mono ?_
  rintro _ w1 ⟨rfl, hb1⟩
  have hL1 := hL.below hb1
  go_wp2_with fail
  refine (G2.out _ hL1).mono ?_
  rintro _ w2 ⟨rfl, hb2⟩
  have hL2 := hL1.below hb2
  have hb := below_trans hb1 hb2
  obtain ⟨cap, W', hcv, hown, hbc⟩ := conv_bytes w2 bytesT Tryd.underlying9 u.data.toList u.size rfl (by unfold maxLen; omega)
  rw [mk_toList] at hcv
  have hbW := below_trans hb hbc
  have hW2 := hbc.size
  have hww2 := hb.size
  have hcap := hown.parts.2.2.2.1
  have hcap2 : cap ≤ 9223372036854775807 := by have := hown.parts.2.2.2.2.1; unfold maxLen at this; omega
  go_wp2_with fail
  have hfree : ∀ (wr : World), Below w.heap.size w wr → Ld wr := fun wr h => hL.below h
  have HF := Lib.hid hfree
  clear hL hL1 hL2 hfree hb1 hb2 hb hbc G1 G2
  go_loopw [11, 12] (fun ch i wr => ∃ (k : Nat) (c : Bool) (B : List UInt8), ch = .bool c ∧ i = .int .i64 k ∧ k ≤ 4 ∧ OwnC wr w2.heap.size (.slice (some ⟨w2.heap.size, 0, none⟩) u.size cap) B ∧ Below w.heap.size w wr ∧ w2.heap.size ≤ wr.heap.size ∧ Hid (Inv (sealL s.data.toList) B at' k c)) (fun _ i _ => 4 - (intOf i).toNat)
  case atStart => exact ⟨0, false, _, rfl, rfl, by omega, hown, hbW, hW2, hI0⟩
  case round =>
    obtain ⟨k, ch, B, rfl, rfl, hk, hown, hbel, hsz, hI⟩ := hrel
    by_cases hlt : k < 4
    · have hBl : B.length = u.size := hown.parts.1.symm
      obtain ⟨x, hxd⟩ : ∃ x, x = wv / 256 ^ k % 256 := ⟨_, rfl⟩
      have hx256 : x < 256 := by rw [hxd]; exact Nat.mod_lt _ (by decide)
      have hxi : (wv : Int) / 2 ^ (8 * k) % 256 = (x : Int) := by
        rw [fix_shift2' , hxd]; simp
      have hS := Lib.hid hI.out.skip
      by_cases c1 : 0 ≤ at'
      · by_cases c2 : at' < (u.size : Int) - k
        · by_cases c3 : x = 0
          · have hxb : ((x : Int) != 0) = false := by simp [c3]
            clear c3 hxd hI hx256
            go_wp2_with fail
            refine ⟨⟨k + 1, ch, B, rfl, by go_num, by omega, hown, hbel, hsz, hS⟩, by simp [intOf]; omega⟩
          · have hxb : ((x : Int) != 0) = true := by simp [c3]
            obtain ⟨q, hq⟩ : ∃ q : Nat, at' + (k : Int) = q := ⟨(at' + k).toNat, by omega⟩
            have hqu : q < u.size := by omega
            obtain ⟨c, hc⟩ : ∃ c, c = B.getD q 0 := ⟨_, rfl⟩
            obtain ⟨d, hd⟩ : ∃ d, d = UInt8.ofNat (c.toNat ^^^ x) := ⟨_, rfl⟩
            have hxx : c.toNat ^^^ x < 256 := Nat.xor_lt_two_pow (n := 8) c.toNat_lt hx256
            have hdn : d.toNat = c.toNat ^^^ x := by rw [hd, toNat_ofNat hxx]
            have hop : bits BinOp.xor .u8 (c.toNat : Int) (x : Int) = (d.toNat : Int) := by rw [hdn]; exact u8_xor_nat c.toNat x c.toNat_lt hx256
            have hne : d ≠ c := by
              intro e
              rw [e] at hdn
              have : c.toNat ^^^ 0 = c.toNat ^^^ x := by rw [Nat.xor_zero]; exact hdn
              exact c3 (xor_left this).symm
            have hN := Lib.hid (hI.out.put c1 hq (by omega) (by rw [← hc]; exact hne))
            have hcell : wr.cell? ⟨w2.heap.size, q, none⟩ = some (.int .u8 (c.toNat : Int)) := by rw [hc]; exact hown.cell hqu
            have hfr := hown.frozen hqu
            have hown2 := hown.set hqu d (x := (d.toNat : Int)) rfl
            have hbel2 := hbel.setCell (p := ⟨w2.heap.size, q, none⟩) hww2 (.int .u8 (d.toNat : Int))
            have hsz2 : w2.heap.size ≤ (wr.setCell ⟨w2.heap.size, q, none⟩ (.int .u8 (d.toNat : Int))).heap.size := by simpa using hsz
            have hqi : (q : Int) < u.size := by omega
            clear c3 hxd hI hS hx256 hc hd hxx hdn hne hBl hown
            go_wp2_with fail
            refine ⟨⟨k + 1, true, B.set q d, rfl, by go_num, by omega, hown2, hbel2, hsz2, hN⟩, by simp [intOf]; omega⟩
        · clear hxd hI hx256
          go_wp2_with fail
          refine ⟨⟨k + 1, ch, B, rfl, by go_num, by omega, hown, hbel, hsz, hS⟩, by simp [intOf]; omega⟩
      · clear hxd hI hx256
        go_wp2_with fail
        refine ⟨⟨k + 1, ch, B, rfl, by go_num, by omega, hown, hbel, hsz, hS⟩, by simp [intOf]; omega⟩
    · obtain rfl : k = 4 := by omega
      have hcv2 := hown.conv bytesT Tryd.underlying9
      rw [hus] at hcv2
      have hLr := HF.out _ hbel
      have g4 := G3.out B ch hI.out
      generalize (⟨B.toArray⟩ : ByteArray) = tb at *
      have G4 := Lib.hid g4
      clear g4 hown hI
      cases ch with
      | true =>
        simp only [if_true] at G4
        go_wp2_with fail
        refine (G4.out _ hLr).mono ?_
        rintro _ w5 ⟨rfl, hb5⟩
        have hL5 := hLr.below hb5
        go_wp2_with (go_at_call 9; refine (HA.out _ (by assumption)).mono ?_; rintro _ wa ⟨rfl, hba⟩)
        go_ret
        exact ⟨rfl, below_trans (below_trans hbel hb5) hba⟩
      | false =>
        simp only [Bool.false_eq_true, if_false] at G4
        go_wp2_with fail
        refine (G4.out _ hLr).mono ?_
        rintro _ w5 ⟨rfl, hb5⟩
        have hL5 := hLr.below hb5
        go_wp2_with (go_at_call 9; refine (HA.out _ (by assumption)).mono ?_; rintro _ wa ⟨rfl, hba⟩)
        go_ret
        exact ⟨rfl, below_trans (below_trans hbel hb5) hba⟩
end Go.Proofs.YtkkbapgpjfehhaaDoor.DigestSealsW
