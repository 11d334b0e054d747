/- Contracts of between, tail and Size of the reference of package utf. -/
import Derived.Test.YtgjbpadhdnclnaaGreatDoorUtfS
import Derived.BigGuardPart
set_option linter.unusedSimpArgs false
set_option linter.unusedVariables false
namespace Go.Proofs.YtgjbpadhdnclnaaGreatDoor.UtfR
open Go.RowKit Nums Byt UtfM UtfS

theorem lget {s : ByteArray} {n : Nat} (h : n < s.size) : s.data.toList[n]? = some s[n] := by
  rw [List.getElem?_eq_getElem h]; rfl
theorem lget_no {s : ByteArray} {n : Nat} (h : ¬ n < s.size) : s.data.toList[n]? = none := by
  rw [List.getElem?_eq_none_iff]; show s.size ≤ n; omega

set_option maxHeartbeats 400000 in
set_option maxRecDepth 100000 in
theorem between_any (s : ByteArray) (j : Int) (n : Nat) (hj : j = n) (lo hi : Int) (a b : Nat) (ha : lo = a) (hb : hi = b) (ha2 : a ≤ 255) (hb2 : b ≤ 255) (hs : s.size ≤ 4611686018427387904) (w : World) :
    Calls Tryz.prog 95 #[.string s, .int .i64 j, .int .u8 lo, .int .u8 hi] w fun e w' => e = .returned (.bool (inR (s.data.toList[n]?) a b)) ∧ w = w' := by
  subst hj ha hb
  have hs' : (s.size : Int) ≤ 4611686018427387904 := by omega
  by_cases h : n < s.size
  · have hg := lget h
    have Hg := Lib.hid hg
    have hc256 : (s[n].toNat : Int) < 256 := by have := s[n].toNat_lt; omega
    clear hg
    by_cases h1 : a ≤ s[n].toNat
    · by_cases h2 : s[n].toNat ≤ b
      · have d1 : decide (a ≤ s[n].toNat) = true := by simp [h1]
        have d2 : decide (s[n].toNat ≤ b) = true := by simp [h2]
        go_enter Tryz.func95, Tryz.ntmps95
        go_wp2_with fail
        go_ret
        exact ⟨ret_bool (by rw [Hg.out]; simp [inR, h1, h2]), rfl⟩
      · have d1 : decide (a ≤ s[n].toNat) = true := by simp [h1]
        have d2 : decide (s[n].toNat ≤ b) = false := by simp; omega
        go_enter Tryz.func95, Tryz.ntmps95
        go_wp2_with fail
        go_ret
        exact ⟨ret_bool (by rw [Hg.out]; simp [inR, h2]), rfl⟩
    · have d1 : decide (a ≤ s[n].toNat) = false := by simp; omega
      go_enter Tryz.func95, Tryz.ntmps95
      go_wp2_with fail
      go_ret
      exact ⟨ret_bool (by rw [Hg.out]; simp [inR, h1]), rfl⟩
  · have hg := lget_no h
    have Hg := Lib.hid hg
    clear hg
    have d0 : decide (n < s.size) = false := by simp; omega
    go_enter Tryz.func95, Tryz.ntmps95
    go_wp2_with fail
    go_ret
    exact ⟨ret_bool (by rw [Hg.out]; rfl), rfl⟩

def tlB (l : List UInt8) (i : Nat) : Nat → Bool
  | 0 => true
  | n + 1 => tlB l i n && inR (l[i + n]?) 128 191
theorem tlB_false {l : List UInt8} {i k n : Nat} (h : tlB l i k = false) (hk : k ≤ n) : tlB l i n = false := by
  induction n with
  | zero => obtain rfl : k = 0 := by omega
            exact h
  | succ n ih =>
    by_cases e : k = n + 1
    · subst e; exact h
    · rw [tlB, ih (by omega)]; rfl

set_option maxHeartbeats 1000000 in
set_option maxRecDepth 100000 in
theorem tail_any (s : ByteArray) (j : Int) (i : Nat) (hj : j = i) (m : Int) (n : Nat) (hm : m = n) (hn : n ≤ 3) (hi : i ≤ 4611686018427387910) (hs : s.size ≤ 4611686018427387904) (w : World) :
    Calls Tryz.prog 94 #[.string s, .int .i64 j, .int .i64 m] w fun e w' => e = .returned (.bool (tlB s.data.toList i n)) ∧ w = w' := by
  subst hj hm
  go_enter Tryz.func94, Tryz.ntmps94
  go_wp2_with fail
  go_loop [7] (fun t => ∃ k : Nat, k ≤ n ∧ t = .int .i64 k ∧ Hid (tlB s.data.toList i k = true)) (fun t => n - (intOf t).toNat)
  case atStart => exact ⟨0, by omega, rfl, Lib.hid rfl⟩
  case round =>
    obtain ⟨k, hk, rfl, Hk⟩ := hrel
    by_cases hlt : k < n
    · cases hx : inR (s.data.toList[i + k]?) 128 191 with
      | true =>
        have Hx := Lib.hid hx
        clear hx
        go_wp2_with fail
        refine (between_any s _ (i + k) (by simp) _ _ 128 191 rfl rfl (by omega) (by omega) hs _).mono ?_
        rintro _ w1 ⟨rfl, rfl⟩
        rw [Hx.out]
        go_wp2_with fail
        refine ⟨⟨k + 1, by omega, by go_num, Lib.hid ?_⟩, by simp [intOf]; omega⟩
        rw [tlB, Hk.out, Hx.out]; rfl
      | false =>
        have Hx := Lib.hid hx
        clear hx
        go_wp2_with fail
        refine (between_any s _ (i + k) (by simp) _ _ 128 191 rfl rfl (by omega) (by omega) hs _).mono ?_
        rintro _ w1 ⟨rfl, rfl⟩
        rw [Hx.out]
        go_wp2_with fail
        go_ret
        refine ⟨ret_bool ?_, rfl⟩
        rw [tlB_false (k := k + 1) (n := n) (by rw [tlB, Hx.out]; simp) (by omega)]
    · obtain rfl : k = n := by omega
      go_wp2_with fail
      go_ret
      exact ⟨ret_bool (by rw [Hk.out]), rfl⟩

theorem tl1 (l : List UInt8) (i : Nat) : tlB l i 1 = inR (l[i]?) 128 191 := by simp [tlB]
theorem tl2 (l : List UInt8) (i : Nat) : tlB l i 2 = (inR (l[i]?) 128 191 && inR (l[i + 1]?) 128 191) := by simp [tlB]
theorem tl3 (l : List UInt8) (i : Nat) : tlB l i 3 = (inR (l[i]?) 128 191 && inR (l[i + 1]?) 128 191 && inR (l[i + 2]?) 128 191) := by simp [tlB]

theorem sz_A {l : List UInt8} {i : Nat} {a : UInt8} (h0 : l[i]? = some a) (hlo : 0 ≤ a.toNat) (hhi : a.toNat ≤ 127) : sz (l.drop i) = 1 := by
  rw [sz_drop]
  have g1 : (a.toNat < 128) = True := eq_true (by omega)
  have g2 : (194 ≤ a.toNat) = False := eq_false (by omega)
  have g3 : (a.toNat ≤ 223) = True := eq_true (by omega)
  have g4 : (a.toNat = 224) = False := eq_false (by omega)
  have g5 : (a.toNat = 237) = False := eq_false (by omega)
  have g6 : (225 ≤ a.toNat) = False := eq_false (by omega)
  have g7 : (a.toNat ≤ 239) = True := eq_true (by omega)
  have g8 : (a.toNat = 240) = False := eq_false (by omega)
  have g9 : (241 ≤ a.toNat) = False := eq_false (by omega)
  have g10 : (a.toNat ≤ 243) = True := eq_true (by omega)
  have g11 : (a.toNat = 244) = False := eq_false (by omega)
  simp [szF, h0, g1, g2, g3, g4, g5, g6, g7, g8, g9, g10, g11]
theorem sz_B {l : List UInt8} {i : Nat} {a : UInt8} (h0 : l[i]? = some a) (hlo : 128 ≤ a.toNat) (hhi : a.toNat ≤ 193) : sz (l.drop i) = 0 := by
  rw [sz_drop]
  have g1 : (a.toNat < 128) = False := eq_false (by omega)
  have g2 : (194 ≤ a.toNat) = False := eq_false (by omega)
  have g3 : (a.toNat ≤ 223) = True := eq_true (by omega)
  have g4 : (a.toNat = 224) = False := eq_false (by omega)
  have g5 : (a.toNat = 237) = False := eq_false (by omega)
  have g6 : (225 ≤ a.toNat) = False := eq_false (by omega)
  have g7 : (a.toNat ≤ 239) = True := eq_true (by omega)
  have g8 : (a.toNat = 240) = False := eq_false (by omega)
  have g9 : (241 ≤ a.toNat) = False := eq_false (by omega)
  have g10 : (a.toNat ≤ 243) = True := eq_true (by omega)
  have g11 : (a.toNat = 244) = False := eq_false (by omega)
  simp [szF, h0, g1, g2, g3, g4, g5, g6, g7, g8, g9, g10, g11]
theorem sz_C {l : List UInt8} {i : Nat} {a : UInt8} (h0 : l[i]? = some a) (hlo : 194 ≤ a.toNat) (hhi : a.toNat ≤ 223) : sz (l.drop i) = if (tlB l (i + 1) 1) = true then 2 else 0 := by
  rw [sz_drop]
  have g1 : (a.toNat < 128) = False := eq_false (by omega)
  have g2 : (194 ≤ a.toNat) = True := eq_true (by omega)
  have g3 : (a.toNat ≤ 223) = True := eq_true (by omega)
  have g4 : (a.toNat = 224) = False := eq_false (by omega)
  have g5 : (a.toNat = 237) = False := eq_false (by omega)
  have g6 : (225 ≤ a.toNat) = False := eq_false (by omega)
  have g7 : (a.toNat ≤ 239) = True := eq_true (by omega)
  have g8 : (a.toNat = 240) = False := eq_false (by omega)
  have g9 : (241 ≤ a.toNat) = False := eq_false (by omega)
  have g10 : (a.toNat ≤ 243) = True := eq_true (by omega)
  have g11 : (a.toNat = 244) = False := eq_false (by omega)
  simp only [tl1, tl2, tl3, Nat.add_assoc, Nat.reduceAdd]
  simp [szF, h0, g1, g2, g3, g4, g5, g6, g7, g8, g9, g10, g11]
theorem sz_D {l : List UInt8} {i : Nat} {a : UInt8} (h0 : l[i]? = some a) (hlo : 224 ≤ a.toNat) (hhi : a.toNat ≤ 224) : sz (l.drop i) = if (inR (l[i + 1]?) 160 191 && tlB l (i + 2) 1) = true then 3 else 0 := by
  rw [sz_drop]
  have g1 : (a.toNat < 128) = False := eq_false (by omega)
  have g2 : (194 ≤ a.toNat) = True := eq_true (by omega)
  have g3 : (a.toNat ≤ 223) = False := eq_false (by omega)
  have g5 : (a.toNat = 237) = False := eq_false (by omega)
  have g6 : (225 ≤ a.toNat) = False := eq_false (by omega)
  have g7 : (a.toNat ≤ 239) = True := eq_true (by omega)
  have g8 : (a.toNat = 240) = False := eq_false (by omega)
  have g9 : (241 ≤ a.toNat) = False := eq_false (by omega)
  have g10 : (a.toNat ≤ 243) = True := eq_true (by omega)
  have g11 : (a.toNat = 244) = False := eq_false (by omega)
  have ga : a.toNat = 224 := by omega
  simp only [tl1, tl2, tl3, Nat.add_assoc, Nat.reduceAdd]
  simp [szF, h0, ga]
theorem sz_E {l : List UInt8} {i : Nat} {a : UInt8} (h0 : l[i]? = some a) (hlo : 237 ≤ a.toNat) (hhi : a.toNat ≤ 237) : sz (l.drop i) = if (inR (l[i + 1]?) 128 159 && tlB l (i + 2) 1) = true then 3 else 0 := by
  rw [sz_drop]
  have g1 : (a.toNat < 128) = False := eq_false (by omega)
  have g2 : (194 ≤ a.toNat) = True := eq_true (by omega)
  have g3 : (a.toNat ≤ 223) = False := eq_false (by omega)
  have g4 : (a.toNat = 224) = False := eq_false (by omega)
  have g6 : (225 ≤ a.toNat) = True := eq_true (by omega)
  have g7 : (a.toNat ≤ 239) = True := eq_true (by omega)
  have g8 : (a.toNat = 240) = False := eq_false (by omega)
  have g9 : (241 ≤ a.toNat) = False := eq_false (by omega)
  have g10 : (a.toNat ≤ 243) = True := eq_true (by omega)
  have g11 : (a.toNat = 244) = False := eq_false (by omega)
  have ga : a.toNat = 237 := by omega
  simp only [tl1, tl2, tl3, Nat.add_assoc, Nat.reduceAdd]
  simp [szF, h0, ga]
theorem sz_F {l : List UInt8} {i : Nat} {a : UInt8} (h0 : l[i]? = some a) (hlo : 225 ≤ a.toNat) (hhi : a.toNat ≤ 239) (hne : a.toNat ≠ 237) : sz (l.drop i) = if (tlB l (i + 1) 2) = true then 3 else 0 := by
  rw [sz_drop]
  have g1 : (a.toNat < 128) = False := eq_false (by omega)
  have g2 : (194 ≤ a.toNat) = True := eq_true (by omega)
  have g3 : (a.toNat ≤ 223) = False := eq_false (by omega)
  have g4 : (a.toNat = 224) = False := eq_false (by omega)
  have g5 : (a.toNat = 237) = False := eq_false (by omega)
  have g6 : (225 ≤ a.toNat) = True := eq_true (by omega)
  have g7 : (a.toNat ≤ 239) = True := eq_true (by omega)
  have g8 : (a.toNat = 240) = False := eq_false (by omega)
  have g9 : (241 ≤ a.toNat) = False := eq_false (by omega)
  have g10 : (a.toNat ≤ 243) = True := eq_true (by omega)
  have g11 : (a.toNat = 244) = False := eq_false (by omega)
  simp only [tl1, tl2, tl3, Nat.add_assoc, Nat.reduceAdd]
  simp [szF, h0, g1, g2, g3, g4, g5, g6, g7, g8, g9, g10, g11]
theorem sz_G {l : List UInt8} {i : Nat} {a : UInt8} (h0 : l[i]? = some a) (hlo : 240 ≤ a.toNat) (hhi : a.toNat ≤ 240) : sz (l.drop i) = if (inR (l[i + 1]?) 144 191 && tlB l (i + 2) 2) = true then 4 else 0 := by
  rw [sz_drop]
  have g1 : (a.toNat < 128) = False := eq_false (by omega)
  have g2 : (194 ≤ a.toNat) = True := eq_true (by omega)
  have g3 : (a.toNat ≤ 223) = False := eq_false (by omega)
  have g4 : (a.toNat = 224) = False := eq_false (by omega)
  have g5 : (a.toNat = 237) = False := eq_false (by omega)
  have g6 : (225 ≤ a.toNat) = True := eq_true (by omega)
  have g7 : (a.toNat ≤ 239) = False := eq_false (by omega)
  have g9 : (241 ≤ a.toNat) = False := eq_false (by omega)
  have g10 : (a.toNat ≤ 243) = True := eq_true (by omega)
  have g11 : (a.toNat = 244) = False := eq_false (by omega)
  have ga : a.toNat = 240 := by omega
  simp only [tl1, tl2, tl3, Nat.add_assoc, Nat.reduceAdd]
  simp [szF, h0, ga]
theorem sz_H {l : List UInt8} {i : Nat} {a : UInt8} (h0 : l[i]? = some a) (hlo : 241 ≤ a.toNat) (hhi : a.toNat ≤ 243) : sz (l.drop i) = if (tlB l (i + 1) 3) = true then 4 else 0 := by
  rw [sz_drop]
  have g1 : (a.toNat < 128) = False := eq_false (by omega)
  have g2 : (194 ≤ a.toNat) = True := eq_true (by omega)
  have g3 : (a.toNat ≤ 223) = False := eq_false (by omega)
  have g4 : (a.toNat = 224) = False := eq_false (by omega)
  have g5 : (a.toNat = 237) = False := eq_false (by omega)
  have g6 : (225 ≤ a.toNat) = True := eq_true (by omega)
  have g7 : (a.toNat ≤ 239) = False := eq_false (by omega)
  have g8 : (a.toNat = 240) = False := eq_false (by omega)
  have g9 : (241 ≤ a.toNat) = True := eq_true (by omega)
  have g10 : (a.toNat ≤ 243) = True := eq_true (by omega)
  have g11 : (a.toNat = 244) = False := eq_false (by omega)
  simp only [tl1, tl2, tl3, Nat.add_assoc, Nat.reduceAdd]
  simp [szF, h0, g1, g2, g3, g4, g5, g6, g7, g8, g9, g10, g11]
theorem sz_I {l : List UInt8} {i : Nat} {a : UInt8} (h0 : l[i]? = some a) (hlo : 244 ≤ a.toNat) (hhi : a.toNat ≤ 244) : sz (l.drop i) = if (inR (l[i + 1]?) 128 143 && tlB l (i + 2) 2) = true then 4 else 0 := by
  rw [sz_drop]
  have g1 : (a.toNat < 128) = False := eq_false (by omega)
  have g2 : (194 ≤ a.toNat) = True := eq_true (by omega)
  have g3 : (a.toNat ≤ 223) = False := eq_false (by omega)
  have g4 : (a.toNat = 224) = False := eq_false (by omega)
  have g5 : (a.toNat = 237) = False := eq_false (by omega)
  have g6 : (225 ≤ a.toNat) = True := eq_true (by omega)
  have g7 : (a.toNat ≤ 239) = False := eq_false (by omega)
  have g8 : (a.toNat = 240) = False := eq_false (by omega)
  have g9 : (241 ≤ a.toNat) = True := eq_true (by omega)
  have g10 : (a.toNat ≤ 243) = False := eq_false (by omega)
  have ga : a.toNat = 244 := by omega
  simp only [tl1, tl2, tl3, Nat.add_assoc, Nat.reduceAdd]
  simp [szF, h0, ga]
theorem sz_J {l : List UInt8} {i : Nat} {a : UInt8} (h0 : l[i]? = some a) (hlo : 245 ≤ a.toNat) (hhi : a.toNat ≤ 255) : sz (l.drop i) = 0 := by
  rw [sz_drop]
  have g1 : (a.toNat < 128) = False := eq_false (by omega)
  have g2 : (194 ≤ a.toNat) = True := eq_true (by omega)
  have g3 : (a.toNat ≤ 223) = False := eq_false (by omega)
  have g4 : (a.toNat = 224) = False := eq_false (by omega)
  have g5 : (a.toNat = 237) = False := eq_false (by omega)
  have g6 : (225 ≤ a.toNat) = True := eq_true (by omega)
  have g7 : (a.toNat ≤ 239) = False := eq_false (by omega)
  have g8 : (a.toNat = 240) = False := eq_false (by omega)
  have g9 : (241 ≤ a.toNat) = True := eq_true (by omega)
  have g10 : (a.toNat ≤ 243) = False := eq_false (by omega)
  have g11 : (a.toNat = 244) = False := eq_false (by omega)
  simp [szF, h0, g1, g2, g3, g4, g5, g6, g7, g8, g9, g10, g11]
set_option maxHeartbeats 1000000 in
set_option maxRecDepth 100000 in
theorem size_A (s : ByteArray) (i : Nat) (hi : i < s.size) (hs : s.size ≤ 4611686018427387904) (hlo : 0 ≤ s[i].toNat) (hhi : s[i].toNat ≤ 127) (w : World) :
    Calls Tryz.prog 61 #[.string s, .int .i64 i] w fun e w' => e = .returned (.int .i64 (sz (s.data.toList.drop i))) ∧ w = w' := by
  have hres := sz_A (lget hi) hlo hhi
  have Hres := Lib.hid hres
  clear hres
  have z1 : (0 : Int) ≤ s[i].toNat := by omega
  have z2 : (s[i].toNat : Int) ≤ 127 := by omega
  have e224 : ((s[i].toNat : Int) == 224) = false := by rw [beq_eq_false_iff_ne]; omega
  have e237 : ((s[i].toNat : Int) == 237) = false := by rw [beq_eq_false_iff_ne]; omega
  have e240 : ((s[i].toNat : Int) == 240) = false := by rw [beq_eq_false_iff_ne]; omega
  have e244 : ((s[i].toNat : Int) == 244) = false := by rw [beq_eq_false_iff_ne]; omega
  have lt128 : decide ((s[i].toNat : Int) < 128) = true := by simp only [decide_eq_true_eq, decide_eq_false_iff_not]; omega
  have ge194 : decide ((194 : Int) ≤ s[i].toNat) = false := by simp only [decide_eq_true_eq, decide_eq_false_iff_not]; omega
  have le223 : decide ((s[i].toNat : Int) ≤ 223) = true := by simp only [decide_eq_true_eq, decide_eq_false_iff_not]; omega
  have ge225 : decide ((225 : Int) ≤ s[i].toNat) = false := by simp only [decide_eq_true_eq, decide_eq_false_iff_not]; omega
  have le239 : decide ((s[i].toNat : Int) ≤ 239) = true := by simp only [decide_eq_true_eq, decide_eq_false_iff_not]; omega
  have ge241 : decide ((241 : Int) ≤ s[i].toNat) = false := by simp only [decide_eq_true_eq, decide_eq_false_iff_not]; omega
  have le243 : decide ((s[i].toNat : Int) ≤ 243) = true := by simp only [decide_eq_true_eq, decide_eq_false_iff_not]; omega
  have n237 : ((s[i].toNat : Int) != 237) = true := by rw [bne_iff_ne]; omega
  go_enter Tryz.func61, Tryz.ntmps61
  go_wp2_with fail
  go_ret
  exact ⟨ret_int (by rw [Hres.out]; rfl), rfl⟩
set_option maxHeartbeats 1000000 in
set_option maxRecDepth 100000 in
theorem size_B (s : ByteArray) (i : Nat) (hi : i < s.size) (hs : s.size ≤ 4611686018427387904) (hlo : 128 ≤ s[i].toNat) (hhi : s[i].toNat ≤ 193) (w : World) :
    Calls Tryz.prog 61 #[.string s, .int .i64 i] w fun e w' => e = .returned (.int .i64 (sz (s.data.toList.drop i))) ∧ w = w' := by
  have hres := sz_B (lget hi) hlo hhi
  have Hres := Lib.hid hres
  clear hres
  have z1 : (128 : Int) ≤ s[i].toNat := by omega
  have z2 : (s[i].toNat : Int) ≤ 193 := by omega
  have e224 : ((s[i].toNat : Int) == 224) = false := by rw [beq_eq_false_iff_ne]; omega
  have e237 : ((s[i].toNat : Int) == 237) = false := by rw [beq_eq_false_iff_ne]; omega
  have e240 : ((s[i].toNat : Int) == 240) = false := by rw [beq_eq_false_iff_ne]; omega
  have e244 : ((s[i].toNat : Int) == 244) = false := by rw [beq_eq_false_iff_ne]; omega
  have lt128 : decide ((s[i].toNat : Int) < 128) = false := by simp only [decide_eq_true_eq, decide_eq_false_iff_not]; omega
  have ge194 : decide ((194 : Int) ≤ s[i].toNat) = false := by simp only [decide_eq_true_eq, decide_eq_false_iff_not]; omega
  have le223 : decide ((s[i].toNat : Int) ≤ 223) = true := by simp only [decide_eq_true_eq, decide_eq_false_iff_not]; omega
  have ge225 : decide ((225 : Int) ≤ s[i].toNat) = false := by simp only [decide_eq_true_eq, decide_eq_false_iff_not]; omega
  have le239 : decide ((s[i].toNat : Int) ≤ 239) = true := by simp only [decide_eq_true_eq, decide_eq_false_iff_not]; omega
  have ge241 : decide ((241 : Int) ≤ s[i].toNat) = false := by simp only [decide_eq_true_eq, decide_eq_false_iff_not]; omega
  have le243 : decide ((s[i].toNat : Int) ≤ 243) = true := by simp only [decide_eq_true_eq, decide_eq_false_iff_not]; omega
  have n237 : ((s[i].toNat : Int) != 237) = true := by rw [bne_iff_ne]; omega
  go_enter Tryz.func61, Tryz.ntmps61
  go_wp2_with fail
  go_ret
  exact ⟨ret_int (by rw [Hres.out]; rfl), rfl⟩
set_option maxHeartbeats 1000000 in
set_option maxRecDepth 100000 in
theorem size_C (s : ByteArray) (i : Nat) (hi : i < s.size) (hs : s.size ≤ 4611686018427387904) (hlo : 194 ≤ s[i].toNat) (hhi : s[i].toNat ≤ 223) (w : World) :
    Calls Tryz.prog 61 #[.string s, .int .i64 i] w fun e w' => e = .returned (.int .i64 (sz (s.data.toList.drop i))) ∧ w = w' := by
  have hres := sz_C (lget hi) hlo hhi
  have Hres := Lib.hid hres
  clear hres
  have z1 : (194 : Int) ≤ s[i].toNat := by omega
  have z2 : (s[i].toNat : Int) ≤ 223 := by omega
  have e224 : ((s[i].toNat : Int) == 224) = false := by rw [beq_eq_false_iff_ne]; omega
  have e237 : ((s[i].toNat : Int) == 237) = false := by rw [beq_eq_false_iff_ne]; omega
  have e240 : ((s[i].toNat : Int) == 240) = false := by rw [beq_eq_false_iff_ne]; omega
  have e244 : ((s[i].toNat : Int) == 244) = false := by rw [beq_eq_false_iff_ne]; omega
  have lt128 : decide ((s[i].toNat : Int) < 128) = false := by simp only [decide_eq_true_eq, decide_eq_false_iff_not]; omega
  have ge194 : decide ((194 : Int) ≤ s[i].toNat) = true := by simp only [decide_eq_true_eq, decide_eq_false_iff_not]; omega
  have le223 : decide ((s[i].toNat : Int) ≤ 223) = true := by simp only [decide_eq_true_eq, decide_eq_false_iff_not]; omega
  have ge225 : decide ((225 : Int) ≤ s[i].toNat) = false := by simp only [decide_eq_true_eq, decide_eq_false_iff_not]; omega
  have le239 : decide ((s[i].toNat : Int) ≤ 239) = true := by simp only [decide_eq_true_eq, decide_eq_false_iff_not]; omega
  have ge241 : decide ((241 : Int) ≤ s[i].toNat) = false := by simp only [decide_eq_true_eq, decide_eq_false_iff_not]; omega
  have le243 : decide ((s[i].toNat : Int) ≤ 243) = true := by simp only [decide_eq_true_eq, decide_eq_false_iff_not]; omega
  have n237 : ((s[i].toNat : Int) != 237) = true := by rw [bne_iff_ne]; omega
  cases hx : tlB s.data.toList (i + 1) 1 with
  | true =>
    have Hx := Lib.hid hx
    clear hx
    go_enter Tryz.func61, Tryz.ntmps61
    go_wp2_with fail
    refine (tail_any s _ (i + 1) (by simp) _ 1 rfl (by omega) (by omega) hs _).mono ?_
    rintro _ w1 ⟨rfl, rfl⟩
    rw [Hx.out]
    go_wp2_with fail
    go_ret
    exact ⟨ret_int (by rw [Hres.out, Hx.out]; rfl), rfl⟩
  | false =>
    have Hx := Lib.hid hx
    clear hx
    go_enter Tryz.func61, Tryz.ntmps61
    go_wp2_with fail
    refine (tail_any s _ (i + 1) (by simp) _ 1 rfl (by omega) (by omega) hs _).mono ?_
    rintro _ w1 ⟨rfl, rfl⟩
    rw [Hx.out]
    go_wp2_with fail
    go_ret
    exact ⟨ret_int (by rw [Hres.out, Hx.out]; rfl), rfl⟩
set_option maxHeartbeats 1000000 in
set_option maxRecDepth 100000 in
theorem size_D (s : ByteArray) (i : Nat) (hi : i < s.size) (hs : s.size ≤ 4611686018427387904) (hlo : 224 ≤ s[i].toNat) (hhi : s[i].toNat ≤ 224) (w : World) :
    Calls Tryz.prog 61 #[.string s, .int .i64 i] w fun e w' => e = .returned (.int .i64 (sz (s.data.toList.drop i))) ∧ w = w' := by
  have hres := sz_D (lget hi) hlo hhi
  have Hres := Lib.hid hres
  clear hres
  have z1 : (224 : Int) ≤ s[i].toNat := by omega
  have z2 : (s[i].toNat : Int) ≤ 224 := by omega
  have e224 : ((s[i].toNat : Int) == 224) = true := by rw [beq_iff_eq]; omega
  have e237 : ((s[i].toNat : Int) == 237) = false := by rw [beq_eq_false_iff_ne]; omega
  have e240 : ((s[i].toNat : Int) == 240) = false := by rw [beq_eq_false_iff_ne]; omega
  have e244 : ((s[i].toNat : Int) == 244) = false := by rw [beq_eq_false_iff_ne]; omega
  have lt128 : decide ((s[i].toNat : Int) < 128) = false := by simp only [decide_eq_true_eq, decide_eq_false_iff_not]; omega
  have ge194 : decide ((194 : Int) ≤ s[i].toNat) = true := by simp only [decide_eq_true_eq, decide_eq_false_iff_not]; omega
  have le223 : decide ((s[i].toNat : Int) ≤ 223) = false := by simp only [decide_eq_true_eq, decide_eq_false_iff_not]; omega
  have ge225 : decide ((225 : Int) ≤ s[i].toNat) = false := by simp only [decide_eq_true_eq, decide_eq_false_iff_not]; omega
  have le239 : decide ((s[i].toNat : Int) ≤ 239) = true := by simp only [decide_eq_true_eq, decide_eq_false_iff_not]; omega
  have ge241 : decide ((241 : Int) ≤ s[i].toNat) = false := by simp only [decide_eq_true_eq, decide_eq_false_iff_not]; omega
  have le243 : decide ((s[i].toNat : Int) ≤ 243) = true := by simp only [decide_eq_true_eq, decide_eq_false_iff_not]; omega
  have n237 : ((s[i].toNat : Int) != 237) = true := by rw [bne_iff_ne]; omega
  cases hx : inR (s.data.toList[i + 1]?) 160 191 with
  | false =>
    have Hx := Lib.hid hx
    clear hx
    go_enter Tryz.func61, Tryz.ntmps61
    go_wp2_with fail
    refine (between_any s _ (i + 1) (by simp) _ _ 160 191 rfl rfl (by omega) (by omega) hs _).mono ?_
    rintro _ w1 ⟨rfl, rfl⟩
    rw [Hx.out]
    go_wp2_with fail
    go_ret
    exact ⟨ret_int (by rw [Hres.out, Hx.out]; rfl), rfl⟩
  | true =>
    have Hx := Lib.hid hx
    clear hx
    cases hy : tlB s.data.toList (i + 2) 1 with
    | true =>
      have Hy := Lib.hid hy
      clear hy
      go_enter Tryz.func61, Tryz.ntmps61
      go_wp2_with fail
      refine (between_any s _ (i + 1) (by simp) _ _ 160 191 rfl rfl (by omega) (by omega) hs _).mono ?_
      rintro _ w1 ⟨rfl, rfl⟩
      rw [Hx.out]
      go_wp2_with fail
      refine (tail_any s _ (i + 2) (by simp) _ 1 rfl (by omega) (by omega) hs _).mono ?_
      rintro _ w1 ⟨rfl, rfl⟩
      rw [Hy.out]
      go_wp2_with fail
      go_ret
      exact ⟨ret_int (by rw [Hres.out, Hx.out, Hy.out]; rfl), rfl⟩
    | false =>
      have Hy := Lib.hid hy
      clear hy
      go_enter Tryz.func61, Tryz.ntmps61
      go_wp2_with fail
      refine (between_any s _ (i + 1) (by simp) _ _ 160 191 rfl rfl (by omega) (by omega) hs _).mono ?_
      rintro _ w1 ⟨rfl, rfl⟩
      rw [Hx.out]
      go_wp2_with fail
      refine (tail_any s _ (i + 2) (by simp) _ 1 rfl (by omega) (by omega) hs _).mono ?_
      rintro _ w1 ⟨rfl, rfl⟩
      rw [Hy.out]
      go_wp2_with fail
      go_ret
      exact ⟨ret_int (by rw [Hres.out, Hx.out, Hy.out]; rfl), rfl⟩
set_option maxHeartbeats 1000000 in
set_option maxRecDepth 100000 in
theorem size_E (s : ByteArray) (i : Nat) (hi : i < s.size) (hs : s.size ≤ 4611686018427387904) (hlo : 237 ≤ s[i].toNat) (hhi : s[i].toNat ≤ 237) (w : World) :
    Calls Tryz.prog 61 #[.string s, .int .i64 i] w fun e w' => e = .returned (.int .i64 (sz (s.data.toList.drop i))) ∧ w = w' := by
  have hres := sz_E (lget hi) hlo hhi
  have Hres := Lib.hid hres
  clear hres
  have z1 : (237 : Int) ≤ s[i].toNat := by omega
  have z2 : (s[i].toNat : Int) ≤ 237 := by omega
  have e224 : ((s[i].toNat : Int) == 224) = false := by rw [beq_eq_false_iff_ne]; omega
  have e237 : ((s[i].toNat : Int) == 237) = true := by rw [beq_iff_eq]; omega
  have e240 : ((s[i].toNat : Int) == 240) = false := by rw [beq_eq_false_iff_ne]; omega
  have e244 : ((s[i].toNat : Int) == 244) = false := by rw [beq_eq_false_iff_ne]; omega
  have lt128 : decide ((s[i].toNat : Int) < 128) = false := by simp only [decide_eq_true_eq, decide_eq_false_iff_not]; omega
  have ge194 : decide ((194 : Int) ≤ s[i].toNat) = true := by simp only [decide_eq_true_eq, decide_eq_false_iff_not]; omega
  have le223 : decide ((s[i].toNat : Int) ≤ 223) = false := by simp only [decide_eq_true_eq, decide_eq_false_iff_not]; omega
  have ge225 : decide ((225 : Int) ≤ s[i].toNat) = true := by simp only [decide_eq_true_eq, decide_eq_false_iff_not]; omega
  have le239 : decide ((s[i].toNat : Int) ≤ 239) = true := by simp only [decide_eq_true_eq, decide_eq_false_iff_not]; omega
  have ge241 : decide ((241 : Int) ≤ s[i].toNat) = false := by simp only [decide_eq_true_eq, decide_eq_false_iff_not]; omega
  have le243 : decide ((s[i].toNat : Int) ≤ 243) = true := by simp only [decide_eq_true_eq, decide_eq_false_iff_not]; omega
  have n237 : ((s[i].toNat : Int) != 237) = false := by rw [bne_eq_false_iff_eq]; omega
  cases hx : inR (s.data.toList[i + 1]?) 128 159 with
  | false =>
    have Hx := Lib.hid hx
    clear hx
    go_enter Tryz.func61, Tryz.ntmps61
    go_wp2_with fail
    refine (between_any s _ (i + 1) (by simp) _ _ 128 159 rfl rfl (by omega) (by omega) hs _).mono ?_
    rintro _ w1 ⟨rfl, rfl⟩
    rw [Hx.out]
    go_wp2_with fail
    go_ret
    exact ⟨ret_int (by rw [Hres.out, Hx.out]; rfl), rfl⟩
  | true =>
    have Hx := Lib.hid hx
    clear hx
    cases hy : tlB s.data.toList (i + 2) 1 with
    | true =>
      have Hy := Lib.hid hy
      clear hy
      go_enter Tryz.func61, Tryz.ntmps61
      go_wp2_with fail
      refine (between_any s _ (i + 1) (by simp) _ _ 128 159 rfl rfl (by omega) (by omega) hs _).mono ?_
      rintro _ w1 ⟨rfl, rfl⟩
      rw [Hx.out]
      go_wp2_with fail
      refine (tail_any s _ (i + 2) (by simp) _ 1 rfl (by omega) (by omega) hs _).mono ?_
      rintro _ w1 ⟨rfl, rfl⟩
      rw [Hy.out]
      go_wp2_with fail
      go_ret
      exact ⟨ret_int (by rw [Hres.out, Hx.out, Hy.out]; rfl), rfl⟩
    | false =>
      have Hy := Lib.hid hy
      clear hy
      go_enter Tryz.func61, Tryz.ntmps61
      go_wp2_with fail
      refine (between_any s _ (i + 1) (by simp) _ _ 128 159 rfl rfl (by omega) (by omega) hs _).mono ?_
      rintro _ w1 ⟨rfl, rfl⟩
      rw [Hx.out]
      go_wp2_with fail
      refine (tail_any s _ (i + 2) (by simp) _ 1 rfl (by omega) (by omega) hs _).mono ?_
      rintro _ w1 ⟨rfl, rfl⟩
      rw [Hy.out]
      go_wp2_with fail
      go_ret
      exact ⟨ret_int (by rw [Hres.out, Hx.out, Hy.out]; rfl), rfl⟩
set_option maxHeartbeats 1000000 in
set_option maxRecDepth 100000 in
theorem size_F (s : ByteArray) (i : Nat) (hi : i < s.size) (hs : s.size ≤ 4611686018427387904) (hlo : 225 ≤ s[i].toNat) (hhi : s[i].toNat ≤ 239) (hne : s[i].toNat ≠ 237) (w : World) :
    Calls Tryz.prog 61 #[.string s, .int .i64 i] w fun e w' => e = .returned (.int .i64 (sz (s.data.toList.drop i))) ∧ w = w' := by
  have hres := sz_F (lget hi) hlo hhi hne
  have Hres := Lib.hid hres
  clear hres
  have z1 : (225 : Int) ≤ s[i].toNat := by omega
  have z2 : (s[i].toNat : Int) ≤ 239 := by omega
  have e224 : ((s[i].toNat : Int) == 224) = false := by rw [beq_eq_false_iff_ne]; omega
  have e237 : ((s[i].toNat : Int) == 237) = false := by rw [beq_eq_false_iff_ne]; omega
  have e240 : ((s[i].toNat : Int) == 240) = false := by rw [beq_eq_false_iff_ne]; omega
  have e244 : ((s[i].toNat : Int) == 244) = false := by rw [beq_eq_false_iff_ne]; omega
  have lt128 : decide ((s[i].toNat : Int) < 128) = false := by simp only [decide_eq_true_eq, decide_eq_false_iff_not]; omega
  have ge194 : decide ((194 : Int) ≤ s[i].toNat) = true := by simp only [decide_eq_true_eq, decide_eq_false_iff_not]; omega
  have le223 : decide ((s[i].toNat : Int) ≤ 223) = false := by simp only [decide_eq_true_eq, decide_eq_false_iff_not]; omega
  have ge225 : decide ((225 : Int) ≤ s[i].toNat) = true := by simp only [decide_eq_true_eq, decide_eq_false_iff_not]; omega
  have le239 : decide ((s[i].toNat : Int) ≤ 239) = true := by simp only [decide_eq_true_eq, decide_eq_false_iff_not]; omega
  have ge241 : decide ((241 : Int) ≤ s[i].toNat) = false := by simp only [decide_eq_true_eq, decide_eq_false_iff_not]; omega
  have le243 : decide ((s[i].toNat : Int) ≤ 243) = true := by simp only [decide_eq_true_eq, decide_eq_false_iff_not]; omega
  have n237 : ((s[i].toNat : Int) != 237) = true := by rw [bne_iff_ne]; omega
  clear hne
  cases hx : tlB s.data.toList (i + 1) 2 with
  | true =>
    have Hx := Lib.hid hx
    clear hx
    go_enter Tryz.func61, Tryz.ntmps61
    go_wp2_with fail
    refine (tail_any s _ (i + 1) (by simp) _ 2 rfl (by omega) (by omega) hs _).mono ?_
    rintro _ w1 ⟨rfl, rfl⟩
    rw [Hx.out]
    go_wp2_with fail
    go_ret
    exact ⟨ret_int (by rw [Hres.out, Hx.out]; rfl), rfl⟩
  | false =>
    have Hx := Lib.hid hx
    clear hx
    go_enter Tryz.func61, Tryz.ntmps61
    go_wp2_with fail
    refine (tail_any s _ (i + 1) (by simp) _ 2 rfl (by omega) (by omega) hs _).mono ?_
    rintro _ w1 ⟨rfl, rfl⟩
    rw [Hx.out]
    go_wp2_with fail
    go_ret
    exact ⟨ret_int (by rw [Hres.out, Hx.out]; rfl), rfl⟩
set_option maxHeartbeats 1000000 in
set_option maxRecDepth 100000 in
theorem size_G (s : ByteArray) (i : Nat) (hi : i < s.size) (hs : s.size ≤ 4611686018427387904) (hlo : 240 ≤ s[i].toNat) (hhi : s[i].toNat ≤ 240) (w : World) :
    Calls Tryz.prog 61 #[.string s, .int .i64 i] w fun e w' => e = .returned (.int .i64 (sz (s.data.toList.drop i))) ∧ w = w' := by
  have hres := sz_G (lget hi) hlo hhi
  have Hres := Lib.hid hres
  clear hres
  have z1 : (240 : Int) ≤ s[i].toNat := by omega
  have z2 : (s[i].toNat : Int) ≤ 240 := by omega
  have e224 : ((s[i].toNat : Int) == 224) = false := by rw [beq_eq_false_iff_ne]; omega
  have e237 : ((s[i].toNat : Int) == 237) = false := by rw [beq_eq_false_iff_ne]; omega
  have e240 : ((s[i].toNat : Int) == 240) = true := by rw [beq_iff_eq]; omega
  have e244 : ((s[i].toNat : Int) == 244) = false := by rw [beq_eq_false_iff_ne]; omega
  have lt128 : decide ((s[i].toNat : Int) < 128) = false := by simp only [decide_eq_true_eq, decide_eq_false_iff_not]; omega
  have ge194 : decide ((194 : Int) ≤ s[i].toNat) = true := by simp only [decide_eq_true_eq, decide_eq_false_iff_not]; omega
  have le223 : decide ((s[i].toNat : Int) ≤ 223) = false := by simp only [decide_eq_true_eq, decide_eq_false_iff_not]; omega
  have ge225 : decide ((225 : Int) ≤ s[i].toNat) = true := by simp only [decide_eq_true_eq, decide_eq_false_iff_not]; omega
  have le239 : decide ((s[i].toNat : Int) ≤ 239) = false := by simp only [decide_eq_true_eq, decide_eq_false_iff_not]; omega
  have ge241 : decide ((241 : Int) ≤ s[i].toNat) = false := by simp only [decide_eq_true_eq, decide_eq_false_iff_not]; omega
  have le243 : decide ((s[i].toNat : Int) ≤ 243) = true := by simp only [decide_eq_true_eq, decide_eq_false_iff_not]; omega
  have n237 : ((s[i].toNat : Int) != 237) = true := by rw [bne_iff_ne]; omega
  cases hx : inR (s.data.toList[i + 1]?) 144 191 with
  | false =>
    have Hx := Lib.hid hx
    clear hx
    go_enter Tryz.func61, Tryz.ntmps61
    go_wp2_with fail
    refine (between_any s _ (i + 1) (by simp) _ _ 144 191 rfl rfl (by omega) (by omega) hs _).mono ?_
    rintro _ w1 ⟨rfl, rfl⟩
    rw [Hx.out]
    go_wp2_with fail
    go_ret
    exact ⟨ret_int (by rw [Hres.out, Hx.out]; rfl), rfl⟩
  | true =>
    have Hx := Lib.hid hx
    clear hx
    cases hy : tlB s.data.toList (i + 2) 2 with
    | true =>
      have Hy := Lib.hid hy
      clear hy
      go_enter Tryz.func61, Tryz.ntmps61
      go_wp2_with fail
      refine (between_any s _ (i + 1) (by simp) _ _ 144 191 rfl rfl (by omega) (by omega) hs _).mono ?_
      rintro _ w1 ⟨rfl, rfl⟩
      rw [Hx.out]
      go_wp2_with fail
      refine (tail_any s _ (i + 2) (by simp) _ 2 rfl (by omega) (by omega) hs _).mono ?_
      rintro _ w1 ⟨rfl, rfl⟩
      rw [Hy.out]
      go_wp2_with fail
      go_ret
      exact ⟨ret_int (by rw [Hres.out, Hx.out, Hy.out]; rfl), rfl⟩
    | false =>
      have Hy := Lib.hid hy
      clear hy
      go_enter Tryz.func61, Tryz.ntmps61
      go_wp2_with fail
      refine (between_any s _ (i + 1) (by simp) _ _ 144 191 rfl rfl (by omega) (by omega) hs _).mono ?_
      rintro _ w1 ⟨rfl, rfl⟩
      rw [Hx.out]
      go_wp2_with fail
      refine (tail_any s _ (i + 2) (by simp) _ 2 rfl (by omega) (by omega) hs _).mono ?_
      rintro _ w1 ⟨rfl, rfl⟩
      rw [Hy.out]
      go_wp2_with fail
      go_ret
      exact ⟨ret_int (by rw [Hres.out, Hx.out, Hy.out]; rfl), rfl⟩
set_option maxHeartbeats 1000000 in
set_option maxRecDepth 100000 in
theorem size_H (s : ByteArray) (i : Nat) (hi : i < s.size) (hs : s.size ≤ 4611686018427387904) (hlo : 241 ≤ s[i].toNat) (hhi : s[i].toNat ≤ 243) (w : World) :
    Calls Tryz.prog 61 #[.string s, .int .i64 i] w fun e w' => e = .returned (.int .i64 (sz (s.data.toList.drop i))) ∧ w = w' := by
  have hres := sz_H (lget hi) hlo hhi
  have Hres := Lib.hid hres
  clear hres
  have z1 : (241 : Int) ≤ s[i].toNat := by omega
  have z2 : (s[i].toNat : Int) ≤ 243 := by omega
  have e224 : ((s[i].toNat : Int) == 224) = false := by rw [beq_eq_false_iff_ne]; omega
  have e237 : ((s[i].toNat : Int) == 237) = false := by rw [beq_eq_false_iff_ne]; omega
  have e240 : ((s[i].toNat : Int) == 240) = false := by rw [beq_eq_false_iff_ne]; omega
  have e244 : ((s[i].toNat : Int) == 244) = false := by rw [beq_eq_false_iff_ne]; omega
  have lt128 : decide ((s[i].toNat : Int) < 128) = false := by simp only [decide_eq_true_eq, decide_eq_false_iff_not]; omega
  have ge194 : decide ((194 : Int) ≤ s[i].toNat) = true := by simp only [decide_eq_true_eq, decide_eq_false_iff_not]; omega
  have le223 : decide ((s[i].toNat : Int) ≤ 223) = false := by simp only [decide_eq_true_eq, decide_eq_false_iff_not]; omega
  have ge225 : decide ((225 : Int) ≤ s[i].toNat) = true := by simp only [decide_eq_true_eq, decide_eq_false_iff_not]; omega
  have le239 : decide ((s[i].toNat : Int) ≤ 239) = false := by simp only [decide_eq_true_eq, decide_eq_false_iff_not]; omega
  have ge241 : decide ((241 : Int) ≤ s[i].toNat) = true := by simp only [decide_eq_true_eq, decide_eq_false_iff_not]; omega
  have le243 : decide ((s[i].toNat : Int) ≤ 243) = true := by simp only [decide_eq_true_eq, decide_eq_false_iff_not]; omega
  have n237 : ((s[i].toNat : Int) != 237) = true := by rw [bne_iff_ne]; omega
  cases hx : tlB s.data.toList (i + 1) 3 with
  | true =>
    have Hx := Lib.hid hx
    clear hx
    go_enter Tryz.func61, Tryz.ntmps61
    go_wp2_with fail
    refine (tail_any s _ (i + 1) (by simp) _ 3 rfl (by omega) (by omega) hs _).mono ?_
    rintro _ w1 ⟨rfl, rfl⟩
    rw [Hx.out]
    go_wp2_with fail
    go_ret
    exact ⟨ret_int (by rw [Hres.out, Hx.out]; rfl), rfl⟩
  | false =>
    have Hx := Lib.hid hx
    clear hx
    go_enter Tryz.func61, Tryz.ntmps61
    go_wp2_with fail
    refine (tail_any s _ (i + 1) (by simp) _ 3 rfl (by omega) (by omega) hs _).mono ?_
    rintro _ w1 ⟨rfl, rfl⟩
    rw [Hx.out]
    go_wp2_with fail
    go_ret
    exact ⟨ret_int (by rw [Hres.out, Hx.out]; rfl), rfl⟩
set_option maxHeartbeats 1000000 in
set_option maxRecDepth 100000 in
theorem size_I (s : ByteArray) (i : Nat) (hi : i < s.size) (hs : s.size ≤ 4611686018427387904) (hlo : 244 ≤ s[i].toNat) (hhi : s[i].toNat ≤ 244) (w : World) :
    Calls Tryz.prog 61 #[.string s, .int .i64 i] w fun e w' => e = .returned (.int .i64 (sz (s.data.toList.drop i))) ∧ w = w' := by
  have hres := sz_I (lget hi) hlo hhi
  have Hres := Lib.hid hres
  clear hres
  have z1 : (244 : Int) ≤ s[i].toNat := by omega
  have z2 : (s[i].toNat : Int) ≤ 244 := by omega
  have e224 : ((s[i].toNat : Int) == 224) = false := by rw [beq_eq_false_iff_ne]; omega
  have e237 : ((s[i].toNat : Int) == 237) = false := by rw [beq_eq_false_iff_ne]; omega
  have e240 : ((s[i].toNat : Int) == 240) = false := by rw [beq_eq_false_iff_ne]; omega
  have e244 : ((s[i].toNat : Int) == 244) = true := by rw [beq_iff_eq]; omega
  have lt128 : decide ((s[i].toNat : Int) < 128) = false := by simp only [decide_eq_true_eq, decide_eq_false_iff_not]; omega
  have ge194 : decide ((194 : Int) ≤ s[i].toNat) = true := by simp only [decide_eq_true_eq, decide_eq_false_iff_not]; omega
  have le223 : decide ((s[i].toNat : Int) ≤ 223) = false := by simp only [decide_eq_true_eq, decide_eq_false_iff_not]; omega
  have ge225 : decide ((225 : Int) ≤ s[i].toNat) = true := by simp only [decide_eq_true_eq, decide_eq_false_iff_not]; omega
  have le239 : decide ((s[i].toNat : Int) ≤ 239) = false := by simp only [decide_eq_true_eq, decide_eq_false_iff_not]; omega
  have ge241 : decide ((241 : Int) ≤ s[i].toNat) = true := by simp only [decide_eq_true_eq, decide_eq_false_iff_not]; omega
  have le243 : decide ((s[i].toNat : Int) ≤ 243) = false := by simp only [decide_eq_true_eq, decide_eq_false_iff_not]; omega
  have n237 : ((s[i].toNat : Int) != 237) = true := by rw [bne_iff_ne]; omega
  cases hx : inR (s.data.toList[i + 1]?) 128 143 with
  | false =>
    have Hx := Lib.hid hx
    clear hx
    go_enter Tryz.func61, Tryz.ntmps61
    go_wp2_with fail
    refine (between_any s _ (i + 1) (by simp) _ _ 128 143 rfl rfl (by omega) (by omega) hs _).mono ?_
    rintro _ w1 ⟨rfl, rfl⟩
    rw [Hx.out]
    go_wp2_with fail
    go_ret
    exact ⟨ret_int (by rw [Hres.out, Hx.out]; rfl), rfl⟩
  | true =>
    have Hx := Lib.hid hx
    clear hx
    cases hy : tlB s.data.toList (i + 2) 2 with
    | true =>
      have Hy := Lib.hid hy
      clear hy
      go_enter Tryz.func61, Tryz.ntmps61
      go_wp2_with fail
      refine (between_any s _ (i + 1) (by simp) _ _ 128 143 rfl rfl (by omega) (by omega) hs _).mono ?_
      rintro _ w1 ⟨rfl, rfl⟩
      rw [Hx.out]
      go_wp2_with fail
      refine (tail_any s _ (i + 2) (by simp) _ 2 rfl (by omega) (by omega) hs _).mono ?_
      rintro _ w1 ⟨rfl, rfl⟩
      rw [Hy.out]
      go_wp2_with fail
      go_ret
      exact ⟨ret_int (by rw [Hres.out, Hx.out, Hy.out]; rfl), rfl⟩
    | false =>
      have Hy := Lib.hid hy
      clear hy
      go_enter Tryz.func61, Tryz.ntmps61
      go_wp2_with fail
      refine (between_any s _ (i + 1) (by simp) _ _ 128 143 rfl rfl (by omega) (by omega) hs _).mono ?_
      rintro _ w1 ⟨rfl, rfl⟩
      rw [Hx.out]
      go_wp2_with fail
      refine (tail_any s _ (i + 2) (by simp) _ 2 rfl (by omega) (by omega) hs _).mono ?_
      rintro _ w1 ⟨rfl, rfl⟩
      rw [Hy.out]
      go_wp2_with fail
      go_ret
      exact ⟨ret_int (by rw [Hres.out, Hx.out, Hy.out]; rfl), rfl⟩
set_option maxHeartbeats 1000000 in
set_option maxRecDepth 100000 in
theorem size_J (s : ByteArray) (i : Nat) (hi : i < s.size) (hs : s.size ≤ 4611686018427387904) (hlo : 245 ≤ s[i].toNat) (hhi : s[i].toNat ≤ 255) (w : World) :
    Calls Tryz.prog 61 #[.string s, .int .i64 i] w fun e w' => e = .returned (.int .i64 (sz (s.data.toList.drop i))) ∧ w = w' := by
  have hres := sz_J (lget hi) hlo hhi
  have Hres := Lib.hid hres
  clear hres
  have z1 : (245 : Int) ≤ s[i].toNat := by omega
  have z2 : (s[i].toNat : Int) ≤ 255 := by omega
  have e224 : ((s[i].toNat : Int) == 224) = false := by rw [beq_eq_false_iff_ne]; omega
  have e237 : ((s[i].toNat : Int) == 237) = false := by rw [beq_eq_false_iff_ne]; omega
  have e240 : ((s[i].toNat : Int) == 240) = false := by rw [beq_eq_false_iff_ne]; omega
  have e244 : ((s[i].toNat : Int) == 244) = false := by rw [beq_eq_false_iff_ne]; omega
  have lt128 : decide ((s[i].toNat : Int) < 128) = false := by simp only [decide_eq_true_eq, decide_eq_false_iff_not]; omega
  have ge194 : decide ((194 : Int) ≤ s[i].toNat) = true := by simp only [decide_eq_true_eq, decide_eq_false_iff_not]; omega
  have le223 : decide ((s[i].toNat : Int) ≤ 223) = false := by simp only [decide_eq_true_eq, decide_eq_false_iff_not]; omega
  have ge225 : decide ((225 : Int) ≤ s[i].toNat) = true := by simp only [decide_eq_true_eq, decide_eq_false_iff_not]; omega
  have le239 : decide ((s[i].toNat : Int) ≤ 239) = false := by simp only [decide_eq_true_eq, decide_eq_false_iff_not]; omega
  have ge241 : decide ((241 : Int) ≤ s[i].toNat) = true := by simp only [decide_eq_true_eq, decide_eq_false_iff_not]; omega
  have le243 : decide ((s[i].toNat : Int) ≤ 243) = false := by simp only [decide_eq_true_eq, decide_eq_false_iff_not]; omega
  have n237 : ((s[i].toNat : Int) != 237) = true := by rw [bne_iff_ne]; omega
  go_enter Tryz.func61, Tryz.ntmps61
  go_wp2_with fail
  go_ret
  exact ⟨ret_int (by rw [Hres.out]; rfl), rfl⟩
/-- The length of the well-formed sequence at an index. -/
theorem size_any (s : ByteArray) (i : Nat) (hi : i < s.size) (hs : s.size ≤ 4611686018427387904) (w : World) :
    Calls Tryz.prog 61 #[.string s, .int .i64 i] w fun e w' => e = .returned (.int .i64 (sz (s.data.toList.drop i))) ∧ w = w' := by
  have hb := s[i].toNat_lt
  rcases (by omega : s[i].toNat ≤ 127 ∨ (128 ≤ s[i].toNat ∧ s[i].toNat ≤ 193) ∨ (194 ≤ s[i].toNat ∧ s[i].toNat ≤ 223) ∨ (224 ≤ s[i].toNat ∧ s[i].toNat ≤ 224) ∨ (237 ≤ s[i].toNat ∧ s[i].toNat ≤ 237) ∨
    (225 ≤ s[i].toNat ∧ s[i].toNat ≤ 239 ∧ s[i].toNat ≠ 237) ∨ (240 ≤ s[i].toNat ∧ s[i].toNat ≤ 240) ∨ (241 ≤ s[i].toNat ∧ s[i].toNat ≤ 243) ∨ (244 ≤ s[i].toNat ∧ s[i].toNat ≤ 244) ∨ 245 ≤ s[i].toNat) with
    h | ⟨h, k⟩ | ⟨h, k⟩ | ⟨h, k⟩ | ⟨h, k⟩ | ⟨h, k, m⟩ | ⟨h, k⟩ | ⟨h, k⟩ | ⟨h, k⟩ | h
  · exact size_A s i hi hs (by omega) h w
  · exact size_B s i hi hs h k w
  · exact size_C s i hi hs h k w
  · exact size_D s i hi hs h k w
  · exact size_E s i hi hs h k w
  · exact size_F s i hi hs h k m w
  · exact size_G s i hi hs h k w
  · exact size_H s i hi hs h k w
  · exact size_I s i hi hs h k w
  · exact size_J s i hi hs h (by omega) w

end Go.Proofs.YtgjbpadhdnclnaaGreatDoor.UtfR
