import Derived.Test.YthjpchnogllliaaGreatDoorUtfS
import Derived.BigGuardPart
import Derived.Test.YthjpchnogllliaaGreatDoorUtfP
import Derived.Deep.QuietTactic
import Derived.BigQuiet
/- Contracts of between, tail and Size of the reference of package utf. -/
set_option linter.unusedSimpArgs false
set_option linter.unusedVariables false
namespace Go.Proofs.YthjpchnogllliaaGreatDoor.UtfR
open Go.RowKit Nums Byt UtfM UtfS

theorem lget {s : ByteArray} {n : Nat} (h : n < s.size) : s.data.toList[n]? = some s[n] := by
  rw [List.getElem?_eq_getElem h]; rfl
theorem lget_no {s : ByteArray} {n : Nat} (h : ¬ n < s.size) : s.data.toList[n]? = none := by
  rw [List.getElem?_eq_none_iff]; show s.size ≤ n; omega

set_option maxHeartbeats 400000 in
set_option maxRecDepth 100000 in
theorem between_any (s : ByteArray) (j : Int) (n : Nat) (hj : j = n) (lo hi : Int) (a b : Nat) (ha : lo = a) (hb : hi = b) (ha2 : a ≤ 255) (hb2 : b ≤ 255) (hs : s.size ≤ 4611686018427387904) (w : World) :
    Calls Tryz.prog 103 #[.string s, .int .i64 j, .int .u8 lo, .int .u8 hi] w fun e w' => e = .returned (.bool (inR (s.data.toList[n]?) a b)) ∧ w = w' := by
  subst hj ha hb
  have hs' : (s.size : Int) ≤ 4611686018427387904 := by omega
  by_cases h : n < s.size
  · have hg := lget h
    have Hg := Lib.hid hg
    have hc256 : (s[n].toNat : Int) < 256 := by have := s[n].toNat_lt; omega
    clear hg
    by_cases h1 : a ≤ s[n].toNat
    · by_cases h2 : s[n].toNat ≤ b
      · have d1 : decide (a ≤ s[n].toNat) = true := by simp [h1]
        have d2 : decide (s[n].toNat ≤ b) = true := by simp [h2]
        go_enter Tryz.func103, Tryz.ntmps103
        go_wp2_with fail
        go_ret
        exact ⟨ret_bool (by rw [Hg.out]; simp [inR, h1, h2]), rfl⟩
      · have d1 : decide (a ≤ s[n].toNat) = true := by simp [h1]
        have d2 : decide (s[n].toNat ≤ b) = false := by simp; omega
        go_enter Tryz.func103, Tryz.ntmps103
        go_wp2_with fail
        go_ret
        exact ⟨ret_bool (by rw [Hg.out]; simp [inR, h2]), rfl⟩
    · have d1 : decide (a ≤ s[n].toNat) = false := by simp; omega
      go_enter Tryz.func103, Tryz.ntmps103
      go_wp2_with fail
      go_ret
      exact ⟨ret_bool (by rw [Hg.out]; simp [inR, h1]), rfl⟩
  · have hg := lget_no h
    have Hg := Lib.hid hg
    clear hg
    have d0 : decide (n < s.size) = false := by simp; omega
    go_enter Tryz.func103, Tryz.ntmps103
    go_wp2_with fail
    go_ret
    exact ⟨ret_bool (by rw [Hg.out]; rfl), rfl⟩

def tlB (l : List UInt8) (i : Nat) : Nat → Bool
  | 0 => true
  | n + 1 => tlB l i n && inR (l[i + n]?) 128 191
theorem tlB_false {l : List UInt8} {i k n : Nat} (h : tlB l i k = false) (hk : k ≤ n) : tlB l i n = false := by
  induction n with
  | zero => obtain rfl : k = 0 := by omega
            exact h
  | succ n ih =>
    by_cases e : k = n + 1
    · subst e; exact h
    · rw [tlB, ih (by omega)]; rfl

set_option maxHeartbeats 1000000 in
set_option maxRecDepth 100000 in
theorem tail_any (s : ByteArray) (j : Int) (i : Nat) (hj : j = i) (m : Int) (n : Nat) (hm : m = n) (hn : n ≤ 3) (hi : i ≤ 4611686018427387910) (hs : s.size ≤ 4611686018427387904) (w : World) :
    Calls Tryz.prog 102 #[.string s, .int .i64 j, .int .i64 m] w fun e w' => e = .returned (.bool (tlB s.data.toList i n)) ∧ w = w' := by
  subst hj hm
  go_enter Tryz.func102, Tryz.ntmps102
  go_wp2_with fail
  go_loop [7] (fun t => ∃ k : Nat, k ≤ n ∧ t = .int .i64 k ∧ Hid (tlB s.data.toList i k = true)) (fun t => n - (intOf t).toNat)
  case atStart => exact ⟨0, by omega, rfl, Lib.hid rfl⟩
  case round =>
    obtain ⟨k, hk, rfl, Hk⟩ := hrel
    by_cases hlt : k < n
    · cases hx : inR (s.data.toList[i + k]?) 128 191 with
      | true =>
        have Hx := Lib.hid hx
        clear hx
        go_wp2_with fail
        refine (between_any s _ (i + k) (by simp) _ _ 128 191 rfl rfl (by omega) (by omega) hs _).mono ?_
        rintro _ w1 ⟨rfl, rfl⟩
        rw [Hx.out]
        go_wp2_with fail
        refine ⟨⟨k + 1, by omega, by go_num, Lib.hid ?_⟩, by simp [intOf]; omega⟩
        rw [tlB, Hk.out, Hx.out]; rfl
      | false =>
        have Hx := Lib.hid hx
        clear hx
        go_wp2_with fail
        refine (between_any s _ (i + k) (by simp) _ _ 128 191 rfl rfl (by omega) (by omega) hs _).mono ?_
        rintro _ w1 ⟨rfl, rfl⟩
        rw [Hx.out]
        go_wp2_with fail
        go_ret
        refine ⟨ret_bool ?_, rfl⟩
        rw [tlB_false (k := k + 1) (n := n) (by rw [tlB, Hx.out]; simp) (by omega)]
    · obtain rfl : k = n := by omega
      go_wp2_with fail
      go_ret
      exact ⟨ret_bool (by rw [Hk.out]), rfl⟩

theorem tl1 (l : List UInt8) (i : Nat) : tlB l i 1 = inR (l[i]?) 128 191 := by simp [tlB]
theorem tl2 (l : List UInt8) (i : Nat) : tlB l i 2 = (inR (l[i]?) 128 191 && inR (l[i + 1]?) 128 191) := by simp [tlB]
theorem tl3 (l : List UInt8) (i : Nat) : tlB l i 3 = (inR (l[i]?) 128 191 && inR (l[i + 1]?) 128 191 && inR (l[i + 2]?) 128 191) := by simp [tlB]

theorem sz_A {l : List UInt8} {i : Nat} {a : UInt8} (h0 : l[i]? = some a) (hlo : 0 ≤ a.toNat) (hhi : a.toNat ≤ 127) : sz (l.drop i) = 1 := by
  rw [sz_drop]
  have g1 : (a.toNat < 128) = True := eq_true (by omega)
  have g2 : (194 ≤ a.toNat) = False := eq_false (by omega)
  have g3 : (a.toNat ≤ 223) = True := eq_true (by omega)
  have g4 : (a.toNat = 224) = False := eq_false (by omega)
  have g5 : (a.toNat = 237) = False := eq_false (by omega)
  have g6 : (225 ≤ a.toNat) = False := eq_false (by omega)
  have g7 : (a.toNat ≤ 239) = True := eq_true (by omega)
  have g8 : (a.toNat = 240) = False := eq_false (by omega)
  have g9 : (241 ≤ a.toNat) = False := eq_false (by omega)
  have g10 : (a.toNat ≤ 243) = True := eq_true (by omega)
  have g11 : (a.toNat = 244) = False := eq_false (by omega)
  simp [szF, h0, g1, g2, g3, g4, g5, g6, g7, g8, g9, g10, g11]
theorem sz_B {l : List UInt8} {i : Nat} {a : UInt8} (h0 : l[i]? = some a) (hlo : 128 ≤ a.toNat) (hhi : a.toNat ≤ 193) : sz (l.drop i) = 0 := by
  rw [sz_drop]
  have g1 : (a.toNat < 128) = False := eq_false (by omega)
  have g2 : (194 ≤ a.toNat) = False := eq_false (by omega)
  have g3 : (a.toNat ≤ 223) = True := eq_true (by omega)
  have g4 : (a.toNat = 224) = False := eq_false (by omega)
  have g5 : (a.toNat = 237) = False := eq_false (by omega)
  have g6 : (225 ≤ a.toNat) = False := eq_false (by omega)
  have g7 : (a.toNat ≤ 239) = True := eq_true (by omega)
  have g8 : (a.toNat = 240) = False := eq_false (by omega)
  have g9 : (241 ≤ a.toNat) = False := eq_false (by omega)
  have g10 : (a.toNat ≤ 243) = True := eq_true (by omega)
  have g11 : (a.toNat = 244) = False := eq_false (by omega)
  simp [szF, h0, g1, g2, g3, g4, g5, g6, g7, g8, g9, g10, g11]
theorem sz_C {l : List UInt8} {i : Nat} {a : UInt8} (h0 : l[i]? = some a) (hlo : 194 ≤ a.toNat) (hhi : a.toNat ≤ 223) : sz (l.drop i) = if (tlB l (i + 1) 1) = true then 2 else 0 := by
  rw [sz_drop]
  have g1 : (a.toNat < 128) = False := eq_false (by omega)
  have g2 : (194 ≤ a.toNat) = True := eq_true (by omega)
  have g3 : (a.toNat ≤ 223) = True := eq_true (by omega)
  have g4 : (a.toNat = 224) = False := eq_false (by omega)
  have g5 : (a.toNat = 237) = False := eq_false (by omega)
  have g6 : (225 ≤ a.toNat) = False := eq_false (by omega)
  have g7 : (a.toNat ≤ 239) = True := eq_true (by omega)
  have g8 : (a.toNat = 240) = False := eq_false (by omega)
  have g9 : (241 ≤ a.toNat) = False := eq_false (by omega)
  have g10 : (a.toNat ≤ 243) = True := eq_true (by omega)
  have g11 : (a.toNat = 244) = False := eq_false (by omega)
  simp only [tl1, tl2, tl3, Nat.add_assoc, Nat.reduceAdd]
  simp [szF, h0, g1, g2, g3, g4, g5, g6, g7, g8, g9, g10, g11]
theorem sz_D {l : List UInt8} {i : Nat} {a : UInt8} (h0 : l[i]? = some a) (hlo : 224 ≤ a.toNat) (hhi : a.toNat ≤ 224) : sz (l.drop i) = if (inR (l[i + 1]?) 160 191 && tlB l (i + 2) 1) = true then 3 else 0 := by
  rw [sz_drop]
  have g1 : (a.toNat < 128) = False := eq_false (by omega)
  have g2 : (194 ≤ a.toNat) = True := eq_true (by omega)
  have g3 : (a.toNat ≤ 223) = False := eq_false (by omega)
  have g5 : (a.toNat = 237) = False := eq_false (by omega)
  have g6 : (225 ≤ a.toNat) = False := eq_false (by omega)
  have g7 : (a.toNat ≤ 239) = True := eq_true (by omega)
  have g8 : (a.toNat = 240) = False := eq_false (by omega)
  have g9 : (241 ≤ a.toNat) = False := eq_false (by omega)
  have g10 : (a.toNat ≤ 243) = True := eq_true (by omega)
  have g11 : (a.toNat = 244) = False := eq_false (by omega)
  have ga : a.toNat = 224 := by omega
  simp only [tl1, tl2, tl3, Nat.add_assoc, Nat.reduceAdd]
  simp [szF, h0, ga]
theorem sz_E {l : List UInt8} {i : Nat} {a : UInt8} (h0 : l[i]? = some a) (hlo : 237 ≤ a.toNat) (hhi : a.toNat ≤ 237) : sz (l.drop i) = if (inR (l[i + 1]?) 128 159 && tlB l (i + 2) 1) = true then 3 else 0 := by
  rw [sz_drop]
  have g1 : (a.toNat < 128) = False := eq_false (by omega)
  have g2 : (194 ≤ a.toNat) = True := eq_true (by omega)
  have g3 : (a.toNat ≤ 223) = False := eq_false (by omega)
  have g4 : (a.toNat = 224) = False := eq_false (by omega)
  have g6 : (225 ≤ a.toNat) = True := eq_true (by omega)
  have g7 : (a.toNat ≤ 239) = True := eq_true (by omega)
  have g8 : (a.toNat = 240) = False := eq_false (by omega)
  have g9 : (241 ≤ a.toNat) = False := eq_false (by omega)
  have g10 : (a.toNat ≤ 243) = True := eq_true (by omega)
  have g11 : (a.toNat = 244) = False := eq_false (by omega)
  have ga : a.toNat = 237 := by omega
  simp only [tl1, tl2, tl3, Nat.add_assoc, Nat.reduceAdd]
  simp [szF, h0, ga]
theorem sz_F {l : List UInt8} {i : Nat} {a : UInt8} (h0 : l[i]? = some a) (hlo : 225 ≤ a.toNat) (hhi : a.toNat ≤ 239) (hne : a.toNat ≠ 237) : sz (l.drop i) = if (tlB l (i + 1) 2) = true then 3 else 0 := by
  rw [sz_drop]
  have g1 : (a.toNat < 128) = False := eq_false (by omega)
  have g2 : (194 ≤ a.toNat) = True := eq_true (by omega)
  have g3 : (a.toNat ≤ 223) = False := eq_false (by omega)
  have g4 : (a.toNat = 224) = False := eq_false (by omega)
  have g5 : (a.toNat = 237) = False := eq_false (by omega)
  have g6 : (225 ≤ a.toNat) = True := eq_true (by omega)
  have g7 : (a.toNat ≤ 239) = True := eq_true (by omega)
  have g8 : (a.toNat = 240) = False := eq_false (by omega)
  have g9 : (241 ≤ a.toNat) = False := eq_false (by omega)
  have g10 : (a.toNat ≤ 243) = True := eq_true (by omega)
  have g11 : (a.toNat = 244) = False := eq_false (by omega)
  simp only [tl1, tl2, tl3, Nat.add_assoc, Nat.reduceAdd]
  simp [szF, h0, g1, g2, g3, g4, g5, g6, g7, g8, g9, g10, g11]
theorem sz_G {l : List UInt8} {i : Nat} {a : UInt8} (h0 : l[i]? = some a) (hlo : 240 ≤ a.toNat) (hhi : a.toNat ≤ 240) : sz (l.drop i) = if (inR (l[i + 1]?) 144 191 && tlB l (i + 2) 2) = true then 4 else 0 := by
  rw [sz_drop]
  have g1 : (a.toNat < 128) = False := eq_false (by omega)
  have g2 : (194 ≤ a.toNat) = True := eq_true (by omega)
  have g3 : (a.toNat ≤ 223) = False := eq_false (by omega)
  have g4 : (a.toNat = 224) = False := eq_false (by omega)
  have g5 : (a.toNat = 237) = False := eq_false (by omega)
  have g6 : (225 ≤ a.toNat) = True := eq_true (by omega)
  have g7 : (a.toNat ≤ 239) = False := eq_false (by omega)
  have g9 : (241 ≤ a.toNat) = False := eq_false (by omega)
  have g10 : (a.toNat ≤ 243) = True := eq_true (by omega)
  have g11 : (a.toNat = 244) = False := eq_false (by omega)
  have ga : a.toNat = 240 := by omega
  simp only [tl1, tl2, tl3, Nat.add_assoc, Nat.reduceAdd]
  simp [szF, h0, ga]
theorem sz_H {l : List UInt8} {i : Nat} {a : UInt8} (h0 : l[i]? = some a) (hlo : 241 ≤ a.toNat) (hhi : a.toNat ≤ 243) : sz (l.drop i) = if (tlB l (i + 1) 3) = true then 4 else 0 := by
  rw [sz_drop]
  have g1 : (a.toNat < 128) = False := eq_false (by omega)
  have g2 : (194 ≤ a.toNat) = True := eq_true (by omega)
  have g3 : (a.toNat ≤ 223) = False := eq_false (by omega)
  have g4 : (a.toNat = 224) = False := eq_false (by omega)
  have g5 : (a.toNat = 237) = False := eq_false (by omega)
  have g6 : (225 ≤ a.toNat) = True := eq_true (by omega)
  have g7 : (a.toNat ≤ 239) = False := eq_false (by omega)
  have g8 : (a.toNat = 240) = False := eq_false (by omega)
  have g9 : (241 ≤ a.toNat) = True := eq_true (by omega)
  have g10 : (a.toNat ≤ 243) = True := eq_true (by omega)
  have g11 : (a.toNat = 244) = False := eq_false (by omega)
  simp only [tl1, tl2, tl3, Nat.add_assoc, Nat.reduceAdd]
  simp [szF, h0, g1, g2, g3, g4, g5, g6, g7, g8, g9, g10, g11]
theorem sz_I {l : List UInt8} {i : Nat} {a : UInt8} (h0 : l[i]? = some a) (hlo : 244 ≤ a.toNat) (hhi : a.toNat ≤ 244) : sz (l.drop i) = if (inR (l[i + 1]?) 128 143 && tlB l (i + 2) 2) = true then 4 else 0 := by
  rw [sz_drop]
  have g1 : (a.toNat < 128) = False := eq_false (by omega)
  have g2 : (194 ≤ a.toNat) = True := eq_true (by omega)
  have g3 : (a.toNat ≤ 223) = False := eq_false (by omega)
  have g4 : (a.toNat = 224) = False := eq_false (by omega)
  have g5 : (a.toNat = 237) = False := eq_false (by omega)
  have g6 : (225 ≤ a.toNat) = True := eq_true (by omega)
  have g7 : (a.toNat ≤ 239) = False := eq_false (by omega)
  have g8 : (a.toNat = 240) = False := eq_false (by omega)
  have g9 : (241 ≤ a.toNat) = True := eq_true (by omega)
  have g10 : (a.toNat ≤ 243) = False := eq_false (by omega)
  have ga : a.toNat = 244 := by omega
  simp only [tl1, tl2, tl3, Nat.add_assoc, Nat.reduceAdd]
  simp [szF, h0, ga]
theorem sz_J {l : List UInt8} {i : Nat} {a : UInt8} (h0 : l[i]? = some a) (hlo : 245 ≤ a.toNat) (hhi : a.toNat ≤ 255) : sz (l.drop i) = 0 := by
  rw [sz_drop]
  have g1 : (a.toNat < 128) = False := eq_false (by omega)
  have g2 : (194 ≤ a.toNat) = True := eq_true (by omega)
  have g3 : (a.toNat ≤ 223) = False := eq_false (by omega)
  have g4 : (a.toNat = 224) = False := eq_false (by omega)
  have g5 : (a.toNat = 237) = False := eq_false (by omega)
  have g6 : (225 ≤ a.toNat) = True := eq_true (by omega)
  have g7 : (a.toNat ≤ 239) = False := eq_false (by omega)
  have g8 : (a.toNat = 240) = False := eq_false (by omega)
  have g9 : (241 ≤ a.toNat) = True := eq_true (by omega)
  have g10 : (a.toNat ≤ 243) = False := eq_false (by omega)
  have g11 : (a.toNat = 244) = False := eq_false (by omega)
  simp [szF, h0, g1, g2, g3, g4, g5, g6, g7, g8, g9, g10, g11]
set_option maxHeartbeats 1000000 in
set_option maxRecDepth 100000 in
theorem size_A (s : ByteArray) (i : Nat) (hi : i < s.size) (hs : s.size ≤ 4611686018427387904) (hlo : 0 ≤ s[i].toNat) (hhi : s[i].toNat ≤ 127) (w : World) :
    Calls Tryz.prog 80 #[.string s, .int .i64 i] w fun e w' => e = .returned (.int .i64 (sz (s.data.toList.drop i))) ∧ w = w' := by
  have hres := sz_A (lget hi) hlo hhi
  have Hres := Lib.hid hres
  clear hres
  have z1 : (0 : Int) ≤ s[i].toNat := by omega
  have z2 : (s[i].toNat : Int) ≤ 127 := by omega
  have e224 : ((s[i].toNat : Int) == 224) = false := by rw [beq_eq_false_iff_ne]; omega
  have e237 : ((s[i].toNat : Int) == 237) = false := by rw [beq_eq_false_iff_ne]; omega
  have e240 : ((s[i].toNat : Int) == 240) = false := by rw [beq_eq_false_iff_ne]; omega
  have e244 : ((s[i].toNat : Int) == 244) = false := by rw [beq_eq_false_iff_ne]; omega
  have lt128 : decide ((s[i].toNat : Int) < 128) = true := by simp only [decide_eq_true_eq, decide_eq_false_iff_not]; omega
  have ge194 : decide ((194 : Int) ≤ s[i].toNat) = false := by simp only [decide_eq_true_eq, decide_eq_false_iff_not]; omega
  have le223 : decide ((s[i].toNat : Int) ≤ 223) = true := by simp only [decide_eq_true_eq, decide_eq_false_iff_not]; omega
  have ge225 : decide ((225 : Int) ≤ s[i].toNat) = false := by simp only [decide_eq_true_eq, decide_eq_false_iff_not]; omega
  have le239 : decide ((s[i].toNat : Int) ≤ 239) = true := by simp only [decide_eq_true_eq, decide_eq_false_iff_not]; omega
  have ge241 : decide ((241 : Int) ≤ s[i].toNat) = false := by simp only [decide_eq_true_eq, decide_eq_false_iff_not]; omega
  have le243 : decide ((s[i].toNat : Int) ≤ 243) = true := by simp only [decide_eq_true_eq, decide_eq_false_iff_not]; omega
  have n237 : ((s[i].toNat : Int) != 237) = true := by rw [bne_iff_ne]; omega
  go_enter Tryz.func80, Tryz.ntmps80
  go_wp2_with fail
  go_ret
  exact ⟨ret_int (by rw [Hres.out]; rfl), rfl⟩
set_option maxHeartbeats 1000000 in
set_option maxRecDepth 100000 in
theorem size_B (s : ByteArray) (i : Nat) (hi : i < s.size) (hs : s.size ≤ 4611686018427387904) (hlo : 128 ≤ s[i].toNat) (hhi : s[i].toNat ≤ 193) (w : World) :
    Calls Tryz.prog 80 #[.string s, .int .i64 i] w fun e w' => e = .returned (.int .i64 (sz (s.data.toList.drop i))) ∧ w = w' := by
  have hres := sz_B (lget hi) hlo hhi
  have Hres := Lib.hid hres
  clear hres
  have z1 : (128 : Int) ≤ s[i].toNat := by omega
  have z2 : (s[i].toNat : Int) ≤ 193 := by omega
  have e224 : ((s[i].toNat : Int) == 224) = false := by rw [beq_eq_false_iff_ne]; omega
  have e237 : ((s[i].toNat : Int) == 237) = false := by rw [beq_eq_false_iff_ne]; omega
  have e240 : ((s[i].toNat : Int) == 240) = false := by rw [beq_eq_false_iff_ne]; omega
  have e244 : ((s[i].toNat : Int) == 244) = false := by rw [beq_eq_false_iff_ne]; omega
  have lt128 : decide ((s[i].toNat : Int) < 128) = false := by simp only [decide_eq_true_eq, decide_eq_false_iff_not]; omega
  have ge194 : decide ((194 : Int) ≤ s[i].toNat) = false := by simp only [decide_eq_true_eq, decide_eq_false_iff_not]; omega
  have le223 : decide ((s[i].toNat : Int) ≤ 223) = true := by simp only [decide_eq_true_eq, decide_eq_false_iff_not]; omega
  have ge225 : decide ((225 : Int) ≤ s[i].toNat) = false := by simp only [decide_eq_true_eq, decide_eq_false_iff_not]; omega
  have le239 : decide ((s[i].toNat : Int) ≤ 239) = true := by simp only [decide_eq_true_eq, decide_eq_false_iff_not]; omega
  have ge241 : decide ((241 : Int) ≤ s[i].toNat) = false := by simp only [decide_eq_true_eq, decide_eq_false_iff_not]; omega
  have le243 : decide ((s[i].toNat : Int) ≤ 243) = true := by simp only [decide_eq_true_eq, decide_eq_false_iff_not]; omega
  have n237 : ((s[i].toNat : Int) != 237) = true := by rw [bne_iff_ne]; omega
  go_enter Tryz.func80, Tryz.ntmps80
  go_wp2_with fail
  go_ret
  exact ⟨ret_int (by rw [Hres.out]; rfl), rfl⟩
set_option maxHeartbeats 1000000 in
set_option maxRecDepth 100000 in
theorem size_C (s : ByteArray) (i : Nat) (hi : i < s.size) (hs : s.size ≤ 4611686018427387904) (hlo : 194 ≤ s[i].toNat) (hhi : s[i].toNat ≤ 223) (w : World) :
    Calls Tryz.prog 80 #[.string s, .int .i64 i] w fun e w' => e = .returned (.int .i64 (sz (s.data.toList.drop i))) ∧ w = w' := by
  have hres := sz_C (lget hi) hlo hhi
  have Hres := Lib.hid hres
  clear hres
  have z1 : (194 : Int) ≤ s[i].toNat := by omega
  have z2 : (s[i].toNat : Int) ≤ 223 := by omega
  have e224 : ((s[i].toNat : Int) == 224) = false := by rw [beq_eq_false_iff_ne]; omega
  have e237 : ((s[i].toNat : Int) == 237) = false := by rw [beq_eq_false_iff_ne]; omega
  have e240 : ((s[i].toNat : Int) == 240) = false := by rw [beq_eq_false_iff_ne]; omega
  have e244 : ((s[i].toNat : Int) == 244) = false := by rw [beq_eq_false_iff_ne]; omega
  have lt128 : decide ((s[i].toNat : Int) < 128) = false := by simp only [decide_eq_true_eq, decide_eq_false_iff_not]; omega
  have ge194 : decide ((194 : Int) ≤ s[i].toNat) = true := by simp only [decide_eq_true_eq, decide_eq_false_iff_not]; omega
  have le223 : decide ((s[i].toNat : Int) ≤ 223) = true := by simp only [decide_eq_true_eq, decide_eq_false_iff_not]; omega
  have ge225 : decide ((225 : Int) ≤ s[i].toNat) = false := by simp only [decide_eq_true_eq, decide_eq_false_iff_not]; omega
  have le239 : decide ((s[i].toNat : Int) ≤ 239) = true := by simp only [decide_eq_true_eq, decide_eq_false_iff_not]; omega
  have ge241 : decide ((241 : Int) ≤ s[i].toNat) = false := by simp only [decide_eq_true_eq, decide_eq_false_iff_not]; omega
  have le243 : decide ((s[i].toNat : Int) ≤ 243) = true := by simp only [decide_eq_true_eq, decide_eq_false_iff_not]; omega
  have n237 : ((s[i].toNat : Int) != 237) = true := by rw [bne_iff_ne]; omega
  cases hx : tlB s.data.toList (i + 1) 1 with
  | true =>
    have Hx := Lib.hid hx
    clear hx
    go_enter Tryz.func80, Tryz.ntmps80
    go_wp2_with fail
    refine (tail_any s _ (i + 1) (by simp) _ 1 rfl (by omega) (by omega) hs _).mono ?_
    rintro _ w1 ⟨rfl, rfl⟩
    rw [Hx.out]
    go_wp2_with fail
    go_ret
    exact ⟨ret_int (by rw [Hres.out, Hx.out]; rfl), rfl⟩
  | false =>
    have Hx := Lib.hid hx
    clear hx
    go_enter Tryz.func80, Tryz.ntmps80
    go_wp2_with fail
    refine (tail_any s _ (i + 1) (by simp) _ 1 rfl (by omega) (by omega) hs _).mono ?_
    rintro _ w1 ⟨rfl, rfl⟩
    rw [Hx.out]
    go_wp2_with fail
    go_ret
    exact ⟨ret_int (by rw [Hres.out, Hx.out]; rfl), rfl⟩
set_option maxHeartbeats 1000000 in
set_option maxRecDepth 100000 in
theorem size_D (s : ByteArray) (i : Nat) (hi : i < s.size) (hs : s.size ≤ 4611686018427387904) (hlo : 224 ≤ s[i].toNat) (hhi : s[i].toNat ≤ 224) (w : World) :
    Calls Tryz.prog 80 #[.string s, .int .i64 i] w fun e w' => e = .returned (.int .i64 (sz (s.data.toList.drop i))) ∧ w = w' := by
  have hres := sz_D (lget hi) hlo hhi
  have Hres := Lib.hid hres
  clear hres
  have z1 : (224 : Int) ≤ s[i].toNat := by omega
  have z2 : (s[i].toNat : Int) ≤ 224 := by omega
  have e224 : ((s[i].toNat : Int) == 224) = true := by rw [beq_iff_eq]; omega
  have e237 : ((s[i].toNat : Int) == 237) = false := by rw [beq_eq_false_iff_ne]; omega
  have e240 : ((s[i].toNat : Int) == 240) = false := by rw [beq_eq_false_iff_ne]; omega
  have e244 : ((s[i].toNat : Int) == 244) = false := by rw [beq_eq_false_iff_ne]; omega
  have lt128 : decide ((s[i].toNat : Int) < 128) = false := by simp only [decide_eq_true_eq, decide_eq_false_iff_not]; omega
  have ge194 : decide ((194 : Int) ≤ s[i].toNat) = true := by simp only [decide_eq_true_eq, decide_eq_false_iff_not]; omega
  have le223 : decide ((s[i].toNat : Int) ≤ 223) = false := by simp only [decide_eq_true_eq, decide_eq_false_iff_not]; omega
  have ge225 : decide ((225 : Int) ≤ s[i].toNat) = false := by simp only [decide_eq_true_eq, decide_eq_false_iff_not]; omega
  have le239 : decide ((s[i].toNat : Int) ≤ 239) = true := by simp only [decide_eq_true_eq, decide_eq_false_iff_not]; omega
  have ge241 : decide ((241 : Int) ≤ s[i].toNat) = false := by simp only [decide_eq_true_eq, decide_eq_false_iff_not]; omega
  have le243 : decide ((s[i].toNat : Int) ≤ 243) = true := by simp only [decide_eq_true_eq, decide_eq_false_iff_not]; omega
  have n237 : ((s[i].toNat : Int) != 237) = true := by rw [bne_iff_ne]; omega
  cases hx : inR (s.data.toList[i + 1]?) 160 191 with
  | false =>
    have Hx := Lib.hid hx
    clear hx
    go_enter Tryz.func80, Tryz.ntmps80
    go_wp2_with fail
    refine (between_any s _ (i + 1) (by simp) _ _ 160 191 rfl rfl (by omega) (by omega) hs _).mono ?_
    rintro _ w1 ⟨rfl, rfl⟩
    rw [Hx.out]
    go_wp2_with fail
    go_ret
    exact ⟨ret_int (by rw [Hres.out, Hx.out]; rfl), rfl⟩
  | true =>
    have Hx := Lib.hid hx
    clear hx
    cases hy : tlB s.data.toList (i + 2) 1 with
    | true =>
      have Hy := Lib.hid hy
      clear hy
      go_enter Tryz.func80, Tryz.ntmps80
      go_wp2_with fail
      refine (between_any s _ (i + 1) (by simp) _ _ 160 191 rfl rfl (by omega) (by omega) hs _).mono ?_
      rintro _ w1 ⟨rfl, rfl⟩
      rw [Hx.out]
      go_wp2_with fail
      refine (tail_any s _ (i + 2) (by simp) _ 1 rfl (by omega) (by omega) hs _).mono ?_
      rintro _ w1 ⟨rfl, rfl⟩
      rw [Hy.out]
      go_wp2_with fail
      go_ret
      exact ⟨ret_int (by rw [Hres.out, Hx.out, Hy.out]; rfl), rfl⟩
    | false =>
      have Hy := Lib.hid hy
      clear hy
      go_enter Tryz.func80, Tryz.ntmps80
      go_wp2_with fail
      refine (between_any s _ (i + 1) (by simp) _ _ 160 191 rfl rfl (by omega) (by omega) hs _).mono ?_
      rintro _ w1 ⟨rfl, rfl⟩
      rw [Hx.out]
      go_wp2_with fail
      refine (tail_any s _ (i + 2) (by simp) _ 1 rfl (by omega) (by omega) hs _).mono ?_
      rintro _ w1 ⟨rfl, rfl⟩
      rw [Hy.out]
      go_wp2_with fail
      go_ret
      exact ⟨ret_int (by rw [Hres.out, Hx.out, Hy.out]; rfl), rfl⟩
set_option maxHeartbeats 1000000 in
set_option maxRecDepth 100000 in
theorem size_E (s : ByteArray) (i : Nat) (hi : i < s.size) (hs : s.size ≤ 4611686018427387904) (hlo : 237 ≤ s[i].toNat) (hhi : s[i].toNat ≤ 237) (w : World) :
    Calls Tryz.prog 80 #[.string s, .int .i64 i] w fun e w' => e = .returned (.int .i64 (sz (s.data.toList.drop i))) ∧ w = w' := by
  have hres := sz_E (lget hi) hlo hhi
  have Hres := Lib.hid hres
  clear hres
  have z1 : (237 : Int) ≤ s[i].toNat := by omega
  have z2 : (s[i].toNat : Int) ≤ 237 := by omega
  have e224 : ((s[i].toNat : Int) == 224) = false := by rw [beq_eq_false_iff_ne]; omega
  have e237 : ((s[i].toNat : Int) == 237) = true := by rw [beq_iff_eq]; omega
  have e240 : ((s[i].toNat : Int) == 240) = false := by rw [beq_eq_false_iff_ne]; omega
  have e244 : ((s[i].toNat : Int) == 244) = false := by rw [beq_eq_false_iff_ne]; omega
  have lt128 : decide ((s[i].toNat : Int) < 128) = false := by simp only [decide_eq_true_eq, decide_eq_false_iff_not]; omega
  have ge194 : decide ((194 : Int) ≤ s[i].toNat) = true := by simp only [decide_eq_true_eq, decide_eq_false_iff_not]; omega
  have le223 : decide ((s[i].toNat : Int) ≤ 223) = false := by simp only [decide_eq_true_eq, decide_eq_false_iff_not]; omega
  have ge225 : decide ((225 : Int) ≤ s[i].toNat) = true := by simp only [decide_eq_true_eq, decide_eq_false_iff_not]; omega
  have le239 : decide ((s[i].toNat : Int) ≤ 239) = true := by simp only [decide_eq_true_eq, decide_eq_false_iff_not]; omega
  have ge241 : decide ((241 : Int) ≤ s[i].toNat) = false := by simp only [decide_eq_true_eq, decide_eq_false_iff_not]; omega
  have le243 : decide ((s[i].toNat : Int) ≤ 243) = true := by simp only [decide_eq_true_eq, decide_eq_false_iff_not]; omega
  have n237 : ((s[i].toNat : Int) != 237) = false := by rw [bne_eq_false_iff_eq]; omega
  cases hx : inR (s.data.toList[i + 1]?) 128 159 with
  | false =>
    have Hx := Lib.hid hx
    clear hx
    go_enter Tryz.func80, Tryz.ntmps80
    go_wp2_with fail
    refine (between_any s _ (i + 1) (by simp) _ _ 128 159 rfl rfl (by omega) (by omega) hs _).mono ?_
    rintro _ w1 ⟨rfl, rfl⟩
    rw [Hx.out]
    go_wp2_with fail
    go_ret
    exact ⟨ret_int (by rw [Hres.out, Hx.out]; rfl), rfl⟩
  | true =>
    have Hx := Lib.hid hx
    clear hx
    cases hy : tlB s.data.toList (i + 2) 1 with
    | true =>
      have Hy := Lib.hid hy
      clear hy
      go_enter Tryz.func80, Tryz.ntmps80
      go_wp2_with fail
      refine (between_any s _ (i + 1) (by simp) _ _ 128 159 rfl rfl (by omega) (by omega) hs _).mono ?_
      rintro _ w1 ⟨rfl, rfl⟩
      rw [Hx.out]
      go_wp2_with fail
      refine (tail_any s _ (i + 2) (by simp) _ 1 rfl (by omega) (by omega) hs _).mono ?_
      rintro _ w1 ⟨rfl, rfl⟩
      rw [Hy.out]
      go_wp2_with fail
      go_ret
      exact ⟨ret_int (by rw [Hres.out, Hx.out, Hy.out]; rfl), rfl⟩
    | false =>
      have Hy := Lib.hid hy
      clear hy
      go_enter Tryz.func80, Tryz.ntmps80
      go_wp2_with fail
      refine (between_any s _ (i + 1) (by simp) _ _ 128 159 rfl rfl (by omega) (by omega) hs _).mono ?_
      rintro _ w1 ⟨rfl, rfl⟩
      rw [Hx.out]
      go_wp2_with fail
      refine (tail_any s _ (i + 2) (by simp) _ 1 rfl (by omega) (by omega) hs _).mono ?_
      rintro _ w1 ⟨rfl, rfl⟩
      rw [Hy.out]
      go_wp2_with fail
      go_ret
      exact ⟨ret_int (by rw [Hres.out, Hx.out, Hy.out]; rfl), rfl⟩
set_option maxHeartbeats 1000000 in
set_option maxRecDepth 100000 in
theorem size_F (s : ByteArray) (i : Nat) (hi : i < s.size) (hs : s.size ≤ 4611686018427387904) (hlo : 225 ≤ s[i].toNat) (hhi : s[i].toNat ≤ 239) (hne : s[i].toNat ≠ 237) (w : World) :
    Calls Tryz.prog 80 #[.string s, .int .i64 i] w fun e w' => e = .returned (.int .i64 (sz (s.data.toList.drop i))) ∧ w = w' := by
  have hres := sz_F (lget hi) hlo hhi hne
  have Hres := Lib.hid hres
  clear hres
  have z1 : (225 : Int) ≤ s[i].toNat := by omega
  have z2 : (s[i].toNat : Int) ≤ 239 := by omega
  have e224 : ((s[i].toNat : Int) == 224) = false := by rw [beq_eq_false_iff_ne]; omega
  have e237 : ((s[i].toNat : Int) == 237) = false := by rw [beq_eq_false_iff_ne]; omega
  have e240 : ((s[i].toNat : Int) == 240) = false := by rw [beq_eq_false_iff_ne]; omega
  have e244 : ((s[i].toNat : Int) == 244) = false := by rw [beq_eq_false_iff_ne]; omega
  have lt128 : decide ((s[i].toNat : Int) < 128) = false := by simp only [decide_eq_true_eq, decide_eq_false_iff_not]; omega
  have ge194 : decide ((194 : Int) ≤ s[i].toNat) = true := by simp only [decide_eq_true_eq, decide_eq_false_iff_not]; omega
  have le223 : decide ((s[i].toNat : Int) ≤ 223) = false := by simp only [decide_eq_true_eq, decide_eq_false_iff_not]; omega
  have ge225 : decide ((225 : Int) ≤ s[i].toNat) = true := by simp only [decide_eq_true_eq, decide_eq_false_iff_not]; omega
  have le239 : decide ((s[i].toNat : Int) ≤ 239) = true := by simp only [decide_eq_true_eq, decide_eq_false_iff_not]; omega
  have ge241 : decide ((241 : Int) ≤ s[i].toNat) = false := by simp only [decide_eq_true_eq, decide_eq_false_iff_not]; omega
  have le243 : decide ((s[i].toNat : Int) ≤ 243) = true := by simp only [decide_eq_true_eq, decide_eq_false_iff_not]; omega
  have n237 : ((s[i].toNat : Int) != 237) = true := by rw [bne_iff_ne]; omega
  clear hne
  cases hx : tlB s.data.toList (i + 1) 2 with
  | true =>
    have Hx := Lib.hid hx
    clear hx
    go_enter Tryz.func80, Tryz.ntmps80
    go_wp2_with fail
    refine (tail_any s _ (i + 1) (by simp) _ 2 rfl (by omega) (by omega) hs _).mono ?_
    rintro _ w1 ⟨rfl, rfl⟩
    rw [Hx.out]
    go_wp2_with fail
    go_ret
    exact ⟨ret_int (by rw [Hres.out, Hx.out]; rfl), rfl⟩
  | false =>
    have Hx := Lib.hid hx
    clear hx
    go_enter Tryz.func80, Tryz.ntmps80
    go_wp2_with fail
    refine (tail_any s _ (i + 1) (by simp) _ 2 rfl (by omega) (by omega) hs _).mono ?_
    rintro _ w1 ⟨rfl, rfl⟩
    rw [Hx.out]
    go_wp2_with fail
    go_ret
    exact ⟨ret_int (by rw [Hres.out, Hx.out]; rfl), rfl⟩
set_option maxHeartbeats 1000000 in
set_option maxRecDepth 100000 in
theorem size_G (s : ByteArray) (i : Nat) (hi : i < s.size) (hs : s.size ≤ 4611686018427387904) (hlo : 240 ≤ s[i].toNat) (hhi : s[i].toNat ≤ 240) (w : World) :
    Calls Tryz.prog 80 #[.string s, .int .i64 i] w fun e w' => e = .returned (.int .i64 (sz (s.data.toList.drop i))) ∧ w = w' := by
  have hres := sz_G (lget hi) hlo hhi
  have Hres := Lib.hid hres
  clear hres
  have z1 : (240 : Int) ≤ s[i].toNat := by omega
  have z2 : (s[i].toNat : Int) ≤ 240 := by omega
  have e224 : ((s[i].toNat : Int) == 224) = false := by rw [beq_eq_false_iff_ne]; omega
  have e237 : ((s[i].toNat : Int) == 237) = false := by rw [beq_eq_false_iff_ne]; omega
  have e240 : ((s[i].toNat : Int) == 240) = true := by rw [beq_iff_eq]; omega
  have e244 : ((s[i].toNat : Int) == 244) = false := by rw [beq_eq_false_iff_ne]; omega
  have lt128 : decide ((s[i].toNat : Int) < 128) = false := by simp only [decide_eq_true_eq, decide_eq_false_iff_not]; omega
  have ge194 : decide ((194 : Int) ≤ s[i].toNat) = true := by simp only [decide_eq_true_eq, decide_eq_false_iff_not]; omega
  have le223 : decide ((s[i].toNat : Int) ≤ 223) = false := by simp only [decide_eq_true_eq, decide_eq_false_iff_not]; omega
  have ge225 : decide ((225 : Int) ≤ s[i].toNat) = true := by simp only [decide_eq_true_eq, decide_eq_false_iff_not]; omega
  have le239 : decide ((s[i].toNat : Int) ≤ 239) = false := by simp only [decide_eq_true_eq, decide_eq_false_iff_not]; omega
  have ge241 : decide ((241 : Int) ≤ s[i].toNat) = false := by simp only [decide_eq_true_eq, decide_eq_false_iff_not]; omega
  have le243 : decide ((s[i].toNat : Int) ≤ 243) = true := by simp only [decide_eq_true_eq, decide_eq_false_iff_not]; omega
  have n237 : ((s[i].toNat : Int) != 237) = true := by rw [bne_iff_ne]; omega
  cases hx : inR (s.data.toList[i + 1]?) 144 191 with
  | false =>
    have Hx := Lib.hid hx
    clear hx
    go_enter Tryz.func80, Tryz.ntmps80
    go_wp2_with fail
    refine (between_any s _ (i + 1) (by simp) _ _ 144 191 rfl rfl (by omega) (by omega) hs _).mono ?_
    rintro _ w1 ⟨rfl, rfl⟩
    rw [Hx.out]
    go_wp2_with fail
    go_ret
    exact ⟨ret_int (by rw [Hres.out, Hx.out]; rfl), rfl⟩
  | true =>
    have Hx := Lib.hid hx
    clear hx
    cases hy : tlB s.data.toList (i + 2) 2 with
    | true =>
      have Hy := Lib.hid hy
      clear hy
      go_enter Tryz.func80, Tryz.ntmps80
      go_wp2_with fail
      refine (between_any s _ (i + 1) (by simp) _ _ 144 191 rfl rfl (by omega) (by omega) hs _).mono ?_
      rintro _ w1 ⟨rfl, rfl⟩
      rw [Hx.out]
      go_wp2_with fail
      refine (tail_any s _ (i + 2) (by simp) _ 2 rfl (by omega) (by omega) hs _).mono ?_
      rintro _ w1 ⟨rfl, rfl⟩
      rw [Hy.out]
      go_wp2_with fail
      go_ret
      exact ⟨ret_int (by rw [Hres.out, Hx.out, Hy.out]; rfl), rfl⟩
    | false =>
      have Hy := Lib.hid hy
      clear hy
      go_enter Tryz.func80, Tryz.ntmps80
      go_wp2_with fail
      refine (between_any s _ (i + 1) (by simp) _ _ 144 191 rfl rfl (by omega) (by omega) hs _).mono ?_
      rintro _ w1 ⟨rfl, rfl⟩
      rw [Hx.out]
      go_wp2_with fail
      refine (tail_any s _ (i + 2) (by simp) _ 2 rfl (by omega) (by omega) hs _).mono ?_
      rintro _ w1 ⟨rfl, rfl⟩
      rw [Hy.out]
      go_wp2_with fail
      go_ret
      exact ⟨ret_int (by rw [Hres.out, Hx.out, Hy.out]; rfl), rfl⟩
set_option maxHeartbeats 1000000 in
set_option maxRecDepth 100000 in
theorem size_H (s : ByteArray) (i : Nat) (hi : i < s.size) (hs : s.size ≤ 4611686018427387904) (hlo : 241 ≤ s[i].toNat) (hhi : s[i].toNat ≤ 243) (w : World) :
    Calls Tryz.prog 80 #[.string s, .int .i64 i] w fun e w' => e = .returned (.int .i64 (sz (s.data.toList.drop i))) ∧ w = w' := by
  have hres := sz_H (lget hi) hlo hhi
  have Hres := Lib.hid hres
  clear hres
  have z1 : (241 : Int) ≤ s[i].toNat := by omega
  have z2 : (s[i].toNat : Int) ≤ 243 := by omega
  have e224 : ((s[i].toNat : Int) == 224) = false := by rw [beq_eq_false_iff_ne]; omega
  have e237 : ((s[i].toNat : Int) == 237) = false := by rw [beq_eq_false_iff_ne]; omega
  have e240 : ((s[i].toNat : Int) == 240) = false := by rw [beq_eq_false_iff_ne]; omega
  have e244 : ((s[i].toNat : Int) == 244) = false := by rw [beq_eq_false_iff_ne]; omega
  have lt128 : decide ((s[i].toNat : Int) < 128) = false := by simp only [decide_eq_true_eq, decide_eq_false_iff_not]; omega
  have ge194 : decide ((194 : Int) ≤ s[i].toNat) = true := by simp only [decide_eq_true_eq, decide_eq_false_iff_not]; omega
  have le223 : decide ((s[i].toNat : Int) ≤ 223) = false := by simp only [decide_eq_true_eq, decide_eq_false_iff_not]; omega
  have ge225 : decide ((225 : Int) ≤ s[i].toNat) = true := by simp only [decide_eq_true_eq, decide_eq_false_iff_not]; omega
  have le239 : decide ((s[i].toNat : Int) ≤ 239) = false := by simp only [decide_eq_true_eq, decide_eq_false_iff_not]; omega
  have ge241 : decide ((241 : Int) ≤ s[i].toNat) = true := by simp only [decide_eq_true_eq, decide_eq_false_iff_not]; omega
  have le243 : decide ((s[i].toNat : Int) ≤ 243) = true := by simp only [decide_eq_true_eq, decide_eq_false_iff_not]; omega
  have n237 : ((s[i].toNat : Int) != 237) = true := by rw [bne_iff_ne]; omega
  cases hx : tlB s.data.toList (i + 1) 3 with
  | true =>
    have Hx := Lib.hid hx
    clear hx
    go_enter Tryz.func80, Tryz.ntmps80
    go_wp2_with fail
    refine (tail_any s _ (i + 1) (by simp) _ 3 rfl (by omega) (by omega) hs _).mono ?_
    rintro _ w1 ⟨rfl, rfl⟩
    rw [Hx.out]
    go_wp2_with fail
    go_ret
    exact ⟨ret_int (by rw [Hres.out, Hx.out]; rfl), rfl⟩
  | false =>
    have Hx := Lib.hid hx
    clear hx
    go_enter Tryz.func80, Tryz.ntmps80
    go_wp2_with fail
    refine (tail_any s _ (i + 1) (by simp) _ 3 rfl (by omega) (by omega) hs _).mono ?_
    rintro _ w1 ⟨rfl, rfl⟩
    rw [Hx.out]
    go_wp2_with fail
    go_ret
    exact ⟨ret_int (by rw [Hres.out, Hx.out]; rfl), rfl⟩
set_option maxHeartbeats 1000000 in
set_option maxRecDepth 100000 in
theorem size_I (s : ByteArray) (i : Nat) (hi : i < s.size) (hs : s.size ≤ 4611686018427387904) (hlo : 244 ≤ s[i].toNat) (hhi : s[i].toNat ≤ 244) (w : World) :
    Calls Tryz.prog 80 #[.string s, .int .i64 i] w fun e w' => e = .returned (.int .i64 (sz (s.data.toList.drop i))) ∧ w = w' := by
  have hres := sz_I (lget hi) hlo hhi
  have Hres := Lib.hid hres
  clear hres
  have z1 : (244 : Int) ≤ s[i].toNat := by omega
  have z2 : (s[i].toNat : Int) ≤ 244 := by omega
  have e224 : ((s[i].toNat : Int) == 224) = false := by rw [beq_eq_false_iff_ne]; omega
  have e237 : ((s[i].toNat : Int) == 237) = false := by rw [beq_eq_false_iff_ne]; omega
  have e240 : ((s[i].toNat : Int) == 240) = false := by rw [beq_eq_false_iff_ne]; omega
  have e244 : ((s[i].toNat : Int) == 244) = true := by rw [beq_iff_eq]; omega
  have lt128 : decide ((s[i].toNat : Int) < 128) = false := by simp only [decide_eq_true_eq, decide_eq_false_iff_not]; omega
  have ge194 : decide ((194 : Int) ≤ s[i].toNat) = true := by simp only [decide_eq_true_eq, decide_eq_false_iff_not]; omega
  have le223 : decide ((s[i].toNat : Int) ≤ 223) = false := by simp only [decide_eq_true_eq, decide_eq_false_iff_not]; omega
  have ge225 : decide ((225 : Int) ≤ s[i].toNat) = true := by simp only [decide_eq_true_eq, decide_eq_false_iff_not]; omega
  have le239 : decide ((s[i].toNat : Int) ≤ 239) = false := by simp only [decide_eq_true_eq, decide_eq_false_iff_not]; omega
  have ge241 : decide ((241 : Int) ≤ s[i].toNat) = true := by simp only [decide_eq_true_eq, decide_eq_false_iff_not]; omega
  have le243 : decide ((s[i].toNat : Int) ≤ 243) = false := by simp only [decide_eq_true_eq, decide_eq_false_iff_not]; omega
  have n237 : ((s[i].toNat : Int) != 237) = true := by rw [bne_iff_ne]; omega
  cases hx : inR (s.data.toList[i + 1]?) 128 143 with
  | false =>
    have Hx := Lib.hid hx
    clear hx
    go_enter Tryz.func80, Tryz.ntmps80
    go_wp2_with fail
    refine (between_any s _ (i + 1) (by simp) _ _ 128 143 rfl rfl (by omega) (by omega) hs _).mono ?_
    rintro _ w1 ⟨rfl, rfl⟩
    rw [Hx.out]
    go_wp2_with fail
    go_ret
    exact ⟨ret_int (by rw [Hres.out, Hx.out]; rfl), rfl⟩
  | true =>
    have Hx := Lib.hid hx
    clear hx
    cases hy : tlB s.data.toList (i + 2) 2 with
    | true =>
      have Hy := Lib.hid hy
      clear hy
      go_enter Tryz.func80, Tryz.ntmps80
      go_wp2_with fail
      refine (between_any s _ (i + 1) (by simp) _ _ 128 143 rfl rfl (by omega) (by omega) hs _).mono ?_
      rintro _ w1 ⟨rfl, rfl⟩
      rw [Hx.out]
      go_wp2_with fail
      refine (tail_any s _ (i + 2) (by simp) _ 2 rfl (by omega) (by omega) hs _).mono ?_
      rintro _ w1 ⟨rfl, rfl⟩
      rw [Hy.out]
      go_wp2_with fail
      go_ret
      exact ⟨ret_int (by rw [Hres.out, Hx.out, Hy.out]; rfl), rfl⟩
    | false =>
      have Hy := Lib.hid hy
      clear hy
      go_enter Tryz.func80, Tryz.ntmps80
      go_wp2_with fail
      refine (between_any s _ (i + 1) (by simp) _ _ 128 143 rfl rfl (by omega) (by omega) hs _).mono ?_
      rintro _ w1 ⟨rfl, rfl⟩
      rw [Hx.out]
      go_wp2_with fail
      refine (tail_any s _ (i + 2) (by simp) _ 2 rfl (by omega) (by omega) hs _).mono ?_
      rintro _ w1 ⟨rfl, rfl⟩
      rw [Hy.out]
      go_wp2_with fail
      go_ret
      exact ⟨ret_int (by rw [Hres.out, Hx.out, Hy.out]; rfl), rfl⟩
set_option maxHeartbeats 1000000 in
set_option maxRecDepth 100000 in
theorem size_J (s : ByteArray) (i : Nat) (hi : i < s.size) (hs : s.size ≤ 4611686018427387904) (hlo : 245 ≤ s[i].toNat) (hhi : s[i].toNat ≤ 255) (w : World) :
    Calls Tryz.prog 80 #[.string s, .int .i64 i] w fun e w' => e = .returned (.int .i64 (sz (s.data.toList.drop i))) ∧ w = w' := by
  have hres := sz_J (lget hi) hlo hhi
  have Hres := Lib.hid hres
  clear hres
  have z1 : (245 : Int) ≤ s[i].toNat := by omega
  have z2 : (s[i].toNat : Int) ≤ 255 := by omega
  have e224 : ((s[i].toNat : Int) == 224) = false := by rw [beq_eq_false_iff_ne]; omega
  have e237 : ((s[i].toNat : Int) == 237) = false := by rw [beq_eq_false_iff_ne]; omega
  have e240 : ((s[i].toNat : Int) == 240) = false := by rw [beq_eq_false_iff_ne]; omega
  have e244 : ((s[i].toNat : Int) == 244) = false := by rw [beq_eq_false_iff_ne]; omega
  have lt128 : decide ((s[i].toNat : Int) < 128) = false := by simp only [decide_eq_true_eq, decide_eq_false_iff_not]; omega
  have ge194 : decide ((194 : Int) ≤ s[i].toNat) = true := by simp only [decide_eq_true_eq, decide_eq_false_iff_not]; omega
  have le223 : decide ((s[i].toNat : Int) ≤ 223) = false := by simp only [decide_eq_true_eq, decide_eq_false_iff_not]; omega
  have ge225 : decide ((225 : Int) ≤ s[i].toNat) = true := by simp only [decide_eq_true_eq, decide_eq_false_iff_not]; omega
  have le239 : decide ((s[i].toNat : Int) ≤ 239) = false := by simp only [decide_eq_true_eq, decide_eq_false_iff_not]; omega
  have ge241 : decide ((241 : Int) ≤ s[i].toNat) = true := by simp only [decide_eq_true_eq, decide_eq_false_iff_not]; omega
  have le243 : decide ((s[i].toNat : Int) ≤ 243) = false := by simp only [decide_eq_true_eq, decide_eq_false_iff_not]; omega
  have n237 : ((s[i].toNat : Int) != 237) = true := by rw [bne_iff_ne]; omega
  go_enter Tryz.func80, Tryz.ntmps80
  go_wp2_with fail
  go_ret
  exact ⟨ret_int (by rw [Hres.out]; rfl), rfl⟩
/-- The length of the well-formed sequence at an index. -/
theorem size_any (s : ByteArray) (i : Nat) (hi : i < s.size) (hs : s.size ≤ 4611686018427387904) (w : World) :
    Calls Tryz.prog 80 #[.string s, .int .i64 i] w fun e w' => e = .returned (.int .i64 (sz (s.data.toList.drop i))) ∧ w = w' := by
  have hb := s[i].toNat_lt
  rcases (by omega : s[i].toNat ≤ 127 ∨ (128 ≤ s[i].toNat ∧ s[i].toNat ≤ 193) ∨ (194 ≤ s[i].toNat ∧ s[i].toNat ≤ 223) ∨ (224 ≤ s[i].toNat ∧ s[i].toNat ≤ 224) ∨ (237 ≤ s[i].toNat ∧ s[i].toNat ≤ 237) ∨
    (225 ≤ s[i].toNat ∧ s[i].toNat ≤ 239 ∧ s[i].toNat ≠ 237) ∨ (240 ≤ s[i].toNat ∧ s[i].toNat ≤ 240) ∨ (241 ≤ s[i].toNat ∧ s[i].toNat ≤ 243) ∨ (244 ≤ s[i].toNat ∧ s[i].toNat ≤ 244) ∨ 245 ≤ s[i].toNat) with
    h | ⟨h, k⟩ | ⟨h, k⟩ | ⟨h, k⟩ | ⟨h, k⟩ | ⟨h, k, m⟩ | ⟨h, k⟩ | ⟨h, k⟩ | ⟨h, k⟩ | h
  · exact size_A s i hi hs (by omega) h w
  · exact size_B s i hi hs h k w
  · exact size_C s i hi hs h k w
  · exact size_D s i hi hs h k w
  · exact size_E s i hi hs h k w
  · exact size_F s i hi hs h k m w
  · exact size_G s i hi hs h k w
  · exact size_H s i hi hs h k w
  · exact size_I s i hi hs h k w
  · exact size_J s i hi hs h (by omega) w

end Go.Proofs.YthjpchnogllliaaGreatDoor.UtfR

/- Contracts of pair, digit, Hex, Unhex and Quote of the reference of package utf. -/
set_option linter.unusedSimpArgs false
set_option linter.unusedVariables false
namespace Go.Proofs.YthjpchnogllliaaGreatDoor.UtfK
open Go.RowKit Nums Byt UtfM UtfS UtfQ UtfD Room UtfH UtfP UtfR

theorem digit_cut {n : Nat} (h : n < 16) : (⟨#[48, 49, 50, 51, 52, 53, 54, 55, 56, 57, 97, 98, 99, 100, 101, 102]⟩ : ByteArray).extract n (n + 1) = ⟨#[hx n]⟩ := by
  have : ∀ k : Fin 16, ((⟨#[48, 49, 50, 51, 52, 53, 54, 55, 56, 57, 97, 98, 99, 100, 101, 102]⟩ : ByteArray).extract k.val (k.val + 1)).data.toList = [hx k.val] := by decide +kernel
  have h1 := this ⟨n, h⟩
  rw [← mk_toList (ByteArray.extract _ n (n + 1)), h1]
set_option maxHeartbeats 1000000 in
set_option maxRecDepth 100000 in
theorem pair_any (c : UInt8) (w : World) :
    Calls Tryz.prog 81 #[.int .u8 c.toNat] w fun e w' => e = .returned (.string ⟨#[hx (c.toNat / 16), hx (c.toNat % 16)]⟩) ∧ Below w.heap.size w w' := by
  have c256 := c.toNat_lt
  have hc256 : (c.toNat : Int) < 256 := by omega
  have a0 : 0 ≤ (c.toNat : Int) / 16 := by omega
  have a1 : (c.toNat : Int) / 16 + 1 ≤ 16 := by omega
  have a2 : (c.toNat : Int) / 16 < 16 := by omega
  have a3 : 0 ≤ (c.toNat : Int) % 16 := by omega
  have a4 : (c.toNat : Int) % 16 + 1 ≤ 16 := by omega
  have a5 : (c.toNat : Int) % 16 < 16 := by omega
  have a6 : (c.toNat : Int) / 16 ≤ (c.toNat : Int) / 16 + 1 := by omega
  have a7 : (c.toNat : Int) % 16 ≤ (c.toNat : Int) % 16 + 1 := by omega
  go_enter Tryz.func81, Tryz.ntmps81
  go_wp2_with fail
  go_quiet (fail)
  go_wp2_with fail
  go_ret
  exact ⟨BytT.ret_str (by rw [digit_cut (by omega), digit_cut (by omega)]; rfl), below_drewN (Below.refl _ _) _⟩

set_option maxHeartbeats 1000000 in
set_option maxRecDepth 100000 in
theorem digit_a (c : UInt8) (w : World) (h1 : 48 ≤ c.toNat) (h2 : c.toNat ≤ 57) :
    Calls Tryz.prog 144 #[.int .u8 c.toNat] w fun e w' => e = .returned (.int .i64 (dig c)) ∧ w' = w := by
  have z1 : (48 : Int) ≤ c.toNat := by omega
  have z2 : (c.toNat : Int) ≤ 57 := by omega
  have ge48 : decide ((48 : Int) ≤ c.toNat) = true := by simp; omega
  have le57 : decide ((c.toNat : Int) ≤ 57) = true := by simp; omega
  have ge97 : decide ((97 : Int) ≤ c.toNat) = false := by simp; omega
  have le102 : decide ((c.toNat : Int) ≤ 102) = true := by simp; omega
  have hd : dig c = c.toNat - 48 := by
    unfold dig
    repeat' split
    all_goals omega
  have Hd := Lib.hid hd
  clear hd
  go_enter Tryz.func144, Tryz.ntmps144
  go_wp2_with fail
  go_ret
  exact ⟨ret_int (by rw [Hd.out]), rfl⟩
set_option maxHeartbeats 1000000 in
set_option maxRecDepth 100000 in
theorem digit_b (c : UInt8) (w : World) (h1 : 97 ≤ c.toNat) (h2 : c.toNat ≤ 102) :
    Calls Tryz.prog 144 #[.int .u8 c.toNat] w fun e w' => e = .returned (.int .i64 (dig c)) ∧ w' = w := by
  have z1 : (97 : Int) ≤ c.toNat := by omega
  have z2 : (c.toNat : Int) ≤ 102 := by omega
  have ge48 : decide ((48 : Int) ≤ c.toNat) = true := by simp; omega
  have le57 : decide ((c.toNat : Int) ≤ 57) = false := by simp; omega
  have ge97 : decide ((97 : Int) ≤ c.toNat) = true := by simp; omega
  have le102 : decide ((c.toNat : Int) ≤ 102) = true := by simp; omega
  have hd : dig c = c.toNat - 97 + 10 := by
    unfold dig
    repeat' split
    all_goals omega
  have Hd := Lib.hid hd
  clear hd
  go_enter Tryz.func144, Tryz.ntmps144
  go_wp2_with fail
  go_ret
  exact ⟨ret_int (by rw [Hd.out]), rfl⟩
set_option maxHeartbeats 1000000 in
set_option maxRecDepth 100000 in
theorem digit_c (c : UInt8) (w : World) (h1 : 0 ≤ c.toNat) (h2 : c.toNat ≤ 47) :
    Calls Tryz.prog 144 #[.int .u8 c.toNat] w fun e w' => e = .returned (.int .i64 (dig c)) ∧ w' = w := by
  have z1 : (0 : Int) ≤ c.toNat := by omega
  have z2 : (c.toNat : Int) ≤ 47 := by omega
  have ge48 : decide ((48 : Int) ≤ c.toNat) = false := by simp; omega
  have le57 : decide ((c.toNat : Int) ≤ 57) = true := by simp; omega
  have ge97 : decide ((97 : Int) ≤ c.toNat) = false := by simp; omega
  have le102 : decide ((c.toNat : Int) ≤ 102) = true := by simp; omega
  have hd : dig c = -1 := by
    unfold dig
    repeat' split
    all_goals omega
  have Hd := Lib.hid hd
  clear hd
  go_enter Tryz.func144, Tryz.ntmps144
  go_wp2_with fail
  go_ret
  exact ⟨ret_int (by rw [Hd.out]), rfl⟩
set_option maxHeartbeats 1000000 in
set_option maxRecDepth 100000 in
theorem digit_d (c : UInt8) (w : World) (h1 : 58 ≤ c.toNat) (h2 : c.toNat ≤ 96) :
    Calls Tryz.prog 144 #[.int .u8 c.toNat] w fun e w' => e = .returned (.int .i64 (dig c)) ∧ w' = w := by
  have z1 : (58 : Int) ≤ c.toNat := by omega
  have z2 : (c.toNat : Int) ≤ 96 := by omega
  have ge48 : decide ((48 : Int) ≤ c.toNat) = true := by simp; omega
  have le57 : decide ((c.toNat : Int) ≤ 57) = false := by simp; omega
  have ge97 : decide ((97 : Int) ≤ c.toNat) = false := by simp; omega
  have le102 : decide ((c.toNat : Int) ≤ 102) = true := by simp; omega
  have hd : dig c = -1 := by
    unfold dig
    repeat' split
    all_goals omega
  have Hd := Lib.hid hd
  clear hd
  go_enter Tryz.func144, Tryz.ntmps144
  go_wp2_with fail
  go_ret
  exact ⟨ret_int (by rw [Hd.out]), rfl⟩
set_option maxHeartbeats 1000000 in
set_option maxRecDepth 100000 in
theorem digit_e (c : UInt8) (w : World) (h1 : 103 ≤ c.toNat) (h2 : c.toNat ≤ 255) :
    Calls Tryz.prog 144 #[.int .u8 c.toNat] w fun e w' => e = .returned (.int .i64 (dig c)) ∧ w' = w := by
  have z1 : (103 : Int) ≤ c.toNat := by omega
  have z2 : (c.toNat : Int) ≤ 255 := by omega
  have ge48 : decide ((48 : Int) ≤ c.toNat) = true := by simp; omega
  have le57 : decide ((c.toNat : Int) ≤ 57) = false := by simp; omega
  have ge97 : decide ((97 : Int) ≤ c.toNat) = true := by simp; omega
  have le102 : decide ((c.toNat : Int) ≤ 102) = false := by simp; omega
  have hd : dig c = -1 := by
    unfold dig
    repeat' split
    all_goals omega
  have Hd := Lib.hid hd
  clear hd
  go_enter Tryz.func144, Tryz.ntmps144
  go_wp2_with fail
  go_ret
  exact ⟨ret_int (by rw [Hd.out]), rfl⟩
/-- A digit's number, or -1. -/
theorem digit_any (c : UInt8) (w : World) : Calls Tryz.prog 144 #[.int .u8 c.toNat] w fun e w' => e = .returned (.int .i64 (dig c)) ∧ w' = w := by
  have hc := c.toNat_lt
  by_cases h1 : c.toNat ≤ 47
  · exact digit_c c w (by omega) h1
  by_cases h2 : c.toNat ≤ 57
  · exact digit_a c w (by omega) h2
  by_cases h3 : c.toNat ≤ 96
  · exact digit_d c w (by omega) h3
  by_cases h4 : c.toNat ≤ 102
  · exact digit_b c w (by omega) h4
  exact digit_e c w (by omega) (by omega)
theorem digit_same (c : UInt8) (w : World) : Calls Tryz.prog 144 #[.int .u8 c.toNat] w fun e w' => e = .returned (.int .i64 (dig c)) ∧ w = w' :=
  (digit_any c w).mono fun _ _ ⟨h1, h2⟩ => ⟨h1, h2.symm⟩

theorem join_list (a : ByteArray) (l : List UInt8) (x : List UInt8) (h : a.data.toList = x) : (a ++ ⟨l.toArray⟩).data.toList = x ++ l := by
  rw [append_toList, h]
set_option maxHeartbeats 1000000 in
set_option maxRecDepth 100000 in
theorem rHex_any (s : ByteArray) (hs : s.size ≤ 35184372088000) (w : World) :
    Calls Tryz.prog 50 #[.string s] w fun e w' => e = .returned (.string ⟨(hexL s.data.toList).toArray⟩) ∧ Below w.heap.size w w' := by
  obtain ⟨l, hl⟩ : ∃ l, l = s.data.toList := ⟨_, rfl⟩
  rw [← hl]
  have hsz : l.length = s.size := by rw [hl]; rfl
  have Hl := Lib.hid hl
  have Hsz := Lib.hid hsz
  clear hl hsz
  go_enter Tryz.func50, Tryz.ntmps50
  go_wp2_with fail
  go_loopw [3, 4] (fun v i wr => ∃ (k : Nat) (T : ByteArray), k ≤ s.size ∧ T.size ≤ 2 * k ∧ v = .string T ∧ i = .int .i64 k ∧ Below w.heap.size w wr ∧ Hid (T.data.toList = hexL (l.take k))) (fun _ i _ => s.size - (intOf i).toNat)
  case atStart => exact ⟨0, ⟨#[]⟩, by omega, Nat.le_refl _, rfl, rfl, Below.refl _ _, Lib.hid (by simp [hexL])⟩
  case round =>
    obtain ⟨k, T, hk, hT, rfl, rfl, hbel, Hh⟩ := hrel
    by_cases hlt : k < s.size
    · have ht : hexL (l.take (k + 1)) = hexL (l.take k) ++ [hx ((s[k]).toNat / 16), hx ((s[k]).toNat % 16)] := by
        rw [List.take_succ_eq_append_getElem (by rw [Hsz.out]; exact hlt), hexL_snoc]
        have : l[k]'(by rw [Hsz.out]; exact hlt) = s[k] := by
          simp only [Hl.out]; rfl
        rw [this]
      have Ht := Lib.hid ht
      clear ht
      have hT2 : T.size + 2 ≤ 9223372036854775807 := by omega
      go_wp2_with fail
      refine (pair_any s[k] _).mono ?_
      rintro _ w1 ⟨rfl, hb1⟩
      go_wp2_with fail
      refine ⟨⟨k + 1, _, by omega, ?_, rfl, by go_num, hbel.trans (hb1.mono hbel.size), Lib.hid ?_⟩, by simp [intOf]; omega⟩
      · rw [ByteArray.size_append]; show T.size + 2 ≤ _; omega
      · rw [Ht.out]; exact join_list T _ _ Hh.out
    · obtain rfl : k = s.size := by omega
      go_wp2_with fail
      go_ret
      refine ⟨BytT.ret_str ?_, hbel⟩
      rw [← mk_toList T, Hh.out, ← Hsz.out, List.take_length]

theorem unhex_odd : ∀ l : List UInt8, l.length % 2 ≠ 0 → unhexL l = none
  | [], h => by simp at h
  | [_], _ => rfl
  | a :: b :: t, h => by
    rw [unhexL]
    split
    · rfl
    · rw [unhex_odd t (by simp only [List.length_cons] at h; omega)]; rfl
theorem wrap8 {a b : Int} (a0 : 0 ≤ a) (a1 : a < 16) (b0 : 0 ≤ b) (b1 : b < 16) : (16 * a + b) % 256 = ((UInt8.ofNat (a.toNat * 16 + b.toNat)).toNat : Int) := by
  rw [UInt8.toNat_ofNat']
  omega

theorem conv_new (W : World) (c : UInt8) : (convert 57 9 (.slice (some ⟨W.heap.size, 0, none⟩) 1 1)).run Tryz.prog (W.alloc (.cells #[.int .u8 (c.toNat : Int)] 5)) = .ok (.string ⟨#[c]⟩) (W.alloc (.cells #[.int .u8 (c.toNat : Int)] 5)) :=
  conv_cells BytT.bytesT Tryz.underlying9 W.heap.size 1 1 [c] rfl (fun i hi => by
    obtain rfl : i = 0 := by simp at hi; omega
    rw [World.cell?_alloc_at _ _ _ _ rfl]; rfl)
theorem conv_drew (W : World) (c : UInt8) : (convert 57 9 (.slice (some ⟨W.heap.size, 0, none⟩) 1 1)).run Tryz.prog (W.alloc (.cells #[.int .u8 (c.toNat : Int)] 5)).drew = .ok (.string ⟨#[c]⟩) (W.alloc (.cells #[.int .u8 (c.toNat : Int)] 5)).drew :=
  conv_new W.drew c
set_option maxHeartbeats 1000000 in
set_option maxRecDepth 100000 in
theorem rUnhex_any (s : ByteArray) (hs : s.size ≤ 35184372088000) (w : World) :
    Calls Tryz.prog 117 #[.string s] w fun e w' => e = .returned (.tuple #[.string ⟨(uhT s.data.toList).toArray⟩, .int .i64 (uhE s.data.toList)]) ∧ Below w.heap.size w w' := by
  obtain ⟨l, hl⟩ : ∃ l, l = s.data.toList := ⟨_, rfl⟩
  rw [← hl]
  have hsz : l.length = s.size := by rw [hl]; rfl
  have Hl := Lib.hid hl
  have Hsz := Lib.hid hsz
  clear hl hsz
  by_cases ho : s.size % 2 ≠ 0
  · have hf := unhex_odd l (by rw [Hsz.out]; exact ho)
    have Hf := Lib.hid hf
    have d1 : ((s.size : Int) % 2 != 0) = true := by rw [bne_iff_ne]; omega
    clear hf ho
    go_enter Tryz.func117, Tryz.ntmps117
    go_wp2_with fail
    go_ret2
    exact ⟨ret_se (by simp [uhT, Hf.out]) (by simp [uhE, Hf.out]), Below.refl _ _⟩
  · have ho' : s.size % 2 = 0 := by omega
    have d1 : ((s.size : Int) % 2 != 0) = false := by rw [bne_eq_false_iff_eq]; omega
    have Ho := Lib.hid ho'
    clear ho ho'
    go_enter Tryz.func117, Tryz.ntmps117
    go_wp2_with fail
    go_loopw [4, 5] (fun v i wr => ∃ (k : Nat) (T : ByteArray), k ≤ s.size ∧ T.size ≤ k ∧ v = .string T ∧ i = .int .i64 k ∧ Below w.heap.size w wr ∧ Hid (k % 2 = 0) ∧ Hid (unhexL l = (unhexL (l.drop k)).map fun r => T.data.toList ++ r)) (fun _ i _ => s.size - (intOf i).toNat)
    case atStart =>
      refine ⟨0, ⟨#[]⟩, by omega, Nat.le_refl _, rfl, rfl, Below.refl _ _, Lib.hid rfl, Lib.hid ?_⟩
      rw [List.drop_zero]
      cases unhexL l <;> simp
    case round =>
      obtain ⟨k, T, hk, hT, rfl, rfl, hbel, H2, Hu⟩ := hrel
      by_cases hlt : k < s.size
      · have hlt2 : k + 1 < s.size := by have := H2.out; have := Ho.out; omega
        have hlt3 : (k : Int) + 1 < s.size := by omega
        have g0 : (l.drop k)[0]? = some s[k] := by rw [List.getElem?_drop, Nat.add_zero, Hl.out]; exact lget hlt
        have g1 : (l.drop k)[1]? = some s[k + 1] := by rw [List.getElem?_drop, Hl.out]; exact lget hlt2
        have h2 := two_long g0 g1
        have hu2 := unhex_two (l.drop k) (fun e => by rw [e] at g0; simp at g0)
        have r0 := dig_range s[k]
        have r1 := dig_range s[k + 1]
        have hT1 : T.size + 1 ≤ 9223372036854775807 := by omega
        by_cases c0 : dig s[k] < 0
        · have hf : unhexL l = none := by rw [Hu.out, hu2, h2, if_pos (.inl c0)]; rfl
          have Hf := Lib.hid hf
          clear hf h2 hu2 g0 g1 r0 r1
          go_wp2_with fail
          refine (digit_same _ _).mono ?_
          rintro _ w1 ⟨rfl, rfl⟩
          go_wp2_with fail
          go_ret2
          exact ⟨ret_se (by simp [uhT, Hf.out]) (by simp [uhE, Hf.out]), hbel⟩
        · have c0' : 0 ≤ dig s[k] := by omega
          have c0'' : dig s[k] < 16 := by omega
          by_cases c1 : dig s[k + 1] < 0
          · have hf : unhexL l = none := by rw [Hu.out, hu2, h2, if_pos (.inr c1)]; rfl
            have Hf := Lib.hid hf
            clear hf h2 hu2 g0 g1 r0 r1 c0
            go_wp2_with fail
            refine (digit_same _ _).mono ?_
            rintro _ w1 ⟨rfl, rfl⟩
            go_wp2_with fail
            refine (digit_same _ _).mono ?_
            rintro _ w1 ⟨rfl, rfl⟩
            go_wp2_with fail
            go_ret2
            exact ⟨ret_se (by simp [uhT, Hf.out]) (by simp [uhE, Hf.out]), hbel⟩
          · have c1' : 0 ≤ dig s[k + 1] := by omega
            have c1'' : dig s[k + 1] < 16 := by omega
            have hw8 := wrap8 c0' c0'' c1' c1''
            rw [if_neg (by omega)] at h2
            rw [h2] at hu2
            generalize UInt8.ofNat ((dig s[k]).toNat * 16 + (dig s[k + 1]).toNat) = c at hu2 hw8
            have Hu2 := Lib.hid hu2
            have hcv := fun W => conv_drew W c
            clear h2 hu2 g0 g1 r0 r1 c0 c1
            go_wp2_with fail
            refine (digit_same _ _).mono ?_
            rintro _ w1 ⟨rfl, rfl⟩
            go_wp2_with fail
            refine (digit_same _ _).mono ?_
            rintro _ w1 ⟨rfl, rfl⟩
            go_wp2_with fail
            have s1 : IntKind.i64.wrap ((k : Int) + 1) = (k : Int) + 1 := IntWalk.i64_in _ (by omega)
            have s2 : (0 : Int) ≤ (k : Int) + 1 := by omega
            have s3 : ((k : Int) + 1).toNat = k + 1 := by omega
            have s4 : IntKind.i64.wrap (16 * dig s[k]) = 16 * dig s[k] := IntWalk.i64_in _ (by omega)
            have s5 : IntKind.i64.wrap (16 * dig s[k] + dig s[k + 1]) = 16 * dig s[k] + dig s[k + 1] := IntWalk.i64_in _ (by omega)
            have s6 : IntKind.u8.wrap (16 * dig s[k] + dig s[k + 1]) = (c.toNat : Int) := hw8
            go_region_with (go_at_call 144; refine (digit_same _ _).mono ?_; rintro _ w1 ⟨rfl, rfl⟩)
            all_goals
              go_wp2_with fail
              clear s1 s2 s3 s4 s5 s6 hw8 hcv
              refine ⟨⟨k + 2, _, by omega, ?_, rfl, by go_num, (hbel.alloc hbel.size _).drew, Lib.hid (by have := H2.out; omega), Lib.hid ?_⟩, by simp [intOf]; omega⟩
              · rw [ByteArray.size_append]; show T.size + 1 ≤ _; omega
              · rw [Hu.out, Hu2.out, join_list T [c] _ rfl, List.drop_drop]
                cases unhexL (l.drop (k + 2)) <;> simp
      · obtain rfl : k = s.size := by omega
        go_wp2_with fail
        go_ret2
        have hf : unhexL l = some T.data.toList := by rw [Hu.out, List.drop_eq_nil_of_le (by rw [Hsz.out]; omega)]; simp [unhexL]
        refine ⟨ret_se ?_ ?_, hbel⟩
        · simp only [uhT, hf]; rfl
        · simp [uhE, hf]


theorem part_ref (s : ByteArray) (pos : Nat) (hp : pos < s.size) : ∃ (n m : Nat) (t : List UInt8),
    sz (s.data.toList.drop pos) = m ∧ (m = 0 → n = 1) ∧ (m ≠ 0 → n = m) ∧ 1 ≤ n ∧ n ≤ 4 ∧ pos + n ≤ s.size ∧ body (s.data.toList.drop pos) = form (s[pos] :: t) ++ body (s.data.toList.drop (pos + n)) ∧ (s[pos] :: t).length = n ∧
    (s[pos].toNat < 128 → m = 1 ∧ t = []) ∧ sz (s[pos] :: t) = m ∧ (s.extract pos (pos + n)).data.toList = s[pos] :: t := by
  have hl : pos < s.data.toList.length := hp
  have hne := drop_ne hl
  have h1 := step_pos (s.data.toList.drop pos)
  have h4 := step_le4 (s.data.toList.drop pos)
  have hle := step_le hne
  rw [List.length_drop] at hle
  have hb := body_next hl
  have hsp := sz_part hne
  have hd : s.data.toList.drop pos = s[pos] :: s.data.toList.drop (pos + 1) := by rw [List.drop_eq_getElem_cons hl]; rfl
  obtain ⟨t, ht⟩ : ∃ t, (s.data.toList.drop pos).take (stp (s.data.toList.drop pos)) = s[pos] :: t := by
    obtain ⟨m, hm⟩ : ∃ m, stp (s.data.toList.drop pos) = m + 1 := ⟨stp (s.data.toList.drop pos) - 1, by omega⟩
    rw [hm, hd]
    exact ⟨_, rfl⟩
  have hlen := congrArg List.length ht
  rw [List.length_take, List.length_drop] at hlen
  have hsz : s.data.toList.length = s.size := rfl
  have hlow : s[pos].toNat < 128 → sz (s.data.toList.drop pos) = 1 := by
    intro h
    exact szF_mk1 (a := s[pos]) (by rw [hd]; rfl) h
  rw [ht] at hb hsp
  refine ⟨stp (s.data.toList.drop pos), _, t, rfl, fun h => ?_, fun h => ?_, h1, h4, by omega, hb, by omega, fun h => ⟨hlow h, ?_⟩, hsp, ?_⟩
  · unfold stp; rw [if_pos h]
  · unfold stp; rw [if_neg h]
  · have h2 := hlow h
    have h3 : stp (s.data.toList.drop pos) = 1 := by unfold stp; rw [h2]; rfl
    have : t.length = 0 := by simp only [List.length_cons] at hlen; omega
    exact List.eq_nil_of_length_eq_zero this
  · rw [← ht]
    simp [List.take_drop]
theorem beq_no {b c : UInt8} (h : b ≠ c) : ((b.toNat : Int) == (c.toNat : Int)) = false := by
  rw [beq_eq_false_iff_ne]
  intro e
  exact h (UInt8.toNat_inj.1 (by omega))
theorem ret_str {a b : ByteArray} (h : a = b) : Ending.returned (.string a) = .returned (.string b) := by rw [h]

set_option maxHeartbeats 4000000 in
set_option maxRecDepth 100000 in
theorem rQuote_any (s : ByteArray) (hs : s.size ≤ 35184372088000) (w : World) :
    Calls Tryz.prog 49 #[.string s] w fun e w' => e = .returned (.string ⟨(quote s.data.toList).toArray⟩) ∧ Below w.heap.size w w' := by
  obtain ⟨l, hl⟩ : ∃ l, l = s.data.toList := ⟨_, rfl⟩
  rw [← hl]
  have hsz : l.length = s.size := by rw [hl]; rfl
  have Hl := Lib.hid hl
  have Hsz := Lib.hid hsz
  clear hl hsz
  go_enter Tryz.func49, Tryz.ntmps49
  go_wp2_with fail
  go_loopw [3, 4] (fun v i wr => ∃ (k : Nat) (T : ByteArray), k ≤ s.size ∧ T.size ≤ 1 + 4 * k ∧ v = .string T ∧ i = .int .i64 k ∧ Below w.heap.size w wr ∧ Hid (34 :: body l = T.data.toList ++ body (l.drop k))) (fun _ i _ => s.size - (intOf i).toNat)
  case atStart => exact ⟨0, ⟨#[34]⟩, by omega, Nat.le_refl _, rfl, rfl, Below.refl _ _, Lib.hid rfl⟩
  case round =>
    obtain ⟨k, T, hk, hT, rfl, rfl, hbel, Hb⟩ := hrel
    by_cases hlt : k < s.size
    · obtain ⟨n, m, t, hm, hm0, hm1, hn1, hn4, hkn, hbody, htn, hlow, hz, hext⟩ := part_ref s k hlt
      rw [← Hl.out] at hbody
      have Hbody := Lib.hid hbody
      have Hm := Lib.hid hm
      have Hext := Lib.hid hext
      have hT4 : T.size + 4 ≤ 9223372036854775807 := by omega
      have hT2 : T.size + 2 ≤ 9223372036854775807 := by omega
      have hb256 := s[k].toNat_lt
      have hend : ∀ (T2 : ByteArray) (F : List UInt8), T2.data.toList = T.data.toList ++ F → F = form (s[k] :: t) → T2.size ≤ T.size + 4 → T2.size ≤ 1 + 4 * (k + n) ∧ Hid (34 :: body l = T2.data.toList ++ body (l.drop (k + n))) := by
        intro T2 F h1 h2 h3
        refine ⟨by omega, Lib.hid ?_⟩
        rw [Hb.out, Hbody.out, h1, h2, List.append_assoc]
      have Hend := Lib.hid hend
      clear hbody hm hext hend
      by_cases c34 : s[k] = 34
      · obtain ⟨hm1', ht⟩ := hlow (by rw [c34]; decide)
        subst ht
        obtain rfl : n = 1 := by simpa using htn.symm
        have b34 : ((s[k].toNat : Int) == 34) = true := by rw [c34]; rfl
        have b92 : ((s[k].toNat : Int) == 92) = false := by rw [c34]; rfl
        have b10 : ((s[k].toNat : Int) == 10) = false := by rw [c34]; rfl
        have b9 : ((s[k].toNat : Int) == 9) = false := by rw [c34]; rfl
        have b13 : ((s[k].toNat : Int) == 13) = false := by rw [c34]; rfl
        have HM : Hid (sz (l.drop k) = 1) := Lib.hid (by rw [Hl.out, Hm.out, hm1'])
        have HF : Hid ([92, 34] = form [s[k]]) := Lib.hid (by rw [c34]; rfl)
        clear hm0 hm1 hlow hz htn hm1' c34
        go_wp2_with fail
        refine (size_any s k hlt (by omega) _).mono ?_
        rintro _ w1 ⟨rfl, rfl⟩
        rw [← Hl.out, HM.out]
        go_wp2_with fail
        obtain ⟨h1, h2⟩ := Hend.out (T ++ ⟨#[92, 34]⟩) _ (join_list T [92, 34] _ rfl) HF.out (by rw [ByteArray.size_append]; show T.size + 2 ≤ _; omega)
        exact ⟨⟨k + 1, _, by omega, h1, rfl, by go_num, hbel, h2⟩, by simp [intOf]; omega⟩
      by_cases c92 : s[k] = 92
      · obtain ⟨hm1', ht⟩ := hlow (by rw [c92]; decide)
        subst ht
        obtain rfl : n = 1 := by simpa using htn.symm
        have b34 : ((s[k].toNat : Int) == 34) = false := by rw [c92]; rfl
        have b92 : ((s[k].toNat : Int) == 92) = true := by rw [c92]; rfl
        have b10 : ((s[k].toNat : Int) == 10) = false := by rw [c92]; rfl
        have b9 : ((s[k].toNat : Int) == 9) = false := by rw [c92]; rfl
        have b13 : ((s[k].toNat : Int) == 13) = false := by rw [c92]; rfl
        have HM : Hid (sz (l.drop k) = 1) := Lib.hid (by rw [Hl.out, Hm.out, hm1'])
        have HF : Hid ([92, 92] = form [s[k]]) := Lib.hid (by rw [c92]; rfl)
        clear hm0 hm1 hlow hz htn hm1' c92 c34
        go_wp2_with fail
        refine (size_any s k hlt (by omega) _).mono ?_
        rintro _ w1 ⟨rfl, rfl⟩
        rw [← Hl.out, HM.out]
        go_wp2_with fail
        obtain ⟨h1, h2⟩ := Hend.out (T ++ ⟨#[92, 92]⟩) _ (join_list T [92, 92] _ rfl) HF.out (by rw [ByteArray.size_append]; show T.size + 2 ≤ _; omega)
        exact ⟨⟨k + 1, _, by omega, h1, rfl, by go_num, hbel, h2⟩, by simp [intOf]; omega⟩
      by_cases c10 : s[k] = 10
      · obtain ⟨hm1', ht⟩ := hlow (by rw [c10]; decide)
        subst ht
        obtain rfl : n = 1 := by simpa using htn.symm
        have b34 : ((s[k].toNat : Int) == 34) = false := by rw [c10]; rfl
        have b92 : ((s[k].toNat : Int) == 92) = false := by rw [c10]; rfl
        have b10 : ((s[k].toNat : Int) == 10) = true := by rw [c10]; rfl
        have b9 : ((s[k].toNat : Int) == 9) = false := by rw [c10]; rfl
        have b13 : ((s[k].toNat : Int) == 13) = false := by rw [c10]; rfl
        have HM : Hid (sz (l.drop k) = 1) := Lib.hid (by rw [Hl.out, Hm.out, hm1'])
        have HF : Hid ([92, 110] = form [s[k]]) := Lib.hid (by rw [c10]; rfl)
        clear hm0 hm1 hlow hz htn hm1' c10 c34 c92
        go_wp2_with fail
        refine (size_any s k hlt (by omega) _).mono ?_
        rintro _ w1 ⟨rfl, rfl⟩
        rw [← Hl.out, HM.out]
        go_wp2_with fail
        obtain ⟨h1, h2⟩ := Hend.out (T ++ ⟨#[92, 110]⟩) _ (join_list T [92, 110] _ rfl) HF.out (by rw [ByteArray.size_append]; show T.size + 2 ≤ _; omega)
        exact ⟨⟨k + 1, _, by omega, h1, rfl, by go_num, hbel, h2⟩, by simp [intOf]; omega⟩
      by_cases c9 : s[k] = 9
      · obtain ⟨hm1', ht⟩ := hlow (by rw [c9]; decide)
        subst ht
        obtain rfl : n = 1 := by simpa using htn.symm
        have b34 : ((s[k].toNat : Int) == 34) = false := by rw [c9]; rfl
        have b92 : ((s[k].toNat : Int) == 92) = false := by rw [c9]; rfl
        have b10 : ((s[k].toNat : Int) == 10) = false := by rw [c9]; rfl
        have b9 : ((s[k].toNat : Int) == 9) = true := by rw [c9]; rfl
        have b13 : ((s[k].toNat : Int) == 13) = false := by rw [c9]; rfl
        have HM : Hid (sz (l.drop k) = 1) := Lib.hid (by rw [Hl.out, Hm.out, hm1'])
        have HF : Hid ([92, 116] = form [s[k]]) := Lib.hid (by rw [c9]; rfl)
        clear hm0 hm1 hlow hz htn hm1' c9 c34 c92 c10
        go_wp2_with fail
        refine (size_any s k hlt (by omega) _).mono ?_
        rintro _ w1 ⟨rfl, rfl⟩
        rw [← Hl.out, HM.out]
        go_wp2_with fail
        obtain ⟨h1, h2⟩ := Hend.out (T ++ ⟨#[92, 116]⟩) _ (join_list T [92, 116] _ rfl) HF.out (by rw [ByteArray.size_append]; show T.size + 2 ≤ _; omega)
        exact ⟨⟨k + 1, _, by omega, h1, rfl, by go_num, hbel, h2⟩, by simp [intOf]; omega⟩
      by_cases c13 : s[k] = 13
      · obtain ⟨hm1', ht⟩ := hlow (by rw [c13]; decide)
        subst ht
        obtain rfl : n = 1 := by simpa using htn.symm
        have b34 : ((s[k].toNat : Int) == 34) = false := by rw [c13]; rfl
        have b92 : ((s[k].toNat : Int) == 92) = false := by rw [c13]; rfl
        have b10 : ((s[k].toNat : Int) == 10) = false := by rw [c13]; rfl
        have b9 : ((s[k].toNat : Int) == 9) = false := by rw [c13]; rfl
        have b13 : ((s[k].toNat : Int) == 13) = true := by rw [c13]; rfl
        have HM : Hid (sz (l.drop k) = 1) := Lib.hid (by rw [Hl.out, Hm.out, hm1'])
        have HF : Hid ([92, 114] = form [s[k]]) := Lib.hid (by rw [c13]; rfl)
        clear hm0 hm1 hlow hz htn hm1' c13 c34 c92 c10 c9
        go_wp2_with fail
        refine (size_any s k hlt (by omega) _).mono ?_
        rintro _ w1 ⟨rfl, rfl⟩
        rw [← Hl.out, HM.out]
        go_wp2_with fail
        obtain ⟨h1, h2⟩ := Hend.out (T ++ ⟨#[92, 114]⟩) _ (join_list T [92, 114] _ rfl) HF.out (by rw [ByteArray.size_append]; show T.size + 2 ≤ _; omega)
        exact ⟨⟨k + 1, _, by omega, h1, rfl, by go_num, hbel, h2⟩, by simp [intOf]; omega⟩
      have b34 : ((s[k].toNat : Int) == 34) = false := beq_no c34
      have b92 : ((s[k].toNat : Int) == 92) = false := beq_no c92
      have b10 : ((s[k].toNat : Int) == 10) = false := beq_no c10
      have b9 : ((s[k].toNat : Int) == 9) = false := beq_no c9
      have b13 : ((s[k].toNat : Int) == 13) = false := beq_no c13
      by_cases hx6 : s[k].toNat < 32 ∨ s[k].toNat = 127 ∨ sz (s[k] :: t) = 0
      · have HF := Lib.hid (form_hex c34 c92 c10 c9 c13 hx6).symm
        obtain rfl : n = 1 := by
          rcases hx6 with h | h | h
          · obtain ⟨_, rfl⟩ := hlow (by omega); simpa using htn.symm
          · obtain ⟨_, rfl⟩ := hlow (by omega); simpa using htn.symm
          · exact hm0 (by rw [← hz, h])
        by_cases hA : s[k].toNat < 32
        · have d1 : decide ((s[k].toNat : Int) < 32) = true := by simp; omega
          have HM : Hid (sz (l.drop k) = 1) := Lib.hid (by rw [Hl.out, Hm.out, (hlow (by omega)).1])
          clear hm0 hm1 hlow hz htn hx6 c34 c92 c10 c9 c13
          go_wp2_with fail
          refine (size_any s k hlt (by omega) _).mono ?_
          rintro _ w1 ⟨rfl, rfl⟩
          rw [← Hl.out, HM.out]
          go_wp2_with fail
          refine (pair_any s[k] _).mono ?_
          rintro _ w2 ⟨rfl, hb2⟩
          go_wp2_with fail
          obtain ⟨h1, h2⟩ := Hend.out (T ++ ⟨#[92, 120]⟩ ++ ⟨#[hx (s[k].toNat / 16), hx (s[k].toNat % 16)]⟩) _ ((join_list _ [hx (s[k].toNat / 16), hx (s[k].toNat % 16)] _ (join_list T [92, 120] _ rfl)).trans (List.append_assoc _ _ _)) HF.out (by rw [ByteArray.size_append, ByteArray.size_append]; show T.size + 2 + 2 ≤ _; omega)
          exact ⟨⟨k + 1, _, by omega, h1, rfl, by go_num, hbel.trans (hb2.mono hbel.size), h2⟩, by simp [intOf]; omega⟩
        · have d1 : decide ((s[k].toNat : Int) < 32) = false := by simp; omega
          by_cases hB : s[k].toNat = 127
          · have d2 : ((s[k].toNat : Int) == 127) = true := by rw [hB]; rfl
            have HM : Hid (sz (l.drop k) = 1) := Lib.hid (by rw [Hl.out, Hm.out, (hlow (by omega)).1])
            clear hm0 hm1 hlow hz htn hx6 hB c34 c92 c10 c9 c13
            go_wp2_with fail
            refine (size_any s k hlt (by omega) _).mono ?_
            rintro _ w1 ⟨rfl, rfl⟩
            rw [← Hl.out, HM.out]
            go_wp2_with fail
            refine (pair_any s[k] _).mono ?_
            rintro _ w2 ⟨rfl, hb2⟩
            go_wp2_with fail
            obtain ⟨h1, h2⟩ := Hend.out (T ++ ⟨#[92, 120]⟩ ++ ⟨#[hx (s[k].toNat / 16), hx (s[k].toNat % 16)]⟩) _ ((join_list _ [hx (s[k].toNat / 16), hx (s[k].toNat % 16)] _ (join_list T [92, 120] _ rfl)).trans (List.append_assoc _ _ _)) HF.out (by rw [ByteArray.size_append, ByteArray.size_append]; show T.size + 2 + 2 ≤ _; omega)
            exact ⟨⟨k + 1, _, by omega, h1, rfl, by go_num, hbel.trans (hb2.mono hbel.size), h2⟩, by simp [intOf]; omega⟩
          · have d2 : ((s[k].toNat : Int) == 127) = false := by rw [beq_eq_false_iff_ne]; omega
            have HM : Hid (sz (l.drop k) = 0) := Lib.hid (by rw [Hl.out, Hm.out, ← hz]; omega)
            clear hm0 hm1 hlow hz htn hx6 hB c34 c92 c10 c9 c13
            go_wp2_with fail
            refine (size_any s k hlt (by omega) _).mono ?_
            rintro _ w1 ⟨rfl, rfl⟩
            rw [← Hl.out, HM.out]
            go_wp2_with fail
            refine (pair_any s[k] _).mono ?_
            rintro _ w2 ⟨rfl, hb2⟩
            go_wp2_with fail
            obtain ⟨h1, h2⟩ := Hend.out (T ++ ⟨#[92, 120]⟩ ++ ⟨#[hx (s[k].toNat / 16), hx (s[k].toNat % 16)]⟩) _ ((join_list _ [hx (s[k].toNat / 16), hx (s[k].toNat % 16)] _ (join_list T [92, 120] _ rfl)).trans (List.append_assoc _ _ _)) HF.out (by rw [ByteArray.size_append, ByteArray.size_append]; show T.size + 2 + 2 ≤ _; omega)
            exact ⟨⟨k + 1, _, by omega, h1, rfl, by go_num, hbel.trans (hb2.mono hbel.size), h2⟩, by simp [intOf]; omega⟩
      · have HF := Lib.hid (form_self c34 c92 c10 c9 c13 hx6).symm
        have hmne : m ≠ 0 := by rw [← hz]; omega
        obtain rfl : n = m := hm1 hmne
        have d1 : decide ((s[k].toNat : Int) < 32) = false := by simp; omega
        have d2 : ((s[k].toNat : Int) == 127) = false := by rw [beq_eq_false_iff_ne]; omega
        have d3 : ((n : Int) == 0) = false := by rw [beq_eq_false_iff_ne]; omega
        have HM : Hid (sz (l.drop k) = n) := Lib.hid (by rw [Hl.out, Hm.out])
        have hes : (s.extract k (k + n)).size = n := by rw [ByteArray.size_extract]; omega
        have hes2 : T.size + (s.extract k (k + n)).size ≤ 9223372036854775807 := by omega
        have hki : (k : Int) + n ≤ s.size := by omega
        have Hes := Lib.hid hes
        clear hm0 hm1 hlow hz htn hx6 hmne hes c34 c92 c10 c9 c13
        go_wp2_with fail
        refine (size_any s k hlt (by omega) _).mono ?_
        rintro _ w1 ⟨rfl, rfl⟩
        rw [← Hl.out, HM.out]
        go_wp2_with fail
        obtain ⟨h1, h2⟩ := Hend.out (T ++ s.extract k (k + n)) _ (by rw [append_toList, Hext.out]) HF.out (by rw [ByteArray.size_append, Hes.out]; omega)
        exact ⟨⟨k + n, _, by omega, h1, rfl, by go_num, hbel, h2⟩, by simp [intOf]; omega⟩
    · obtain rfl : k = s.size := by omega
      have hT1 : T.size + 1 ≤ 9223372036854775807 := by omega
      go_wp2_with fail
      go_ret
      have hfin := Hb.out
      rw [body_end (by rw [Hsz.out]; omega), List.append_nil] at hfin
      refine ⟨ret_str ?_, hbel⟩
      have h3 := join_list T [34] _ rfl
      rw [← hfin] at h3
      rw [← mk_toList (T ++ _), h3]
      rfl

end Go.Proofs.YthjpchnogllliaaGreatDoor.UtfK

/- Contracts of escaped, unescape and Unquote of package utf. -/
set_option linter.unusedSimpArgs false
set_option linter.unusedVariables false
namespace Go.Proofs.YthjpchnogllliaaGreatDoor.UtfE
open Go.RowKit Nums Byt UtfM UtfS UtfQ Room UtfH UtfP

theorem indexLetters (b : UInt8) (w : World) : Calls Tryz.prog 56 #[.string ⟨#[34, 92, 110, 116, 114]⟩, .int .u8 b.toNat] w fun e w' => e = .returned (.int .i64 (leI b)) ∧ w = w' :=
  (indexByte ⟨#[34, 92, 110, 116, 114]⟩ b _ rfl w).mono fun _ _ ⟨h1, h2⟩ => ⟨h1.trans (by rw [← index_letters]), h2⟩

theorem leI_cases (b : UInt8) (t : List UInt8) : (leI b = -1 ∧ b ≠ 34 ∧ b ≠ 92 ∧ b ≠ 110 ∧ b ≠ 116 ∧ b ≠ 114) ∨ ∃ (k : Nat) (c : UInt8), leI b = k ∧ k < 5 ∧ esc (b :: t) = (c, 1) ∧ (∀ h, (⟨#[34, 92, 10, 9, 13]⟩ : ByteArray)[k]'h = c) := by
  by_cases h1 : b = 34
  · subst h1; exact .inr ⟨0, 34, rfl, by omega, rfl, fun _ => rfl⟩
  by_cases h2 : b = 92
  · subst h2; exact .inr ⟨1, 92, rfl, by omega, rfl, fun _ => rfl⟩
  by_cases h3 : b = 110
  · subst h3; exact .inr ⟨2, 10, rfl, by omega, rfl, fun _ => rfl⟩
  by_cases h4 : b = 116
  · subst h4; exact .inr ⟨3, 9, rfl, by omega, rfl, fun _ => rfl⟩
  by_cases h5 : b = 114
  · subst h5; exact .inr ⟨4, 13, rfl, by omega, rfl, fun _ => rfl⟩
  exact .inl ⟨by simp [leI, h1, h2, h3, h4, h5], h1, h2, h3, h4, h5⟩
theorem esc_len (t : List UInt8) : (esc t).2 ≤ t.length ∧ (esc t).2 ≤ 3 := by
  cases t with
  | nil => simp [esc]
  | cons b t =>
    unfold esc
    simp only [List.length_cons]
    by_cases h1 : b = 34
    · rw [if_pos h1]; simp
    by_cases h2 : b = 92
    · rw [if_neg h1, if_pos h2]; simp
    by_cases h3 : b = 110
    · rw [if_neg h1, if_neg h2, if_pos h3]; simp
    by_cases h4 : b = 116
    · rw [if_neg h1, if_neg h2, if_neg h3, if_pos h4]; simp
    by_cases h5 : b = 114
    · rw [if_neg h1, if_neg h2, if_neg h3, if_neg h4, if_pos h5]; simp
    rw [if_neg h1, if_neg h2, if_neg h3, if_neg h4, if_neg h5]
    split
    · simp
    · cases h : two t with
      | none => simp
      | some c =>
        have : 2 ≤ t.length := Nat.le_of_not_lt fun hh => by rw [two_short hh] at h; cases h
        simp; omega
theorem ret_ui {a b c d : Int} (h : a = b) (k : c = d) : Ending.returned (.tuple #[.int .u8 a, .int .i64 c]) = .returned (.tuple #[.int .u8 b, .int .i64 d]) := by rw [h, k]
theorem byte_ne {b c : UInt8} (h : b ≠ c) : b.toNat ≠ c.toNat := fun e => h (UInt8.toNat_inj.1 e)

set_option maxHeartbeats 1000000 in
set_option maxRecDepth 100000 in
theorem escaped_any (s : ByteArray) (hs : s.size ≤ 4611686018427387904) (w : World) :
    Calls Tryz.prog 139 #[.string s] w fun e w' => e = .returned (.tuple #[.int .u8 (esc s.data.toList).1.toNat, .int .i64 (esc s.data.toList).2]) ∧ w = w' := by
  obtain ⟨l, hl⟩ : ∃ l, l = s.data.toList := ⟨_, rfl⟩
  rw [← hl]
  have hsi : (s.size : Int) ≤ 4611686018427387904 := by omega
  by_cases ht : s.size = 0
  · have he := empty_yes ht
    have htl : l = [] := by rw [hl]; exact List.eq_nil_of_length_eq_zero ht
    subst htl
    clear ht hl
    go_enter Tryz.func139, Tryz.ntmps139
    go_wp2_with fail
    go_ret2
    exact ⟨ret_ui rfl rfl, rfl⟩
  · have he := empty_no ht
    have h0 : 0 < s.size := by omega
    have hd : l = s[0] :: l.drop 1 := by
      have := List.drop_eq_getElem_cons (l := s.data.toList) (i := 0) h0
      rw [List.drop_zero] at this
      rw [hl]
      exact this
    obtain ⟨t, ht'⟩ : ∃ t, t = l.drop 1 := ⟨_, rfl⟩
    rw [← ht'] at hd
    have hts : (s.extract 1 s.size).data.toList = t := by rw [drop_data, ht', hl]
    have Hts := Lib.hid hts
    clear hl hts ht'
    subst hd
    clear ht
    rcases leI_cases s[0] t with ⟨hmk, h1, h2, h3, h4, h5⟩ | ⟨k, c, hmk, hk5, hform, hq⟩
    · have Hmk := Lib.hid hmk
      by_cases hx : s[0] = 120
      · have hx' := congrArg UInt8.toNat hx
        have n120 : ((s[0].toNat : Int) != 120) = false := by rw [bne_eq_false_iff_eq, hx']; rfl
        have hesc : esc (s[0] :: t) = match two t with
            | none => (0, 0)
            | some c => (c, 3) := by
          unfold esc
          simp only [if_neg h1, if_neg h2, if_neg h3, if_neg h4, if_neg h5, if_neg (show ¬ s[0] ≠ 120 from fun e => e hx)]
          cases two t <;> rfl
        cases h2t : two t with
        | none =>
          rw [h2t] at hesc
          have Hesc := Lib.hid hesc
          have H2 := Lib.hid h2t
          clear hx hx' hesc h2t hmk h1 h2 h3 h4 h5
          go_enter Tryz.func139, Tryz.ntmps139
          go_wp2_with fail
          refine (indexLetters _ _).mono ?_
          rintro _ w2 ⟨rfl, rfl⟩
          rw [Hmk.out]
          go_wp2_with fail
          refine (two_no _ (by rw [Hts.out]; exact H2.out) (by rw [ByteArray.size_extract]; omega) _).mono ?_
          rintro _ w1 ⟨rfl, rfl⟩
          go_wp2_with fail
          go_ret2
          exact ⟨ret_ui (by rw [Hesc.out]; rfl) (by rw [Hesc.out]; rfl), rfl⟩
        | some c =>
          rw [h2t] at hesc
          have Hesc := Lib.hid hesc
          have H2 := Lib.hid h2t
          clear hx hx' hesc h2t hmk h1 h2 h3 h4 h5
          go_enter Tryz.func139, Tryz.ntmps139
          go_wp2_with fail
          refine (indexLetters _ _).mono ?_
          rintro _ w2 ⟨rfl, rfl⟩
          rw [Hmk.out]
          go_wp2_with fail
          refine (two_yes _ c (by rw [Hts.out]; exact H2.out) (by rw [ByteArray.size_extract]; omega) _).mono ?_
          rintro _ w1 ⟨rfl, rfl⟩
          go_wp2_with fail
          go_ret2
          exact ⟨ret_ui (by rw [Hesc.out]) (by rw [Hesc.out]; rfl), rfl⟩
      · have hx' := byte_ne hx
        have n120 : ((s[0].toNat : Int) != 120) = true := by
          rw [bne_iff_ne]
          have : (120 : UInt8).toNat = 120 := rfl
          omega
        have hesc : esc (s[0] :: t) = (0, 0) := by
          unfold esc
          simp only [if_neg h1, if_neg h2, if_neg h3, if_neg h4, if_neg h5, if_pos (show s[0] ≠ 120 from hx)]
        have Hesc := Lib.hid hesc
        clear hx hx' hesc hmk h1 h2 h3 h4 h5
        go_enter Tryz.func139, Tryz.ntmps139
        go_wp2_with fail
        refine (indexLetters _ _).mono ?_
        rintro _ w2 ⟨rfl, rfl⟩
        rw [Hmk.out]
        go_wp2_with fail
        go_ret2
        exact ⟨ret_ui (by rw [Hesc.out]; rfl) (by rw [Hesc.out]; rfl), rfl⟩
    · have Hmk := Lib.hid hmk
      have Hform := Lib.hid hform
      have hk0 : (0 : Int) ≤ k := by omega
      have hk5' : (k : Int) < 5 := by omega
      clear hmk hform
      go_enter Tryz.func139, Tryz.ntmps139
      go_wp2_with fail
      refine (indexLetters _ _).mono ?_
      rintro _ w2 ⟨rfl, rfl⟩
      rw [Hmk.out]
      go_wp2_with fail
      go_ret2
      exact ⟨ret_ui (by rw [Hform.out]) (by rw [Hform.out]; rfl), rfl⟩

theorem unescape_step (l : List UInt8) : ∀ b t, l = b :: t → b = 34 → unescape l = match scan t with
    | none => ([], 0)
    | some r => (r.1, 1 + r.2) := by
  rintro b t rfl rfl
  rfl
/-- What is left to be read, and what has been read, as a result. -/
def after (acc : List UInt8) (k : Nat) (o : Option (List UInt8 × Nat)) : List UInt8 × Nat := match o with
  | none => ([], 0)
  | some r => (acc ++ r.1, k + r.2)
theorem after_map (acc : List UInt8) (k j : Nat) (c : UInt8) (o : Option (List UInt8 × Nat)) : after acc k (o.map fun r => (c :: r.1, j + r.2)) = after (acc ++ [c]) (k + j) o := by
  cases o with
  | none => rfl
  | some r => simp [after]; omega
theorem ret_si {a b : ByteArray} {c d : Int} (h : a = b) (k : c = d) : Ending.returned (.tuple #[.string a, .int .i64 c]) = .returned (.tuple #[.string b, .int .i64 d]) := by rw [h, k]

set_option maxHeartbeats 2000000 in
set_option maxRecDepth 100000 in
theorem unescape_any (s : ByteArray) (hs : s.size ≤ 140737488355000) (w : World) :
    Calls Tryz.prog 110 #[.string s] w fun e w' => e = .returned (.tuple #[.string ⟨(unescape s.data.toList).1.toArray⟩, .int .i64 (unescape s.data.toList).2]) ∧ Below w.heap.size w w' := by
  obtain ⟨l, hl⟩ : ∃ l, l = s.data.toList := ⟨_, rfl⟩
  rw [← hl]
  have hsz : l.length = s.size := by rw [hl]; rfl
  have hsi : (s.size : Int) ≤ 140737488355000 := by omega
  have Hl := Lib.hid hl
  have Hsz := Lib.hid hsz
  clear hl hsz
  by_cases hp : Lib.hasPrefix l [34] = true
  · obtain ⟨t, ht⟩ := List.isPrefixOf_iff_prefix.1 hp
    have hun := unescape_step l 34 t (by rw [← ht]; rfl) rfl
    have hdr : l.drop 1 = t := by rw [← ht]; rfl
    have h1s : 1 ≤ s.size := by rw [← Hsz.out, ← ht]; simp
    have hun' : unescape l = after [] 1 (scan (l.drop 1)) := by rw [hun, hdr]; cases scan t <;> rfl
    have Hun := Lib.hid hun'
    have Hp := Lib.hid hp
    clear hun hdr hun' hp ht
    go_enter Tryz.func110, Tryz.ntmps110
    go_wp2_with fail
    refine (hasPrefix _ _ _).mono ?_
    rintro _ w1 ⟨rfl, rfl⟩
    rw [← Hl.out, show (⟨#[34]⟩ : ByteArray).data.toList = [34] from rfl, Hp.out]
    go_wp2_with fail
    go_loopw [4, 5] (fun v i wr => ∃ (k : Nat) (acc : List UInt8), k ≤ s.size ∧ acc.length ≤ k ∧ i = .int .i64 k ∧ OwnB wr w.heap.size 5 v acc ∧ Below w.heap.size w wr ∧ Hid (unescape l = after acc k (scan (l.drop k)))) (fun _ i _ => s.size - (intOf i).toNat)
    case atStart => exact ⟨1, [], h1s, by simp, rfl, OwnB.nil _ _ _, Below.refl _ _, Hun⟩
    case round =>
      obtain ⟨k, acc, hk, hacc, rfl, hown, hbel, Hu⟩ := hrel
      have hsw := hbel.size
      have Hown := Lib.hid hown
      clear hown Hun
      by_cases hlt : k < s.size
      · have hlt' : k < l.length := by rw [Hsz.out]; exact hlt
        have hd : l.drop k = s[k] :: l.drop (k + 1) := by
          rw [List.drop_eq_getElem_cons hlt']
          congr 1
          simp only [Hl.out]; rfl
        have Hd := Lib.hid hd
        have hx : (s.extract (k + 1) s.size).data.toList = l.drop (k + 1) := by rw [drop_data, Hl.out]
        have Hx := Lib.hid hx
        have hki : (k : Int) + 1 ≤ s.size := by omega
        clear hd hx hlt'
        by_cases c1 : s[k] = 34
        · have c1' : ((s[k].toNat : Int) == 34) = true := by rw [c1]; rfl
          have hcv := Hown.out.conv BytT.bytesT Tryz.underlying9
          have C1 := Lib.hid c1
          clear c1
          go_wp2_with fail
          go_ret2
          have hf : unescape l = (acc, k + 1) := by rw [Hu.out, Hd.out, C1.out, scan_mark]; simp [after]
          exact ⟨ret_si (by rw [hf]) (by rw [hf]; go_num), hbel⟩
        · have c1n := byte_ne c1
          have e34 : (34 : UInt8).toNat = 34 := rfl
          have c1' : ((s[k].toNat : Int) == 34) = false := by rw [beq_eq_false_iff_ne]; omega
          by_cases c2 : s[k] = 92
          · have c2' : ((s[k].toNat : Int) == 92) = true := by rw [c2]; rfl
            have C2 := Lib.hid c2
            clear c2 c1n e34
            have hes : (s.extract (k + 1) s.size).size ≤ 4611686018427387904 := by rw [ByteArray.size_extract]; omega
            have hel : (s.extract (k + 1) s.size).size = s.size - (k + 1) := by rw [ByteArray.size_extract]; omega
            have Hel := Lib.hid hel
            generalize hesc : esc (l.drop (k + 1)) = ec
            obtain ⟨ec1, ec2⟩ := ec
            have Hesc := Lib.hid hesc
            clear hesc hel
            by_cases hn : ec2 = 0
            · have n0 : ((ec2 : Int) == 0) = true := by simp [hn]
              have Hn := Lib.hid hn
              clear hn
              go_wp2_with fail
              refine (escaped_any _ hes _).mono ?_
              rintro _ w2 ⟨rfl, rfl⟩
              rw [Hx.out, Hesc.out]
              go_wp2_with fail
              go_ret2
              have hf : unescape l = ([], 0) := by rw [Hu.out, Hd.out, C2.out, scan_esc, Hesc.out, if_pos Hn.out]; rfl
              exact ⟨ret_si (by rw [hf]) (by rw [hf]; rfl), hbel⟩
            · have n0 : ((ec2 : Int) == 0) = false := by rw [beq_eq_false_iff_ne]; omega
              have he3 : ec2 ≤ 3 ∧ k + 1 + ec2 ≤ s.size := by
                have hh := esc_len (l.drop (k + 1))
                rw [Hesc.out, List.length_drop, Hsz.out] at hh
                simp only at hh
                omega
              obtain ⟨he3, hek⟩ := he3
              go_wp2_with fail
              refine (escaped_any _ hes _).mono ?_
              rintro _ w2 ⟨rfl, rfl⟩
              rw [Hx.out, Hesc.out]
              go_wp2_with (at_builtin; refine wpList_append_bytes rfl (.tmp 44) (.tmp 46) BytT.bytesT rfl w.heap.size _ acc rfl (Hown.out.alloc _) ⟨wr.heap.size, 0, none⟩ 1 1 [ec1] rfl rfl ?_ ?c1 ?c2 ?c3; intro v' w1 hown1 hg1 _; have Hown1 := Lib.hid hown1; have Hg1 := Lib.hid hg1; clear hown1 hg1)
              case c1 => exact cell_one _ _ _ _ rfl
              case c2 => exact .low (by omega)
              case c3 => exact size_alloc hsw
              refine ⟨⟨k + (1 + ec2), acc ++ [ec1], by omega, by simp; omega, by go_num, Hown1.out, (Hown.out.alloc _).below (hbel.alloc hsw _) Hg1.out (size_alloc hsw), Lib.hid ?_⟩, by simp [intOf]; omega⟩
              rw [Hu.out, Hd.out, C2.out, scan_esc, Hesc.out, if_neg hn, List.drop_drop, after_map]
              congr 3
              omega
          · have c2n := byte_ne c2
            have e92 : (92 : UInt8).toNat = 92 := rfl
            have c2' : ((s[k].toNat : Int) == 92) = false := by rw [beq_eq_false_iff_ne]; omega
            have hsc := scan_plain (l.drop (k + 1)) c1 c2
            have Hsc := Lib.hid hsc
            clear c1 c2 c1n c2n e34 e92 hsc
            go_wp2_with (at_builtin; refine wpList_append_bytes rfl (.tmp 18) (.tmp 22) BytT.bytesT rfl w.heap.size _ acc rfl (Hown.out.alloc _) ⟨wr.heap.size, 0, none⟩ 1 1 [s[k]] rfl rfl ?_ ?c4 ?c5 ?c6; intro v' w1 hown1 hg1 _; have Hown1 := Lib.hid hown1; have Hg1 := Lib.hid hg1; clear hown1 hg1)
            case c4 => exact cell_one _ _ _ _ rfl
            case c5 => exact .low (by omega)
            case c6 => exact size_alloc hsw
            refine ⟨⟨k + 1, acc ++ [s[k]], by omega, by simp; omega, by go_num, Hown1.out, (Hown.out.alloc _).below (hbel.alloc hsw _) Hg1.out (size_alloc hsw), Lib.hid ?_⟩, by simp [intOf]; omega⟩
            rw [Hu.out, Hd.out, Hsc.out, after_map]
      · obtain rfl : k = s.size := by omega
        go_wp2_with fail
        go_ret2
        have hf : unescape l = ([], 0) := by rw [Hu.out, List.drop_eq_nil_of_le (by rw [Hsz.out]; omega), scan_nil]; rfl
        exact ⟨ret_si (by rw [hf]) (by rw [hf]; rfl), hbel⟩
  · have hf : unescape l = ([], 0) := by
      cases l with
      | nil => rfl
      | cons b t =>
        have hb : b ≠ 34 := fun e => hp (by subst e; simp [Lib.hasPrefix])
        simp [unescape, hb]
    have Hf := Lib.hid hf
    have Hp : Hid (Lib.hasPrefix l [34] = false) := Lib.hid (by simpa using hp)
    clear hf hp
    go_enter Tryz.func110, Tryz.ntmps110
    go_wp2_with fail
    refine (hasPrefix _ _ _).mono ?_
    rintro _ w1 ⟨rfl, rfl⟩
    rw [← Hl.out, show (⟨#[34]⟩ : ByteArray).data.toList = [34] from rfl, Hp.out]
    go_wp2_with fail
    go_ret2
    exact ⟨ret_si (by rw [Hf.out]) (by rw [Hf.out]; rfl), Below.refl _ _⟩

theorem ret_sie {a b : ByteArray} {c d x y : Int} (h : a = b) (k : c = d) (m : x = y) : Ending.returned (.tuple #[.string a, .int .i64 c, .int .i64 x]) = .returned (.tuple #[.string b, .int .i64 d, .int .i64 y]) := by rw [h, k, m]
theorem cut_toList (s : ByteArray) (n : Nat) : (s.extract 0 n).toList = s.data.toList.take n := by
  rw [ByteArray.toList_eq]
  simp
theorem drew_below {B : Nat} {w w' : World} (h : Below w.drew.heap.size w.drew w') (hB : B ≤ w.heap.size) : Below B w w' :=
  ((Below.refl B w).drew).trans (h.mono hB)
set_option maxHeartbeats 2000000 in
set_option maxRecDepth 100000 in
theorem unquote_any (s : ByteArray) (hs : s.size ≤ 35184372088000) (w : World) :
    Calls Tryz.prog 88 #[.string s] w fun e w' => e = .returned (.tuple #[.string ⟨(unquote s.data.toList).1.toArray⟩, .int .i64 (unquote s.data.toList).2.1, .int .i64 (unquote s.data.toList).2.2]) ∧ Below w.heap.size w w' := by
  have hlen := unescape_len s.data.toList
  have hsz : s.data.toList.length = s.size := rfl
  rw [hsz] at hlen
  clear hsz
  generalize hu : unescape s.data.toList = u at hlen
  obtain ⟨t, n⟩ := u
  obtain ⟨hn, ht⟩ := hlen
  simp only at hn ht
  have Hu := Lib.hid hu
  clear hu
  have hn' : (n : Int) ≤ s.size := by omega
  by_cases h0 : n = 0
  · have hf : unquote s.data.toList = ([], 0, 2) := by
      unfold unquote
      rw [Hu.out, if_pos (.inl h0)]
    have Hf := Lib.hid hf
    have e0 : ((n : Int) == 0) = true := by simp [h0]
    clear hf h0
    go_enter Tryz.func88, Tryz.ntmps88
    go_wp2_with fail
    refine (unescape_any s (by omega) _).mono ?_
    rintro _ w1 ⟨rfl, hb1⟩
    rw [Hu.out]
    go_wp2_with fail
    go_quiet (fail)
    go_wp2_with fail
    go_ret3
    exact ⟨ret_sie (by rw [Hf.out]) (by rw [Hf.out]; rfl) (by rw [Hf.out]), below_drewN hb1 _⟩
  · have e0 : ((n : Int) == 0) = false := by rw [beq_eq_false_iff_ne]; omega
    have hts : (⟨t.toArray⟩ : ByteArray).size ≤ 35184372088000 := by rw [size_mk]; omega
    by_cases hq : quote t = s.data.toList.take n
    · have hbq : (quote t == (s.extract 0 n).toList) = true := by rw [beq_iff_eq, hq, cut_toList]
      have hf : unquote s.data.toList = (t, n, 0) := by
        unfold unquote
        rw [Hu.out, if_neg (by simp only; intro h; rcases h with h | h; exact h0 h; exact h hq)]
      have Hf := Lib.hid hf
      clear hq hf h0
      go_enter Tryz.func88, Tryz.ntmps88
      go_wp2_with fail
      refine (unescape_any s (by omega) _).mono ?_
      rintro _ w1 ⟨rfl, hb1⟩
      rw [Hu.out]
      go_wp2_with fail
      go_region_with (go_at_call 41; refine (quote_any _ hts _).mono ?_; rintro _ w2 ⟨rfl, hb2⟩)
      all_goals
        go_wp2_with fail
        go_ret3
        exact ⟨ret_sie (by rw [Hf.out]) (by rw [Hf.out]) (by rw [Hf.out]), hb1.trans (drew_below hb2 hb1.size)⟩
    · have hbq : (quote t == (s.extract 0 n).toList) = false := by rw [beq_eq_false_iff_ne, cut_toList]; exact hq
      have hf : unquote s.data.toList = ([], 0, 2) := by
        unfold unquote
        rw [Hu.out, if_pos (.inr hq)]
      have Hf := Lib.hid hf
      clear hq hf h0
      go_enter Tryz.func88, Tryz.ntmps88
      go_wp2_with fail
      refine (unescape_any s (by omega) _).mono ?_
      rintro _ w1 ⟨rfl, hb1⟩
      rw [Hu.out]
      go_wp2_with fail
      go_region_with (go_at_call 41; refine (quote_any _ hts _).mono ?_; rintro _ w2 ⟨rfl, hb2⟩)
      all_goals
        go_wp2_with fail
        go_ret3
        exact ⟨ret_sie (by rw [Hf.out]) (by rw [Hf.out]; rfl) (by rw [Hf.out]), hb1.trans (drew_below hb2 hb1.size)⟩
end Go.Proofs.YthjpchnogllliaaGreatDoor.UtfE

/- Contracts of escape and Unquote of the reference of package utf. -/
set_option linter.unusedSimpArgs false
set_option linter.unusedVariables false
namespace Go.Proofs.YthjpchnogllliaaGreatDoor.UtfL
open Go.RowKit Nums Byt UtfM UtfS UtfQ UtfD Room UtfH UtfP UtfR UtfE UtfK

/-- How many bytes such a form has with its backslash. -/
def rn (n : Nat) : Nat := if n = 0 then 0 else n + 1
theorem beq_yes {b c : UInt8} (h : b = c) : ((b.toNat : Int) == (c.toNat : Int)) = true := by rw [h]; simp
theorem bne_no {b c : UInt8} (h : b = c) : ((b.toNat : Int) != (c.toNat : Int)) = false := by rw [h]; simp
theorem bne_yes {b c : UInt8} (h : b ≠ c) : ((b.toNat : Int) != (c.toNat : Int)) = true := by
  rw [bne_iff_ne]
  intro e
  exact h (UInt8.toNat_inj.1 (by omega))

set_option maxHeartbeats 4000000 in
set_option maxRecDepth 100000 in
theorem escape_any (s : ByteArray) (i : Nat) (hi : i < s.size) (hs : s.size ≤ 35184372088000) (w : World) :
    Calls Tryz.prog 145 #[.string s, .int .i64 i] w fun e w' => e = .returned (.tuple #[.int .u8 (esc (s.data.toList.drop (i + 1))).1.toNat, .int .i64 (rn (esc (s.data.toList.drop (i + 1))).2)]) ∧ Below w.heap.size w w' := by
  by_cases h1 : i + 1 < s.size
  · have hd : s.data.toList.drop (i + 1) = s[i + 1] :: s.data.toList.drop (i + 2) := by
      rw [List.drop_eq_getElem_cons (show i + 1 < s.data.toList.length from h1)]; rfl
    obtain ⟨t, ht⟩ : ∃ t, t = s.data.toList.drop (i + 2) := ⟨_, rfl⟩
    rw [← ht] at hd
    have h1i : (i : Int) + 1 < s.size := by omega
    have Hd := Lib.hid hd
    have Ht := Lib.hid ht
    clear hd ht
    by_cases c34 : s[i + 1] = 34
    · have he : esc (s[i + 1] :: t) = (34, 1) := by rw [c34]; rfl
      have b34 : ((s[i + 1].toNat : Int) == 34) = true := beq_yes c34
      have b92 : ((s[i + 1].toNat : Int) == 92) = false := by rw [c34]; rfl
      have b110 : ((s[i + 1].toNat : Int) == 110) = false := by rw [c34]; rfl
      have b116 : ((s[i + 1].toNat : Int) == 116) = false := by rw [c34]; rfl
      have b114 : ((s[i + 1].toNat : Int) == 114) = false := by rw [c34]; rfl
      have C := Lib.hid c34
      have He := Lib.hid he
      clear he c34 
      go_enter Tryz.func145, Tryz.ntmps145
      go_wp2_with fail
      go_ret2
      exact ⟨ret_ui (by rw [Hd.out, He.out, C.out]) (by rw [Hd.out, He.out]; rfl), Below.refl _ _⟩
    by_cases c92 : s[i + 1] = 92
    · have he : esc (s[i + 1] :: t) = (92, 1) := by rw [c92]; rfl
      have b34 : ((s[i + 1].toNat : Int) == 34) = false := by rw [c92]; rfl
      have b92 : ((s[i + 1].toNat : Int) == 92) = true := beq_yes c92
      have b110 : ((s[i + 1].toNat : Int) == 110) = false := by rw [c92]; rfl
      have b116 : ((s[i + 1].toNat : Int) == 116) = false := by rw [c92]; rfl
      have b114 : ((s[i + 1].toNat : Int) == 114) = false := by rw [c92]; rfl
      have C := Lib.hid c92
      have He := Lib.hid he
      clear he c92 c34
      go_enter Tryz.func145, Tryz.ntmps145
      go_wp2_with fail
      go_ret2
      exact ⟨ret_ui (by rw [Hd.out, He.out, C.out]) (by rw [Hd.out, He.out]; rfl), Below.refl _ _⟩
    by_cases c110 : s[i + 1] = 110
    · have he : esc (s[i + 1] :: t) = (10, 1) := by rw [c110]; rfl
      have b34 : ((s[i + 1].toNat : Int) == 34) = false := by rw [c110]; rfl
      have b92 : ((s[i + 1].toNat : Int) == 92) = false := by rw [c110]; rfl
      have b110 : ((s[i + 1].toNat : Int) == 110) = true := beq_yes c110
      have b116 : ((s[i + 1].toNat : Int) == 116) = false := by rw [c110]; rfl
      have b114 : ((s[i + 1].toNat : Int) == 114) = false := by rw [c110]; rfl
      have He := Lib.hid he
      clear he c110 c34 c92
      go_enter Tryz.func145, Tryz.ntmps145
      go_wp2_with fail
      go_ret2
      exact ⟨ret_ui (by rw [Hd.out, He.out]; rfl) (by rw [Hd.out, He.out]; rfl), Below.refl _ _⟩
    by_cases c116 : s[i + 1] = 116
    · have he : esc (s[i + 1] :: t) = (9, 1) := by rw [c116]; rfl
      have b34 : ((s[i + 1].toNat : Int) == 34) = false := by rw [c116]; rfl
      have b92 : ((s[i + 1].toNat : Int) == 92) = false := by rw [c116]; rfl
      have b110 : ((s[i + 1].toNat : Int) == 110) = false := by rw [c116]; rfl
      have b116 : ((s[i + 1].toNat : Int) == 116) = true := beq_yes c116
      have b114 : ((s[i + 1].toNat : Int) == 114) = false := by rw [c116]; rfl
      have He := Lib.hid he
      clear he c116 c34 c92 c110
      go_enter Tryz.func145, Tryz.ntmps145
      go_wp2_with fail
      go_ret2
      exact ⟨ret_ui (by rw [Hd.out, He.out]; rfl) (by rw [Hd.out, He.out]; rfl), Below.refl _ _⟩
    by_cases c114 : s[i + 1] = 114
    · have he : esc (s[i + 1] :: t) = (13, 1) := by rw [c114]; rfl
      have b34 : ((s[i + 1].toNat : Int) == 34) = false := by rw [c114]; rfl
      have b92 : ((s[i + 1].toNat : Int) == 92) = false := by rw [c114]; rfl
      have b110 : ((s[i + 1].toNat : Int) == 110) = false := by rw [c114]; rfl
      have b116 : ((s[i + 1].toNat : Int) == 116) = false := by rw [c114]; rfl
      have b114 : ((s[i + 1].toNat : Int) == 114) = true := beq_yes c114
      have He := Lib.hid he
      clear he c114 c34 c92 c110 c116
      go_enter Tryz.func145, Tryz.ntmps145
      go_wp2_with fail
      go_ret2
      exact ⟨ret_ui (by rw [Hd.out, He.out]; rfl) (by rw [Hd.out, He.out]; rfl), Below.refl _ _⟩
    have b34 : ((s[i + 1].toNat : Int) == 34) = false := beq_no c34
    have b92 : ((s[i + 1].toNat : Int) == 92) = false := beq_no c92
    have b110 : ((s[i + 1].toNat : Int) == 110) = false := beq_no c110
    have b116 : ((s[i + 1].toNat : Int) == 116) = false := beq_no c116
    have b114 : ((s[i + 1].toNat : Int) == 114) = false := beq_no c114
    by_cases cx : s[i + 1] = 120
    · have n120 : ((s[i + 1].toNat : Int) != 120) = false := bne_no cx
      have he : esc (s[i + 1] :: t) = match two t with
          | none => (0, 0)
          | some c => (c, 3) := by
        unfold esc
        simp only [if_neg c34, if_neg c92, if_neg c110, if_neg c116, if_neg c114, if_neg (show ¬ s[i + 1] ≠ 120 from fun e => e cx)]
        cases two t <;> rfl
      by_cases h3 : i + 3 < s.size
      · have h3i : (i : Int) + 3 < s.size := by omega
        have h2i : (i : Int) + 2 < s.size := by omega
        have h2 : i + 2 < s.size := by omega
        have g0 : t[0]? = some s[i + 2] := by rw [Ht.out, List.getElem?_drop]; exact lget h2
        have g1 : t[1]? = some s[i + 3] := by rw [Ht.out, List.getElem?_drop]; exact lget h3
        have h2t := two_long g0 g1
        have r0 := dig_range s[i + 2]
        have r1 := dig_range s[i + 3]
        rw [h2t] at he
        by_cases d0 : dig s[i + 2] < 0
        · rw [if_pos (.inl d0)] at he
          have He := Lib.hid he
          clear c34 c92 c110 c116 c114 cx he g0 g1 h2t r0 r1
          go_enter Tryz.func145, Tryz.ntmps145
          go_wp2_with fail
          refine (digit_same _ _).mono ?_
          rintro _ w1 ⟨rfl, rfl⟩
          go_wp2_with fail
          go_ret2
          exact ⟨ret_ui (by rw [Hd.out, He.out]; rfl) (by rw [Hd.out, He.out]; rfl), Below.refl _ _⟩
        · have d0l : 0 ≤ dig s[i + 2] := by omega
          have d0h : dig s[i + 2] < 16 := by omega
          by_cases d1 : dig s[i + 3] < 0
          · rw [if_pos (.inr d1)] at he
            have He := Lib.hid he
            clear c34 c92 c110 c116 c114 cx he g0 g1 h2t r0 r1 d0
            go_enter Tryz.func145, Tryz.ntmps145
            go_wp2_with fail
            refine (digit_same _ _).mono ?_
            rintro _ w1 ⟨rfl, rfl⟩
            go_wp2_with fail
            refine (digit_same _ _).mono ?_
            rintro _ w1 ⟨rfl, rfl⟩
            go_wp2_with fail
            go_ret2
            exact ⟨ret_ui (by rw [Hd.out, He.out]; rfl) (by rw [Hd.out, He.out]; rfl), Below.refl _ _⟩
          · have d1l : 0 ≤ dig s[i + 3] := by omega
            have d1h : dig s[i + 3] < 16 := by omega
            rw [if_neg (by omega)] at he
            have hw8 := wrap8 d0l d0h d1l d1h
            have He := Lib.hid he
            have Hw := Lib.hid hw8
            clear c34 c92 c110 c116 c114 cx he g0 g1 h2t r0 r1 d0 d1 hw8
            go_enter Tryz.func145, Tryz.ntmps145
            go_wp2_with fail
            refine (digit_same _ _).mono ?_
            rintro _ w1 ⟨rfl, rfl⟩
            go_wp2_with fail
            refine (digit_same _ _).mono ?_
            rintro _ w1 ⟨rfl, rfl⟩
            go_wp2_with fail
            have s1 : IntKind.i64.wrap ((i : Int) + 2) = (i : Int) + 2 := IntWalk.i64_in _ (by omega)
            have s2 : (0 : Int) ≤ (i : Int) + 2 := by omega
            have s3 : ((i : Int) + 2).toNat = i + 2 := by omega
            have t1 : IntKind.i64.wrap ((i : Int) + 3) = (i : Int) + 3 := IntWalk.i64_in _ (by omega)
            have t2 : (0 : Int) ≤ (i : Int) + 3 := by omega
            have t3 : ((i : Int) + 3).toNat = i + 3 := by omega
            have s4 : IntKind.i64.wrap (16 * dig s[i + 2]) = 16 * dig s[i + 2] := IntWalk.i64_in _ (by omega)
            have s5 : IntKind.i64.wrap (16 * dig s[i + 2] + dig s[i + 3]) = 16 * dig s[i + 2] + dig s[i + 3] := IntWalk.i64_in _ (by omega)
            go_quiet ((go_at_call 144; exact Calls.quiet_of_same (digit_any _ _)))
            go_wp2_with fail
            go_ret2
            exact ⟨ret_ui (by rw [Hd.out, He.out]; have h := Hw.out; show _ = ((UInt8.ofNat ((dig s[i + 2]).toNat * 16 + (dig s[i + 3]).toNat)).toNat : Int); omega) (by rw [Hd.out, He.out]; rfl), below_drewN (Below.refl _ _) _⟩
      · have h2t : two t = none := two_short (by rw [Ht.out, List.length_drop]; show s.size - (i + 2) < 2; omega)
        rw [h2t] at he
        have h3i : (s.size : Int) ≤ (i : Int) + 3 := by omega
        have He := Lib.hid he
        clear c34 c92 c110 c116 c114 cx he h2t
        go_enter Tryz.func145, Tryz.ntmps145
        go_wp2_with fail
        go_ret2
        exact ⟨ret_ui (by rw [Hd.out, He.out]; rfl) (by rw [Hd.out, He.out]; rfl), Below.refl _ _⟩
    · have n120 : ((s[i + 1].toNat : Int) != 120) = true := bne_yes cx
      have he : esc (s[i + 1] :: t) = (0, 0) := by
        unfold esc
        simp only [if_neg c34, if_neg c92, if_neg c110, if_neg c116, if_neg c114, if_pos (show s[i + 1] ≠ 120 from cx)]
      have He := Lib.hid he
      clear c34 c92 c110 c116 c114 cx he
      go_enter Tryz.func145, Tryz.ntmps145
      go_wp2_with fail
      go_ret2
      exact ⟨ret_ui (by rw [Hd.out, He.out]; rfl) (by rw [Hd.out, He.out]; rfl), Below.refl _ _⟩
  · have hd : s.data.toList.drop (i + 1) = [] := List.drop_eq_nil_of_le (by show s.size ≤ i + 1; omega)
    have Hd := Lib.hid hd
    have h1i : (s.size : Int) ≤ (i : Int) + 1 := by omega
    clear hd
    go_enter Tryz.func145, Tryz.ntmps145
    go_wp2_with fail
    go_ret2
    exact ⟨ret_ui (by rw [Hd.out]; rfl) (by rw [Hd.out]; rfl), Below.refl _ _⟩

set_option maxHeartbeats 4000000 in
set_option maxRecDepth 100000 in
theorem rUnquote_any (s : ByteArray) (hs : s.size ≤ 35184372088000) (w : World) :
    Calls Tryz.prog 118 #[.string s] w fun e w' => e = .returned (.tuple #[.string ⟨(unquote s.data.toList).1.toArray⟩, .int .i64 (unquote s.data.toList).2.1, .int .i64 (unquote s.data.toList).2.2]) ∧ Below w.heap.size w w' := by
  obtain ⟨l, hl⟩ : ∃ l, l = s.data.toList := ⟨_, rfl⟩
  rw [← hl]
  have hsz : l.length = s.size := by rw [hl]; rfl
  have hsi : (s.size : Int) ≤ 35184372088000 := by omega
  have Hl := Lib.hid hl
  have Hsz := Lib.hid hsz
  clear hl hsz
  by_cases hz : s.size = 0
  · have hln : l = [] := List.eq_nil_of_length_eq_zero (by rw [Hsz.out, hz])
    have hf : unquote l = ([], 0, 2) := by
      rw [hln]; rfl
    have Hf := Lib.hid hf
    have z1 : ((s.size : Int) == 0) = true := by simp [hz]
    clear hln hf hz
    go_enter Tryz.func118, Tryz.ntmps118
    go_wp2_with fail
    go_ret3
    exact ⟨ret_sie (by rw [Hf.out]) (by rw [Hf.out]; rfl) (by rw [Hf.out]), Below.refl _ _⟩
  have z1 : ((s.size : Int) == 0) = false := by rw [beq_eq_false_iff_ne]; omega
  have h0 : 0 < s.size := by omega
  have hd0 : l = s[0] :: l.drop 1 := by
    have h1 : 0 < l.length := by rw [Hsz.out]; exact h0
    have h2 := List.drop_eq_getElem_cons h1
    rw [List.drop_zero] at h2
    have h3 : l[0] = s[0] := by simp only [Hl.out]; rfl
    rw [h3] at h2
    exact h2
  by_cases c34 : s[0] = 34
  · have n34 : ((s[0].toNat : Int) != 34) = false := bne_no c34
    have hun : unescape l = after [] 1 (scan (l.drop 1)) := by
      rw [unescape_step l s[0] (l.drop 1) hd0 c34]
      cases scan (l.drop 1) <;> rfl
    have Hun := Lib.hid hun
    have h1s : 1 ≤ s.size := by omega
    clear hun hd0 c34 hz
    go_enter Tryz.func118, Tryz.ntmps118
    go_wp2_with fail
    go_loopw [5, 6] (fun v i wr => ∃ (k : Nat) (T : ByteArray), k ≤ s.size ∧ T.size ≤ k ∧ v = .string T ∧ i = .int .i64 k ∧ Below w.heap.size w wr ∧ Hid (unescape l = after T.data.toList k (scan (l.drop k)))) (fun _ i _ => s.size - (intOf i).toNat)
    case atStart => exact ⟨1, ⟨#[]⟩, h1s, Nat.zero_le _, rfl, rfl, Below.refl _ _, Hun⟩
    case round =>
      obtain ⟨k, T, hk, hT, rfl, rfl, hbel, Hu⟩ := hrel
      clear Hun
      by_cases hlt : k < s.size
      · have hlt' : k < l.length := by rw [Hsz.out]; exact hlt
        have hd : l.drop k = s[k] :: l.drop (k + 1) := by
          rw [List.drop_eq_getElem_cons hlt']
          congr 1
          simp only [Hl.out]; rfl
        have Hd := Lib.hid hd
        have hki : (k : Int) + 1 ≤ s.size := by omega
        have hT1 : T.size + 1 ≤ 9223372036854775807 := by omega
        clear hd hlt'
        by_cases c1 : s[k] = 34
        · have e1 : ((s[k].toNat : Int) == 34) = true := beq_yes c1
          have hf : unescape l = (T.data.toList, k + 1) := by rw [Hu.out, Hd.out, c1, scan_mark]; simp [after]
          have Hf := Lib.hid hf
          have hts : T.size ≤ 35184372088000 := by omega
          clear c1 hf
          by_cases hq : quote T.data.toList = l.take (k + 1)
          · have hbq : (quote T.data.toList == (s.extract 0 (k + 1)).toList) = true := by rw [beq_iff_eq, hq, cut_toList, Hl.out]
            have hg : unquote l = (T.data.toList, k + 1, 0) := by
              unfold unquote
              rw [Hf.out, if_neg (by simp only; intro h; rcases h with h | h; omega; exact h hq)]
            have Hg := Lib.hid hg
            clear hq hg
            go_wp2_with fail
            have s1 : IntKind.i64.wrap ((k : Int) + 1) = (k : Int) + 1 := IntWalk.i64_in _ (by omega)
            have s2 : (0 : Int) ≤ (k : Int) + 1 := by omega
            have s3 : ((k : Int) + 1).toNat = k + 1 := by omega
            go_region_with (go_at_call 49; refine (rQuote_any _ hts _).mono ?_; rintro _ w2 ⟨rfl, hb2⟩)
            all_goals
              clear s1 s2 s3
              go_wp2_with fail
              go_ret3
              exact ⟨ret_sie (by rw [Hg.out]) (by rw [Hg.out]; go_num) (by rw [Hg.out]), hbel.trans (drew_below hb2 hbel.size)⟩
          · have hbq : (quote T.data.toList == (s.extract 0 (k + 1)).toList) = false := by rw [beq_eq_false_iff_ne, cut_toList, ← Hl.out]; exact hq
            have hg : unquote l = ([], 0, 2) := by
              unfold unquote
              rw [Hf.out, if_pos (.inr hq)]
            have Hg := Lib.hid hg
            clear hq hg
            go_wp2_with fail
            have s1 : IntKind.i64.wrap ((k : Int) + 1) = (k : Int) + 1 := IntWalk.i64_in _ (by omega)
            have s2 : (0 : Int) ≤ (k : Int) + 1 := by omega
            have s3 : ((k : Int) + 1).toNat = k + 1 := by omega
            go_region_with (go_at_call 49; refine (rQuote_any _ hts _).mono ?_; rintro _ w2 ⟨rfl, hb2⟩)
            all_goals
              clear s1 s2 s3
              go_wp2_with fail
              go_ret3
              exact ⟨ret_sie (by rw [Hg.out]) (by rw [Hg.out]; rfl) (by rw [Hg.out]), hbel.trans (drew_below hb2 hbel.size)⟩
        · have e1 : ((s[k].toNat : Int) == 34) = false := beq_no c1
          by_cases c2 : s[k] = 92
          · have e2 : ((s[k].toNat : Int) != 92) = false := bne_no c2
            have hel := esc_len (l.drop (k + 1))
            generalize hesc : esc (l.drop (k + 1)) = ec at hel
            obtain ⟨ec1, ec2⟩ := ec
            rw [List.length_drop, Hsz.out] at hel
            obtain ⟨he1, he2⟩ := hel
            simp only at he1 he2
            have Hesc := Lib.hid hesc
            clear hesc
            by_cases hn : ec2 = 0
            · have hf : unescape l = ([], 0) := by rw [Hu.out, Hd.out, c2, scan_esc, Hesc.out, if_pos hn]; rfl
              have hg : unquote l = ([], 0, 2) := by unfold unquote; rw [hf]; rfl
              have Hg := Lib.hid hg
              have Hrn : Hid (rn ec2 = 0) := Lib.hid (by rw [hn]; rfl)
              clear hn hf hg c1 c2
              go_wp2_with fail
              refine (escape_any s k hlt hs _).mono ?_
              rintro _ w2 ⟨rfl, hb2⟩
              rw [← Hl.out, Hesc.out, show rn ((ec1, ec2) : UInt8 × Nat).2 = 0 from Hrn.out]
              go_wp2_with fail
              go_ret3
              exact ⟨ret_sie (by rw [Hg.out]) (by rw [Hg.out]; rfl) (by rw [Hg.out]), hbel.trans (hb2.mono hbel.size)⟩
            · have Hrn : Hid (rn ec2 = ec2 + 1) := Lib.hid (by unfold rn; rw [if_neg hn])
              have n0 : (((ec2 + 1 : Nat) : Int) == 0) = false := by rw [beq_eq_false_iff_ne]; omega
              have n0' : ((ec2 : Int) + 1 == 0) = false := by rw [beq_eq_false_iff_ne]; omega
              have hun : unescape l = after (T.data.toList ++ [ec1]) (k + (1 + ec2)) (scan (l.drop (k + (1 + ec2)))) := by
                rw [Hu.out, Hd.out, c2, scan_esc, Hesc.out, if_neg hn, List.drop_drop, after_map]
                congr 3
                omega
              have Hun := Lib.hid hun
              have hcv := fun W => conv_new W ec1
              clear hun hn c1 c2
              go_wp2_with fail
              refine (escape_any s k hlt hs _).mono ?_
              rintro _ w2 ⟨rfl, hb2⟩
              rw [← Hl.out, Hesc.out, show rn ((ec1, ec2) : UInt8 × Nat).2 = ec2 + 1 from Hrn.out]
              have hb3 := hbel.trans (hb2.mono hbel.size)
              go_wp2_with fail
              refine ⟨⟨k + (1 + ec2), _, by omega, ?_, rfl, by go_num, hb3.alloc hb3.size _, Lib.hid ?_⟩, by simp [intOf]; omega⟩
              · rw [ByteArray.size_append]; show T.size + 1 ≤ _; omega
              · rw [Hun.out, join_list T [ec1] _ rfl]
          · have e2 : ((s[k].toNat : Int) != 92) = true := bne_yes c2
            have hsc := scan_plain (l.drop (k + 1)) c1 c2
            have hx : (s.extract k (k + 1)).data.toList = [s[k]] := by
              have : (s.extract k (k + 1)).data.toList = (l.drop k).take 1 := by rw [Hl.out]; simp [List.take_drop]
              rw [this, Hd.out]; rfl
            have hxs : T.size + (s.extract k (k + 1)).size ≤ 9223372036854775807 := by rw [ByteArray.size_extract]; omega
            have hun : unescape l = after (T.data.toList ++ [s[k]]) (k + 1) (scan (l.drop (k + 1))) := by rw [Hu.out, Hd.out, hsc, after_map]
            have Hun := Lib.hid hun
            have Hx := Lib.hid hx
            clear c1 c2 hsc hun hx
            go_wp2_with fail
            refine ⟨⟨k + 1, T ++ s.extract k (k + 1), by omega, ?_, rfl, by go_num, hbel, Lib.hid ?_⟩, by simp [intOf]; omega⟩
            · rw [ByteArray.size_append, ByteArray.size_extract]; omega
            · rw [Hun.out, append_toList, Hx.out]
      · obtain rfl : k = s.size := by omega
        have hf : unescape l = ([], 0) := by rw [Hu.out, List.drop_eq_nil_of_le (by rw [Hsz.out]; omega), scan_nil]; rfl
        have hg : unquote l = ([], 0, 2) := by unfold unquote; rw [hf]; rfl
        have Hg := Lib.hid hg
        clear hf hg
        go_wp2_with fail
        go_ret3
        exact ⟨ret_sie (by rw [Hg.out]) (by rw [Hg.out]; rfl) (by rw [Hg.out]), hbel⟩
  · have n34 : ((s[0].toNat : Int) != 34) = true := bne_yes c34
    have hf : unquote l = ([], 0, 2) := by
      have : unescape l = ([], 0) := by rw [hd0]; simp [unescape, c34]
      unfold unquote; rw [this]; rfl
    have Hf := Lib.hid hf
    clear hf hd0 c34 hz
    go_enter Tryz.func118, Tryz.ntmps118
    go_wp2_with fail
    go_ret3
    exact ⟨ret_sie (by rw [Hf.out]) (by rw [Hf.out]; rfl) (by rw [Hf.out]), Below.refl _ _⟩

end Go.Proofs.YthjpchnogllliaaGreatDoor.UtfL
