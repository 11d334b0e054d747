/- Stage 5 as plain mathematics: the fingerprint and the checksum of a list of bytes, and what of them differs where one byte or four bytes beside each other differ. Of no program. -/
import Derived.Test.YtkkbapgpjfehhaaDoorFixM
set_option linter.unusedSimpArgs false
set_option linter.unusedVariables false
namespace Go.Proofs.YtkkbapgpjfehhaaDoor.DigM
open FixM

/-- The register of the fingerprint, byte by byte. -/
def fnvS (h : Nat) (c : UInt8) : Nat := (h ^^^ c.toNat) * 1099511628211 % 18446744073709551616
def fnv (h : Nat) (l : List UInt8) : Nat := l.foldl fnvS h
def fnv0 : Nat := 14695981039346656037
theorem fnvS_lt (h : Nat) (c : UInt8) : fnvS h c < 18446744073709551616 := by
  unfold fnvS
  exact Nat.mod_lt _ (by omega)
theorem fnv_cons (h : Nat) (c : UInt8) (l : List UInt8) : fnv h (c :: l) = fnv (fnvS h c) l := rfl
theorem fnv_lt (l : List UInt8) : ∀ h, h < 18446744073709551616 → fnv h l < 18446744073709551616 := by
  induction l with
  | nil => intro h hh; exact hh
  | cons c l ih => intro h hh; rw [fnv_cons]; exact ih _ (fnvS_lt h c)
theorem fnv_snoc (h : Nat) (l : List UInt8) (c : UInt8) : fnv h (l ++ [c]) = fnvS (fnv h l) c := by
  unfold fnv
  rw [List.foldl_append, List.foldl_cons, List.foldl_nil]
theorem fnv_append (h : Nat) (l r : List UInt8) : fnv h (l ++ r) = fnv (fnv h l) r := by
  unfold fnv
  rw [List.foldl_append]

theorem mul_inj {a b : Nat} (ha : a < 18446744073709551616) (hb : b < 18446744073709551616) (h : a * 1099511628211 % 18446744073709551616 = b * 1099511628211 % 18446744073709551616) : a = b := by
  have e : ∀ x : Nat, x < 18446744073709551616 → (x * 1099511628211 % 18446744073709551616) * 14886173955864302971 % 18446744073709551616 = x := by
    intro x hx
    rw [Nat.mod_mul_mod, Nat.mul_assoc]
    have : (1099511628211 * 14886173955864302971 : Nat) % 18446744073709551616 = 1 := by decide +kernel
    rw [← Nat.mul_mod_mod, this, Nat.mul_one, Nat.mod_eq_of_lt hx]
  rw [← e a ha, h, e b hb]
theorem xor_lt64 {a : Nat} (ha : a < 18446744073709551616) (c : UInt8) : a ^^^ c.toNat < 18446744073709551616 :=
  Nat.xor_lt_two_pow (n := 64) ha (Nat.lt_of_lt_of_le c.toNat_lt (by decide))
theorem fnvS_inj {a b : Nat} {c d : UInt8} (ha : a < 18446744073709551616) (hb : b < 18446744073709551616) (h : fnvS a c = fnvS b d) : a ^^^ c.toNat = b ^^^ d.toNat :=
  mul_inj (xor_lt64 ha c) (xor_lt64 hb d) h
theorem xor_right {a b c : Nat} (h : a ^^^ c = b ^^^ c) : a = b := by
  have := congrArg (· ^^^ c) h
  simpa [Nat.xor_assoc] using this
theorem xor_left {a b c : Nat} (h : c ^^^ a = c ^^^ b) : a = b := by
  rw [Nat.xor_comm c a, Nat.xor_comm c b] at h; exact xor_right h
theorem fnv_inj : ∀ (l : List UInt8) {a b : Nat}, a < 18446744073709551616 → b < 18446744073709551616 → fnv a l = fnv b l → a = b
  | [], a, b, _, _, h => h
  | c :: l, a, b, ha, hb, h => xor_right (fnvS_inj ha hb (fnv_inj l (fnvS_lt a c) (fnvS_lt b c) h))
/-- One byte differs: another fingerprint. -/
theorem fnv_differ {h : Nat} (hh : h < 18446744073709551616) (l r : List UInt8) {c d : UInt8} (hcd : c ≠ d) : fnv h (l ++ c :: r) ≠ fnv h (l ++ d :: r) := by
  intro e
  rw [fnv_append, fnv_append] at e
  have h1 := fnv_lt l h hh
  have e2 := fnv_inj r (fnvS_lt _ c) (fnvS_lt _ d) e
  have e3 := xor_left (fnvS_inj h1 h1 e2)
  exact hcd (UInt8.toNat_inj.1 e3)

/-- One step of the register of the checksum, for a bit that the register was XORed with before. -/
def cs (r : Nat) : Nat := r / 2 ^^^ (if r % 2 = 1 then 3988292384 else 0)
theorem half_xor (a b : Nat) : (a ^^^ b) / 2 = a / 2 ^^^ b / 2 := by
  have := Nat.shiftRight_xor_distrib (a := a) (b := b) (i := 1)
  simpa [Nat.shiftRight_succ] using this
theorem par_xor (a b : Nat) : (a ^^^ b) % 2 = (a % 2 + b % 2) % 2 := by
  have h1 : a % 2 = 0 ∨ a % 2 = 1 := by omega
  have h2 : b % 2 = 0 ∨ b % 2 = 1 := by omega
  have e := Nat.xor_mod_two_pow (a := a) (b := b) (n := 1)
  rw [show (2 : Nat) ^ 1 = 2 from rfl] at e
  rw [e]
  rcases h1 with h1 | h1 <;> rcases h2 with h2 | h2 <;> rw [h1, h2] <;> rfl
theorem xor4 (a b c d : Nat) : (a ^^^ b) ^^^ (c ^^^ d) = (a ^^^ c) ^^^ (b ^^^ d) := by
  rw [Nat.xor_assoc, Nat.xor_assoc, ← Nat.xor_assoc b c d, Nat.xor_comm b c, Nat.xor_assoc c b d]
theorem cs_lin (a b : Nat) : cs (a ^^^ b) = cs a ^^^ cs b := by
  unfold cs
  rw [xor4, half_xor]
  congr 1
  rw [par_xor]
  have h1 : a % 2 = 0 ∨ a % 2 = 1 := by omega
  have h2 : b % 2 = 0 ∨ b % 2 = 1 := by omega
  rcases h1 with h1 | h1 <;> rcases h2 with h2 | h2 <;> rw [h1, h2] <;> simp
theorem cs_lt {r : Nat} (h : r < 4294967296) : cs r < 4294967296 := by
  unfold cs
  exact Nat.xor_lt_two_pow (n := 32) (by omega) (by split <;> decide)
theorem xor_zero_eq {a b : Nat} (h : a ^^^ b = 0) : a = b := by
  apply xor_right (c := b); rw [h, Nat.xor_self]
theorem cs_zero {r : Nat} (h : r < 4294967296) (e : cs r = 0) : r = 0 := by
  unfold cs at e
  have := xor_zero_eq e
  split at this <;> omega
theorem cs_even (r : Nat) : cs (2 * r) = r := by
  unfold cs
  rw [if_neg (by omega), Nat.xor_zero]
  omega

/-- Four steps, and eight. -/
def c4 (r : Nat) : Nat := cs (cs (cs (cs r)))
def c8 (r : Nat) : Nat := c4 (c4 r)
theorem c4_lin (a b : Nat) : c4 (a ^^^ b) = c4 a ^^^ c4 b := by unfold c4; rw [cs_lin, cs_lin, cs_lin, cs_lin]
theorem c8_lin (a b : Nat) : c8 (a ^^^ b) = c8 a ^^^ c8 b := by unfold c8; rw [c4_lin, c4_lin]
theorem c4_lt {r : Nat} (h : r < 4294967296) : c4 r < 4294967296 := cs_lt (cs_lt (cs_lt (cs_lt h)))
theorem c8_lt {r : Nat} (h : r < 4294967296) : c8 r < 4294967296 := c4_lt (c4_lt h)
theorem c4_zero {r : Nat} (h : r < 4294967296) (e : c4 r = 0) : r = 0 :=
  cs_zero h (cs_zero (cs_lt h) (cs_zero (cs_lt (cs_lt h)) (cs_zero (cs_lt (cs_lt (cs_lt h))) e)))
theorem c8_zero {r : Nat} (h : r < 4294967296) (e : c8 r = 0) : r = 0 := c4_zero h (c4_zero (c4_lt h) e)
theorem c4_up (r : Nat) : c4 (16 * r) = r := by
  unfold c4
  rw [show 16 * r = 2 * (2 * (2 * (2 * r))) by omega, cs_even, cs_even, cs_even, cs_even]
theorem c8_up (r : Nat) : c8 (256 * r) = r := by
  unfold c8
  rw [show 256 * r = 16 * (16 * r) by omega, c4_up, c4_up]
/-- The table of the half bytes. -/
def halves : List Nat := [0, 498536548, 997073096, 651767980, 1994146192, 1802195444, 1303535960, 1342533948, 3988292384, 4027552580, 3604390888, 3412177804, 2607071920, 2262029012, 2685067896, 3183342108]
theorem halves_tab : ∀ j, j < 16 → halves.getD j 0 = c4 j := by decide +kernel
theorem split_xor (k r : Nat) : (2 ^ k * (r / 2 ^ k)) ^^^ (r % 2 ^ k) = r := by
  apply Nat.eq_of_testBit_eq
  intro i
  rw [Nat.testBit_xor, Nat.testBit_two_pow_mul, Nat.testBit_mod_two_pow, Nat.testBit_div_two_pow]
  by_cases hi : k ≤ i
  · have : decide (i < k) = false := by simp; omega
    rw [this, show i - k + k = i by omega]; simp [hi]
  · have : decide (k ≤ i) = false := by simp; omega
    rw [this]; simp; omega
theorem split16 (r : Nat) : r = (16 * (r / 16)) ^^^ (r % 16) := (split_xor 4 r).symm
theorem split256 (r : Nat) : (r % 256) ^^^ 256 * (r / 256) = r := by rw [Nat.xor_comm]; exact split_xor 8 r
theorem c4_half (r : Nat) : r / 16 ^^^ halves.getD (r % 16) 0 = c4 r := by
  rw [halves_tab _ (Nat.mod_lt _ (by decide))]
  conv => rhs; rw [split16 r, c4_lin, c4_up]

/-- The register of the checksum, byte by byte. -/
def crcS (r : Nat) (c : UInt8) : Nat := c8 (r ^^^ c.toNat)
def crc (r : Nat) (l : List UInt8) : Nat := l.foldl crcS r
theorem xor_lt32 {a : Nat} (ha : a < 4294967296) (c : UInt8) : a ^^^ c.toNat < 4294967296 :=
  Nat.xor_lt_two_pow (n := 32) ha (Nat.lt_of_lt_of_le c.toNat_lt (by decide))
theorem crcS_lt {r : Nat} (c : UInt8) (h : r < 4294967296) : crcS r c < 4294967296 := c8_lt (xor_lt32 h c)
theorem crc_lt (l : List UInt8) : ∀ r, r < 4294967296 → crc r l < 4294967296 := by
  induction l with
  | nil => intro h hh; exact hh
  | cons c l ih => intro h hh; exact ih _ (crcS_lt c hh)
theorem crc_snoc (h : Nat) (l : List UInt8) (c : UInt8) : crc h (l ++ [c]) = crcS (crc h l) c := by
  unfold crc
  rw [List.foldl_append, List.foldl_cons, List.foldl_nil]
theorem crc_append (h : Nat) (l r : List UInt8) : crc h (l ++ r) = crc (crc h l) r := by
  unfold crc
  rw [List.foldl_append]
/-- The checksum. -/
def sum (l : List UInt8) : Nat := 4294967295 - crc 4294967295 l
theorem sum_lt (l : List UInt8) : sum l < 4294967296 := by unfold sum; omega

/-- How the difference of two registers goes on. -/
def dif (D : Nat) : List Nat → Nat
  | [] => D
  | d :: l => dif (c8 (D ^^^ d)) l
theorem dif_append (D : Nat) (l r : List Nat) : dif D (l ++ r) = dif (dif D l) r := by
  induction l generalizing D with
  | nil => rfl
  | cons d l ih => exact ih _
/-- The bytes in which two lists of one length differ. -/
def xors : List UInt8 → List UInt8 → List Nat
  | a :: l, b :: r => (a.toNat ^^^ b.toNat) :: xors l r
  | _, _ => []
theorem crc_dif : ∀ (l m : List UInt8) (r q : Nat), l.length = m.length → crc r l ^^^ crc q m = dif (r ^^^ q) (xors l m)
  | [], [], r, q, _ => rfl
  | [], _ :: _, r, q, h => by simp at h
  | _ :: _, [], r, q, h => by simp at h
  | a :: l, b :: m, r, q, h => by
    have ih := crc_dif l m (crcS r a) (crcS q b) (by simpa using h)
    show crc (crcS r a) l ^^^ crc (crcS q b) m = dif (c8 ((r ^^^ q) ^^^ (a.toNat ^^^ b.toNat))) (xors l m)
    rw [ih]
    unfold crcS
    rw [← c8_lin, xor4]
theorem dif_zeros : ∀ (n D : Nat), D < 4294967296 → dif D (List.replicate n 0) = 0 → D = 0
  | 0, D, _, h => h
  | n + 1, D, hD, h => by
    have e := dif_zeros n (c8 (D ^^^ 0)) (c8_lt (by rwa [Nat.xor_zero])) (by simpa [List.replicate_succ, dif] using h)
    rw [Nat.xor_zero] at e
    exact c8_zero hD e
theorem dif_zeros0 : ∀ (n : Nat), dif 0 (List.replicate n 0) = 0
  | 0 => rfl
  | n + 1 => by
    rw [List.replicate_succ, dif]
    have : c8 (0 ^^^ 0) = 0 := by decide +kernel
    rw [this]; exact dif_zeros0 n
theorem c8_in (x c : Nat) : c8 x ^^^ c = c8 (x ^^^ 256 * c) := by rw [c8_lin, c8_up]
theorem byte_apart {d x : Nat} (hd : d < 256) (h : d ^^^ 256 * x = 0) : d = 0 ∧ x = 0 := by
  have := xor_zero_eq h
  omega
theorem xor_bnd {a b : Nat} (ha : a < 4294967296) (hb : b < 4294967296) : a ^^^ b < 4294967296 := Nat.xor_lt_two_pow (n := 32) ha hb
/-- Up to four bytes that differ leave another register. -/
theorem dif_four {d0 d1 d2 d3 : Nat} (h0 : d0 < 256) (h1 : d1 < 256) (h2 : d2 < 256) (h3 : d3 < 256) (h : dif 0 [d0, d1, d2, d3] = 0) : d0 = 0 ∧ d1 = 0 ∧ d2 = 0 ∧ d3 = 0 := by
  simp only [dif, Nat.zero_xor] at h
  rw [c8_in (c8 (c8 d0 ^^^ d1) ^^^ d2) d3] at h
  have b3 : 256 * d3 < 4294967296 := by omega
  have s2 : d2 ^^^ 256 * d3 < 65536 := Nat.xor_lt_two_pow (n := 16) (by omega) (by omega)
  have s1 : d1 ^^^ 256 * (d2 ^^^ 256 * d3) < 16777216 := Nat.xor_lt_two_pow (n := 24) (by omega) (by omega)
  have s0 : d0 ^^^ 256 * (d1 ^^^ 256 * (d2 ^^^ 256 * d3)) < 4294967296 := Nat.xor_lt_two_pow (n := 32) (by omega) (by omega)
  rw [Nat.xor_assoc, c8_in (c8 d0 ^^^ d1), Nat.xor_assoc, c8_in d0] at h
  have z := c8_zero s0 (c8_zero (c8_lt s0) (c8_zero (c8_lt (c8_lt s0)) (c8_zero (c8_lt (c8_lt (c8_lt s0))) h)))
  obtain ⟨e0, z⟩ := byte_apart h0 z
  obtain ⟨e1, z⟩ := byte_apart h1 z
  obtain ⟨e2, z⟩ := byte_apart h2 z
  exact ⟨e0, e1, e2, z⟩
theorem bv_compl (x : BitVec 32) : x ^^^ ~~~ x = BitVec.allOnes 32 := by
  rw [← BitVec.allOnes_xor, BitVec.xor_comm (BitVec.allOnes 32) x, ← BitVec.xor_assoc, BitVec.xor_self, BitVec.zero_xor]
theorem xor_compl (r : Nat) (hr : r < 4294967296) : r ^^^ (4294967295 - r) = 4294967295 := by
  have h1 : (BitVec.ofNat 32 r ^^^ ~~~ BitVec.ofNat 32 r).toNat = r ^^^ (4294967295 - r) := by
    rw [BitVec.toNat_xor, BitVec.toNat_not, BitVec.toNat_ofNat, Nat.mod_eq_of_lt (by exact hr)]
  rw [← h1, bv_compl, BitVec.toNat_allOnes]
/-- The four bytes of a number, read into a register. -/
theorem crc_fix (r w : Nat) (hw : w < 4294967296) : crc r (fix 4 w) = c8 (c8 (c8 (c8 (r ^^^ w)))) := by
  have t : ∀ x : Nat, (UInt8.ofNat (x % 256)).toNat = x % 256 := fun x => VarM.toNat_ofNat (Nat.mod_lt _ (by decide))
  simp only [fix, crc, List.foldl, crcS, t]
  rw [c8_in (c8 (c8 (r ^^^ _) ^^^ _) ^^^ _), Nat.xor_assoc, c8_in (c8 (r ^^^ _) ^^^ _), Nat.xor_assoc, c8_in (r ^^^ _), Nat.xor_assoc]
  have e : w / 256 / 256 / 256 % 256 = w / 256 / 256 / 256 := Nat.mod_eq_of_lt (by omega)
  rw [e, split256, split256, split256]
/-- What a sealed string leaves in the register. -/
theorem crc_sealed (l : List UInt8) : crc 4294967295 (l ++ fix 4 (sum l)) = c8 (c8 (c8 (c8 4294967295))) := by
  have h := crc_lt l 4294967295 (by decide)
  rw [crc_append]
  have e : sum l = 4294967295 - crc 4294967295 l := rfl
  rw [crc_fix _ _ (sum_lt l), e, xor_compl _ h]
/-- One byte differs: another checksum. -/
theorem crc_differ {r : Nat} (hr : r < 4294967296) (l m : List UInt8) {c d : UInt8} (hcd : c ≠ d) : crc r (l ++ c :: m) ≠ crc r (l ++ d :: m) := by
  intro e
  have h : crc r (l ++ c :: m) ^^^ crc r (l ++ d :: m) = 0 := by rw [e, Nat.xor_self]
  rw [crc_append, crc_append] at h
  generalize hq : crc r l = q at h
  have hq' : q < 4294967296 := hq ▸ crc_lt l r hr
  rw [crc_dif (c :: m) (d :: m) q q (by simp), Nat.xor_self] at h
  have hz : xors m m = List.replicate m.length 0 := by
    clear h e
    induction m with
    | nil => rfl
    | cons a m ih => show (a.toNat ^^^ a.toNat) :: xors m m = _; rw [ih, Nat.xor_self]; rfl
  have h' : dif (c8 (0 ^^^ (c.toNat ^^^ d.toNat))) (xors m m) = 0 := h
  rw [hz, Nat.zero_xor] at h'
  have b : c.toNat ^^^ d.toNat < 4294967296 := Nat.lt_of_lt_of_le (Nat.xor_lt_two_pow (n := 8) c.toNat_lt d.toNat_lt) (by decide)
  have z := xor_zero_eq (c8_zero b (dif_zeros _ _ (c8_lt b) h'))
  exact hcd (UInt8.toNat_inj.1 z)
theorem xors_self : ∀ l : List UInt8, xors l l = List.replicate l.length 0
  | [] => rfl
  | a :: l => by show (a.toNat ^^^ a.toNat) :: xors l l = _; rw [xors_self l, Nat.xor_self]; rfl
theorem xors_append : ∀ (a b c d : List UInt8), a.length = b.length → xors (a ++ c) (b ++ d) = xors a b ++ xors c d
  | [], [], c, d, _ => rfl
  | [], _ :: _, _, _, h => by simp at h
  | _ :: _, [], _, _, h => by simp at h
  | x :: a, y :: b, c, d, h => by
    show (x.toNat ^^^ y.toNat) :: xors (a ++ c) (b ++ d) = _
    rw [xors_append a b c d (by simpa using h)]; rfl
end Go.Proofs.YtkkbapgpjfehhaaDoor.DigM
