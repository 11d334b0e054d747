/- Hexadecimal numbers as plain mathematics: the shortest form, sixteen digits, and what is read of them. Of no program. -/
import Derived.Test.YthjpchnogllliaaDoorVarM
set_option linter.unusedSimpArgs false
set_option linter.unusedVariables false
namespace Go.Proofs.YthjpchnogllliaaDoor.DigH

/-- A digit. -/
def hxd (n : Nat) : UInt8 := if n < 10 then UInt8.ofNat (48 + n) else UInt8.ofNat (87 + n)
/-- The shortest form. -/
def hexd (u : Nat) : List UInt8 := if u < 16 then [hxd u] else hexd (u / 16) ++ [hxd (u % 16)]
termination_by u
decreasing_by omega
theorem hexd_small {u : Nat} (h : u < 16) : hexd u = [hxd u] := by rw [hexd, if_pos h]
theorem hexd_large {u : Nat} (h : ¬ u < 16) : hexd u = hexd (u / 16) ++ [hxd (u % 16)] := by rw [hexd, if_neg h]
/-- n digits. -/
def hexN : Nat → Nat → List UInt8
  | 0, _ => []
  | n + 1, u => hexN n (u / 16) ++ [hxd (u % 16)]
theorem hexN_len : ∀ n u, (hexN n u).length = n
  | 0, u => rfl
  | n + 1, u => by rw [hexN, List.length_append, hexN_len n]; rfl
theorem hexd_pos (u : Nat) : 1 ≤ (hexd u).length := by
  rw [hexd]; split <;> simp
theorem hexd_le : ∀ (n u : Nat), u < 16 ^ (n + 1) → (hexd u).length ≤ n + 1
  | 0, u, h => by rw [hexd_small (by omega)]; simp
  | n + 1, u, h => by
    by_cases hu : u < 16
    · rw [hexd_small hu]; simp
    · have := hexd_le n (u / 16) (by rw [Nat.pow_succ] at h; omega)
      rw [hexd_large hu, List.length_append]; simp; omega
theorem hexN_zero : ∀ n, hexN n 0 = List.replicate n 48
  | 0 => rfl
  | n + 1 => by
    rw [hexN, show 0 / 16 = 0 from rfl, hexN_zero n, List.replicate_succ']
    rfl
theorem hexN_pad : ∀ (n u : Nat), u < 16 ^ (n + 1) → hexN (n + 1) u = List.replicate (n + 1 - (hexd u).length) 48 ++ hexd u
  | 0, u, h => by
    have hu : u < 16 := by omega
    rw [hexd_small hu, hexN, hexN, Nat.mod_eq_of_lt hu]; rfl
  | n + 1, u, h => by
    by_cases hu : u < 16
    · rw [hexd_small hu, hexN, Nat.mod_eq_of_lt hu, Nat.div_eq_of_lt hu, hexN_zero]
      rfl
    · have ih := hexN_pad n (u / 16) (by rw [Nat.pow_succ] at h; omega)
      rw [hexN, ih, hexd_large hu, List.length_append, List.append_assoc]
      congr 2
      simp
/-- Sixteen digits. -/
def hex16 (u : Nat) : List UInt8 := hexN 16 u
theorem hex16_pad {u : Nat} (h : u ≤ 18446744073709551615) : List.replicate (16 - (hexd u).length) 48 ++ hexd u = hex16 u := (hexN_pad 15 u (by omega)).symm
theorem hexd_16 {u : Nat} (h : u ≤ 18446744073709551615) : (hexd u).length ≤ 16 := hexd_le 15 u (by omega)
theorem hex16_len (u : Nat) : (hex16 u).length = 16 := hexN_len 16 u

/-- What a small digit means. -/
def digv (c : UInt8) : Option Nat := if 48 ≤ c.toNat ∧ c.toNat ≤ 57 then some (c.toNat - 48) else if 97 ≤ c.toNat ∧ c.toNat ≤ 102 then some (c.toNat - 87) else none
theorem digv_hxd {n : Nat} (h : n < 16) : digv (hxd n) = some n := by
  have : ∀ k : Fin 16, digv (hxd k.val) = some k.val := by decide
  exact this ⟨n, h⟩
theorem hxd_digv {c : UInt8} {d : Nat} (h : digv c = some d) : hxd d = c ∧ d < 16 := by
  have hc := c.toNat_lt
  unfold digv at h
  split at h
  · injection h with h
    refine ⟨?_, by omega⟩
    apply UInt8.toNat_inj.1
    unfold hxd
    rw [if_pos (by omega), VarM.toNat_ofNat (by omega)]; omega
  · split at h
    · injection h with h
      refine ⟨?_, by omega⟩
      apply UInt8.toNat_inj.1
      unfold hxd
      rw [if_neg (by omega), VarM.toNat_ofNat (by omega)]; omega
    · cases h
def par (acc : Nat) : List UInt8 → Option Nat
  | [] => some acc
  | c :: l => match digv c with | none => none | some d => par (acc * 16 + d) l
theorem par_back : ∀ (l : List UInt8) (acc m v : Nat), par acc l = some v → hexN (m + l.length) v = hexN m acc ++ l
  | [], acc, m, v, h => by
    injection h with h; subst h; simp
  | c :: l, acc, m, v, h => by
    rw [par] at h
    cases hd : digv c with
    | none => rw [hd] at h; cases h
    | some d =>
      rw [hd] at h
      obtain ⟨h1, h2⟩ := hxd_digv hd
      have ih := par_back l (acc * 16 + d) (m + 1) v h
      rw [List.length_cons, show m + (l.length + 1) = m + 1 + l.length by omega, ih, hexN, show (acc * 16 + d) / 16 = acc by omega, show (acc * 16 + d) % 16 = d by omega, h1]
      simp
theorem par_snoc : ∀ (l : List UInt8) (acc v d : Nat) (c : UInt8), par acc l = some v → digv c = some d → par acc (l ++ [c]) = some (v * 16 + d)
  | [], acc, v, d, c, h, hd => by injection h with h; subst h; show (match digv c with | none => none | some d => par (acc * 16 + d) []) = _; rw [hd]; rfl
  | b :: l, acc, v, d, c, h, hd => by
    rw [par] at h
    rw [List.cons_append, par]
    cases hb : digv b with
    | none => rw [hb] at h; cases h
    | some e => rw [hb] at h; exact par_snoc l _ v d c h hd
theorem par_hexN : ∀ (n u : Nat), u < 16 ^ n → par 0 (hexN n u) = some u
  | 0, u, h => by
    obtain rfl : u = 0 := by simpa using h
    rfl
  | n + 1, u, h => by
    rw [hexN, par_snoc _ 0 (u / 16) (u % 16) _ (par_hexN n (u / 16) (by rw [Nat.pow_succ] at h; omega)) (digv_hxd (Nat.mod_lt _ (by decide)))]
    congr 1; omega

/-- What Parse returns. -/
def parP (l : List UInt8) : Nat × Int := if l.length = 16 then (match par 0 l with | some v => (v, 0) | none => (0, 2)) else (0, 2)
theorem parP_some {l : List UInt8} {v : Nat} (hl : l.length = 16) (h : par 0 l = some v) : parP l = (v, 0) := by unfold parP; rw [if_pos hl, h]
theorem parP_none {l : List UInt8} (h : par 0 l = none) : parP l = (0, 2) := by unfold parP; rw [h]; simp
theorem parP_len {l : List UInt8} (h : ¬ l.length = 16) : parP l = (0, 2) := by unfold parP; rw [if_neg h]
theorem parP_text {u : Nat} (h : u ≤ 18446744073709551615) : parP (hex16 u) = (u, 0) := parP_some (hex16_len u) (par_hexN 16 u (by omega))
theorem parP_back {l : List UInt8} {u : Nat} (h : parP l = (u, 0)) : hex16 u = l := by
  by_cases hl : l.length = 16
  · cases hp : par 0 l with
    | none =>
      rw [parP_none hp] at h
      have e : (2 : Int) = 0 := congrArg Prod.snd h
      omega
    | some v =>
      rw [parP_some hl hp] at h
      have e : v = u := congrArg Prod.fst h
      have := par_back l 0 0 v hp
      rw [hl, Nat.zero_add] at this
      have e2 : hexN 0 0 ++ l = l := rfl
      rw [e2, e] at this
      exact this
  · rw [parP_len hl] at h
    have e : (2 : Int) = 0 := congrArg Prod.snd h
    omega
theorem par_lt : ∀ (l : List UInt8) (acc k v : Nat), acc < 16 ^ k → par acc l = some v → v < 16 ^ (k + l.length)
  | [], acc, k, v, ha, h => by injection h with h; subst h; exact ha
  | c :: l, acc, k, v, ha, h => by
    rw [par] at h
    cases hd : digv c with
    | none => rw [hd] at h; cases h
    | some d =>
      rw [hd] at h
      obtain ⟨_, h2⟩ := hxd_digv hd
      have := par_lt l (acc * 16 + d) (k + 1) v (by rw [Nat.pow_succ]; omega) h
      rw [List.length_cons, show k + (l.length + 1) = k + 1 + l.length by omega]; exact this

theorem parP_lt {l : List UInt8} {u : Nat} (h : parP l = (u, 0)) : u ≤ 18446744073709551615 := by
  by_cases hl : l.length = 16
  · cases hp : par 0 l with
    | none =>
      rw [parP_none hp] at h
      have e : (2 : Int) = 0 := congrArg Prod.snd h
      omega
    | some v =>
      rw [parP_some hl hp] at h
      have e : v = u := congrArg Prod.fst h
      have := par_lt l 0 0 v (by omega) hp
      rw [hl] at this
      omega
  · rw [parP_len hl] at h
    have e : (2 : Int) = 0 := congrArg Prod.snd h
    omega

/-- The library's ParseUint at base 16: digits of both cases; a number of more than 64 bits is out of range. -/
inductive Pu | ok (n : Nat) | syn | rng
def hexv (c : UInt8) : Option Nat :=
  if 48 ≤ c.toNat ∧ c.toNat ≤ 57 then some (c.toNat - 48) else if 97 ≤ c.toNat ∧ c.toNat ≤ 102 then some (c.toNat - 87) else if 65 ≤ c.toNat ∧ c.toNat ≤ 70 then some (c.toNat - 55) else none
def pu (acc : Nat) : List UInt8 → Pu
  | [] => .ok acc
  | c :: l => match hexv c with | none => .syn | some d => if 1152921504606846976 ≤ acc then .rng else pu (acc * 16 + d) l
theorem hexv_lt {c : UInt8} {d : Nat} (h : hexv c = some d) : d < 16 := by
  unfold hexv at h
  repeat' split at h
  all_goals first | (injection h with h; omega) | cases h
theorem hexv_digv {c : UInt8} {d : Nat} (h : digv c = some d) : hexv c = some d := by
  unfold digv at h
  unfold hexv
  split at h
  · rename_i h1; rw [if_pos h1]; exact h
  · rename_i h1
    rw [if_neg h1]
    split at h
    · rename_i h2; rw [if_pos h2]; exact h
    · cases h
theorem pu_lt : ∀ (l : List UInt8) (acc v : Nat), acc ≤ 18446744073709551615 → pu acc l = .ok v → v ≤ 18446744073709551615
  | [], acc, v, ha, h => by injection h with h; omega
  | c :: l, acc, v, ha, h => by
    rw [pu] at h
    cases hd : hexv c with
    | none => rw [hd] at h; cases h
    | some d =>
      have := hexv_lt hd
      rw [hd] at h
      by_cases hc : 1152921504606846976 ≤ acc
      · simp only [hc, if_true] at h; cases h
      · simp only [hc, if_false] at h
        exact pu_lt l (acc * 16 + d) v (by omega) h
theorem pu_par : ∀ (l : List UInt8) (acc k v : Nat), acc < 16 ^ k → k + l.length ≤ 16 → par acc l = some v → pu acc l = .ok v
  | [], acc, k, v, ha, hk, h => by injection h with h; subst h; rfl
  | c :: l, acc, k, v, ha, hk, h => by
    rw [par] at h
    rw [pu]
    cases hd : digv c with
    | none => rw [hd] at h; cases h
    | some d =>
      rw [hd] at h
      obtain ⟨_, h2⟩ := hxd_digv hd
      rw [hexv_digv hd]
      rw [List.length_cons] at hk
      have hb : 16 ^ k ≤ 16 ^ 15 := Nat.pow_le_pow_right (by decide) (by omega)
      have hc : ¬ 1152921504606846976 ≤ acc := by omega
      simp only [hc, if_false]
      exact pu_par l (acc * 16 + d) (k + 1) v (by rw [Nat.pow_succ]; omega) (by omega) h
/-- Only a text of sixteen small digits is one of its number. -/
theorem parP_of_pu {l : List UInt8} {v : Nat} (h : pu 0 l = .ok v) : parP l = if hex16 v = l then (v, 0) else (0, 2) := by
  split
  · rename_i e
    rw [← e]
    exact parP_text (pu_lt l 0 v (by omega) h)
  · rename_i e
    by_cases hl : l.length = 16
    · cases hp : par 0 l with
      | none => exact parP_none hp
      | some x =>
        have := pu_par l 0 0 x (by omega) (by omega) hp
        rw [h] at this
        injection this with this
        subst this
        exact absurd (parP_back (parP_some hl hp)) e
    · exact parP_len hl
theorem parP_not {l : List UInt8} (h : ∀ v, pu 0 l ≠ .ok v) : parP l = (0, 2) := by
  by_cases hl : l.length = 16
  · cases hp : par 0 l with
    | none => exact parP_none hp
    | some x => exact absurd (pu_par l 0 0 x (by omega) (by omega) hp) (h x)
  · exact parP_len hl
end Go.Proofs.YthjpchnogllliaaDoor.DigH
