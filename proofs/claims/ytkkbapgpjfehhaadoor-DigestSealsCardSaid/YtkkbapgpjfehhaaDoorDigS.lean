/- Sealed strings that differ within four bytes: plain mathematics. -/
import Derived.Test.YtkkbapgpjfehhaaDoorDigC
set_option linter.unusedSimpArgs false
set_option linter.unusedVariables false
namespace Go.Proofs.YtkkbapgpjfehhaaDoor.DigS
open DigM DigB DigC FixM

theorem all_zero : ∀ l : List Nat, (∀ j, l.getD j 0 = 0) → l = List.replicate l.length 0
  | [], _ => rfl
  | a :: l, h => by
    have h0 : a = 0 := h 0
    have ih := all_zero l fun j => h (j + 1)
    rw [List.length_cons, List.replicate_succ, ← ih, h0]
theorem dif_lt : ∀ (l : List Nat) (D : Nat), D < 4294967296 → (∀ j, l.getD j 0 < 256) → dif D l < 4294967296
  | [], D, h, _ => h
  | a :: l, D, h, ha => by
    have h0 : a < 256 := ha 0
    exact dif_lt l _ (c8_lt (xor_bnd h (by omega))) fun j => ha (j + 1)
theorem c8_0 : c8 0 = 0 := by decide +kernel
theorem dif_more {l : List Nat} (n : Nat) (h : dif 0 l = 0) : dif 0 (l ++ List.replicate n 0) = 0 := by
  rw [dif_append, h, dif_zeros0]
/-- Differences within four bytes beside each other leave another register. -/
theorem dif_burst : ∀ (p : Nat) (D : List Nat), (∀ j, D.getD j 0 < 256) → (∀ j, j < p ∨ p + 4 ≤ j → D.getD j 0 = 0) → dif 0 D = 0 → ∀ j, D.getD j 0 = 0
  | 0, D, hb, hz, h => by
    match D, hb, hz, h with
    | [], _, _, _ => intro j; simp
    | [a], hb, hz, h =>
      have h2 := dif_more 3 h
      obtain ⟨e0, _⟩ := dif_four (hb 0) (by decide) (by decide) (by decide) (show dif 0 [a, 0, 0, 0] = 0 from h2)
      intro j
      match j with
      | 0 => exact e0
      | j + 1 => simp
    | [a, b], hb, hz, h =>
      have h2 := dif_more 2 h
      obtain ⟨e0, e1, _⟩ := dif_four (hb 0) (hb 1) (by decide) (by decide) (show dif 0 [a, b, 0, 0] = 0 from h2)
      intro j
      match j with
      | 0 => exact e0
      | 1 => exact e1
      | j + 2 => simp
    | [a, b, c], hb, hz, h =>
      have h2 := dif_more 1 h
      obtain ⟨e0, e1, e2, _⟩ := dif_four (hb 0) (hb 1) (hb 2) (by decide) (show dif 0 [a, b, c, 0] = 0 from h2)
      intro j
      match j with
      | 0 => exact e0
      | 1 => exact e1
      | 2 => exact e2
      | j + 3 => simp
    | a :: b :: c :: d :: l, hb, hz, h =>
      have hl := all_zero l fun j => by have := hz (j + 4) (by omega); exact this
      have e : a :: b :: c :: d :: l = [a, b, c, d] ++ l := rfl
      rw [e, dif_append, hl] at h
      have h4 : ∀ j, [a, b, c, d].getD j 0 < 256 := fun j => by
        match j with
        | 0 => exact hb 0
        | 1 => exact hb 1
        | 2 => exact hb 2
        | 3 => exact hb 3
        | j + 4 => simp
      obtain ⟨e0, e1, e2, e3⟩ := dif_four (hb 0) (hb 1) (hb 2) (hb 3) (dif_zeros _ _ (dif_lt _ 0 (by decide) h4) h)
      intro j
      match j with
      | 0 => exact e0
      | 1 => exact e1
      | 2 => exact e2
      | 3 => exact e3
      | j + 4 => exact hz (j + 4) (by omega)
  | p + 1, [], hb, hz, h => fun j => by simp
  | p + 1, d :: D, hb, hz, h => by
    have h0 : d = 0 := hz 0 (by omega)
    have h1 : dif 0 D = 0 := by
      have : dif (c8 (0 ^^^ d)) D = 0 := h
      rw [h0, Nat.xor_zero, c8_0] at this
      exact this
    have ih := dif_burst p D (fun j => hb (j + 1)) (fun j hj => hz (j + 1) (by omega)) h1
    intro j
    match j with
    | 0 => exact h0
    | j + 1 => exact ih j
theorem xors_getD : ∀ (l m : List UInt8) (j : Nat), l.length = m.length → (xors l m).getD j 0 = (l.getD j 0).toNat ^^^ (m.getD j 0).toNat
  | [], [], j, _ => by simp [xors]
  | [], _ :: _, j, h => by simp at h
  | _ :: _, [], j, h => by simp at h
  | a :: l, b :: m, 0, h => rfl
  | a :: l, b :: m, j + 1, h => by
    have := xors_getD l m j (by simpa using h)
    exact this
/-- What differs from a sealed string within four bytes is not opened. -/
theorem open_burst {l B : List UInt8} {p : Nat} (hl : B.length = (sealL l).length) (hz : ∀ j, j < p ∨ p + 4 ≤ j → B.getD j 0 = (sealL l).getD j 0) (hne : ∃ j, B.getD j 0 ≠ (sealL l).getD j 0) : openL B = ([], 25) := by
  have h4 : ¬ B.length < 4 := by rw [hl]; unfold sealL; rw [List.length_append, sumB_len]; omega
  rw [open_is h4]
  by_cases h : B.drop (B.length - 4) = sumB (B.take (B.length - 4))
  · exfalso
    have e : B = sealL (B.take (B.length - 4)) := by
      unfold sealL
      rw [← h, List.take_append_drop]
    have k1 := crc_sealed l
    have k2 := crc_sealed (B.take (B.length - 4))
    have k3 : crc 4294967295 B = c8 (c8 (c8 (c8 4294967295))) := by
      conv => lhs; rw [e]
      exact k2
    have x : crc 4294967295 B ^^^ crc 4294967295 (sealL l) = 0 := by
      rw [k3, show crc 4294967295 (sealL l) = c8 (c8 (c8 (c8 4294967295))) from k1, Nat.xor_self]
    rw [crc_dif _ _ _ _ hl, Nat.xor_self] at x
    have z := dif_burst p (xors B (sealL l)) (fun j => by
      rw [xors_getD _ _ _ hl]
      exact Nat.xor_lt_two_pow (n := 8) (B.getD j 0).toNat_lt ((sealL l).getD j 0).toNat_lt) (fun j hj => by
      rw [xors_getD _ _ _ hl, hz j hj, Nat.xor_self]) x
    obtain ⟨j, hj⟩ := hne
    have := z j
    rw [xors_getD _ _ _ hl] at this
    exact hj (UInt8.toNat_inj.1 (xor_zero_eq this))
  · rw [if_neg h]

/-- What the changed bytes are, i steps on. -/
structure Inv (L B : List UInt8) (a : Int) (i : Nat) (ch : Bool) : Prop where
  len : B.length = L.length
  off : ∀ j : Nat, (j : Int) < a ∨ a + i ≤ j → B.getD j 0 = L.getD j 0
  yes : ch = true → (0 ≤ a ∧ ∃ j, B.getD j 0 ≠ L.getD j 0)
  no : ch = false → B = L
theorem Inv.start (L : List UInt8) (a : Int) : Inv L L a 0 false := ⟨rfl, fun _ _ => rfl, (fun h => by cases h), fun _ => rfl⟩
theorem Inv.skip {L B : List UInt8} {a : Int} {i : Nat} {ch : Bool} (h : Inv L B a i ch) : Inv L B a (i + 1) ch :=
  ⟨h.len, fun j hj => h.off j (by omega), h.yes, h.no⟩
theorem Inv.put {L B : List UInt8} {a : Int} {i q : Nat} {ch : Bool} {c : UInt8} (h : Inv L B a i ch) (ha : 0 ≤ a) (hq : a + i = q) (hl : q < B.length) (hc : c ≠ B.getD q 0) : Inv L (B.set q c) a (i + 1) true := by
  have hoff : ∀ j, j ≠ q → (B.set q c).getD j 0 = B.getD j 0 := fun j hj => by
    simp [List.getD, Ne.symm hj]
  have hat : (B.set q c).getD q 0 = c := by simp [List.getD, hl]
  have hbq := h.off q (.inr (by omega))
  refine ⟨by rw [List.length_set]; exact h.len, fun j hj => ?_, fun _ => ⟨ha, q, by rw [hat, ← hbq]; exact hc⟩, (fun e => by cases e)⟩
  rw [hoff j (by omega), h.off j (by omega)]
theorem Inv.done_yes {l B : List UInt8} {a : Int} (h : Inv (sealL l) B a 4 true) : openL B = ([], 25) := by
  obtain ⟨ha, hne⟩ := h.yes rfl
  obtain ⟨p, rfl⟩ : ∃ p : Nat, a = p := ⟨a.toNat, by omega⟩
  exact open_burst (p := p) h.len (fun j hj => h.off j (by omega)) hne
theorem Inv.done_no {l B : List UInt8} {a : Int} (h : Inv (sealL l) B a 4 false) : openL B = (l, 0) := by
  rw [h.no rfl, open_seal]
end Go.Proofs.YtkkbapgpjfehhaaDoor.DigS
