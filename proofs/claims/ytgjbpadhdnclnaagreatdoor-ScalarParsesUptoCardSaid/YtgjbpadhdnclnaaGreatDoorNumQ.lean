/- Whole numbers in decimal: what the program reads is what the reference reads. Plain mathematics. -/
import Derived.Test.YtgjbpadhdnclnaaGreatDoorScpD
set_option linter.unusedSimpArgs false
set_option linter.unusedVariables false
namespace Go.Proofs.YtgjbpadhdnclnaaGreatDoor.NumQ
open UtfM UtfQ ScaM ScaV ScaN ScaT ScaW ScpB ScpC ScpD

theorem dropWhile_head {α : Type} (p : α → Bool) : ∀ (l : List α) (a : α) (t : List α), l.dropWhile p = a :: t → p a = false
  | [], a, t, h => by simp at h
  | x :: l, a, t, h => by
    rw [List.dropWhile_cons] at h
    split at h
    · exact dropWhile_head p l a t h
    · rename_i hx
      injection h with h1 h2
      rw [← h1]; simpa using hx
theorem dw_nil {α : Type} (p : α → Bool) (l : List α) : l.dropWhile p = [] ↔ ∀ x ∈ l, p x = true := by
  induction l with
  | nil => simp
  | cons a l ih =>
    rw [List.dropWhile_cons]
    cases h : p a with
    | true => simp [ih, h]
    | false => simp [h]
theorem trim_all (d cs : List UInt8) : (Lib.trimS d cs).isEmpty = d.all (cs.contains ·) := by
  cases h : d.all (cs.contains ·) with
  | true =>
    have h1 : ∀ x ∈ d, cs.contains x = true := List.all_eq_true.1 h
    have h2 : d.reverse.dropWhile (cs.contains ·) = [] := (dw_nil _ _).2 fun x hx => h1 x (List.mem_reverse.1 hx)
    unfold Lib.trimS Lib.trimRightS Lib.trimLeftS
    rw [h2]; rfl
  | false =>
    cases e : (Lib.trimS d cs).isEmpty with
    | false => rfl
    | true =>
      exfalso
      have e1 : (d.reverse.dropWhile (cs.contains ·)).reverse.dropWhile (cs.contains ·) = [] := List.isEmpty_iff.1 e
      have e2 := (dw_nil _ _).1 e1
      cases hd : d.reverse.dropWhile (cs.contains ·) with
      | nil =>
        have e3 := (dw_nil _ _).1 hd
        have : d.all (cs.contains ·) = true := List.all_eq_true.2 fun x hx => e3 x (List.mem_reverse.2 hx)
        rw [h] at this; cases this
      | cons a t =>
        have h1 := dropWhile_head _ _ _ _ hd
        have h2 := e2 a (by rw [hd]; simp)
        rw [h1] at h2; cases h2
theorem digits_isD (c : UInt8) : ScpB.digitsL.contains c = isD c := by
  have : ∀ k : Fin 256, ScpB.digitsL.contains (UInt8.ofNat k.val) = isD (UInt8.ofNat k.val) := by decide +kernel
  have h := this ⟨c.toNat, c.toNat_lt⟩
  simpa using h
theorem trim_digits (d : List UInt8) : (Lib.trimS d ScpB.digitsL).isEmpty = d.all isD := by
  rw [trim_all]
  congr 1
  funext c
  exact digits_isD c
theorem trim_minus (l : List UInt8) : Lib.trimPrefix l [45] = if l.head? = some 45 then l.drop 1 else l := by
  cases l with
  | nil => rfl
  | cons c l =>
    by_cases h : c = 45
    · subst h; simp [Lib.trimPrefix, Lib.hasPrefix]
    · have h2 : ¬ (45 : UInt8) = c := fun e => h e.symm
      simp [Lib.trimPrefix, Lib.hasPrefix, h, h2, List.isPrefixOf]

/-- A number's digits: all of them digits, none too many. -/
def good (l ds : List UInt8) : Prop := ds ≠ [] ∧ ¬ (ds.head? = some 48 ∧ l ≠ [48]) ∧ ds.all isD = true
def dsOf (l : List UInt8) : List UInt8 := if l.head? = some 45 then l.drop 1 else l
theorem dec_good (l : List UInt8) : decB l = true ↔ good l (dsOf l) := by
  unfold decB good dsOf
  rw [trim_minus, trim_digits]
  simp only [Bool.and_eq_true, Bool.not_eq_true', Bool.or_eq_true, beq_iff_eq]
  constructor
  · rintro ⟨⟨h1, h2⟩, h3⟩
    refine ⟨fun e => by rw [e] at h1; simp at h1, fun ⟨h4, h5⟩ => ?_, h2⟩
    rcases h3 with h3 | h3
    · rw [h4] at h3; simp at h3
    · exact h5 h3
  · rintro ⟨h1, h2, h3⟩
    refine ⟨⟨by simpa [List.isEmpty_iff] using h1, h3⟩, ?_⟩
    by_cases h4 : (if l.head? = some 45 then l.drop 1 else l).head? = some 48
    · exact .inr (Classical.not_not.1 fun h5 => h2 ⟨h4, h5⟩)
    · left; simpa using h4
theorem numV_good {l : List UInt8} (h : good l (dsOf l)) : numV l = if 18446744073709551616 ≤ natOf (dsOf l) then (0, false, 6) else (natOf (dsOf l), decide (l.head? = some 45), 0) := by
  obtain ⟨h1, h2, h3⟩ := h
  unfold numV
  unfold dsOf at *
  by_cases hm : l.head? = some 45
  · rw [if_pos hm] at *
    unfold numD
    rw [if_neg (by rintro (e | e | e); exact h1 e; exact h2 e; rw [h3] at e; cases e)]
    simp [hm]
  · rw [if_neg hm] at *
    unfold numD
    rw [if_neg (by rintro (e | e | e); exact h1 e; exact h2 e; rw [h3] at e; cases e)]
    simp [hm]
theorem numV_bad {l : List UInt8} (h : ¬ good l (dsOf l)) : numV l = (0, false, 2) := by
  unfold numV
  unfold good dsOf at h
  by_cases hm : l.head? = some 45
  · rw [if_pos hm] at *
    unfold numD
    rw [if_pos]
    by_cases a : l.drop 1 = []
    · exact .inl a
    · by_cases b : (l.drop 1).head? = some 48 ∧ l ≠ [48]
      · exact .inr (.inl b)
      · right; right
        cases e : (l.drop 1).all isD with
        | false => rfl
        | true => exact absurd ⟨a, b, e⟩ h
  · rw [if_neg hm] at *
    unfold numD
    rw [if_pos]
    by_cases a : l = []
    · exact .inl a
    · by_cases b : l.head? = some 48 ∧ l ≠ [48]
      · exact .inr (.inl b)
      · right; right
        cases e : l.all isD with
        | false => rfl
        | true => exact absurd ⟨a, b, e⟩ h

def stN (a : Nat) (c : UInt8) : Nat := 10 * a + (c.toNat - 48)
def natF (a : Nat) (l : List UInt8) : Nat := l.foldl stN a
theorem natF_nil (a : Nat) : natF a [] = a := by unfold natF; rw [List.foldl_nil]
theorem natF_cons (a : Nat) (c : UInt8) (l : List UInt8) : natF a (c :: l) = natF (stN a c) l := by unfold natF; rw [List.foldl_cons]
theorem natF_of (l : List UInt8) : natOf l = natF 0 l := rfl
theorem stN_eq (a : Nat) (c : UInt8) : stN a c = 10 * a + (c.toNat - 48) := rfl
theorem natF_ge : ∀ (l : List UInt8) (a : Nat), a ≤ natF a l
  | [], a => by rw [natF_nil]; exact Nat.le_refl _
  | c :: l, a => by
    rw [natF_cons]
    have := natF_ge l (stN a c)
    have e := stN_eq a c
    omega
theorem uintM (M : Nat) (hM : M = 18446744073709551615) (l : List UInt8) : ∀ (a : Nat), a ≤ M → l.all isD = true → Lib.parseUintM M a l = if natF a l ≤ M then .ok (natF a l) else .range := by
  induction l with
  | nil =>
    intro a ha _
    rw [natF_nil, if_pos ha, Lib.parseUintM]
  | cons c l ih =>
    intro a ha h
    rw [List.all_cons, Bool.and_eq_true] at h
    obtain ⟨hc, hl⟩ := h
    have hd : 48 ≤ c.toNat ∧ c.toNat ≤ 57 := by simpa [isD] using hc
    have hge := natF_ge l (stN a c)
    have es := stN_eq a c
    rw [Lib.parseUintM, if_pos hd, natF_cons]
    by_cases h1 : 1844674407370955162 ≤ a
    · rw [if_pos h1, if_neg (by omega)]
    · rw [if_neg h1]
      by_cases h2 : M < a * 10 + (c.toNat - 48)
      · rw [if_pos h2, if_neg (by omega)]
      · rw [if_neg h2, Nat.mul_comm a 10, ← es, ih _ (by omega) hl]
theorem uintB {ds : List UInt8} (h1 : ds ≠ []) (h : ds.all isD = true) : Lib.parseUintB 64 ds = if natOf ds ≤ 18446744073709551615 then .ok (natOf ds) else .range := by
  unfold Lib.parseUintB
  have e : natOf ds = natF 0 ds := natF_of ds
  have h2 : (2 : Nat) ^ 64 - 1 = 18446744073709551615 := by decide
  rw [if_neg h1, h2, e]
  exact uintM _ rfl ds 0 (Nat.zero_le _) h
theorem uint_minus (r : List UInt8) : Lib.parseUintB 64 (45 :: r) = Lib.parseUintB 64 [] := by
  have h : Lib.parseUintB 64 (45 :: r) = Lib.parseUintM (2 ^ 64 - 1) 0 (45 :: r) := by unfold Lib.parseUintB; rw [if_neg (by simp)]
  rw [h, Lib.parseUintM, if_neg (by decide)]
  rfl
theorem head_cons {l : List UInt8} {c : UInt8} (h : l.head? = some c) : ∃ r, l = c :: r := by
  cases l with
  | nil => cases h
  | cons a r => injection h with h; subst h; exact ⟨r, rfl⟩
theorem not_plus {c : UInt8} (h : isD c = true) : ¬ (c.toNat = 43 ∨ c.toNat = 45) := by
  have : 48 ≤ c.toNat ∧ c.toNat ≤ 57 := by simpa [isD] using h
  omega
theorem intB_minus {r : List UInt8} (h1 : r ≠ []) (h : r.all isD = true) : Lib.parseIntB 64 (45 :: r) = if natOf r ≤ 9223372036854775808 then .ok (-(natOf r : Int)) else .range := by
  unfold Lib.parseIntB
  simp only [show (45 : UInt8).toNat = 45 from rfl, or_true, if_true, true_and, not_true, false_and, if_false]
  rw [uintB h1 h]
  by_cases h2 : natOf r ≤ 18446744073709551615
  · rw [if_pos h2]
    simp only
    by_cases h3 : natOf r ≤ 9223372036854775808
    · rw [if_pos h3, if_neg (show ¬ 2 ^ (64 - 1) < natOf r by omega)]
    · rw [if_neg h3, if_pos (show 2 ^ (64 - 1) < natOf r by omega)]
  · rw [if_neg h2, if_neg (by omega)]
theorem intB_plain {c : UInt8} {r : List UInt8} (h : (c :: r).all isD = true) : Lib.parseIntB 64 (c :: r) = if natOf (c :: r) < 9223372036854775808 then .ok (natOf (c :: r) : Int) else .range := by
  have hc : isD c = true := by rw [List.all_cons, Bool.and_eq_true] at h; exact h.1
  have hn := not_plus hc
  have h45 : ¬ c.toNat = 45 := fun e => hn (.inr e)
  have e : (if c.toNat = 43 ∨ c.toNat = 45 then r else c :: r) = c :: r := if_neg hn
  unfold Lib.parseIntB
  simp only [e]
  rw [uintB (by simp) h]
  simp only [h45, if_false, not_false_eq_true, true_and, false_and]
  by_cases h2 : natOf (c :: r) ≤ 18446744073709551615
  · rw [if_pos h2]
    simp only
    by_cases h3 : natOf (c :: r) < 9223372036854775808
    · rw [if_pos h3, if_neg (show ¬ 2 ^ (64 - 1) ≤ natOf (c :: r) by omega)]
    · rw [if_neg h3, if_pos (show 2 ^ (64 - 1) ≤ natOf (c :: r) by omega)]
  · rw [if_neg h2, if_neg (by omega)]
/-- What the library's parsers give of a good number. -/
theorem numR_good {k : Int} {l : List UInt8} (h : good l (dsOf l)) : numR k l = if outB k (natOf (dsOf l)) (decide (l.head? = some 45)) = true ∨ 18446744073709551616 ≤ natOf (dsOf l) then none else some (if l.head? = some 45 then negN (natOf (dsOf l)) else natOf (dsOf l)) := by
  obtain ⟨h1, h2, h3⟩ := h
  unfold numR
  by_cases hm : l.head? = some 45
  · obtain ⟨r, rfl⟩ := head_cons hm
    have hds : dsOf (45 :: r) = r := rfl
    rw [hds] at h1 h2 h3 ⊢
    simp only [hm, decide_true, if_true, outB]
    cases hk : sgB k with
    | true =>
      simp only [if_true, Bool.not_true, Bool.false_or, decide_eq_true_eq]
      rw [intB_minus h1 h3]
      by_cases h4 : natOf r ≤ 9223372036854775808
      · rw [if_pos h4, if_neg (by unfold sgnN; omega)]
        simp only [Option.some.injEq]
        unfold negN
        omega
      · rw [if_neg h4, if_pos (by unfold sgnN; omega)]
    | false =>
      simp only [Bool.false_eq_true, if_false, Bool.not_false, Bool.true_or, true_or, if_true]
      rw [uint_minus]
      first | rfl | simp [Lib.parseUintB]
  · have hds : dsOf l = l := by unfold dsOf; rw [if_neg hm]
    rw [hds] at h1 h2 h3 ⊢
    simp only [hm, decide_false, if_false, outB, Bool.false_eq_true]
    cases hk : sgB k with
    | true =>
      simp only [if_true, Bool.true_and, decide_eq_true_eq]
      cases l with
      | nil => exact absurd rfl h1
      | cons c r =>
        rw [intB_plain h3]
        by_cases h4 : natOf (c :: r) < 9223372036854775808
        · rw [if_pos h4, if_neg (by unfold sgnN; omega)]
          simp only [Option.some.injEq]
          omega
        · rw [if_neg h4, if_pos (by unfold sgnN; omega)]
    | false =>
      simp only [Bool.false_eq_true, if_false, Bool.false_and, false_or]
      rw [uintB h1 h3]
      by_cases h4 : natOf l ≤ 18446744073709551615
      · rw [if_pos h4, if_neg (by omega)]
      · rw [if_neg h4, if_pos (by omega)]
theorem fits_nv {k : Int} (hk : k = 2 ∨ k = 3 ∨ k = 4 ∨ k = 5 ∨ k = 9) (n : Nat) : fitsB k (sc (nv k n)) = rgB k n := by
  have h1 : isB k = true := by rcases hk with e | e | e | e | e <;> rw [e] <;> rfl
  have h2 : txB k = false := by rcases hk with e | e | e | e | e <;> rw [e] <;> rfl
  unfold fitsB
  rw [h1, h2]
  simp [sc, nv, loneB]
/-- Numbers: the program's answer is the reference's. -/
theorem fin_whole {k : Int} (hk : k = 2 ∨ k = 3 ∨ k = 4 ∨ k = 5 ∨ k = 9) (l : List UInt8) : finB k (parseN k l) = wholeS k l := by
  by_cases hg : good l (dsOf l)
  · have hd := (dec_good l).2 hg
    unfold parseN wholeS
    rw [hd, if_pos rfl, numR_good hg, numV_good hg]
    by_cases h1 : 18446744073709551616 ≤ natOf (dsOf l)
    · rw [if_pos (.inr h1), if_pos h1]
      simp [finB]
    · rw [if_neg h1]
      simp only [ne_eq, not_true, if_false]
      by_cases h2 : outB k (natOf (dsOf l)) (decide (l.head? = some 45)) = true
      · rw [if_pos (.inl h2), if_pos h2]
        simp [finB]
      · rw [if_neg (by rintro (e | e); exact h2 e; exact h1 e), if_neg h2]
        simp only [decide_eq_true_eq]
        rw [fits_nv hk]
        generalize (if l.head? = some 45 then negN (natOf (dsOf l)) else natOf (dsOf l)) = n
        cases hr : rgB k n with
        | true => simp [finB]
        | false => simp [finB]
  · have hd : decB l = false := by
      cases e : decB l with
      | false => rfl
      | true => exact absurd ((dec_good l).1 e) hg
    unfold parseN wholeS
    rw [hd, numV_bad hg]
    simp [finB]
end Go.Proofs.YtgjbpadhdnclnaaGreatDoor.NumQ
