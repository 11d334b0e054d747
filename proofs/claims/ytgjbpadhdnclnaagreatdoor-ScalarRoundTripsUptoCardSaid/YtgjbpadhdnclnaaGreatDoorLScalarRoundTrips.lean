import Derived.Test.YtgjbpadhdnclnaaGreatDoorPrsQ
import Derived.Test.YtgjbpadhdnclnaaGreatDoorTxtP
import Derived.Test.YtgjbpadhdnclnaaGreatDoorVal
import Derived.Test.YtgjbpadhdnclnaaGreatDoorNorP
import Derived.Test.YtgjbpadhdnclnaaGreatDoorScaS
import Derived.Deep.RegionHeld3
import Derived.Test.YtgjbpadhdnclnaaGreatDoorLawKit
import Derived.Test.YtgjbpadhdnclnaaGreatDoorLdOf
import Derived.Test.YtgjbpadhdnclnaaGreatDoorTie
import Derived.Test.YtgjbpadhdnclnaaGreatDoorCards
import Derived.SizedLaws
import Derived.Deep.CondSized
import Derived.Handed
import Derived.Deep.DeepHandedRow
import Derived.Lay
import Derived.SevenTiedAt
import Derived.LaidOnce
/- A scalar's text is read again, and no other text is accepted: plain mathematics. -/
set_option linter.unusedSimpArgs false
set_option linter.unusedVariables false
namespace Go.Proofs.YtgjbpadhdnclnaaGreatDoor.RtM
open UtfM UtfQ UtfH ScaM ScaV ScaB ScaN ScaT ScaW ScaX ScaY ScpB ScpC ScpD NumQ PrsQ

-- decimal digits
theorem isD_dig {d : Nat} (h : d < 10) : isD (UInt8.ofNat (48 + d)) = true ∧ (UInt8.ofNat (48 + d)).toNat - 48 = d := by
  have : ∀ k : Fin 10, isD (UInt8.ofNat (48 + k.val)) = true ∧ (UInt8.ofNat (48 + k.val)).toNat - 48 = k.val := by decide
  exact this ⟨d, h⟩
theorem dec_all : ∀ n : Nat, (dec n).all isD = true ∧ natOf (dec n) = n := by
  intro n
  induction n using Nat.strongRecOn with
  | ind n ih =>
    by_cases h : n < 10
    · obtain ⟨h1, h2⟩ := isD_dig h
      rw [dec_small h]
      refine ⟨by rw [List.all_cons, h1]; rfl, ?_⟩
      rw [natF_of, natF_cons, natF_nil, stN_eq]
      omega
    · obtain ⟨h1, h2⟩ := isD_dig (Nat.mod_lt n (by decide : 10 > 0))
      obtain ⟨i1, i2⟩ := ih (n / 10) (by omega)
      rw [dec_large h]
      refine ⟨by rw [List.all_append, i1, List.all_cons, h1]; rfl, ?_⟩
      rw [natOf_snoc, i2, h2]
      omega
theorem dec_head : ∀ n : Nat, n ≠ 0 → (dec n).head? ≠ some 48 := by
  intro n
  induction n using Nat.strongRecOn with
  | ind n ih =>
    intro hn
    by_cases h : n < 10
    · rw [dec_small h]
      intro e
      injection e with e
      have : ∀ k : Fin 10, k.val ≠ 0 → UInt8.ofNat (48 + k.val) ≠ 48 := by decide
      exact this ⟨n, h⟩ hn e
    · have i := ih (n / 10) (by omega) (by omega)
      rw [dec_large h]
      have hne := dec_ne (n / 10)
      cases hd : dec (n / 10) with
      | nil => exact absurd hd hne
      | cons a r => rw [hd] at i; exact i
theorem dig_back {c : UInt8} (h : isD c = true) : UInt8.ofNat (48 + (c.toNat - 48)) = c ∧ c.toNat - 48 < 10 := by
  have h2 : 48 ≤ c.toNat ∧ c.toNat ≤ 57 := by simpa [isD] using h
  refine ⟨?_, by omega⟩
  rw [show 48 + (c.toNat - 48) = c.toNat by omega]; simp
theorem natF_pos : ∀ (l : List UInt8) (a : Nat), 1 ≤ a → 1 ≤ natF a l := fun l a h => Nat.le_trans h (natF_ge l a)
theorem natOf_pos {ds : List UInt8} (h : ds.all isD = true) (hne : ds ≠ []) (hh : ds.head? ≠ some 48) : 1 ≤ natOf ds := by
  cases ds with
  | nil => exact absurd rfl hne
  | cons c l =>
    rw [List.all_cons, Bool.and_eq_true] at h
    have hc : 48 ≤ c.toNat ∧ c.toNat ≤ 57 := by simpa [isD] using h.1
    have hn : c.toNat ≠ 48 := fun e => hh (by rw [List.head?_cons]; congr 1; exact UInt8.toNat_inj.1 e)
    rw [natF_of, natF_cons]
    refine natF_pos l _ ?_
    rw [stN_eq]; omega
/-- Digits without a leading zero are those of their number. -/
theorem dec_natOf : ∀ (k : Nat) (ds : List UInt8), ds.length = k → ds.all isD = true → ds ≠ [] → (ds.head? = some 48 → ds = [48]) → dec (natOf ds) = ds := by
  intro k
  induction k with
  | zero => intro ds hl _ hne; exact absurd (List.eq_nil_of_length_eq_zero hl) hne
  | succ k ih =>
    intro ds hl h hne hh
    have e := List.dropLast_concat_getLast hne
    obtain ⟨init, hi⟩ : ∃ init, init = ds.dropLast := ⟨_, rfl⟩
    obtain ⟨c, hc⟩ : ∃ c, c = ds.getLast hne := ⟨_, rfl⟩
    rw [← hi, ← hc] at e
    clear hi hc
    subst e
    rw [List.all_append, Bool.and_eq_true] at h
    obtain ⟨h1, h2⟩ := h
    have hcD : isD c = true := by simpa using h2
    obtain ⟨b1, b2⟩ := dig_back hcD
    rw [natOf_snoc]
    by_cases h0 : init = []
    · subst h0
      rw [show natOf [] = 0 from rfl, Nat.mul_zero, Nat.zero_add, dec_small b2, b1]; rfl
    · have hi : init.head? ≠ some 48 := by
        intro e
        cases init with
        | nil => exact h0 rfl
        | cons a r =>
          have := hh (by simpa using e)
          have := congrArg List.length this
          simp at this
      have hp := natOf_pos h1 h0 hi
      have hlen : init.length = k := by rw [List.length_append] at hl; simp at hl; omega
      rw [dec_large (by omega), show (10 * natOf init + (c.toNat - 48)) / 10 = natOf init by omega, show (10 * natOf init + (c.toNat - 48)) % 10 = c.toNat - 48 by omega, b1, ih init hlen h1 h0 (fun e => absurd e hi)]
theorem isD_ne45 {l : List UInt8} (h : l.all isD = true) : l.head? ≠ some 45 := by
  intro e
  cases l with
  | nil => cases e
  | cons a r =>
    injection e with e
    subst e
    simp [isD] at h
    try (have := h.1; revert this; decide)
/-- The decimal digits of a number, read. -/
theorem good_dec (n : Nat) : good (dec n) (dsOf (dec n)) ∧ dsOf (dec n) = dec n ∧ (dec n).head? ≠ some 45 := by
  obtain ⟨h1, h2⟩ := dec_all n
  have h45 := isD_ne45 h1
  have hd : dsOf (dec n) = dec n := by unfold dsOf; rw [if_neg h45]
  refine ⟨?_, hd, h45⟩
  rw [hd]
  refine ⟨dec_ne n, ?_, h1⟩
  rintro ⟨e1, e2⟩
  by_cases h0 : n = 0
  · subst h0; exact e2 (by rw [dec_small (by decide)]; rfl)
  · exact dec_head n h0 e1
theorem good_minus {n : Nat} (h0 : n ≠ 0) : good (45 :: dec n) (dsOf (45 :: dec n)) ∧ dsOf (45 :: dec n) = dec n := by
  obtain ⟨h1, h2⟩ := dec_all n
  have hd : dsOf (45 :: dec n) = dec n := rfl
  refine ⟨?_, hd⟩
  rw [hd]
  exact ⟨dec_ne n, fun ⟨e1, _⟩ => dec_head n h0 e1, h1⟩

theorem fits_num {v : Sc} {k : Int} (hk : k = 2 ∨ k = 3 ∨ k = 4 ∨ k = 5 ∨ k = 9) (h : fitsB k v = true) : v.k = k ∧ v.t = [] ∧ v.n1 = 0 ∧ v.n2 = 0 ∧ v.n3 = 0 ∧ v.n4 = 0 ∧ rgB k v.b = true := by
  have h2 : txB k = false := by rcases hk with e | e | e | e | e <;> rw [e] <;> rfl
  unfold fitsB at h
  rw [h2] at h
  simp only [Bool.and_eq_true, Bool.false_eq_true, if_false, beq_iff_eq, loneB, List.isEmpty_iff] at h
  obtain ⟨⟨⟨_, a⟩, ⟨⟨b, c⟩, d⟩, e⟩, f, g⟩ := h
  exact ⟨a, f, b, c, d, e, g⟩
theorem sc_nv {v : Sc} {k : Int} (hk : v.k = k) (ht : v.t = []) (h1 : v.n1 = 0) (h2 : v.n2 = 0) (h3 : v.n3 = 0) (h4 : v.n4 = 0) : sc (nv k v.b) = v := by
  cases v
  simp_all [sc, nv]
theorem rt_num {v : Sc} {k : Int} (hk : k = 2 ∨ k = 3 ∨ k = 4 ∨ k = 5 ∨ k = 9) (hb : v.b ≤ 18446744073709551615) (h : fitsB k v = true) : wholeS k (textV v) = (nv k v.b, 0) := by
  obtain ⟨e1, e2, e3, e4, e5, e6, e7⟩ := fits_num hk h
  have hf : fitsB v.k v = true := by rw [e1]; exact h
  have hfn : fitsB k (sc (nv k v.b)) = true := by rw [sc_nv e1 e2 e3 e4 e5 e6]; exact h
  have h1 : ¬ v.k = 1 := by omega
  have h6 : ¬ v.k = 6 := by omega
  have h7 : ¬ v.k = 7 := by omega
  have h8 : ¬ v.k = 8 := by omega
  by_cases hs : k = 2 ∨ k = 3
  · have hsg : sgB k = true := by rcases hs with e | e <;> rw [e] <;> rfl
    have ht : textV v = if sgnN ≤ v.b then 45 :: dec (18446744073709551616 - v.b) else dec v.b := by
      unfold textV
      rw [hf, if_neg (by simp), if_neg h1, if_pos (show v.k = 2 ∨ v.k = 3 by omega)]
    rw [ht]
    by_cases hm : sgnN ≤ v.b
    · rw [if_pos hm]
      unfold sgnN at hm
      have h0 : 18446744073709551616 - v.b ≠ 0 := by omega
      obtain ⟨g1, g2⟩ := good_minus h0
      obtain ⟨d1, d2⟩ := dec_all (18446744073709551616 - v.b)
      unfold wholeS
      rw [numV_good g1, g2, d2, if_neg (show ¬ 18446744073709551616 ≤ 18446744073709551616 - v.b by omega)]
      simp only [ne_eq, not_true, if_false, List.head?_cons, decide_true, if_true]
      have ho : outB k (18446744073709551616 - v.b) true = false := by unfold outB sgnN; rw [hsg]; simp; omega
      have hn : negN (18446744073709551616 - v.b) = v.b := by unfold negN; omega
      rw [ho, hn, hfn]; simp
    · rw [if_neg hm]
      obtain ⟨g1, g2, g3⟩ := good_dec v.b
      obtain ⟨d1, d2⟩ := dec_all v.b
      unfold wholeS
      rw [numV_good g1, g2, d2, if_neg (show ¬ 18446744073709551616 ≤ v.b by omega)]
      have hz : decide ((dec v.b).head? = some 45) = false := decide_eq_false g3
      rw [hz]
      have ho : outB k v.b false = false := by unfold outB; rw [hsg]; simp only [Bool.false_eq_true, if_false, Bool.true_and, decide_eq_false_iff_not]; exact hm
      simp only [ne_eq, not_true, if_false, Bool.false_eq_true]
      rw [ho, hfn]; simp
  · have hsg : sgB k = false := by rcases hk with e | e | e | e | e <;> first | (rw [e]; rfl) | (exfalso; omega)
    have ht : textV v = dec v.b := by
      unfold textV
      rw [hf, if_neg (by simp), if_neg h1, if_neg (show ¬ (v.k = 2 ∨ v.k = 3) by omega), if_neg h6, if_neg h7, if_neg h8]
    rw [ht]
    obtain ⟨g1, g2, g3⟩ := good_dec v.b
    obtain ⟨d1, d2⟩ := dec_all v.b
    unfold wholeS
    rw [numV_good g1, g2, d2, if_neg (show ¬ 18446744073709551616 ≤ v.b by omega)]
    have hz : decide ((dec v.b).head? = some 45) = false := decide_eq_false g3
    rw [hz]
    have ho : outB k v.b false = false := by unfold outB; rw [hsg]; rfl
    simp only [ne_eq, not_true, if_false, Bool.false_eq_true]
    rw [ho, hfn]; simp
theorem pair_no {α : Type} {a b : α} {x y : Int} (h : (a, x) = (b, y)) (hne : x ≠ y) : False := hne (congrArg Prod.snd h)
theorem all45 {ds : List UInt8} {l : List UInt8} (h : good l ds) : ds.all isD = true ∧ ds ≠ [] := ⟨h.2.2, h.1⟩
/-- What is read as a number: only its text. -/
theorem back_num {k : Int} (hk : k = 2 ∨ k = 3 ∨ k = 4 ∨ k = 5 ∨ k = 9) {l : List UInt8} {X : SV} (h : wholeS k l = (X, 0)) : fitsB k (sc X) = true ∧ normV (sc X) = sc X ∧ textV (sc X) = l := by
  by_cases hg : good l (dsOf l)
  · have hg2 := hg
    obtain ⟨g1, g2, g3⟩ := hg2
    unfold wholeS at h
    rw [numV_good hg] at h
    by_cases hbig : 18446744073709551616 ≤ natOf (dsOf l)
    · rw [if_pos hbig] at h
      simp at h
    · rw [if_neg hbig] at h
      simp only [ne_eq, not_true, if_false] at h
      by_cases ho : outB k (natOf (dsOf l)) (decide (l.head? = some 45)) = true
      · rw [if_pos ho] at h; simp at h
      · rw [if_neg ho] at h
        simp only [decide_eq_true_eq] at h
        by_cases hf : fitsB k (sc (nv k (if l.head? = some 45 then negN (natOf (dsOf l)) else natOf (dsOf l)))) = true
        · rw [if_pos hf] at h
          have hX : nv k (if l.head? = some 45 then negN (natOf (dsOf l)) else natOf (dsOf l)) = X := congrArg Prod.fst h
          subst hX
          have hk6 : ¬ k = 6 := by omega
          refine ⟨hf, by unfold normV; rw [if_neg (fun e => hk6 e.1)], ?_⟩
          by_cases hm : l.head? = some 45
          · obtain ⟨r, rfl⟩ := head_cons hm
            have hds : dsOf (45 :: r) = r := rfl
            rw [hds] at g1 g2 g3 ho hbig hf ⊢
            rw [if_pos hm] at hf ⊢
            rw [show decide ((45 :: r : List UInt8).head? = some 45) = true from rfl] at ho
            have hh : r.head? ≠ some 48 := fun e => g2 ⟨e, by intro e2; injection e2 with e2 _; exact absurd e2 (by decide)⟩
            have hp := natOf_pos g3 g1 hh
            have hsg : sgB k = true := by
              cases e : sgB k with
              | true => rfl
              | false => unfold outB at ho; rw [e] at ho; simp at ho
            have hle : natOf r ≤ 9223372036854775808 := by
              unfold outB sgnN at ho; rw [hsg] at ho; simp at ho; omega
            have hs : k = 2 ∨ k = 3 := by
              rcases hk with e | e | e | e | e
              · exact .inl e
              · exact .inr e
              all_goals (rw [e] at hsg; exact absurd hsg (by decide))
            have hn : negN (natOf r) = 18446744073709551616 - natOf r := by unfold negN; omega
            unfold textV
            rw [show (sc (nv k (negN (natOf r)))).k = k from rfl, show (sc (nv k (negN (natOf r)))).b = negN (natOf r) from rfl, hf, if_neg (by simp), if_neg (show ¬ k = 1 by omega), if_pos hs, hn, if_pos (show sgnN ≤ 18446744073709551616 - natOf r by unfold sgnN; omega), show 18446744073709551616 - (18446744073709551616 - natOf r) = natOf r by omega, dec_natOf _ r rfl g3 g1 (fun e => absurd e hh)]
          · have hds : dsOf l = l := by unfold dsOf; rw [if_neg hm]
            rw [hds] at g1 g2 g3 ho hbig hf ⊢
            rw [if_neg hm] at hf ⊢
            rw [show decide (l.head? = some 45) = false from decide_eq_false hm] at ho
            have hdec : dec (natOf l) = l := dec_natOf _ l rfl g3 g1 (fun e => Classical.not_not.1 fun e2 => g2 ⟨e, e2⟩)
            unfold textV
            rw [show (sc (nv k (natOf l))).k = k from rfl, show (sc (nv k (natOf l))).b = natOf l from rfl, hf, if_neg (by simp), if_neg (show ¬ k = 1 by omega)]
            by_cases hs : k = 2 ∨ k = 3
            · have hsg : sgB k = true := by rcases hs with e | e <;> rw [e] <;> rfl
              have hlt : ¬ sgnN ≤ natOf l := by
                unfold outB at ho; rw [hsg] at ho; simpa using ho
              rw [if_pos hs, if_neg hlt, hdec]
            · rw [if_neg hs, if_neg (show ¬ k = 6 by omega), if_neg (show ¬ k = 7 by omega), if_neg (show ¬ k = 8 by omega), hdec]
        · rw [if_neg hf] at h; simp at h
  · unfold wholeS at h
    rw [numV_bad hg] at h
    simp at h
theorem err_num {k : Int} {l : List UInt8} {X : SV} {e : Int} (h : wholeS k l = (X, e)) (he : e ≠ 0) : X = zv 0 := by
  unfold wholeS at h
  generalize (if (numV l).2.1 = true then negN (numV l).1 else (numV l).1) = n at h
  by_cases c1 : (numV l).2.2 ≠ 0
  · rw [if_pos c1] at h; exact (congrArg Prod.fst h).symm
  · rw [if_neg c1] at h
    by_cases c2 : outB k (numV l).1 (numV l).2.1 = true
    · rw [if_pos c2] at h; exact (congrArg Prod.fst h).symm
    · rw [if_neg c2] at h
      by_cases c3 : fitsB k (sc (nv k n)) = true
      · rw [if_pos c3] at h; exact (pair_no h (fun a => he a.symm)).elim
      · rw [if_neg c3] at h; exact (congrArg Prod.fst h).symm

-- bools
theorem fits_one {v : Sc} {k : Int} (hx : txB k = false) (h : fitsB k v = true) : v.k = k ∧ v.t = [] ∧ v.n1 = 0 ∧ v.n2 = 0 ∧ v.n3 = 0 ∧ v.n4 = 0 ∧ rgB k v.b = true := by
  unfold fitsB at h
  rw [hx] at h
  simp only [Bool.and_eq_true, Bool.false_eq_true, if_false, beq_iff_eq, loneB, List.isEmpty_iff] at h
  obtain ⟨⟨⟨_, a⟩, ⟨⟨b, c⟩, d⟩, e⟩, f, g⟩ := h
  exact ⟨a, f, b, c, d, e, g⟩
theorem rt_bool {v : Sc} (h : fitsB 1 v = true) : boolS 1 (textV v) = (nv 1 v.b, 0) := by
  obtain ⟨e1, e2, e3, e4, e5, e6, e7⟩ := fits_one rfl h
  have hf : fitsB v.k v = true := by rw [e1]; exact h
  have hb : v.b ≤ 1 := by unfold rgB at e7; simpa using e7
  have ht : textV v = if v.b = 1 then ScaY.trueL else ScaY.falseL := by
    unfold textV
    rw [hf, if_neg (by simp), if_pos e1]; rfl
  rw [ht]
  unfold boolS
  by_cases h1 : v.b = 1
  · rw [if_pos h1, if_pos rfl, h1]
  · rw [if_neg h1, if_neg (by decide), if_pos rfl, show v.b = 0 by omega]
theorem fits_b1 : fitsB 1 (sc (nv 1 1)) = true := by decide +kernel
theorem fits_b0 : fitsB 1 (sc (nv 1 0)) = true := by decide +kernel
theorem back_bool {l : List UInt8} {X : SV} (h : boolS 1 l = (X, 0)) : fitsB 1 (sc X) = true ∧ normV (sc X) = sc X ∧ textV (sc X) = l := by
  unfold boolS at h
  by_cases h1 : l = ScaY.trueL
  · rw [if_pos h1] at h
    have hX : nv 1 1 = X := congrArg Prod.fst h
    subst hX
    refine ⟨fits_b1, rfl, ?_⟩
    rw [h1]; decide +kernel
  · rw [if_neg h1] at h
    by_cases h2 : l = ScaY.falseL
    · rw [if_pos h2] at h
      have hX : nv 1 0 = X := congrArg Prod.fst h
      subst hX
      refine ⟨fits_b0, rfl, ?_⟩
      rw [h2]; decide +kernel
    · rw [if_neg h2] at h
      exact (pair_no h (by decide)).elim
theorem err_bool {l : List UInt8} {X : SV} {e : Int} (h : boolS 1 l = (X, e)) (he : e ≠ 0) : X = zv 0 := by
  unfold boolS at h
  split at h
  · exact (pair_no h (fun a => he a.symm)).elim
  · split at h
    · exact (pair_no h (fun a => he a.symm)).elim
    · exact (congrArg Prod.fst h).symm

-- texts and bytes
theorem fits_txt {v : Sc} {k : Int} (hx : txB k = true) (h : fitsB k v = true) : v.k = k ∧ v.b = 0 ∧ v.n1 = 0 ∧ v.n2 = 0 ∧ v.n3 = 0 ∧ v.n4 = 0 ∧ v.t.length ≤ 4096 ∧ (k = 8 ∨ bad v.t < 0) := by
  unfold fitsB at h
  rw [hx] at h
  simp only [Bool.and_eq_true, if_true, beq_iff_eq, loneB, decide_eq_true_eq, Bool.or_eq_true] at h
  obtain ⟨⟨⟨_, a⟩, ⟨⟨b, c⟩, d⟩, e⟩, ⟨f, g⟩, i⟩ := h
  exact ⟨a, f, b, c, d, e, g, i⟩
theorem unq {t : List UInt8} : unquote (quote t) = (t, (quote t).length, 0) := by
  have := unquote_quote t []
  simpa using this
theorem rt_text {v : Sc} (h : fitsB 7 v = true) : textS 7 (textV v) = (tv 7 v.t, 0) := by
  obtain ⟨e1, e2, e3, e4, e5, e6, e7, e8⟩ := fits_txt rfl h
  have hf : fitsB v.k v = true := by rw [e1]; exact h
  have ht : textV v = quote v.t := by
    unfold textV
    rw [hf, if_neg (by simp), if_neg (by omega), if_neg (by omega), if_neg (by omega), if_pos e1]
  have hbad : bad v.t < 0 := e8.resolve_left (by decide)
  rw [ht]
  unfold textS kept
  rw [unq]
  simp only [ne_eq, not_true, or_self, if_false]
  rw [if_neg (by decide), if_neg (by omega), if_neg (by omega)]
theorem rt_bytes {v : Sc} (h : fitsB 8 v = true) : bytesS 8 (textV v) = (tv 8 v.t, 0) := by
  obtain ⟨e1, e2, e3, e4, e5, e6, e7, e8⟩ := fits_txt rfl h
  have hf : fitsB v.k v = true := by rw [e1]; exact h
  have ht : textV v = 120 :: quote (hexL v.t) := by
    unfold textV
    rw [hf, if_neg (by simp), if_neg (by omega), if_neg (by omega), if_neg (by omega), if_neg (by omega), if_pos e1]
  have hu : uhE (hexL v.t) = 0 := by unfold uhE; rw [unhex_hex]; rfl
  have hv : uhT (hexL v.t) = v.t := by unfold uhT; rw [unhex_hex]; rfl
  rw [ht]
  unfold bytesS
  rw [if_pos (show (120 :: quote (hexL v.t)).head? = some 120 from rfl)]
  show textS 8 (quote (hexL v.t)) = _
  unfold textS kept
  rw [unq]
  simp only [ne_eq, not_true, or_self, if_false, if_true]
  rw [hu, hv]
  simp only [not_true, if_false]
  rw [if_neg (by omega)]
theorem fits_tv {k : Int} (hk : k = 7 ∨ k = 8) {t : List UInt8} (hl : t.length ≤ 4096) (hb : k = 8 ∨ bad t < 0) : fitsB k (sc (tv k t)) = true := by
  have h1 : isB k = true := by rcases hk with e | e <;> rw [e] <;> rfl
  have h2 : txB k = true := by rcases hk with e | e <;> rw [e] <;> rfl
  unfold fitsB
  rw [h1, h2]
  have hl' : decide (t.length ≤ 4096) = true := decide_eq_true hl
  have hb' : (k == 8 || decide (bad t < 0)) = true := by
    rw [Bool.or_eq_true, beq_iff_eq, decide_eq_true_eq]; exact hb
  rw [show (sc (tv k t)).k = k from rfl, show (sc (tv k t)).b = 0 from rfl, show (sc (tv k t)).t = t from rfl, show loneB (sc (tv k t)) = true from rfl, if_pos rfl, hl', hb']
  simp
theorem norm_tv {k : Int} (hk : ¬ k = 6) (t : List UInt8) : normV (sc (tv k t)) = sc (tv k t) := by
  unfold normV; rw [if_neg (fun e => hk e.1)]
theorem quote_back {l t : List UInt8} {n : Nat} (h : unquote l = (t, n, 0)) (hn : n = l.length) : quote t = l := by
  rcases unquote_cases l with h2 | ⟨t2, n2, h2, _, _, h5⟩
  · rw [h] at h2
    have : (0 : Int) = 2 := congrArg (fun p => p.2.2) h2
    omega
  · rw [h] at h2
    have a : t = t2 := congrArg (fun p => p.1) h2
    have b : n = n2 := congrArg (fun p => p.2.1) h2
    rw [a, h5, ← b, hn, List.take_of_length_le (Nat.le_refl _)]
theorem back_text {l : List UInt8} {X : SV} (h : textS 7 l = (X, 0)) : fitsB 7 (sc X) = true ∧ normV (sc X) = sc X ∧ textV (sc X) = l := by
  unfold textS at h
  cases hu : unquote l with
  | mk t r =>
    obtain ⟨n, e⟩ := r
    rw [hu] at h
    simp only at h
    by_cases c1 : e ≠ 0 ∨ n ≠ l.length
    · rw [if_pos c1] at h; exact (pair_no h (by decide)).elim
    · rw [if_neg c1, if_neg (show ¬ (7 : Int) = 8 by decide)] at h
      have he : e = 0 := Classical.not_not.1 fun a => c1 (.inl a)
      have hn : n = l.length := Classical.not_not.1 fun a => c1 (.inr a)
      by_cases c2 : 0 ≤ bad t
      · rw [if_pos c2] at h; exact (pair_no h (by decide)).elim
      · rw [if_neg c2] at h
        unfold kept at h
        by_cases c3 : 4096 < t.length
        · rw [if_pos c3] at h; exact (pair_no h (by decide)).elim
        · rw [if_neg c3] at h
          have hX : tv 7 t = X := congrArg Prod.fst h
          subst hX
          have hf := fits_tv (k := 7) (.inl rfl) (t := t) (by omega) (.inr (by omega))
          refine ⟨hf, norm_tv (by decide) t, ?_⟩
          unfold textV
          rw [show (sc (tv 7 t)).k = 7 from rfl, hf, if_neg (by simp), if_neg (by decide), if_neg (by decide), if_neg (by decide), if_pos rfl]
          rw [he] at hu
          exact quote_back hu hn
theorem back_bytes {l : List UInt8} {X : SV} (h : bytesS 8 l = (X, 0)) : fitsB 8 (sc X) = true ∧ normV (sc X) = sc X ∧ textV (sc X) = l := by
  unfold bytesS at h
  by_cases hx : l.head? = some 120
  · rw [if_pos hx] at h
    obtain ⟨d, rfl⟩ := head_cons hx
    rw [show (120 :: d : List UInt8).drop 1 = d from rfl] at h
    unfold textS at h
    cases hu : unquote d with
    | mk t r =>
      obtain ⟨n, e⟩ := r
      rw [hu] at h
      simp only at h
      by_cases c1 : e ≠ 0 ∨ n ≠ d.length
      · rw [if_pos c1] at h; exact (pair_no h (by decide)).elim
      · rw [if_neg c1, if_pos trivial] at h
        have he : e = 0 := Classical.not_not.1 fun a => c1 (.inl a)
        have hn : n = d.length := Classical.not_not.1 fun a => c1 (.inr a)
        cases hh : unhexL t with
        | none =>
          have : uhE t ≠ 0 := by unfold uhE; rw [hh]; decide
          rw [if_pos this] at h; exact (pair_no h (by decide)).elim
        | some z =>
          have h1 : uhE t = 0 := by unfold uhE; rw [hh]; rfl
          have h2 : uhT t = z := by unfold uhT; rw [hh]; rfl
          rw [if_neg (by rw [h1]; simp), h2] at h
          unfold kept at h
          by_cases c3 : 4096 < z.length
          · rw [if_pos c3] at h; exact (pair_no h (by decide)).elim
          · rw [if_neg c3] at h
            have hX : tv 8 z = X := congrArg Prod.fst h
            subst hX
            have hf := fits_tv (k := 8) (.inr rfl) (t := z) (by omega) (.inl rfl)
            refine ⟨hf, norm_tv (by decide) z, ?_⟩
            unfold textV
            rw [show (sc (tv 8 z)).k = 8 from rfl, hf, if_neg (by simp), if_neg (by decide), if_neg (by decide), if_neg (by decide), if_neg (by decide), if_pos rfl]
            rw [he] at hu
            have hq := quote_back hu hn
            have hz := hex_unhex t z hh
            show 120 :: quote (hexL z) = 120 :: d
            rw [hz, hq]
  · rw [if_neg hx] at h; exact (pair_no h (by decide)).elim
theorem err_text {k : Int} {l : List UInt8} {X : SV} {e : Int} (h : textS k l = (X, e)) (he : e ≠ 0) : X = zv 0 := by
  unfold textS kept at h
  split at h
  · exact (congrArg Prod.fst h).symm
  · split at h
    · split at h
      · exact (congrArg Prod.fst h).symm
      · split at h
        · exact (congrArg Prod.fst h).symm
        · exact (pair_no h (fun a => he a.symm)).elim
    · split at h
      · exact (congrArg Prod.fst h).symm
      · split at h
        · exact (congrArg Prod.fst h).symm
        · exact (pair_no h (fun a => he a.symm)).elim
theorem err_bytes {l : List UInt8} {X : SV} {e : Int} (h : bytesS 8 l = (X, e)) (he : e ≠ 0) : X = zv 0 := by
  unfold bytesS at h
  split at h
  · exact err_text h he
  · exact (congrArg Prod.fst h).symm
-- doubles
theorem numW_lt : ∀ (k : Nat) (u : List UInt8), u.length = k → k ≤ 8 → numW u < 256 ^ k ∧ be8 k (numW u) = u := by
  intro k
  induction k with
  | zero =>
    intro u hl _
    rw [List.eq_nil_of_length_eq_zero hl]
    exact ⟨by decide, rfl⟩
  | succ k ih =>
    intro u hl hk
    have hne : u ≠ [] := by intro e; rw [e] at hl; simp at hl
    have e := List.dropLast_concat_getLast hne
    obtain ⟨init, hi⟩ : ∃ init, init = u.dropLast := ⟨_, rfl⟩
    obtain ⟨c, hc⟩ : ∃ c, c = u.getLast hne := ⟨_, rfl⟩
    rw [← hi, ← hc] at e
    clear hi hc
    subst e
    have hlen : init.length = k := by rw [List.length_append] at hl; simp at hl; omega
    obtain ⟨i1, i2⟩ := ih init hlen (by omega)
    have hp : 256 ^ k ≤ 256 ^ 7 := Nat.pow_le_pow_right (by decide) (by omega)
    have hcn := c.toNat_lt
    have hw : (256 * numW init + c.toNat) % 18446744073709551616 = 256 * numW init + c.toNat := Nat.mod_eq_of_lt (by omega)
    rw [numW_snoc, hw]
    refine ⟨by rw [Nat.pow_succ]; omega, ?_⟩
    rw [be8, show (256 * numW init + c.toNat) / 256 = numW init by omega, show (256 * numW init + c.toNat) % 256 = c.toNat by omega, i2]
    congr 2
    simp
theorem numW_be : ∀ (k n : Nat), k ≤ 8 → n < 256 ^ k → numW (be8 k n) = n := by
  intro k
  induction k with
  | zero => intro n _ h; rw [show n = 0 by simpa using h]; rfl
  | succ k ih =>
    intro n hk h
    have hp : 256 ^ (k + 1) ≤ 256 ^ 8 := Nat.pow_le_pow_right (by decide) (by omega)
    rw [be8, numW_snoc, ih (n / 256) (by omega) (by rw [Nat.pow_succ] at h; omega), VarM.toNat_ofNat (Nat.mod_lt _ (by decide))]
    omega
theorem hex16_len (b : Nat) : (hex16 b).length = 16 := by
  unfold hex16; rw [hexL_len, be8_len]
theorem cls_nan : clsN nanN = 0 := by decide +kernel
theorem cls_i : clsN infN = 1 := by decide +kernel
theorem cls_ni : clsN (infN + sgnN) = 1 := by decide +kernel
theorem rt_double {v : Sc} (hb : v.b ≤ 18446744073709551615) (h : fitsB 6 v = true) (hn : normV v = v) : doubleS (textV v) = (nv 6 v.b, 0) := by
  obtain ⟨e1, e2, e3, e4, e5, e6, e7⟩ := fits_one rfl h
  have hf : fitsB v.k v = true := by rw [e1]; exact h
  have ht : textV v = if clsN v.b = 0 then nanL else if clsN v.b = 1 then (if sgnN ≤ v.b then ninL else infL) else [48, 120] ++ hex16 v.b := by
    unfold textV
    rw [hf, if_neg (by simp), if_neg (by omega), if_neg (by omega), if_pos e1]; rfl
  rw [ht]
  unfold doubleS
  by_cases c0 : clsN v.b = 0
  · rw [if_pos c0, if_pos rfl]
    have : v.b = nanN := by
      have := congrArg Sc.b hn
      unfold normV at this
      rw [if_pos ⟨e1, c0⟩] at this
      exact this.symm
    rw [this]
  · rw [if_neg c0]
    by_cases c1 : clsN v.b = 1
    · rw [if_pos c1]
      by_cases hs : sgnN ≤ v.b
      · rw [if_pos hs, if_neg (by decide), if_neg (by decide), if_pos rfl, TxtM.cls_ninf c1 hs hb, Nat.add_comm]
      · rw [if_neg hs, if_neg (by decide), if_pos rfl, TxtM.cls_inf c1 hs]
    · rw [if_neg c1]
      have hl : ([48, 120] ++ hex16 v.b : List UInt8).length = 18 := by rw [List.length_append, hex16_len]; rfl
      have n1 : ¬ ([48, 120] ++ hex16 v.b : List UInt8) = nanL := fun e => by rw [e] at hl; exact absurd hl (by decide)
      have n2 : ¬ ([48, 120] ++ hex16 v.b : List UInt8) = infL := fun e => by rw [e] at hl; exact absurd hl (by decide)
      have n3 : ¬ ([48, 120] ++ hex16 v.b : List UInt8) = ninL := fun e => by rw [e] at hl; exact absurd hl (by decide)
      have n4 : ¬ (([48, 120] ++ hex16 v.b : List UInt8).length ≠ 18 ∨ ([48, 120] ++ hex16 v.b : List UInt8).take 2 ≠ [48, 120]) := by
        rintro (e | e)
        · exact e hl
        · exact e rfl
      rw [if_neg n1, if_neg n2, if_neg n3, if_neg n4, show ([48, 120] ++ hex16 v.b : List UInt8).drop 2 = hex16 v.b from rfl]
      have hu : uhE (hex16 v.b) = 0 := by unfold uhE hex16; rw [unhex_hex]; rfl
      have hv : uhT (hex16 v.b) = be8 8 v.b := by unfold uhT hex16; rw [unhex_hex]; rfl
      unfold bitsS
      rw [hu, hv, numW_be 8 v.b (by omega) (by omega), if_neg (by simp)]
      have hc : 2 ≤ clsN v.b := by
        have : clsN v.b = 0 ∨ clsN v.b = 1 ∨ 2 ≤ clsN v.b := by
          unfold clsN
          repeat' split
          all_goals omega
        omega
      rw [if_neg (by omega)]
theorem fits_d (b : Nat) : fitsB 6 (sc (nv 6 b)) = true := by
  unfold fitsB
  rw [show isB 6 = true from rfl, show txB 6 = false from rfl, show (sc (nv 6 b)).k = 6 from rfl, show loneB (sc (nv 6 b)) = true from rfl, show (sc (nv 6 b)).t = [] from rfl, show rgB 6 (sc (nv 6 b)).b = true from rfl]
  rfl
theorem text_d (b : Nat) : textV (sc (nv 6 b)) = if clsN b = 0 then nanL else if clsN b = 1 then (if sgnN ≤ b then ninL else infL) else [48, 120] ++ hex16 b := by
  unfold textV
  rw [show (sc (nv 6 b)).k = 6 from rfl, fits_d, if_neg (by simp), if_neg (by decide), if_neg (by decide), if_pos rfl]; rfl
theorem norm_d {b : Nat} (h : clsN b = 0 → b = nanN) : normV (sc (nv 6 b)) = sc (nv 6 b) := by
  unfold normV
  by_cases c : clsN b = 0
  · rw [if_pos ⟨rfl, c⟩, h c]; rfl
  · rw [if_neg (fun e => c e.2)]
theorem back_double {l : List UInt8} {X : SV} (h : doubleS l = (X, 0)) : fitsB 6 (sc X) = true ∧ normV (sc X) = sc X ∧ textV (sc X) = l := by
  unfold doubleS at h
  by_cases h1 : l = nanL
  · rw [if_pos h1] at h
    have hX : nv 6 nanN = X := congrArg Prod.fst h
    subst hX
    exact ⟨fits_d _, norm_d fun _ => rfl, by rw [text_d, if_pos cls_nan, h1]⟩
  · rw [if_neg h1] at h
    by_cases h2 : l = infL
    · rw [if_pos h2] at h
      have hX : nv 6 infN = X := congrArg Prod.fst h
      subst hX
      exact ⟨fits_d _, norm_d (fun e => by rw [cls_i] at e; cases e), by rw [text_d, cls_i, if_neg (by decide), if_pos rfl, if_neg (by decide), h2]⟩
    · rw [if_neg h2] at h
      by_cases h3 : l = ninL
      · rw [if_pos h3] at h
        have hX : nv 6 (infN + sgnN) = X := congrArg Prod.fst h
        subst hX
        exact ⟨fits_d _, norm_d (fun e => by rw [cls_ni] at e; cases e), by rw [text_d, cls_ni, if_neg (by decide), if_pos rfl, if_pos (by decide), h3]⟩
      · rw [if_neg h3] at h
        by_cases h4 : l.length ≠ 18 ∨ l.take 2 ≠ [48, 120]
        · rw [if_pos h4] at h; exact (pair_no h (by decide)).elim
        · rw [if_neg h4] at h
          have hl : l.length = 18 := Classical.not_not.1 fun a => h4 (.inl a)
          have hx : l.take 2 = [48, 120] := Classical.not_not.1 fun a => h4 (.inr a)
          unfold bitsS at h
          by_cases hu : uhE (l.drop 2) ≠ 0
          · rw [if_pos hu] at h; exact (pair_no h (by decide)).elim
          · rw [if_neg hu] at h
            have hu0 : uhE (l.drop 2) = 0 := Classical.not_not.1 hu
            by_cases hc : clsN (numW (uhT (l.drop 2))) ≤ 1
            · rw [if_pos hc] at h; exact (pair_no h (by decide)).elim
            · rw [if_neg hc] at h
              have hX : nv 6 (numW (uhT (l.drop 2))) = X := congrArg Prod.fst h
              subst hX
              have hul := uh_len hu0
              rw [List.length_drop, hl] at hul
              obtain ⟨_, n2⟩ := numW_lt 8 (uhT (l.drop 2)) (by omega) (by omega)
              have hr : hexL (uhT (l.drop 2)) = l.drop 2 := by
                cases hh : unhexL (l.drop 2) with
                | none => unfold uhE at hu0; rw [hh] at hu0; cases hu0
                | some z =>
                  have : uhT (l.drop 2) = z := by unfold uhT; rw [hh]; rfl
                  rw [this]; exact hex_unhex _ z hh
              refine ⟨fits_d _, norm_d fun e => by rw [e] at hc; exact absurd (by decide) hc, ?_⟩
              rw [text_d, if_neg (by omega), if_neg (by omega)]
              unfold hex16
              rw [n2, hr, ← hx, List.take_append_drop]
theorem err_double {l : List UInt8} {X : SV} {e : Int} (h : doubleS l = (X, e)) (he : e ≠ 0) : X = zv 0 := by
  unfold doubleS at h
  split at h
  · exact (pair_no h (fun a => he a.symm)).elim
  · split at h
    · exact (pair_no h (fun a => he a.symm)).elim
    · split at h
      · exact (pair_no h (fun a => he a.symm)).elim
      · split at h
        · exact (congrArg Prod.fst h).symm
        · unfold bitsS at h
          split at h
          · exact (congrArg Prod.fst h).symm
          · split at h
            · exact (congrArg Prod.fst h).symm
            · exact (pair_no h (fun a => he a.symm)).elim

theorem kinds {k : Int} (h : isB k = true) : k = 1 ∨ (k = 2 ∨ k = 3 ∨ k = 4 ∨ k = 5 ∨ k = 9) ∨ k = 6 ∨ k = 7 ∨ k = 8 := by
  unfold isB at h
  simp only [Bool.and_eq_true, decide_eq_true_eq] at h
  omega
theorem parse_at {k : Int} (l : List UInt8) : (isB k = false → parseS doubleS k l = (zv 0, 1)) ∧ (k = 1 → parseS doubleS k l = boolS 1 l) ∧ ((k = 2 ∨ k = 3 ∨ k = 4 ∨ k = 5 ∨ k = 9) → parseS doubleS k l = wholeS k l) ∧ (k = 6 → parseS doubleS k l = doubleS l) ∧ (k = 7 → parseS doubleS k l = textS 7 l) ∧ (k = 8 → parseS doubleS k l = bytesS 8 l) := by
  refine ⟨fun h => ?_, fun h => ?_, fun h => ?_, fun h => ?_, fun h => ?_, fun h => ?_⟩
  · unfold parseS; rw [if_pos h]
  · subst h; unfold parseS; rw [if_neg (by decide), if_pos rfl]
  · have hb : ¬ isB k = false := by rcases h with e | e | e | e | e <;> rw [e] <;> decide
    unfold parseS; rw [if_neg hb, if_neg (by omega), if_neg (by omega), if_neg (by omega), if_neg (by omega)]
  · subst h; unfold parseS; rw [if_neg (by decide), if_neg (by decide), if_pos rfl]
  · subst h; unfold parseS; rw [if_neg (by decide), if_neg (by decide), if_neg (by decide), if_pos rfl]
  · subst h; unfold parseS; rw [if_neg (by decide), if_neg (by decide), if_neg (by decide), if_neg (by decide), if_pos rfl]
/-- A value in normal form is read again from its text. -/
theorem rt {v : Sc} (hb : v.b ≤ 18446744073709551615) (h : fitsB v.k v = true) (hn : normV v = v) : ∃ X, parseS doubleS v.k (textV v) = (X, 0) ∧ sc X = v := by
  have hi : isB v.k = true := by
    unfold fitsB at h
    simp only [Bool.and_eq_true] at h
    exact h.1.1.1
  obtain ⟨_, p1, p2, p3, p4, p5⟩ := parse_at (k := v.k) (textV v)
  rcases kinds hi with e | e | e | e | e
  · have h' : fitsB 1 v = true := by rw [← e]; exact h
    obtain ⟨a1, a2, a3, a4, a5, a6, _⟩ := fits_one rfl h'
    exact ⟨nv 1 v.b, by rw [p1 e]; exact rt_bool h', sc_nv a1 a2 a3 a4 a5 a6⟩
  · obtain ⟨a1, a2, a3, a4, a5, a6, _⟩ := fits_num e h
    exact ⟨nv v.k v.b, by rw [p2 e]; exact rt_num e hb h, sc_nv a1 a2 a3 a4 a5 a6⟩
  · have h' : fitsB 6 v = true := by rw [← e]; exact h
    obtain ⟨a1, a2, a3, a4, a5, a6, _⟩ := fits_one rfl h'
    exact ⟨nv 6 v.b, by rw [p3 e]; exact rt_double hb h' hn, sc_nv a1 a2 a3 a4 a5 a6⟩
  · have h' : fitsB 7 v = true := by rw [← e]; exact h
    obtain ⟨a1, a2, a3, a4, a5, a6, _⟩ := fits_txt rfl h'
    refine ⟨tv 7 v.t, by rw [p4 e]; exact rt_text h', ?_⟩
    cases v; simp_all [sc, tv]
  · have h' : fitsB 8 v = true := by rw [← e]; exact h
    obtain ⟨a1, a2, a3, a4, a5, a6, _⟩ := fits_txt rfl h'
    refine ⟨tv 8 v.t, by rw [p5 e]; exact rt_bytes h', ?_⟩
    cases v; simp_all [sc, tv]
/-- What is read fits, is in normal form, and has the text that was read. -/
theorem back {k : Int} {l : List UInt8} {X : SV} (h : parseS doubleS k l = (X, 0)) : fitsB k (sc X) = true ∧ normV (sc X) = sc X ∧ textV (sc X) = l := by
  obtain ⟨p0, p1, p2, p3, p4, p5⟩ := parse_at (k := k) l
  cases hi : isB k with
  | false => rw [p0 hi] at h; exact (pair_no h (by decide)).elim
  | true =>
    rcases kinds hi with e | e | e | e | e
    · rw [p1 e] at h; rw [e]; exact back_bool h
    · rw [p2 e] at h; exact back_num e h
    · rw [p3 e] at h; rw [e]; exact back_double h
    · rw [p4 e] at h; rw [e]; exact back_text h
    · rw [p5 e] at h; rw [e]; exact back_bytes h
theorem err {k : Int} {l : List UInt8} {X : SV} {x : Int} (h : parseS doubleS k l = (X, x)) (hx : x ≠ 0) : X = zv 0 := by
  obtain ⟨p0, p1, p2, p3, p4, p5⟩ := parse_at (k := k) l
  cases hi : isB k with
  | false => rw [p0 hi] at h; exact (congrArg Prod.fst h).symm
  | true =>
    rcases kinds hi with e | e | e | e | e
    · rw [p1 e] at h; exact err_bool h hx
    · rw [p2 e] at h; exact err_num h hx
    · rw [p3 e] at h; exact err_double h hx
    · rw [p4 e] at h; exact err_text h hx
    · rw [p5 e] at h; exact err_bytes h hx
end Go.Proofs.YtgjbpadhdnclnaaGreatDoor.RtM

/- What ScalarRoundTrips wants besides: how long a text is, that what Parse gives is flat, and the normal form. -/
set_option linter.unusedSimpArgs false
set_option linter.unusedVariables false
namespace Go.Proofs.YtgjbpadhdnclnaaGreatDoor.RtX
open Go.RowKit UtfM UtfQ UtfH ScaM ScaV ScaB ScaN ScaT ScaW ScaX ScaY ScpB ScpC ScpD NumQ PrsQ RtM Val

theorem quote_le (t : List UInt8) : (quote t).length ≤ 4 * t.length + 2 := by rw [quote_len]; have := body_le t; omega
theorem text_len (v : Sc) (hb : v.b ≤ 18446744073709551615) : (textV v).length ≤ 40000 := by
  unfold textV
  cases hf : fitsB v.k v with
  | false => simp
  | true =>
    rw [if_neg (by simp)]
    have d1 := dec_len 19 v.b (by omega)
    have d2 := dec_len 19 (18446744073709551616 - v.b) (by omega)
    by_cases h1 : v.k = 1
    · rw [if_pos h1]; split <;> simp
    · rw [if_neg h1]
      by_cases h2 : v.k = 2 ∨ v.k = 3
      · rw [if_pos h2]
        split
        · rw [List.length_cons]; omega
        · omega
      · rw [if_neg h2]
        by_cases h6 : v.k = 6
        · rw [if_pos h6]
          split
          · simp
          · split
            · split <;> simp
            · rw [List.length_append, hex16_len]; simp
        · rw [if_neg h6]
          by_cases h7 : v.k = 7
          · rw [if_pos h7]
            have h := fits_txt (k := v.k) (by rw [h7]; rfl) hf
            have := quote_le v.t
            omega
          · rw [if_neg h7]
            by_cases h8 : v.k = 8
            · rw [if_pos h8]
              have h := fits_txt (k := v.k) (by rw [h8]; rfl) hf
              have := quote_le (hexL v.t)
              rw [hexL_len] at this
              rw [List.length_cons]; omega
            · rw [if_neg h8]; omega
def Flat (X : SV) : Prop := ∃ (k : Int) (b : Nat) (t : ByteArray), X = ⟨k, b, t, none, 0, 0, none, 0, 0, none, 0, 0, none, 0, 0⟩ ∧ 0 ≤ k ∧ k ≤ 9 ∧ b ≤ 18446744073709551615 ∧ t.size ≤ 4096
theorem flat_zv : Flat (zv 0) := ⟨0, 0, ⟨#[]⟩, rfl, by decide, by decide, by decide, by decide⟩
theorem flat_nv {k : Int} {n : Nat} (h1 : 0 ≤ k) (h2 : k ≤ 9) (h3 : n ≤ 18446744073709551615) : Flat (nv k n) := ⟨k, n, ⟨#[]⟩, rfl, h1, h2, h3, by decide⟩
theorem flat_kept {k : Int} (h1 : 0 ≤ k) (h2 : k ≤ 9) (t : List UInt8) : Flat (kept k t).1 := by
  unfold kept
  split
  · exact flat_zv
  · exact ⟨k, 0, ⟨t.toArray⟩, rfl, h1, h2, by decide, by rw [Nums.size_mk]; omega⟩
theorem flat_text {k : Int} (h1 : 0 ≤ k) (h2 : k ≤ 9) (l : List UInt8) : Flat (textS k l).1 := by
  unfold textS
  split
  · exact flat_zv
  · split
    · split
      · exact flat_zv
      · exact flat_kept h1 h2 _
    · split
      · exact flat_zv
      · exact flat_kept h1 h2 _
theorem flat_whole {k : Int} (h1 : 0 ≤ k) (h2 : k ≤ 9) (l : List UInt8) : Flat (wholeS k l).1 := by
  have hn : (if (numV l).2.1 = true then negN (numV l).1 else (numV l).1) ≤ 18446744073709551615 := by
    have := numV_le l
    split
    · unfold negN; omega
    · exact this
  unfold wholeS
  generalize (if (numV l).2.1 = true then negN (numV l).1 else (numV l).1) = n at *
  by_cases c1 : (numV l).2.2 ≠ 0
  · rw [if_pos c1]; exact flat_zv
  · rw [if_neg c1]
    by_cases c2 : outB k (numV l).1 (numV l).2.1 = true
    · rw [if_pos c2]; exact flat_zv
    · rw [if_neg c2]
      by_cases c3 : fitsB k (sc (nv k n)) = true
      · rw [if_pos c3]; exact flat_nv h1 h2 hn
      · rw [if_neg c3]; exact flat_zv
theorem flat_double (l : List UInt8) : Flat (doubleS l).1 := by
  unfold doubleS
  split
  · exact flat_nv (by decide) (by decide) (by decide)
  · split
    · exact flat_nv (by decide) (by decide) (by decide)
    · split
      · exact flat_nv (by decide) (by decide) (by decide)
      · split
        · exact flat_zv
        · unfold bitsS
          split
          · exact flat_zv
          · split
            · exact flat_zv
            · exact flat_nv (by decide) (by decide) (PrsP.numW_le _)
theorem flat_parse (k : Int) (l : List UInt8) : Flat (parseS doubleS k l).1 := by
  obtain ⟨p0, p1, p2, p3, p4, p5⟩ := parse_at (k := k) l
  cases hi : isB k with
  | false => rw [p0 hi]; exact flat_zv
  | true =>
    rcases kinds hi with e | e | e | e | e
    · rw [p1 e]; unfold boolS
      split
      · exact flat_nv (by decide) (by decide) (by decide)
      · split
        · exact flat_nv (by decide) (by decide) (by decide)
        · exact flat_zv
    · rw [p2 e]; exact flat_whole (by omega) (by omega) l
    · rw [p3 e]; exact flat_double l
    · rw [p4 e]; exact flat_text (by decide) (by decide) l
    · rw [p5 e]; unfold bytesS
      split
      · exact flat_text (by decide) (by decide) _
      · exact flat_zv
theorem row_none (w : World) (S : Nat → Prop) (size : Nat) (P : List Value → Prop) : Row w S size none 0 0 P := ⟨fun _ => ⟨rfl, rfl⟩, fun ad h => by cases h⟩
theorem tree_flat {X : SV} (h : Flat X) (w : World) (S : Nat → Prop) : Tree w S 1 X := by
  obtain ⟨k, b, t, rfl, h1, h2, h3, h4⟩ := h
  have ok : Okv ⟨k, b, t, none, 0, 0, none, 0, 0, none, 0, 0, none, 0, 0⟩ := by
    refine ⟨⟨?_, ?_⟩, h3, ?_, ?_, ?_, ?_, ?_⟩
    · show -9223372036854775808 ≤ k; omega
    · show k ≤ 9223372036854775807; omega
    · exact Nat.le_trans h4 (by decide)
    · show (0 : Nat) * 128 ≤ 140737488351232; decide
    · show (0 : Nat) * 256 ≤ 140737488351232; decide
    · show (0 : Nat) * 136 ≤ 140737488351232; decide
    · show (0 : Nat) * 40 ≤ 140737488351232; decide
  exact ⟨ok, row_none _ _ _ _, row_none _ _ _ _, row_none _ _ _ _, row_none _ _ _ _⟩
theorem norm_kk (a : Sc) : (normV a).k = a.k := by unfold normV; split <;> rfl
theorem norm_idem (a : Sc) : normV (normV a) = normV a := by
  unfold normV
  by_cases h : a.k = 6 ∧ clsN a.b = 0
  · rw [if_pos h]
    rw [if_pos (show ({ a with b := nanN } : Sc).k = 6 ∧ clsN ({ a with b := nanN } : Sc).b = 0 from ⟨h.1, cls_nan⟩)]
  · rw [if_neg h, if_neg h]
theorem norm_bb {a : Sc} (h : a.b ≤ 18446744073709551615) : (normV a).b ≤ 18446744073709551615 := by
  unfold normV
  split
  · show nanN ≤ 18446744073709551615; decide
  · exact h
theorem fits_norm {a : Sc} (h : fitsB a.k a = true) : fitsB (normV a).k (normV a) = true := by
  unfold normV
  by_cases c : a.k = 6 ∧ clsN a.b = 0
  · rw [if_pos c]
    show fitsB a.k { a with b := nanN } = true
    rw [c.1] at h ⊢
    unfold fitsB at h ⊢
    rw [show txB 6 = false from rfl] at h ⊢
    simp only [Bool.and_eq_true, Bool.false_eq_true, if_false] at h ⊢
    exact ⟨⟨⟨h.1.1.1, by simp⟩, h.1.2⟩, h.2.1, rfl⟩
  · rw [if_neg c]; exact h
/-- The first half of the law. -/
theorem first {a : Sc} (hb : a.b ≤ 18446744073709551615) {Y : SV} {E : Int} (hp : parseS doubleS a.k (textV (normV a)) = (Y, E)) (h : fitsB a.k a = true) : E = 0 ∧ sc Y = normV a := by
  obtain ⟨X, h1, h2⟩ := rt (norm_bb hb) (fits_norm h) (norm_idem a)
  rw [norm_kk] at h1
  rw [h1] at hp
  have e1 : X = Y := congrArg Prod.fst hp
  have e2 : (0 : Int) = E := congrArg Prod.snd hp
  exact ⟨e2.symm, by rw [← e1]; exact h2⟩
end Go.Proofs.YtgjbpadhdnclnaaGreatDoor.RtX

/- The walk of ScalarRoundTrips, up to the bound. -/
set_option linter.unusedSimpArgs false
set_option linter.unusedVariables false
namespace Go.Proofs.YtgjbpadhdnclnaaGreatDoor.ScalarRoundTripsW
open Go.RowKit Nums Byt UtfM UtfS UtfQ ScaM ScaV ScaA ScaB ScaC ScaS ScaX ScaY ScpM ScpA ScpE Ld Box Val CloM CloB CloC NorP PrsQ TxtP RtM RtX

theorem same_selfP (x : Sc) : sameB x x = true := (sameB_iff x x).2 rfl
theorem treeB {w w' : World} {n : Nat} {v : SV} (h : Tree w (· < w.heap.size) n v) (hb : Below w.heap.size w w') : Tree w' (· < w'.heap.size) n v := Old.here (w := w) h hb
/-- A box that holds a value, made since. -/
def At (w0 w : World) (v : SV) (u : Value) : Prop := ∃ q, u = .pointer (some ⟨q, 0, none⟩) ∧ w0.heap.size ≤ q ∧ Below w0.heap.size w0 w ∧ B7 w q (.int .i64 v.k) (.int .u64 v.b) (.string v.t) (.slice v.a1 v.l1 v.c1) (.slice v.a2 v.l2 v.c2) (.slice v.a3 v.l3 v.c3) (.slice v.a4 v.l4 v.c4)
theorem atA {w0 w : World} {k1 : Int} {b1 : Nat} {t1 : ByteArray} {d1 d2 d3 d4 : Option Addr} {m1 q1 m2 q2 m3 q3 m4 q4 : Nat} (h : Below w0.heap.size w0 w) : At w0 (w.alloc (.cells #[.int .i64 k1, .int .u64 b1, .string t1, .slice d1 m1 q1, .slice d2 m2 q2, .slice d3 m3 q3, .slice d4 m4 q4] 28)) ⟨k1, b1, t1, d1, m1, q1, d2, m2, q2, d3, m3, q3, d4, m4, q4⟩ (.pointer (some ⟨w.heap.size, 0, none⟩)) :=
  ⟨_, rfl, h.size, bt h (below_box _ _), b7_new _ _ _ _ _ _ _ _ _⟩
theorem atB {w0 w : World} {q : Nat} {k1 : Int} {b1 : Nat} {t1 : ByteArray} {d1 d2 d3 d4 : Option Addr} {m1 q1 m2 q2 m3 q3 m4 q4 : Nat} {x0 x1 x2 x3 x4 x5 x6 : Value} (hq : w0.heap.size ≤ q) (h : Below w0.heap.size w0 w) (B : B7 w q x0 x1 x2 x3 x4 x5 x6) :
    At w0 (((((((w.setCell ⟨q, 0, none⟩ (.int .i64 k1)).setCell ⟨q, 1, none⟩ (.int .u64 b1)).setCell ⟨q, 2, none⟩ (.string t1)).setCell ⟨q, 3, none⟩ (.slice d1 m1 q1)).setCell ⟨q, 4, none⟩ (.slice d2 m2 q2)).setCell ⟨q, 5, none⟩ (.slice d3 m3 q3)).setCell ⟨q, 6, none⟩ (.slice d4 m4 q4)) ⟨k1, b1, t1, d1, m1, q1, d2, m2, q2, d3, m3, q3, d4, m4, q4⟩ (.pointer (some ⟨q, 0, none⟩)) :=
  ⟨_, rfl, hq, (((((((h.setCell hq _).setCell hq _).setCell hq _).setCell hq _).setCell hq _).setCell hq _).setCell hq _), ((((((B.set0 _).set1 _).set2 _).set3 _).set4 _).set5 _).set6 _⟩
set_option maxHeartbeats 8000000 in
set_option maxRecDepth 100000 in
theorem walk (v : SV) (n : Nat) (k : Int) (s : ByteArray) (wk : -9223372036854775808 ≤ k ∧ k ≤ 9223372036854775807) (hs : s.size ≤ 1048576) (w : World) (hv : Tree w (· < w.heap.size) n v) (hL : Ld w) :
    Calls Tryz.prog 5 #[vv v, .int .i64 k, .string s] w fun e w' => e = .returned (.bool true) ∧ Below w.heap.size w w' := by
  have ok := hv.ok
  have HF := Lib.hid fun w => ScaC.fits_any v.k v ok.b w
  have HV := Lib.hid hv
  have hT := fun (Y : SV) (hY : Okv Y) w hL => text_p Y hY.b (Nat.le_trans hY.ts (by decide)) hY.sum w hL
  have HT := Lib.hid hT
  have hlen := text_len (normV (sc v)) (norm_bb ok.b)
  obtain ⟨tx, htx⟩ : ∃ tx : ByteArray, tx = ⟨(textV (normV (sc v))).toArray⟩ := ⟨_, rfl⟩
  have htl : tx.data.toList = textV (normV (sc v)) := by rw [htx]
  have hts : tx.size ≤ 40000 := by rw [htx, size_mk]; exact hlen
  have hp1 := fun w hL => parse_p v.k tx (by omega) w hL
  rw [htl] at hp1
  obtain ⟨Y, E, hYE⟩ : ∃ Y E, parseS doubleS v.k (textV (normV (sc v))) = (Y, E) := ⟨_, _, rfl⟩
  have hfirst := Lib.hid fun h => first (a := sc v) ok.b hYE h
  rw [hYE] at hp1
  simp only at hp1
  have hp2 := fun w hL => parse_p k s (by omega) w hL
  obtain ⟨Z, F, hZF⟩ : ∃ Z F, parseS doubleS k s.data.toList = (Z, F) := ⟨_, _, rfl⟩
  rw [hZF] at hp2
  simp only at hp2
  have hflat : Flat Z := by have := flat_parse k s.data.toList; rw [hZF] at this; exact this
  have HFl := Lib.hid hflat
  have HBk := Lib.hid fun (h : F = 0) => back (k := k) (l := s.data.toList) (X := Z) (by rw [hZF, h])
  have HEr := Lib.hid fun (h : F ≠ 0) => err (k := k) (l := s.data.toList) (X := Z) hZF h
  have HTX := Lib.hid htx
  clear hT hlen htl hts hYE hZF hflat htx hs wk ok hv
  obtain ⟨kk, b, t, a1, l1, c1, a2, l2, c2, a3, l3, c3, a4, l4, c4⟩ := v
  obtain ⟨k1, b1, t1, d1, m1, q1, d2, m2, q2, d3, m3, q3, d4, m4, q4⟩ := Y
  obtain ⟨k2, b2, t2, e1, o1, r1, e2, o2, r2, e3, o3, r3, e4, o4, r4⟩ := Z
  simp only [vv] at *
  have H1 := Lib.hid hp1
  have H2 := Lib.hid hp2
  clear hp1 hp2
  go_enter Tryz.func5, Tryz.ntmps5
  have BV := b7_new w (.int .i64 kk) (.int .u64 b) (.string t) (.slice a1 l1 c1) (.slice a2 l2 c2) (.slice a3 l3 c3) (.slice a4 l4 c4) 28
  have hB0 := below_box w (.cells #[.int .i64 kk, .int .u64 b, .string t, .slice a1 l1 c1, .slice a2 l2 c2, .slice a3 l3 c3, .slice a4 l4 c4] 28)
  have T0 := treeB HV.out hB0
  have hL0 := hL.below hB0
  go_wp2_with fail
  refine (norm_p n ⟨kk, b, t, a1, l1, c1, a2, l2, c2, a3, l3, c3, a4, l4, c4⟩ _ T0).mono ?_
  rintro _ w1 ⟨x, rfl, hx, tx1, hb1⟩
  have okx := tx1.ok
  have HX := Lib.hid hx
  have HTx := HT.out x okx
  rw [hx, ← HTX.out] at HTx
  have HTx := Lib.hid HTx
  clear hx tx1 T0
  obtain ⟨kx, bx, tt, g1, h1, i1, g2, h2, i2, g3, h3, i3, g4, h4, i4⟩ := x
  simp only [vv] at *
  have hB1 := bt hB0 hb1
  have hL1 := hL.below hB1
  have BV1 := BV.below hb1
  have BV := BV1.alloc (.cells #[.int .i64 kx, .int .u64 bx, .string tt, .slice g1 h1 i1, .slice g2 h2 i2, .slice g3 h3 i3, .slice g4 h4 i4] 28)
  have BN := b7_new w1 (.int .i64 kx) (.int .u64 bx) (.string tt) (.slice g1 h1 i1) (.slice g2 h2 i2) (.slice g3 h3 i3) (.slice g4 h4 i4) 28
  have hB := bt hB1 (below_box w1 (.cells #[.int .i64 kx, .int .u64 bx, .string tt, .slice g1 h1 i1, .slice g2 h2 i2, .slice g3 h3 i3, .slice g4 h4 i4] 28))
  have hL := hL1.below (below_box w1 (.cells #[.int .i64 kx, .int .u64 bx, .string tt, .slice g1 h1 i1, .slice g2 h2 i2, .slice g3 h3 i3, .slice g4 h4 i4] 28))
  clear hb1 hB0 hL0 hB1 hL1 BV1
  go_upto_region 2 with (fail)
  go_cut [8, 9] (fun u8 e9 wx => e9 = .int .i64 E ∧ At (w1.alloc (.cells #[.int .i64 kx, .int .u64 bx, .string tt, .slice g1 h1 i1, .slice g2 h2 i2, .slice g3 h3 i3, .slice g4 h4 i4] 28)) wx ⟨k1, b1, t1, d1, m1, q1, d2, m2, q2, d3, m3, q3, d4, m4, q4⟩ u8)
  case first =>
    generalize w1.alloc (.cells #[.int .i64 kx, .int .u64 bx, .string tt, .slice g1 h1 i1, .slice g2 h2 i2, .slice g3 h3 i3, .slice g4 h4 i4] 28) = W2 at *
    have BV0 := BV
    have BN0 := BN
    have hL0 := hL
    have BV := BV.drew
    have BN := BN.drew
    have hC := (Below.refl W2.heap.size W2).drew
    replace hL := hL.below hC
    go_region_held3 (fun w' => (w'.cell? ⟨w.heap.size, 0, none⟩ = some (.int .i64 kk) ∧ w'.cell? ⟨w.heap.size, 1, none⟩ = some (.int .u64 b) ∧ w'.cell? ⟨w.heap.size, 2, none⟩ = some (.string t) ∧ w'.cell? ⟨w.heap.size, 3, none⟩ = some (.slice a1 l1 c1) ∧ w'.cell? ⟨w.heap.size, 4, none⟩ = some (.slice a2 l2 c2) ∧ w'.cell? ⟨w.heap.size, 5, none⟩ = some (.slice a3 l3 c3) ∧ w'.cell? ⟨w.heap.size, 6, none⟩ = some (.slice a4 l4 c4)) ∧ (w'.cell? ⟨w1.heap.size, 0, none⟩ = some (.int .i64 kx) ∧ w'.cell? ⟨w1.heap.size, 1, none⟩ = some (.int .u64 bx) ∧ w'.cell? ⟨w1.heap.size, 2, none⟩ = some (.string tt) ∧ w'.cell? ⟨w1.heap.size, 3, none⟩ = some (.slice g1 h1 i1) ∧ w'.cell? ⟨w1.heap.size, 4, none⟩ = some (.slice g2 h2 i2) ∧ w'.cell? ⟨w1.heap.size, 5, none⟩ = some (.slice g3 h3 i3) ∧ w'.cell? ⟨w1.heap.size, 6, none⟩ = some (.slice g4 h4 i4))) (first
        | (with_reducible exact ⟨BV.cells, BN.cells⟩)
        | with_reducible exact ⟨(BV0.alloc _).drew.cells, (BN0.alloc _).drew.cells⟩
        | with_reducible exact ⟨(BV.alloc _).cells, (BN.alloc _).cells⟩
        | with_reducible exact ⟨(((((((BV.set_other nv 0 _).set_other nv 1 _).set_other nv 2 _).set_other nv 3 _).set_other nv 4 _).set_other nv 5 _).set_other nv 6 _).cells, (((((((BN.set_other nn 0 _).set_other nn 1 _).set_other nn 2 _).set_other nn 3 _).set_other nn 4 _).set_other nn 5 _).set_other nn 6 _).cells⟩)
      (first
        | (go_at_call 7; first
            | ((with_reducible refine (HTx.out _ hL).mono ?_); rintro _ w2 ⟨rfl, hb⟩; (try (have BZ := BZ.below hb; have ⟨_, z0, z1, z2, z3, z4, z5, z6, zf⟩ := BZ)); have BV := BV.below hb; have BN := BN.below hb; have hC := bt hC hb; have hL := hL.below hb; clear hb)
            | ((with_reducible refine (HTx.out _ (hL.below (below_box _ (.cells #[.int .i64 0, .int .u64 0, .string ⟨#[]⟩, .slice none 0 0, .slice none 0 0, .slice none 0 0, .slice none 0 0] 28)))).mono ?_); rintro _ w2 ⟨rfl, hb⟩; have nv := Nat.ne_of_lt BV.lt; have nn := Nat.ne_of_lt BN.lt; have nq := hC.size; have BZ := (b7_new _ (.int .i64 0) (.int .u64 0) (.string ⟨#[]⟩) (.slice none 0 0) (.slice none 0 0) (.slice none 0 0) (.slice none 0 0) 28).below hb; have ⟨_, z0, z1, z2, z3, z4, z5, z6, zf⟩ := BZ; have BV := (BV.alloc (.cells #[.int .i64 0, .int .u64 0, .string ⟨#[]⟩, .slice none 0 0, .slice none 0 0, .slice none 0 0, .slice none 0 0] 28)).below hb; have BN := (BN.alloc (.cells #[.int .i64 0, .int .u64 0, .string ⟨#[]⟩, .slice none 0 0, .slice none 0 0, .slice none 0 0, .slice none 0 0] 28)).below hb; have hC := bt (bt hC (below_box _ (.cells #[.int .i64 0, .int .u64 0, .string ⟨#[]⟩, .slice none 0 0, .slice none 0 0, .slice none 0 0, .slice none 0 0] 28))) hb; have hL := (hL.below (below_box _ (.cells #[.int .i64 0, .int .u64 0, .string ⟨#[]⟩, .slice none 0 0, .slice none 0 0, .slice none 0 0, .slice none 0 0] 28))).below hb; clear hb)
            | ((with_reducible refine (HTx.out _ (hL0.below (below_box W2 (.cells #[.int .i64 0, .int .u64 0, .string ⟨#[]⟩, .slice none 0 0, .slice none 0 0, .slice none 0 0, .slice none 0 0] 28)).drew)).mono ?_); rintro _ w2 ⟨rfl, hb⟩; have nv := Nat.ne_of_lt BV0.lt; have nn := Nat.ne_of_lt BN0.lt; have nq := Nat.le_refl W2.heap.size; have BZ := (b7_new W2 (.int .i64 0) (.int .u64 0) (.string ⟨#[]⟩) (.slice none 0 0) (.slice none 0 0) (.slice none 0 0) (.slice none 0 0) 28).drew.below hb; have ⟨_, z0, z1, z2, z3, z4, z5, z6, zf⟩ := BZ; have BV := (BV0.alloc (.cells #[.int .i64 0, .int .u64 0, .string ⟨#[]⟩, .slice none 0 0, .slice none 0 0, .slice none 0 0, .slice none 0 0] 28)).drew.below hb; have BN := (BN0.alloc (.cells #[.int .i64 0, .int .u64 0, .string ⟨#[]⟩, .slice none 0 0, .slice none 0 0, .slice none 0 0, .slice none 0 0] 28)).drew.below hb; have hC := bt (below_box W2 (.cells #[.int .i64 0, .int .u64 0, .string ⟨#[]⟩, .slice none 0 0, .slice none 0 0, .slice none 0 0, .slice none 0 0] 28)).drew hb; have hL := (hL0.below (below_box W2 (.cells #[.int .i64 0, .int .u64 0, .string ⟨#[]⟩, .slice none 0 0, .slice none 0 0, .slice none 0 0, .slice none 0 0] 28)).drew).below hb; clear hb))
        | (go_at_call 10; first
            | ((with_reducible refine (H1.out _ hL).mono ?_); rintro _ w3 ⟨rfl, hb⟩; (try (have BZ := BZ.below hb; have ⟨_, z0, z1, z2, z3, z4, z5, z6, zf⟩ := BZ)); have BV := BV.below hb; have BN := BN.below hb; have hC := bt hC hb; have hL := hL.below hb; clear hb)
            | ((with_reducible refine (H1.out _ (hL.below (below_box _ (.cells #[.int .i64 0, .int .u64 0, .string ⟨#[]⟩, .slice none 0 0, .slice none 0 0, .slice none 0 0, .slice none 0 0] 28)))).mono ?_); rintro _ w3 ⟨rfl, hb⟩; have nv := Nat.ne_of_lt BV.lt; have nn := Nat.ne_of_lt BN.lt; have nq := hC.size; have BZ := (b7_new _ (.int .i64 0) (.int .u64 0) (.string ⟨#[]⟩) (.slice none 0 0) (.slice none 0 0) (.slice none 0 0) (.slice none 0 0) 28).below hb; have ⟨_, z0, z1, z2, z3, z4, z5, z6, zf⟩ := BZ; have BV := (BV.alloc (.cells #[.int .i64 0, .int .u64 0, .string ⟨#[]⟩, .slice none 0 0, .slice none 0 0, .slice none 0 0, .slice none 0 0] 28)).below hb; have BN := (BN.alloc (.cells #[.int .i64 0, .int .u64 0, .string ⟨#[]⟩, .slice none 0 0, .slice none 0 0, .slice none 0 0, .slice none 0 0] 28)).below hb; have hC := bt (bt hC (below_box _ (.cells #[.int .i64 0, .int .u64 0, .string ⟨#[]⟩, .slice none 0 0, .slice none 0 0, .slice none 0 0, .slice none 0 0] 28))) hb; have hL := (hL.below (below_box _ (.cells #[.int .i64 0, .int .u64 0, .string ⟨#[]⟩, .slice none 0 0, .slice none 0 0, .slice none 0 0, .slice none 0 0] 28))).below hb; clear hb)))
    all_goals
      go_wp2_with fail
      go_meet
      case rel =>
        first
          | with_reducible exact ⟨rfl, atB nq hC BZ⟩
          | with_reducible exact ⟨rfl, atA hC⟩
  case rest =>
    obtain ⟨rfl, q8, rfl, hq8, hbx, B8⟩ := hcut
    simp only at B8
    replace BV := BV.below hbx
    replace BN := BN.below hbx
    replace hB := bt hB hbx
    replace hL := hL.below hbx
    clear hbx hq8 H1 HTx HTX HV okx
    by_cases hfit : fitsB kk (sc ⟨kk, b, t, a1, l1, c1, a2, l2, c2, a3, l3, c3, a4, l4, c4⟩) = true
    · obtain ⟨rfl, hY⟩ := hfirst.out hfit
      have sm : sameB (sc ⟨k1, b1, t1, d1, m1, q1, d2, m2, q2, d3, m3, q3, d4, m4, q4⟩) (sc ⟨kx, bx, tt, g1, h1, i1, g2, h2, i2, g3, h3, i3, g4, h4, i4⟩) = true := by rw [hY, HX.out]; exact same_selfP _
      have SM := Lib.hid sm
      have HFT := Lib.hid hfit
      clear hfit hY sm hfirst HX
      have ⟨_, p0, p1, p2, p3, p4, p5, p6, pf⟩ := BV
      go_wp2_with fail
      refine (HF.out _).mono ?_
      rintro _ w4 ⟨rfl, hb4⟩
      rw [HFT.out]
      clear p0 p1 p2 p3 p4 p5 p6 pf
      replace B8 := B8.below hb4
      replace BN := BN.below hb4
      replace hB := bt hB hb4
      replace hL := hL.below hb4
      clear hb4 BV
      have ⟨_, p0, p1, p2, p3, p4, p5, p6, pf⟩ := B8
      have ⟨_, n0, n1, n2, n3, n4, n5, n6, nf⟩ := BN
      go_wp2_with fail
      refine (same_any ⟨k1, b1, t1, d1, m1, q1, d2, m2, q2, d3, m3, q3, d4, m4, q4⟩ ⟨kx, bx, tt, g1, h1, i1, g2, h2, i2, g3, h3, i3, g4, h4, i4⟩ _).mono ?_
      rintro _ w5 ⟨rfl, hb5⟩
      rw [SM.out]
      clear p0 p1 p2 p3 p4 p5 p6 pf n0 n1 n2 n3 n4 n5 n6 nf
      replace hB := bt hB hb5
      replace hL := hL.below hb5
      clear hb5 B8 BN HFT HF SM
      go_wp2_with fail
      refine (H2.out _ hL).mono ?_
      rintro _ w6 ⟨rfl, hb6⟩
      replace hB := bt hB hb6
      replace hL := hL.below hb6
      clear hb6
      have TZ := fun w S => tree_flat HFl.out w S
      by_cases hF : F = 0
      · subst hF
        obtain ⟨hz1, hz2, hz3⟩ := HBk.out rfl
        have okz := (TZ w (fun _ => True)).ok
        have hstr : (⟨(textV (sc ⟨k2, b2, t2, e1, o1, r1, e2, o2, r2, e3, o3, r3, e4, o4, r4⟩)).toArray⟩ : ByteArray) = s := by rw [hz3]
        have hTz := HT.out ⟨k2, b2, t2, e1, o1, r1, e2, o2, r2, e3, o3, r3, e4, o4, r4⟩ okz
        rw [hstr] at hTz
        have fz := fun w => fits_p k ⟨k2, b2, t2, e1, o1, r1, e2, o2, r2, e3, o3, r3, e4, o4, r4⟩ okz.b okz.ts okz.sum w
        rw [hz1] at fz
        have HTz := Lib.hid hTz
        have FZ := Lib.hid fz
        have NZ := Lib.hid hz2
        have TZ := Lib.hid TZ
        clear hz1 hz2 hz3 okz hstr hTz fz HBk HEr HT H2
        have hc : (s.toList == s.toList) = true := beq_self_eq_true _
        have BZ := (b7_new w6 (.int .i64 k2) (.int .u64 b2) (.string t2) (.slice e1 o1 r1) (.slice e2 o2 r2) (.slice e3 o3 r3) (.slice e4 o4 r4) 28).drew
        replace hB := (bt hB (below_box w6 (.cells #[.int .i64 k2, .int .u64 b2, .string t2, .slice e1 o1 r1, .slice e2 o2 r2, .slice e3 o3 r3, .slice e4 o4 r4] 28))).drew
        replace hL := hL.below (below_box w6 (.cells #[.int .i64 k2, .int .u64 b2, .string t2, .slice e1 o1 r1, .slice e2 o2 r2, .slice e3 o3 r3, .slice e4 o4 r4] 28)).drew
        go_wp2_with fail
        go_region_held3 (fun w' => w'.cell? ⟨w6.heap.size, 0, none⟩ = some (.int .i64 k2) ∧ w'.cell? ⟨w6.heap.size, 1, none⟩ = some (.int .u64 b2) ∧ w'.cell? ⟨w6.heap.size, 2, none⟩ = some (.string t2) ∧ w'.cell? ⟨w6.heap.size, 3, none⟩ = some (.slice e1 o1 r1) ∧ w'.cell? ⟨w6.heap.size, 4, none⟩ = some (.slice e2 o2 r2) ∧ w'.cell? ⟨w6.heap.size, 5, none⟩ = some (.slice e3 o3 r3) ∧ w'.cell? ⟨w6.heap.size, 6, none⟩ = some (.slice e4 o4 r4)) (with_reducible exact BZ.cells)
          (first
            | (go_at_call 15; refine (FZ.out _).mono ?_; rintro _ w7 ⟨rfl, hb⟩; have BZ := BZ.below hb; have hB := bt hB hb; have hL := hL.below hb; clear hb)
            | (go_at_call 13; refine (norm_p 1 ⟨k2, b2, t2, e1, o1, r1, e2, o2, r2, e3, o3, r3, e4, o4, r4⟩ _ (TZ.out _ _)).mono ?_; rintro _ w7 ⟨y, rfl, hy, _, hb⟩; have SY : sameB (sc y) (sc ⟨k2, b2, t2, e1, o1, r1, e2, o2, r2, e3, o3, r3, e4, o4, r4⟩) = true := (by rw [hy, NZ.out]; exact same_selfP _); have BZ := BZ.below hb; have hB := bt hB hb; have hL := hL.below hb; clear hb; clear hy; obtain ⟨yk, yb, yt, ya1, yl1, yc1, ya2, yl2, yc2, ya3, yl3, yc3, ya4, yl4, yc4⟩ := y; simp only [vv])
            | (go_at_call 12; refine (same_any ⟨yk, yb, yt, ya1, yl1, yc1, ya2, yl2, yc2, ya3, yl3, yc3, ya4, yl4, yc4⟩ ⟨k2, b2, t2, e1, o1, r1, e2, o2, r2, e3, o3, r3, e4, o4, r4⟩ _).mono ?_; rintro _ w7 ⟨rfl, hb⟩; rw [SY]; have BZ := BZ.below hb; have hB := bt hB hb; have hL := hL.below hb; clear hb)
            | (go_at_call 7; refine (HTz.out _ hL).mono ?_; rintro _ w7 ⟨rfl, hb⟩; have BZ := BZ.below hb; have hB := bt hB hb; have hL := hL.below hb; clear hb)
            | (go_at_call 9; refine (awake_any _ hL).mono ?_; rintro _ w7 ⟨rfl, hb⟩; have BZ := BZ.below hb; have hB := bt hB hb; have hL := hL.below hb; clear hb))
        all_goals
          go_wp2_with fail
          go_ret
          exact ⟨rfl, hB⟩
      · have f1 : (F != 0) = true := by simp [hF]
        have f2 : (F == 0) = false := by simp [hF]
        have hsm : sameB (sc ⟨k2, b2, t2, e1, o1, r1, e2, o2, r2, e3, o3, r3, e4, o4, r4⟩) (sc ⟨0, 0, ⟨#[]⟩, none, 0, 0, none, 0, 0, none, 0, 0, none, 0, 0⟩) = true := by
          show sameB (sc ⟨k2, b2, t2, e1, o1, r1, e2, o2, r2, e3, o3, r3, e4, o4, r4⟩) (sc (zv 0)) = true
          rw [HEr.out hF]; exact same_selfP _
        have SMZ := Lib.hid hsm
        clear hsm hF HBk HEr HT H2 TZ
        have ⟨_, z0, z1, z2, z3, z4, z5, z6, zf⟩ := b7_new w6 (.int .i64 k2) (.int .u64 b2) (.string t2) (.slice e1 o1 r1) (.slice e2 o2 r2) (.slice e3 o3 r3) (.slice e4 o4 r4) 28
        replace hB := bt hB (below_box w6 (.cells #[.int .i64 k2, .int .u64 b2, .string t2, .slice e1 o1 r1, .slice e2 o2 r2, .slice e3 o3 r3, .slice e4 o4 r4] 28))
        replace hL := hL.below (below_box w6 (.cells #[.int .i64 k2, .int .u64 b2, .string t2, .slice e1 o1 r1, .slice e2 o2 r2, .slice e3 o3 r3, .slice e4 o4 r4] 28))
        go_wp2_with fail
        refine (same_any ⟨k2, b2, t2, e1, o1, r1, e2, o2, r2, e3, o3, r3, e4, o4, r4⟩ ⟨0, 0, ⟨#[]⟩, none, 0, 0, none, 0, 0, none, 0, 0, none, 0, 0⟩ _).mono ?_
        rintro _ w7 ⟨rfl, hb7⟩
        rw [SMZ.out]
        replace hB := bt hB hb7
        replace hL := hL.below hb7
        clear hb7 z0 z1 z2 z3 z4 z5 z6 zf
        go_wp2_with fail
        refine (awake_any _ hL).mono ?_
        rintro _ w8 ⟨rfl, hb8⟩
        go_wp2_with fail
        go_ret
        exact ⟨rfl, bt hB hb8⟩
    · have hfit : fitsB kk (sc ⟨kk, b, t, a1, l1, c1, a2, l2, c2, a3, l3, c3, a4, l4, c4⟩) = false := by simpa using hfit
      have HFT := Lib.hid hfit
      clear hfit hfirst HX
      have ⟨_, p0, p1, p2, p3, p4, p5, p6, pf⟩ := BV
      go_wp2_with fail
      refine (HF.out _).mono ?_
      rintro _ w4 ⟨rfl, hb4⟩
      rw [HFT.out]
      clear p0 p1 p2 p3 p4 p5 p6 pf
      replace hB := bt hB hb4
      replace hL := hL.below hb4
      clear hb4 BV B8 BN HFT HF
      go_wp2_with fail
      refine (H2.out _ hL).mono ?_
      rintro _ w6 ⟨rfl, hb6⟩
      replace hB := bt hB hb6
      replace hL := hL.below hb6
      clear hb6
      have TZ := fun w S => tree_flat HFl.out w S
      by_cases hF : F = 0
      · subst hF
        obtain ⟨hz1, hz2, hz3⟩ := HBk.out rfl
        have okz := (TZ w (fun _ => True)).ok
        have hstr : (⟨(textV (sc ⟨k2, b2, t2, e1, o1, r1, e2, o2, r2, e3, o3, r3, e4, o4, r4⟩)).toArray⟩ : ByteArray) = s := by rw [hz3]
        have hTz := HT.out ⟨k2, b2, t2, e1, o1, r1, e2, o2, r2, e3, o3, r3, e4, o4, r4⟩ okz
        rw [hstr] at hTz
        have fz := fun w => fits_p k ⟨k2, b2, t2, e1, o1, r1, e2, o2, r2, e3, o3, r3, e4, o4, r4⟩ okz.b okz.ts okz.sum w
        rw [hz1] at fz
        have HTz := Lib.hid hTz
        have FZ := Lib.hid fz
        have NZ := Lib.hid hz2
        have TZ := Lib.hid TZ
        clear hz1 hz2 hz3 okz hstr hTz fz HBk HEr HT H2
        have hc : (s.toList == s.toList) = true := beq_self_eq_true _
        have BZ := (b7_new w6 (.int .i64 k2) (.int .u64 b2) (.string t2) (.slice e1 o1 r1) (.slice e2 o2 r2) (.slice e3 o3 r3) (.slice e4 o4 r4) 28).drew
        replace hB := (bt hB (below_box w6 (.cells #[.int .i64 k2, .int .u64 b2, .string t2, .slice e1 o1 r1, .slice e2 o2 r2, .slice e3 o3 r3, .slice e4 o4 r4] 28))).drew
        replace hL := hL.below (below_box w6 (.cells #[.int .i64 k2, .int .u64 b2, .string t2, .slice e1 o1 r1, .slice e2 o2 r2, .slice e3 o3 r3, .slice e4 o4 r4] 28)).drew
        go_wp2_with fail
        go_region_held3 (fun w' => w'.cell? ⟨w6.heap.size, 0, none⟩ = some (.int .i64 k2) ∧ w'.cell? ⟨w6.heap.size, 1, none⟩ = some (.int .u64 b2) ∧ w'.cell? ⟨w6.heap.size, 2, none⟩ = some (.string t2) ∧ w'.cell? ⟨w6.heap.size, 3, none⟩ = some (.slice e1 o1 r1) ∧ w'.cell? ⟨w6.heap.size, 4, none⟩ = some (.slice e2 o2 r2) ∧ w'.cell? ⟨w6.heap.size, 5, none⟩ = some (.slice e3 o3 r3) ∧ w'.cell? ⟨w6.heap.size, 6, none⟩ = some (.slice e4 o4 r4)) (with_reducible exact BZ.cells)
          (first
            | (go_at_call 15; refine (FZ.out _).mono ?_; rintro _ w7 ⟨rfl, hb⟩; have BZ := BZ.below hb; have hB := bt hB hb; have hL := hL.below hb; clear hb)
            | (go_at_call 13; refine (norm_p 1 ⟨k2, b2, t2, e1, o1, r1, e2, o2, r2, e3, o3, r3, e4, o4, r4⟩ _ (TZ.out _ _)).mono ?_; rintro _ w7 ⟨y, rfl, hy, _, hb⟩; have SY : sameB (sc y) (sc ⟨k2, b2, t2, e1, o1, r1, e2, o2, r2, e3, o3, r3, e4, o4, r4⟩) = true := (by rw [hy, NZ.out]; exact same_selfP _); have BZ := BZ.below hb; have hB := bt hB hb; have hL := hL.below hb; clear hb; clear hy; obtain ⟨yk, yb, yt, ya1, yl1, yc1, ya2, yl2, yc2, ya3, yl3, yc3, ya4, yl4, yc4⟩ := y; simp only [vv])
            | (go_at_call 12; refine (same_any ⟨yk, yb, yt, ya1, yl1, yc1, ya2, yl2, yc2, ya3, yl3, yc3, ya4, yl4, yc4⟩ ⟨k2, b2, t2, e1, o1, r1, e2, o2, r2, e3, o3, r3, e4, o4, r4⟩ _).mono ?_; rintro _ w7 ⟨rfl, hb⟩; rw [SY]; have BZ := BZ.below hb; have hB := bt hB hb; have hL := hL.below hb; clear hb)
            | (go_at_call 7; refine (HTz.out _ hL).mono ?_; rintro _ w7 ⟨rfl, hb⟩; have BZ := BZ.below hb; have hB := bt hB hb; have hL := hL.below hb; clear hb)
            | (go_at_call 9; refine (awake_any _ hL).mono ?_; rintro _ w7 ⟨rfl, hb⟩; have BZ := BZ.below hb; have hB := bt hB hb; have hL := hL.below hb; clear hb))
        all_goals
          go_wp2_with fail
          go_ret
          exact ⟨rfl, hB⟩
      · have f1 : (F != 0) = true := by simp [hF]
        have f2 : (F == 0) = false := by simp [hF]
        have hsm : sameB (sc ⟨k2, b2, t2, e1, o1, r1, e2, o2, r2, e3, o3, r3, e4, o4, r4⟩) (sc ⟨0, 0, ⟨#[]⟩, none, 0, 0, none, 0, 0, none, 0, 0, none, 0, 0⟩) = true := by
          show sameB (sc ⟨k2, b2, t2, e1, o1, r1, e2, o2, r2, e3, o3, r3, e4, o4, r4⟩) (sc (zv 0)) = true
          rw [HEr.out hF]; exact same_selfP _
        have SMZ := Lib.hid hsm
        clear hsm hF HBk HEr HT H2 TZ
        have ⟨_, z0, z1, z2, z3, z4, z5, z6, zf⟩ := b7_new w6 (.int .i64 k2) (.int .u64 b2) (.string t2) (.slice e1 o1 r1) (.slice e2 o2 r2) (.slice e3 o3 r3) (.slice e4 o4 r4) 28
        replace hB := bt hB (below_box w6 (.cells #[.int .i64 k2, .int .u64 b2, .string t2, .slice e1 o1 r1, .slice e2 o2 r2, .slice e3 o3 r3, .slice e4 o4 r4] 28))
        replace hL := hL.below (below_box w6 (.cells #[.int .i64 k2, .int .u64 b2, .string t2, .slice e1 o1 r1, .slice e2 o2 r2, .slice e3 o3 r3, .slice e4 o4 r4] 28))
        go_wp2_with fail
        refine (same_any ⟨k2, b2, t2, e1, o1, r1, e2, o2, r2, e3, o3, r3, e4, o4, r4⟩ ⟨0, 0, ⟨#[]⟩, none, 0, 0, none, 0, 0, none, 0, 0, none, 0, 0⟩ _).mono ?_
        rintro _ w7 ⟨rfl, hb7⟩
        rw [SMZ.out]
        replace hB := bt hB hb7
        replace hL := hL.below hb7
        clear hb7 z0 z1 z2 z3 z4 z5 z6 zf
        go_wp2_with fail
        refine (awake_any _ hL).mono ?_
        rintro _ w8 ⟨rfl, hb8⟩
        go_wp2_with fail
        go_ret
        exact ⟨rfl, bt hB hb8⟩
end Go.Proofs.YtgjbpadhdnclnaaGreatDoor.ScalarRoundTripsW

/- The law ScalarRoundTrips of wireschemalaw04: for every input the call returns true, and the arguments read afterwards as before, where the listed package variables hold what the program's text lays in them; then the card that ties them to that text. -/
set_option linter.unusedSimpArgs false
set_option linter.unusedVariables false
namespace Go.Proofs.YtgjbpadhdnclnaaGreatDoor.lScalarRoundTrips
open Go.ChangeShapes Go.WideShapes Go.ChangeAt Go.RowKit
open Go.ChangeMaps (open_string shut_string)

theorem own : ownKnob Tryz.prog.godebug = none := by kernel_rfl
theorem laidOut : laidOutB Tryz.prog = true := by kernel_rfl
theorem row : LawKit.rowed Tryz.prog Tryz.f5.params.toList = true := by kernel_rfl

set_option maxRecDepth 100000 in
theorem contract (H : Type) (enc : TypeId × Value → H) (W : World) (base : Nat) (args : Array Value) (ds : List (DataW H)) (p : List MemPlace)
    (hval : ∀ (j : Nat) t v, Tryz.f5.params[j]? = some t → args[j]? = some v → Value.okWide Tryz.prog W .any base t v)
    (hA : DataW.TrodAll enc Tryz.prog W 0 (fun _ => true) true Tryz.f5.params.toList args.toList ds p)
    (hreach : (DataW.weightsEach Tryz.prog Tryz.f5.params.toList ds).all (· ≤ reachBytes) = true) (hk : Rows.uptoSmall H ds = true) (hL : Ld.Ld W) :
    Calls Tryz.prog 5 args W fun e W' => e = .returned (.bool true) ∧ Below W.heap.size W W' := by
  rw [Tryz.params5] at hA hval hreach
  obtain ⟨v0, vs0, d0, ds0, p0, q0, hargs, rfl, rfl, h0, r0⟩ := trodAll_cons hA
  obtain ⟨v1, vs1, d1, ds1, p1, q1, rfl, rfl, rfl, h1, r1⟩ := trodAll_cons r0
  obtain ⟨v2, vs2, d2, ds2, p2, q2, rfl, rfl, rfl, h2, r2⟩ := trodAll_cons r1
  obtain ⟨rfl, rfl, rfl⟩ := trodAll_nil r2
  obtain rfl : args = #[v0, v1, v2] := by cases args; simp_all
  simp only [DataW.weightsEach, List.all_append, Bool.and_eq_true] at hreach
  obtain ⟨z0, z1, z2, _⟩ := hreach
  obtain ⟨a0, n0, rfl, w0⟩ := Val.open_value (hval 0 28 v0 rfl rfl) h0 z0
  obtain ⟨a1, rfl, rfl, rfl, w1⟩ := open_int Tryz.underlying3 (hval 1 3 v1 rfl rfl) h1
  have y1 := Nums.wf_i64 w1
  obtain ⟨a2, rfl, rfl, rfl, w2⟩ := open_string Tryz.underlying9 (hval 2 9 v2 rfl rfl) h2
  have y2 : a2.size ≤ 1048576 := by
    have hb := of_decide_eq_true hk
    simp only [Rows.uptoBulkAll, Rows.uptoBulk] at hb
    have e : a2.data.toList.length = a2.size := rfl
    omega
  exact ScalarRoundTripsW.walk a0 n0 a1 a2 y1 y2 W w0 hL

set_option maxRecDepth 100000 in
theorem lifted (os : Os) (started : os.Started) (H : Type) (enc : TypeId × Value → H) (F : Stop.Interp) :
    ReturnsInHanded {} Tryz.checked os 5 .any ((Rows.OpenSpec.upto Rows.scalarRoundTripsSpec).preRow enc Tryz.prog Tryz.f5 Rows.scalarRoundTripsUptoRow.domain false Rows.scalarRoundTripsUptoRow.laid) (((Rows.OpenSpec.upto Rows.scalarRoundTripsSpec).at F).post enc Tryz.prog Tryz.f5 false true false false) := by
  obtain ⟨places, hx⟩ : ∃ places, DataW.whole enc Tryz.prog ((World.laidAll Tryz.prog os Rows.scalarRoundTripsUptoRow.laid).forCall (fun _ _ => 0) ⟨#[], #[.agg #[.int .i64 0, .int .u64 0, .string .empty, .slice none 0 0, .slice none 0 0, .slice none 0 0, .slice none 0 0], .int .i64 0, .string .empty], []⟩).memory Tryz.f5.params.toList (Rows.OpenSpec.upto Rows.scalarRoundTripsSpec).vars false #[.agg #[.int .i64 0, .int .u64 0, .string .empty, .slice none 0 0, .slice none 0 0, .slice none 0 0, .slice none 0 0], .int .i64 0, .string .empty].toList 8 = some ([.agg [.lit (.int .i64 0), .lit (.int .u64 0), .lit (.string []), .nil, .nil, .nil, .nil], .lit (.int .i64 0), .lit (.string [])], [], places) := ⟨[], by kernel_rfl⟩
  have hrow : (Rows.OpenSpec.upto Rows.scalarRoundTripsSpec).preRow enc Tryz.prog Tryz.f5 Rows.scalarRoundTripsUptoRow.domain false Rows.scalarRoundTripsUptoRow.laid ((World.laidAll Tryz.prog os Rows.scalarRoundTripsUptoRow.laid).forCall (fun _ _ => 0) ⟨#[], #[.agg #[.int .i64 0, .int .u64 0, .string .empty, .slice none 0 0, .slice none 0 0, .slice none 0 0, .slice none 0 0], .int .i64 0, .string .empty], []⟩).memory #[.agg #[.int .i64 0, .int .u64 0, .string .empty, .slice none 0 0, .slice none 0 0, .slice none 0 0, .slice none 0 0], .int .i64 0, .string .empty] :=
    OpenSpec.preRow_of_cond 8 hx (by kernel_rfl) (fun k hk => by cases hk; kernel_rfl) (by kernel_rfl) (by rw [MakeChecks.laidMetH_plain _ _ _ (by kernel_rfl)]; exact laidMet_laidAll _ (by kernel_rfl) (by kernel_rfl))
  have hok : Input.okWideB Tryz.prog ((World.laidAll Tryz.prog os Rows.scalarRoundTripsUptoRow.laid).forCall (fun _ _ => 0) ⟨#[], #[.agg #[.int .i64 0, .int .u64 0, .string .empty, .slice none 0 0, .slice none 0 0, .slice none 0 0, .slice none 0 0], .int .i64 0, .string .empty], []⟩) 5 ⟨#[], #[.agg #[.int .i64 0, .int .u64 0, .string .empty, .slice none 0 0, .slice none 0 0, .slice none 0 0, .slice none 0 0], .int .i64 0, .string .empty], []⟩ = true := by kernel_rfl
  refine returnsInHanded_of_row (C := Tryz.checked) (s := Rows.OpenSpec.upto Rows.scalarRoundTripsSpec) own started (by kernel_rfl) Tryz.func5
    ⟨World.laidAll Tryz.prog os Rows.scalarRoundTripsUptoRow.laid, fun _ _ => 0, ⟨#[], #[.agg #[.int .i64 0, .int .u64 0, .string .empty, .slice none 0 0, .slice none 0 0, .slice none 0 0, .slice none 0 0], .int .i64 0, .string .empty], []⟩, World.laidAll_os _ _ _, World.shaped_of_ZipB (by kernel_rfl) (by kernel_rfl), (Input.okWide_of_okWideB (base := 0) hok).1, (Input.okWide_of_okWideB hok).2, hrow, by
      simp only [Assume.holds]
      exact ⟨by simp, by simp, fun _ => Modest.zero, by simp, by simp⟩⟩ ?_
  intro W base args ds gs before hval0 hW _ hk0 hreach0 hL _ _
  have hval : ∀ (j : Nat) t v, Tryz.f5.params[j]? = some t → args[j]? = some v → Value.okWide Tryz.prog W .any base t v := hval0
  have hW' := hW
  obtain ⟨p, q, hA, hV, rfl, _, _⟩ := hW'
  obtain ⟨rfl, rfl⟩ := trodVars_none hV
  have hreach : (DataW.weightsEach Tryz.prog Tryz.f5.params.toList ds).all (· ≤ reachBytes) = true := by
    have h0 : (DataW.weightsEach Tryz.prog (Tryz.f5.params.toList ++ []) (ds ++ [])).all (· ≤ reachBytes) = true := hreach0
    rwa [List.append_nil, List.append_nil] at h0
  have hk : Rows.uptoSmall H ds = true := by
    have h0 := hk0 _ rfl
    rwa [List.append_nil] at h0
  refine (contract H enc W base args ds p hval hA hreach hk (LdOf.ld_of hL)).mono fun e W' ⟨he, hb⟩ => ?_
  subst he
  refine ⟨_, rfl, LawKit.law_post laidOut row rfl rfl Tryz.underlying4 ?_ hW hb⟩
  have hA' := hA
  rw [Tryz.params5] at hA'
  obtain ⟨v0, vs0, d0, ds0, p0, q0, _, rfl, _, _, r0⟩ := trodAll_cons hA'
  obtain ⟨v1, vs1, d1, ds1, p1, q1, _, rfl, _, _, r1⟩ := trodAll_cons r0
  obtain ⟨v2, vs2, d2, ds2, p2, q2, _, rfl, _, _, r2⟩ := trodAll_cons r1
  obtain ⟨_, rfl, _⟩ := trodAll_nil r2
  exact ⟨rfl, rfl, rfl⟩

/-- The row's statement. -/
theorem said : Rows.ScalarRoundTripsUptoSaid :=
  OpenClaim.holds_of_cond 5 Tryz.f5 rfl rfl rfl rfl rfl rfl rfl ⟨rfl, rfl, rfl, rfl, rfl⟩ rfl rfl rfl rfl rfl (by kernel_rfl) Tryz.func5 (by kernel_rfl)
    (of_decide_eq_true (by kernel_rfl)) (by unfold Func.isWrapper; first | (rw [if_pos (by decide +kernel)]; kernel_rfl) | (rw [if_neg (by decide +kernel)]; exact ⟨rfl, rfl⟩))
    (fun os started H enc _ F => by rw [OpenClaim.pre_eq_preRow]; exact lifted os started H enc F)

/-- The statement: the tied card. -/
theorem provedU : Rows.ScalarRoundTripsUptoCardSaid :=
  Claim7.holds_tied_plain_at .later [] [.data, .data, .data, .data, .sentinel, .sentinel, .pinned] true (true, "777824c2ce4923b0b13d09a7f9b1cd8cc76f5d14719a537b97006b81107957d0") true said (fun _ h => by cases h) (by kernel_rfl) (fun _ h => by cases h) scalarRoundTripsUpto_row_tie rfl ⟨rfl, rfl⟩ (by kernel_rfl) rfl
    (fun f fn hf hfn => by
      obtain rfl : f = 5 := Option.some.inj ((show Tryz.prog.funcNamed "wireschema/wireschemalaw04.ScalarRoundTrips" = some 5 by kernel_rfl).symm.trans hf) |>.symm
      obtain rfl : fn = Tryz.f5 := (Option.some.inj (Tryz.func5.symm.trans hfn)).symm
      exact ⟨by kernel_rfl, fun j t ht => by
        rw [Tryz.params5] at ht
        have hm : t ∈ [28, 3, 9] := by simpa using Array.mem_of_getElem? ht
        have hall : ([28, 3, 9].all fun u => !Tryz.prog.wantsStandIn u) = true := by kernel_rfl
        exact (show Tryz.prog.wantsStandIn t = false by simpa using List.all_eq_true.1 hall t hm)⟩)
    (by kernel_rfl)
end Go.Proofs.YtgjbpadhdnclnaaGreatDoor.lScalarRoundTrips
