import Derived.Test.YthjpchnogllliaaGreatDoorScaM
import Derived.Test.YthjpchnogllliaaGreatDoorDigH
import Derived.Lib.ItoaMem
import Derived.Test.YthjpchnogllliaaGreatDoorPrsQ
/- Texts of scalar values: two spellings of one thing. Plain mathematics. -/
set_option linter.unusedSimpArgs false
set_option linter.unusedVariables false
namespace Go.Proofs.YthjpchnogllliaaGreatDoor.TxtM
open UtfM UtfQ ScaM

theorem dec_digits (n : Nat) : Lib.decDigits n = dec n := by
  induction n using Nat.strongRecOn with
  | ind n ih =>
    by_cases h : n < 10
    · rw [Lib.decDigits, dif_pos h, dec_small h]
    · rw [Lib.decDigits, dif_neg h, dec_large h, ih (n / 10) (by omega)]
theorem itoa_up {b : Nat} (h : ¬ sgnN ≤ b) : Lib.itoa (sI b) = dec b := by
  unfold sgnN at h
  unfold sI
  rw [if_pos (by omega), Lib.itoa_nonneg, dec_digits]
theorem itoa_down {b : Nat} (h : sgnN ≤ b) (hb : b ≤ 18446744073709551615) : Lib.itoa (sI b) = 45 :: dec (18446744073709551616 - b) := by
  unfold sgnN at h
  unfold sI
  rw [if_neg (by omega), show (b : Int) - 18446744073709551616 = -((18446744073709551616 - b : Nat) : Int) by omega, Lib.itoa_neg _ (by omega), dec_digits]
theorem hx_hxd (n : Nat) : hx n = DigH.hxd n := rfl
theorem hexN_be : ∀ (k n : Nat), DigH.hexN (2 * k) n = hexL (be8 k n)
  | 0, n => rfl
  | k + 1, n => by
    rw [be8, hexL_snoc, show 2 * (k + 1) = 2 * k + 1 + 1 by omega, DigH.hexN, DigH.hexN, hexN_be k, VarM.toNat_ofNat (Nat.mod_lt _ (by decide)), List.append_assoc, hx_hxd, hx_hxd]
    rw [Nat.div_div_eq_div_mul, show n % 256 / 16 = n / 16 % 16 by omega, show n % 256 % 16 = n % 16 by omega]
    rfl
theorem hex16_same (n : Nat) : DigH.hex16 n = hex16 n := hexN_be 8 n
theorem cls_inf {b : Nat} (h : clsN b = 1) (hs : ¬ sgnN ≤ b) : b = infN := by
  unfold clsN at h
  split at h
  · cases h
  · split at h
    · rename_i h2
      unfold sgnN at *
      omega
    · split at h
      · cases h
      · split at h <;> cases h
theorem cls_ninf {b : Nat} (h : clsN b = 1) (hs : sgnN ≤ b) (hb : b ≤ 18446744073709551615) : b = sgnN + infN := by
  unfold clsN at h
  split at h
  · cases h
  · split at h
    · rename_i h2
      unfold sgnN infN at *
      omega
    · split at h
      · cases h
      · split at h <;> cases h
theorem cls_no {b : Nat} (h : clsN b ≠ 1) : b ≠ infN ∧ b ≠ sgnN + infN := by
  refine ⟨fun e => h ?_, fun e => h ?_⟩ <;> (rw [e]; decide +kernel)
end Go.Proofs.YthjpchnogllliaaGreatDoor.TxtM

/- A scalar's text is read again, and no other text is accepted: plain mathematics. -/
set_option linter.unusedSimpArgs false
set_option linter.unusedVariables false
namespace Go.Proofs.YthjpchnogllliaaGreatDoor.RtM
open UtfM UtfQ UtfH ScaM ScaV ScaB ScaN ScaT ScaW ScaX ScaY ScpB ScpC ScpD NumQ PrsQ

-- decimal digits
theorem isD_dig {d : Nat} (h : d < 10) : isD (UInt8.ofNat (48 + d)) = true ∧ (UInt8.ofNat (48 + d)).toNat - 48 = d := by
  have : ∀ k : Fin 10, isD (UInt8.ofNat (48 + k.val)) = true ∧ (UInt8.ofNat (48 + k.val)).toNat - 48 = k.val := by decide
  exact this ⟨d, h⟩
theorem dec_all : ∀ n : Nat, (dec n).all isD = true ∧ natOf (dec n) = n := by
  intro n
  induction n using Nat.strongRecOn with
  | ind n ih =>
    by_cases h : n < 10
    · obtain ⟨h1, h2⟩ := isD_dig h
      rw [dec_small h]
      refine ⟨by rw [List.all_cons, h1]; rfl, ?_⟩
      rw [natF_of, natF_cons, natF_nil, stN_eq]
      omega
    · obtain ⟨h1, h2⟩ := isD_dig (Nat.mod_lt n (by decide : 10 > 0))
      obtain ⟨i1, i2⟩ := ih (n / 10) (by omega)
      rw [dec_large h]
      refine ⟨by rw [List.all_append, i1, List.all_cons, h1]; rfl, ?_⟩
      rw [natOf_snoc, i2, h2]
      omega
theorem dec_head : ∀ n : Nat, n ≠ 0 → (dec n).head? ≠ some 48 := by
  intro n
  induction n using Nat.strongRecOn with
  | ind n ih =>
    intro hn
    by_cases h : n < 10
    · rw [dec_small h]
      intro e
      injection e with e
      have : ∀ k : Fin 10, k.val ≠ 0 → UInt8.ofNat (48 + k.val) ≠ 48 := by decide
      exact this ⟨n, h⟩ hn e
    · have i := ih (n / 10) (by omega) (by omega)
      rw [dec_large h]
      have hne := dec_ne (n / 10)
      cases hd : dec (n / 10) with
      | nil => exact absurd hd hne
      | cons a r => rw [hd] at i; exact i
theorem dig_back {c : UInt8} (h : isD c = true) : UInt8.ofNat (48 + (c.toNat - 48)) = c ∧ c.toNat - 48 < 10 := by
  have h2 : 48 ≤ c.toNat ∧ c.toNat ≤ 57 := by simpa [isD] using h
  refine ⟨?_, by omega⟩
  rw [show 48 + (c.toNat - 48) = c.toNat by omega]; simp
theorem natF_pos : ∀ (l : List UInt8) (a : Nat), 1 ≤ a → 1 ≤ natF a l := fun l a h => Nat.le_trans h (natF_ge l a)
theorem natOf_pos {ds : List UInt8} (h : ds.all isD = true) (hne : ds ≠ []) (hh : ds.head? ≠ some 48) : 1 ≤ natOf ds := by
  cases ds with
  | nil => exact absurd rfl hne
  | cons c l =>
    rw [List.all_cons, Bool.and_eq_true] at h
    have hc : 48 ≤ c.toNat ∧ c.toNat ≤ 57 := by simpa [isD] using h.1
    have hn : c.toNat ≠ 48 := fun e => hh (by rw [List.head?_cons]; congr 1; exact UInt8.toNat_inj.1 e)
    rw [natF_of, natF_cons]
    refine natF_pos l _ ?_
    rw [stN_eq]; omega
/-- Digits without a leading zero are those of their number. -/
theorem dec_natOf : ∀ (k : Nat) (ds : List UInt8), ds.length = k → ds.all isD = true → ds ≠ [] → (ds.head? = some 48 → ds = [48]) → dec (natOf ds) = ds := by
  intro k
  induction k with
  | zero => intro ds hl _ hne; exact absurd (List.eq_nil_of_length_eq_zero hl) hne
  | succ k ih =>
    intro ds hl h hne hh
    have e := List.dropLast_concat_getLast hne
    obtain ⟨init, hi⟩ : ∃ init, init = ds.dropLast := ⟨_, rfl⟩
    obtain ⟨c, hc⟩ : ∃ c, c = ds.getLast hne := ⟨_, rfl⟩
    rw [← hi, ← hc] at e
    clear hi hc
    subst e
    rw [List.all_append, Bool.and_eq_true] at h
    obtain ⟨h1, h2⟩ := h
    have hcD : isD c = true := by simpa using h2
    obtain ⟨b1, b2⟩ := dig_back hcD
    rw [natOf_snoc]
    by_cases h0 : init = []
    · subst h0
      rw [show natOf [] = 0 from rfl, Nat.mul_zero, Nat.zero_add, dec_small b2, b1]; rfl
    · have hi : init.head? ≠ some 48 := by
        intro e
        cases init with
        | nil => exact h0 rfl
        | cons a r =>
          have := hh (by simpa using e)
          have := congrArg List.length this
          simp at this
      have hp := natOf_pos h1 h0 hi
      have hlen : init.length = k := by rw [List.length_append] at hl; simp at hl; omega
      rw [dec_large (by omega), show (10 * natOf init + (c.toNat - 48)) / 10 = natOf init by omega, show (10 * natOf init + (c.toNat - 48)) % 10 = c.toNat - 48 by omega, b1, ih init hlen h1 h0 (fun e => absurd e hi)]
theorem isD_ne45 {l : List UInt8} (h : l.all isD = true) : l.head? ≠ some 45 := by
  intro e
  cases l with
  | nil => cases e
  | cons a r =>
    injection e with e
    subst e
    simp [isD] at h
    try (have := h.1; revert this; decide)
/-- The decimal digits of a number, read. -/
theorem good_dec (n : Nat) : good (dec n) (dsOf (dec n)) ∧ dsOf (dec n) = dec n ∧ (dec n).head? ≠ some 45 := by
  obtain ⟨h1, h2⟩ := dec_all n
  have h45 := isD_ne45 h1
  have hd : dsOf (dec n) = dec n := by unfold dsOf; rw [if_neg h45]
  refine ⟨?_, hd, h45⟩
  rw [hd]
  refine ⟨dec_ne n, ?_, h1⟩
  rintro ⟨e1, e2⟩
  by_cases h0 : n = 0
  · subst h0; exact e2 (by rw [dec_small (by decide)]; rfl)
  · exact dec_head n h0 e1
theorem good_minus {n : Nat} (h0 : n ≠ 0) : good (45 :: dec n) (dsOf (45 :: dec n)) ∧ dsOf (45 :: dec n) = dec n := by
  obtain ⟨h1, h2⟩ := dec_all n
  have hd : dsOf (45 :: dec n) = dec n := rfl
  refine ⟨?_, hd⟩
  rw [hd]
  exact ⟨dec_ne n, fun ⟨e1, _⟩ => dec_head n h0 e1, h1⟩

theorem fits_num {v : Sc} {k : Int} (hk : k = 2 ∨ k = 3 ∨ k = 4 ∨ k = 5 ∨ k = 9) (h : fitsB k v = true) : v.k = k ∧ v.t = [] ∧ v.n1 = 0 ∧ v.n2 = 0 ∧ v.n3 = 0 ∧ v.n4 = 0 ∧ rgB k v.b = true := by
  have h2 : txB k = false := by rcases hk with e | e | e | e | e <;> rw [e] <;> rfl
  unfold fitsB at h
  rw [h2] at h
  simp only [Bool.and_eq_true, Bool.false_eq_true, if_false, beq_iff_eq, loneB, List.isEmpty_iff] at h
  obtain ⟨⟨⟨_, a⟩, ⟨⟨b, c⟩, d⟩, e⟩, f, g⟩ := h
  exact ⟨a, f, b, c, d, e, g⟩
theorem sc_nv {v : Sc} {k : Int} (hk : v.k = k) (ht : v.t = []) (h1 : v.n1 = 0) (h2 : v.n2 = 0) (h3 : v.n3 = 0) (h4 : v.n4 = 0) : sc (nv k v.b) = v := by
  cases v
  simp_all [sc, nv]
theorem rt_num {v : Sc} {k : Int} (hk : k = 2 ∨ k = 3 ∨ k = 4 ∨ k = 5 ∨ k = 9) (hb : v.b ≤ 18446744073709551615) (h : fitsB k v = true) : wholeS k (textV v) = (nv k v.b, 0) := by
  obtain ⟨e1, e2, e3, e4, e5, e6, e7⟩ := fits_num hk h
  have hf : fitsB v.k v = true := by rw [e1]; exact h
  have hfn : fitsB k (sc (nv k v.b)) = true := by rw [sc_nv e1 e2 e3 e4 e5 e6]; exact h
  have h1 : ¬ v.k = 1 := by omega
  have h6 : ¬ v.k = 6 := by omega
  have h7 : ¬ v.k = 7 := by omega
  have h8 : ¬ v.k = 8 := by omega
  by_cases hs : k = 2 ∨ k = 3
  · have hsg : sgB k = true := by rcases hs with e | e <;> rw [e] <;> rfl
    have ht : textV v = if sgnN ≤ v.b then 45 :: dec (18446744073709551616 - v.b) else dec v.b := by
      unfold textV
      rw [hf, if_neg (by simp), if_neg h1, if_pos (show v.k = 2 ∨ v.k = 3 by omega)]
    rw [ht]
    by_cases hm : sgnN ≤ v.b
    · rw [if_pos hm]
      unfold sgnN at hm
      have h0 : 18446744073709551616 - v.b ≠ 0 := by omega
      obtain ⟨g1, g2⟩ := good_minus h0
      obtain ⟨d1, d2⟩ := dec_all (18446744073709551616 - v.b)
      unfold wholeS
      rw [numV_good g1, g2, d2, if_neg (show ¬ 18446744073709551616 ≤ 18446744073709551616 - v.b by omega)]
      simp only [ne_eq, not_true, if_false, List.head?_cons, decide_true, if_true]
      have ho : outB k (18446744073709551616 - v.b) true = false := by unfold outB sgnN; rw [hsg]; simp; omega
      have hn : negN (18446744073709551616 - v.b) = v.b := by unfold negN; omega
      rw [ho, hn, hfn]; simp
    · rw [if_neg hm]
      obtain ⟨g1, g2, g3⟩ := good_dec v.b
      obtain ⟨d1, d2⟩ := dec_all v.b
      unfold wholeS
      rw [numV_good g1, g2, d2, if_neg (show ¬ 18446744073709551616 ≤ v.b by omega)]
      have hz : decide ((dec v.b).head? = some 45) = false := decide_eq_false g3
      rw [hz]
      have ho : outB k v.b false = false := by unfold outB; rw [hsg]; simp only [Bool.false_eq_true, if_false, Bool.true_and, decide_eq_false_iff_not]; exact hm
      simp only [ne_eq, not_true, if_false, Bool.false_eq_true]
      rw [ho, hfn]; simp
  · have hsg : sgB k = false := by rcases hk with e | e | e | e | e <;> first | (rw [e]; rfl) | (exfalso; omega)
    have ht : textV v = dec v.b := by
      unfold textV
      rw [hf, if_neg (by simp), if_neg h1, if_neg (show ¬ (v.k = 2 ∨ v.k = 3) by omega), if_neg h6, if_neg h7, if_neg h8]
    rw [ht]
    obtain ⟨g1, g2, g3⟩ := good_dec v.b
    obtain ⟨d1, d2⟩ := dec_all v.b
    unfold wholeS
    rw [numV_good g1, g2, d2, if_neg (show ¬ 18446744073709551616 ≤ v.b by omega)]
    have hz : decide ((dec v.b).head? = some 45) = false := decide_eq_false g3
    rw [hz]
    have ho : outB k v.b false = false := by unfold outB; rw [hsg]; rfl
    simp only [ne_eq, not_true, if_false, Bool.false_eq_true]
    rw [ho, hfn]; simp
theorem pair_no {α : Type} {a b : α} {x y : Int} (h : (a, x) = (b, y)) (hne : x ≠ y) : False := hne (congrArg Prod.snd h)
theorem all45 {ds : List UInt8} {l : List UInt8} (h : good l ds) : ds.all isD = true ∧ ds ≠ [] := ⟨h.2.2, h.1⟩
/-- What is read as a number: only its text. -/
theorem back_num {k : Int} (hk : k = 2 ∨ k = 3 ∨ k = 4 ∨ k = 5 ∨ k = 9) {l : List UInt8} {X : SV} (h : wholeS k l = (X, 0)) : fitsB k (sc X) = true ∧ normV (sc X) = sc X ∧ textV (sc X) = l := by
  by_cases hg : good l (dsOf l)
  · have hg2 := hg
    obtain ⟨g1, g2, g3⟩ := hg2
    unfold wholeS at h
    rw [numV_good hg] at h
    by_cases hbig : 18446744073709551616 ≤ natOf (dsOf l)
    · rw [if_pos hbig] at h
      simp at h
    · rw [if_neg hbig] at h
      simp only [ne_eq, not_true, if_false] at h
      by_cases ho : outB k (natOf (dsOf l)) (decide (l.head? = some 45)) = true
      · rw [if_pos ho] at h; simp at h
      · rw [if_neg ho] at h
        simp only [decide_eq_true_eq] at h
        by_cases hf : fitsB k (sc (nv k (if l.head? = some 45 then negN (natOf (dsOf l)) else natOf (dsOf l)))) = true
        · rw [if_pos hf] at h
          have hX : nv k (if l.head? = some 45 then negN (natOf (dsOf l)) else natOf (dsOf l)) = X := congrArg Prod.fst h
          subst hX
          have hk6 : ¬ k = 6 := by omega
          refine ⟨hf, by unfold normV; rw [if_neg (fun e => hk6 e.1)], ?_⟩
          by_cases hm : l.head? = some 45
          · obtain ⟨r, rfl⟩ := head_cons hm
            have hds : dsOf (45 :: r) = r := rfl
            rw [hds] at g1 g2 g3 ho hbig hf ⊢
            rw [if_pos hm] at hf ⊢
            rw [show decide ((45 :: r : List UInt8).head? = some 45) = true from rfl] at ho
            have hh : r.head? ≠ some 48 := fun e => g2 ⟨e, by intro e2; injection e2 with e2 _; exact absurd e2 (by decide)⟩
            have hp := natOf_pos g3 g1 hh
            have hsg : sgB k = true := by
              cases e : sgB k with
              | true => rfl
              | false => unfold outB at ho; rw [e] at ho; simp at ho
            have hle : natOf r ≤ 9223372036854775808 := by
              unfold outB sgnN at ho; rw [hsg] at ho; simp at ho; omega
            have hs : k = 2 ∨ k = 3 := by
              rcases hk with e | e | e | e | e
              · exact .inl e
              · exact .inr e
              all_goals (rw [e] at hsg; exact absurd hsg (by decide))
            have hn : negN (natOf r) = 18446744073709551616 - natOf r := by unfold negN; omega
            unfold textV
            rw [show (sc (nv k (negN (natOf r)))).k = k from rfl, show (sc (nv k (negN (natOf r)))).b = negN (natOf r) from rfl, hf, if_neg (by simp), if_neg (show ¬ k = 1 by omega), if_pos hs, hn, if_pos (show sgnN ≤ 18446744073709551616 - natOf r by unfold sgnN; omega), show 18446744073709551616 - (18446744073709551616 - natOf r) = natOf r by omega, dec_natOf _ r rfl g3 g1 (fun e => absurd e hh)]
          · have hds : dsOf l = l := by unfold dsOf; rw [if_neg hm]
            rw [hds] at g1 g2 g3 ho hbig hf ⊢
            rw [if_neg hm] at hf ⊢
            rw [show decide (l.head? = some 45) = false from decide_eq_false hm] at ho
            have hdec : dec (natOf l) = l := dec_natOf _ l rfl g3 g1 (fun e => Classical.not_not.1 fun e2 => g2 ⟨e, e2⟩)
            unfold textV
            rw [show (sc (nv k (natOf l))).k = k from rfl, show (sc (nv k (natOf l))).b = natOf l from rfl, hf, if_neg (by simp), if_neg (show ¬ k = 1 by omega)]
            by_cases hs : k = 2 ∨ k = 3
            · have hsg : sgB k = true := by rcases hs with e | e <;> rw [e] <;> rfl
              have hlt : ¬ sgnN ≤ natOf l := by
                unfold outB at ho; rw [hsg] at ho; simpa using ho
              rw [if_pos hs, if_neg hlt, hdec]
            · rw [if_neg hs, if_neg (show ¬ k = 6 by omega), if_neg (show ¬ k = 7 by omega), if_neg (show ¬ k = 8 by omega), hdec]
        · rw [if_neg hf] at h; simp at h
  · unfold wholeS at h
    rw [numV_bad hg] at h
    simp at h
theorem err_num {k : Int} {l : List UInt8} {X : SV} {e : Int} (h : wholeS k l = (X, e)) (he : e ≠ 0) : X = zv 0 := by
  unfold wholeS at h
  generalize (if (numV l).2.1 = true then negN (numV l).1 else (numV l).1) = n at h
  by_cases c1 : (numV l).2.2 ≠ 0
  · rw [if_pos c1] at h; exact (congrArg Prod.fst h).symm
  · rw [if_neg c1] at h
    by_cases c2 : outB k (numV l).1 (numV l).2.1 = true
    · rw [if_pos c2] at h; exact (congrArg Prod.fst h).symm
    · rw [if_neg c2] at h
      by_cases c3 : fitsB k (sc (nv k n)) = true
      · rw [if_pos c3] at h; exact (pair_no h (fun a => he a.symm)).elim
      · rw [if_neg c3] at h; exact (congrArg Prod.fst h).symm

-- bools
theorem fits_one {v : Sc} {k : Int} (hx : txB k = false) (h : fitsB k v = true) : v.k = k ∧ v.t = [] ∧ v.n1 = 0 ∧ v.n2 = 0 ∧ v.n3 = 0 ∧ v.n4 = 0 ∧ rgB k v.b = true := by
  unfold fitsB at h
  rw [hx] at h
  simp only [Bool.and_eq_true, Bool.false_eq_true, if_false, beq_iff_eq, loneB, List.isEmpty_iff] at h
  obtain ⟨⟨⟨_, a⟩, ⟨⟨b, c⟩, d⟩, e⟩, f, g⟩ := h
  exact ⟨a, f, b, c, d, e, g⟩
theorem rt_bool {v : Sc} (h : fitsB 1 v = true) : boolS 1 (textV v) = (nv 1 v.b, 0) := by
  obtain ⟨e1, e2, e3, e4, e5, e6, e7⟩ := fits_one rfl h
  have hf : fitsB v.k v = true := by rw [e1]; exact h
  have hb : v.b ≤ 1 := by unfold rgB at e7; simpa using e7
  have ht : textV v = if v.b = 1 then ScaY.trueL else ScaY.falseL := by
    unfold textV
    rw [hf, if_neg (by simp), if_pos e1]; rfl
  rw [ht]
  unfold boolS
  by_cases h1 : v.b = 1
  · rw [if_pos h1, if_pos rfl, h1]
  · rw [if_neg h1, if_neg (by decide), if_pos rfl, show v.b = 0 by omega]
theorem fits_b1 : fitsB 1 (sc (nv 1 1)) = true := by decide +kernel
theorem fits_b0 : fitsB 1 (sc (nv 1 0)) = true := by decide +kernel
theorem back_bool {l : List UInt8} {X : SV} (h : boolS 1 l = (X, 0)) : fitsB 1 (sc X) = true ∧ normV (sc X) = sc X ∧ textV (sc X) = l := by
  unfold boolS at h
  by_cases h1 : l = ScaY.trueL
  · rw [if_pos h1] at h
    have hX : nv 1 1 = X := congrArg Prod.fst h
    subst hX
    refine ⟨fits_b1, rfl, ?_⟩
    rw [h1]; decide +kernel
  · rw [if_neg h1] at h
    by_cases h2 : l = ScaY.falseL
    · rw [if_pos h2] at h
      have hX : nv 1 0 = X := congrArg Prod.fst h
      subst hX
      refine ⟨fits_b0, rfl, ?_⟩
      rw [h2]; decide +kernel
    · rw [if_neg h2] at h
      exact (pair_no h (by decide)).elim
theorem err_bool {l : List UInt8} {X : SV} {e : Int} (h : boolS 1 l = (X, e)) (he : e ≠ 0) : X = zv 0 := by
  unfold boolS at h
  split at h
  · exact (pair_no h (fun a => he a.symm)).elim
  · split at h
    · exact (pair_no h (fun a => he a.symm)).elim
    · exact (congrArg Prod.fst h).symm

-- texts and bytes
theorem fits_txt {v : Sc} {k : Int} (hx : txB k = true) (h : fitsB k v = true) : v.k = k ∧ v.b = 0 ∧ v.n1 = 0 ∧ v.n2 = 0 ∧ v.n3 = 0 ∧ v.n4 = 0 ∧ v.t.length ≤ 4096 ∧ (k = 8 ∨ bad v.t < 0) := by
  unfold fitsB at h
  rw [hx] at h
  simp only [Bool.and_eq_true, if_true, beq_iff_eq, loneB, decide_eq_true_eq, Bool.or_eq_true] at h
  obtain ⟨⟨⟨_, a⟩, ⟨⟨b, c⟩, d⟩, e⟩, ⟨f, g⟩, i⟩ := h
  exact ⟨a, f, b, c, d, e, g, i⟩
theorem unq {t : List UInt8} : unquote (quote t) = (t, (quote t).length, 0) := by
  have := unquote_quote t []
  simpa using this
theorem rt_text {v : Sc} (h : fitsB 7 v = true) : textS 7 (textV v) = (tv 7 v.t, 0) := by
  obtain ⟨e1, e2, e3, e4, e5, e6, e7, e8⟩ := fits_txt rfl h
  have hf : fitsB v.k v = true := by rw [e1]; exact h
  have ht : textV v = quote v.t := by
    unfold textV
    rw [hf, if_neg (by simp), if_neg (by omega), if_neg (by omega), if_neg (by omega), if_pos e1]
  have hbad : bad v.t < 0 := e8.resolve_left (by decide)
  rw [ht]
  unfold textS kept
  rw [unq]
  simp only [ne_eq, not_true, or_self, if_false]
  rw [if_neg (by decide), if_neg (by omega), if_neg (by omega)]
theorem rt_bytes {v : Sc} (h : fitsB 8 v = true) : bytesS 8 (textV v) = (tv 8 v.t, 0) := by
  obtain ⟨e1, e2, e3, e4, e5, e6, e7, e8⟩ := fits_txt rfl h
  have hf : fitsB v.k v = true := by rw [e1]; exact h
  have ht : textV v = 120 :: quote (hexL v.t) := by
    unfold textV
    rw [hf, if_neg (by simp), if_neg (by omega), if_neg (by omega), if_neg (by omega), if_neg (by omega), if_pos e1]
  have hu : uhE (hexL v.t) = 0 := by unfold uhE; rw [unhex_hex]; rfl
  have hv : uhT (hexL v.t) = v.t := by unfold uhT; rw [unhex_hex]; rfl
  rw [ht]
  unfold bytesS
  rw [if_pos (show (120 :: quote (hexL v.t)).head? = some 120 from rfl)]
  show textS 8 (quote (hexL v.t)) = _
  unfold textS kept
  rw [unq]
  simp only [ne_eq, not_true, or_self, if_false, if_true]
  rw [hu, hv]
  simp only [not_true, if_false]
  rw [if_neg (by omega)]
theorem fits_tv {k : Int} (hk : k = 7 ∨ k = 8) {t : List UInt8} (hl : t.length ≤ 4096) (hb : k = 8 ∨ bad t < 0) : fitsB k (sc (tv k t)) = true := by
  have h1 : isB k = true := by rcases hk with e | e <;> rw [e] <;> rfl
  have h2 : txB k = true := by rcases hk with e | e <;> rw [e] <;> rfl
  unfold fitsB
  rw [h1, h2]
  have hl' : decide (t.length ≤ 4096) = true := decide_eq_true hl
  have hb' : (k == 8 || decide (bad t < 0)) = true := by
    rw [Bool.or_eq_true, beq_iff_eq, decide_eq_true_eq]; exact hb
  rw [show (sc (tv k t)).k = k from rfl, show (sc (tv k t)).b = 0 from rfl, show (sc (tv k t)).t = t from rfl, show loneB (sc (tv k t)) = true from rfl, if_pos rfl, hl', hb']
  simp
theorem norm_tv {k : Int} (hk : ¬ k = 6) (t : List UInt8) : normV (sc (tv k t)) = sc (tv k t) := by
  unfold normV; rw [if_neg (fun e => hk e.1)]
theorem quote_back {l t : List UInt8} {n : Nat} (h : unquote l = (t, n, 0)) (hn : n = l.length) : quote t = l := by
  rcases unquote_cases l with h2 | ⟨t2, n2, h2, _, _, h5⟩
  · rw [h] at h2
    have : (0 : Int) = 2 := congrArg (fun p => p.2.2) h2
    omega
  · rw [h] at h2
    have a : t = t2 := congrArg (fun p => p.1) h2
    have b : n = n2 := congrArg (fun p => p.2.1) h2
    rw [a, h5, ← b, hn, List.take_of_length_le (Nat.le_refl _)]
theorem back_text {l : List UInt8} {X : SV} (h : textS 7 l = (X, 0)) : fitsB 7 (sc X) = true ∧ normV (sc X) = sc X ∧ textV (sc X) = l := by
  unfold textS at h
  cases hu : unquote l with
  | mk t r =>
    obtain ⟨n, e⟩ := r
    rw [hu] at h
    simp only at h
    by_cases c1 : e ≠ 0 ∨ n ≠ l.length
    · rw [if_pos c1] at h; exact (pair_no h (by decide)).elim
    · rw [if_neg c1, if_neg (show ¬ (7 : Int) = 8 by decide)] at h
      have he : e = 0 := Classical.not_not.1 fun a => c1 (.inl a)
      have hn : n = l.length := Classical.not_not.1 fun a => c1 (.inr a)
      by_cases c2 : 0 ≤ bad t
      · rw [if_pos c2] at h; exact (pair_no h (by decide)).elim
      · rw [if_neg c2] at h
        unfold kept at h
        by_cases c3 : 4096 < t.length
        · rw [if_pos c3] at h; exact (pair_no h (by decide)).elim
        · rw [if_neg c3] at h
          have hX : tv 7 t = X := congrArg Prod.fst h
          subst hX
          have hf := fits_tv (k := 7) (.inl rfl) (t := t) (by omega) (.inr (by omega))
          refine ⟨hf, norm_tv (by decide) t, ?_⟩
          unfold textV
          rw [show (sc (tv 7 t)).k = 7 from rfl, hf, if_neg (by simp), if_neg (by decide), if_neg (by decide), if_neg (by decide), if_pos rfl]
          rw [he] at hu
          exact quote_back hu hn
theorem back_bytes {l : List UInt8} {X : SV} (h : bytesS 8 l = (X, 0)) : fitsB 8 (sc X) = true ∧ normV (sc X) = sc X ∧ textV (sc X) = l := by
  unfold bytesS at h
  by_cases hx : l.head? = some 120
  · rw [if_pos hx] at h
    obtain ⟨d, rfl⟩ := head_cons hx
    rw [show (120 :: d : List UInt8).drop 1 = d from rfl] at h
    unfold textS at h
    cases hu : unquote d with
    | mk t r =>
      obtain ⟨n, e⟩ := r
      rw [hu] at h
      simp only at h
      by_cases c1 : e ≠ 0 ∨ n ≠ d.length
      · rw [if_pos c1] at h; exact (pair_no h (by decide)).elim
      · rw [if_neg c1, if_pos trivial] at h
        have he : e = 0 := Classical.not_not.1 fun a => c1 (.inl a)
        have hn : n = d.length := Classical.not_not.1 fun a => c1 (.inr a)
        cases hh : unhexL t with
        | none =>
          have : uhE t ≠ 0 := by unfold uhE; rw [hh]; decide
          rw [if_pos this] at h; exact (pair_no h (by decide)).elim
        | some z =>
          have h1 : uhE t = 0 := by unfold uhE; rw [hh]; rfl
          have h2 : uhT t = z := by unfold uhT; rw [hh]; rfl
          rw [if_neg (by rw [h1]; simp), h2] at h
          unfold kept at h
          by_cases c3 : 4096 < z.length
          · rw [if_pos c3] at h; exact (pair_no h (by decide)).elim
          · rw [if_neg c3] at h
            have hX : tv 8 z = X := congrArg Prod.fst h
            subst hX
            have hf := fits_tv (k := 8) (.inr rfl) (t := z) (by omega) (.inl rfl)
            refine ⟨hf, norm_tv (by decide) z, ?_⟩
            unfold textV
            rw [show (sc (tv 8 z)).k = 8 from rfl, hf, if_neg (by simp), if_neg (by decide), if_neg (by decide), if_neg (by decide), if_neg (by decide), if_pos rfl]
            rw [he] at hu
            have hq := quote_back hu hn
            have hz := hex_unhex t z hh
            show 120 :: quote (hexL z) = 120 :: d
            rw [hz, hq]
  · rw [if_neg hx] at h; exact (pair_no h (by decide)).elim
theorem err_text {k : Int} {l : List UInt8} {X : SV} {e : Int} (h : textS k l = (X, e)) (he : e ≠ 0) : X = zv 0 := by
  unfold textS kept at h
  split at h
  · exact (congrArg Prod.fst h).symm
  · split at h
    · split at h
      · exact (congrArg Prod.fst h).symm
      · split at h
        · exact (congrArg Prod.fst h).symm
        · exact (pair_no h (fun a => he a.symm)).elim
    · split at h
      · exact (congrArg Prod.fst h).symm
      · split at h
        · exact (congrArg Prod.fst h).symm
        · exact (pair_no h (fun a => he a.symm)).elim
theorem err_bytes {l : List UInt8} {X : SV} {e : Int} (h : bytesS 8 l = (X, e)) (he : e ≠ 0) : X = zv 0 := by
  unfold bytesS at h
  split at h
  · exact err_text h he
  · exact (congrArg Prod.fst h).symm
-- doubles
theorem numW_lt : ∀ (k : Nat) (u : List UInt8), u.length = k → k ≤ 8 → numW u < 256 ^ k ∧ be8 k (numW u) = u := by
  intro k
  induction k with
  | zero =>
    intro u hl _
    rw [List.eq_nil_of_length_eq_zero hl]
    exact ⟨by decide, rfl⟩
  | succ k ih =>
    intro u hl hk
    have hne : u ≠ [] := by intro e; rw [e] at hl; simp at hl
    have e := List.dropLast_concat_getLast hne
    obtain ⟨init, hi⟩ : ∃ init, init = u.dropLast := ⟨_, rfl⟩
    obtain ⟨c, hc⟩ : ∃ c, c = u.getLast hne := ⟨_, rfl⟩
    rw [← hi, ← hc] at e
    clear hi hc
    subst e
    have hlen : init.length = k := by rw [List.length_append] at hl; simp at hl; omega
    obtain ⟨i1, i2⟩ := ih init hlen (by omega)
    have hp : 256 ^ k ≤ 256 ^ 7 := Nat.pow_le_pow_right (by decide) (by omega)
    have hcn := c.toNat_lt
    have hw : (256 * numW init + c.toNat) % 18446744073709551616 = 256 * numW init + c.toNat := Nat.mod_eq_of_lt (by omega)
    rw [numW_snoc, hw]
    refine ⟨by rw [Nat.pow_succ]; omega, ?_⟩
    rw [be8, show (256 * numW init + c.toNat) / 256 = numW init by omega, show (256 * numW init + c.toNat) % 256 = c.toNat by omega, i2]
    congr 2
    simp
theorem numW_be : ∀ (k n : Nat), k ≤ 8 → n < 256 ^ k → numW (be8 k n) = n := by
  intro k
  induction k with
  | zero => intro n _ h; rw [show n = 0 by simpa using h]; rfl
  | succ k ih =>
    intro n hk h
    have hp : 256 ^ (k + 1) ≤ 256 ^ 8 := Nat.pow_le_pow_right (by decide) (by omega)
    rw [be8, numW_snoc, ih (n / 256) (by omega) (by rw [Nat.pow_succ] at h; omega), VarM.toNat_ofNat (Nat.mod_lt _ (by decide))]
    omega
theorem hex16_len (b : Nat) : (hex16 b).length = 16 := by
  unfold hex16; rw [hexL_len, be8_len]
theorem cls_nan : clsN nanN = 0 := by decide +kernel
theorem cls_i : clsN infN = 1 := by decide +kernel
theorem cls_ni : clsN (infN + sgnN) = 1 := by decide +kernel
theorem rt_double {v : Sc} (hb : v.b ≤ 18446744073709551615) (h : fitsB 6 v = true) (hn : normV v = v) : doubleS (textV v) = (nv 6 v.b, 0) := by
  obtain ⟨e1, e2, e3, e4, e5, e6, e7⟩ := fits_one rfl h
  have hf : fitsB v.k v = true := by rw [e1]; exact h
  have ht : textV v = if clsN v.b = 0 then nanL else if clsN v.b = 1 then (if sgnN ≤ v.b then ninL else infL) else [48, 120] ++ hex16 v.b := by
    unfold textV
    rw [hf, if_neg (by simp), if_neg (by omega), if_neg (by omega), if_pos e1]; rfl
  rw [ht]
  unfold doubleS
  by_cases c0 : clsN v.b = 0
  · rw [if_pos c0, if_pos rfl]
    have : v.b = nanN := by
      have := congrArg Sc.b hn
      unfold normV at this
      rw [if_pos ⟨e1, c0⟩] at this
      exact this.symm
    rw [this]
  · rw [if_neg c0]
    by_cases c1 : clsN v.b = 1
    · rw [if_pos c1]
      by_cases hs : sgnN ≤ v.b
      · rw [if_pos hs, if_neg (by decide), if_neg (by decide), if_pos rfl, TxtM.cls_ninf c1 hs hb, Nat.add_comm]
      · rw [if_neg hs, if_neg (by decide), if_pos rfl, TxtM.cls_inf c1 hs]
    · rw [if_neg c1]
      have hl : ([48, 120] ++ hex16 v.b : List UInt8).length = 18 := by rw [List.length_append, hex16_len]; rfl
      have n1 : ¬ ([48, 120] ++ hex16 v.b : List UInt8) = nanL := fun e => by rw [e] at hl; exact absurd hl (by decide)
      have n2 : ¬ ([48, 120] ++ hex16 v.b : List UInt8) = infL := fun e => by rw [e] at hl; exact absurd hl (by decide)
      have n3 : ¬ ([48, 120] ++ hex16 v.b : List UInt8) = ninL := fun e => by rw [e] at hl; exact absurd hl (by decide)
      have n4 : ¬ (([48, 120] ++ hex16 v.b : List UInt8).length ≠ 18 ∨ ([48, 120] ++ hex16 v.b : List UInt8).take 2 ≠ [48, 120]) := by
        rintro (e | e)
        · exact e hl
        · exact e rfl
      rw [if_neg n1, if_neg n2, if_neg n3, if_neg n4, show ([48, 120] ++ hex16 v.b : List UInt8).drop 2 = hex16 v.b from rfl]
      have hu : uhE (hex16 v.b) = 0 := by unfold uhE hex16; rw [unhex_hex]; rfl
      have hv : uhT (hex16 v.b) = be8 8 v.b := by unfold uhT hex16; rw [unhex_hex]; rfl
      unfold bitsS
      rw [hu, hv, numW_be 8 v.b (by omega) (by omega), if_neg (by simp)]
      have hc : 2 ≤ clsN v.b := by
        have : clsN v.b = 0 ∨ clsN v.b = 1 ∨ 2 ≤ clsN v.b := by
          unfold clsN
          repeat' split
          all_goals omega
        omega
      rw [if_neg (by omega)]
theorem fits_d (b : Nat) : fitsB 6 (sc (nv 6 b)) = true := by
  unfold fitsB
  rw [show isB 6 = true from rfl, show txB 6 = false from rfl, show (sc (nv 6 b)).k = 6 from rfl, show loneB (sc (nv 6 b)) = true from rfl, show (sc (nv 6 b)).t = [] from rfl, show rgB 6 (sc (nv 6 b)).b = true from rfl]
  rfl
theorem text_d (b : Nat) : textV (sc (nv 6 b)) = if clsN b = 0 then nanL else if clsN b = 1 then (if sgnN ≤ b then ninL else infL) else [48, 120] ++ hex16 b := by
  unfold textV
  rw [show (sc (nv 6 b)).k = 6 from rfl, fits_d, if_neg (by simp), if_neg (by decide), if_neg (by decide), if_pos rfl]; rfl
theorem norm_d {b : Nat} (h : clsN b = 0 → b = nanN) : normV (sc (nv 6 b)) = sc (nv 6 b) := by
  unfold normV
  by_cases c : clsN b = 0
  · rw [if_pos ⟨rfl, c⟩, h c]; rfl
  · rw [if_neg (fun e => c e.2)]
theorem back_double {l : List UInt8} {X : SV} (h : doubleS l = (X, 0)) : fitsB 6 (sc X) = true ∧ normV (sc X) = sc X ∧ textV (sc X) = l := by
  unfold doubleS at h
  by_cases h1 : l = nanL
  · rw [if_pos h1] at h
    have hX : nv 6 nanN = X := congrArg Prod.fst h
    subst hX
    exact ⟨fits_d _, norm_d fun _ => rfl, by rw [text_d, if_pos cls_nan, h1]⟩
  · rw [if_neg h1] at h
    by_cases h2 : l = infL
    · rw [if_pos h2] at h
      have hX : nv 6 infN = X := congrArg Prod.fst h
      subst hX
      exact ⟨fits_d _, norm_d (fun e => by rw [cls_i] at e; cases e), by rw [text_d, cls_i, if_neg (by decide), if_pos rfl, if_neg (by decide), h2]⟩
    · rw [if_neg h2] at h
      by_cases h3 : l = ninL
      · rw [if_pos h3] at h
        have hX : nv 6 (infN + sgnN) = X := congrArg Prod.fst h
        subst hX
        exact ⟨fits_d _, norm_d (fun e => by rw [cls_ni] at e; cases e), by rw [text_d, cls_ni, if_neg (by decide), if_pos rfl, if_pos (by decide), h3]⟩
      · rw [if_neg h3] at h
        by_cases h4 : l.length ≠ 18 ∨ l.take 2 ≠ [48, 120]
        · rw [if_pos h4] at h; exact (pair_no h (by decide)).elim
        · rw [if_neg h4] at h
          have hl : l.length = 18 := Classical.not_not.1 fun a => h4 (.inl a)
          have hx : l.take 2 = [48, 120] := Classical.not_not.1 fun a => h4 (.inr a)
          unfold bitsS at h
          by_cases hu : uhE (l.drop 2) ≠ 0
          · rw [if_pos hu] at h; exact (pair_no h (by decide)).elim
          · rw [if_neg hu] at h
            have hu0 : uhE (l.drop 2) = 0 := Classical.not_not.1 hu
            by_cases hc : clsN (numW (uhT (l.drop 2))) ≤ 1
            · rw [if_pos hc] at h; exact (pair_no h (by decide)).elim
            · rw [if_neg hc] at h
              have hX : nv 6 (numW (uhT (l.drop 2))) = X := congrArg Prod.fst h
              subst hX
              have hul := uh_len hu0
              rw [List.length_drop, hl] at hul
              obtain ⟨_, n2⟩ := numW_lt 8 (uhT (l.drop 2)) (by omega) (by omega)
              have hr : hexL (uhT (l.drop 2)) = l.drop 2 := by
                cases hh : unhexL (l.drop 2) with
                | none => unfold uhE at hu0; rw [hh] at hu0; cases hu0
                | some z =>
                  have : uhT (l.drop 2) = z := by unfold uhT; rw [hh]; rfl
                  rw [this]; exact hex_unhex _ z hh
              refine ⟨fits_d _, norm_d fun e => by rw [e] at hc; exact absurd (by decide) hc, ?_⟩
              rw [text_d, if_neg (by omega), if_neg (by omega)]
              unfold hex16
              rw [n2, hr, ← hx, List.take_append_drop]
theorem err_double {l : List UInt8} {X : SV} {e : Int} (h : doubleS l = (X, e)) (he : e ≠ 0) : X = zv 0 := by
  unfold doubleS at h
  split at h
  · exact (pair_no h (fun a => he a.symm)).elim
  · split at h
    · exact (pair_no h (fun a => he a.symm)).elim
    · split at h
      · exact (pair_no h (fun a => he a.symm)).elim
      · split at h
        · exact (congrArg Prod.fst h).symm
        · unfold bitsS at h
          split at h
          · exact (congrArg Prod.fst h).symm
          · split at h
            · exact (congrArg Prod.fst h).symm
            · exact (pair_no h (fun a => he a.symm)).elim

theorem kinds {k : Int} (h : isB k = true) : k = 1 ∨ (k = 2 ∨ k = 3 ∨ k = 4 ∨ k = 5 ∨ k = 9) ∨ k = 6 ∨ k = 7 ∨ k = 8 := by
  unfold isB at h
  simp only [Bool.and_eq_true, decide_eq_true_eq] at h
  omega
theorem parse_at {k : Int} (l : List UInt8) : (isB k = false → parseS doubleS k l = (zv 0, 1)) ∧ (k = 1 → parseS doubleS k l = boolS 1 l) ∧ ((k = 2 ∨ k = 3 ∨ k = 4 ∨ k = 5 ∨ k = 9) → parseS doubleS k l = wholeS k l) ∧ (k = 6 → parseS doubleS k l = doubleS l) ∧ (k = 7 → parseS doubleS k l = textS 7 l) ∧ (k = 8 → parseS doubleS k l = bytesS 8 l) := by
  refine ⟨fun h => ?_, fun h => ?_, fun h => ?_, fun h => ?_, fun h => ?_, fun h => ?_⟩
  · unfold parseS; rw [if_pos h]
  · subst h; unfold parseS; rw [if_neg (by decide), if_pos rfl]
  · have hb : ¬ isB k = false := by rcases h with e | e | e | e | e <;> rw [e] <;> decide
    unfold parseS; rw [if_neg hb, if_neg (by omega), if_neg (by omega), if_neg (by omega), if_neg (by omega)]
  · subst h; unfold parseS; rw [if_neg (by decide), if_neg (by decide), if_pos rfl]
  · subst h; unfold parseS; rw [if_neg (by decide), if_neg (by decide), if_neg (by decide), if_pos rfl]
  · subst h; unfold parseS; rw [if_neg (by decide), if_neg (by decide), if_neg (by decide), if_neg (by decide), if_pos rfl]
/-- A value in normal form is read again from its text. -/
theorem rt {v : Sc} (hb : v.b ≤ 18446744073709551615) (h : fitsB v.k v = true) (hn : normV v = v) : ∃ X, parseS doubleS v.k (textV v) = (X, 0) ∧ sc X = v := by
  have hi : isB v.k = true := by
    unfold fitsB at h
    simp only [Bool.and_eq_true] at h
    exact h.1.1.1
  obtain ⟨_, p1, p2, p3, p4, p5⟩ := parse_at (k := v.k) (textV v)
  rcases kinds hi with e | e | e | e | e
  · have h' : fitsB 1 v = true := by rw [← e]; exact h
    obtain ⟨a1, a2, a3, a4, a5, a6, _⟩ := fits_one rfl h'
    exact ⟨nv 1 v.b, by rw [p1 e]; exact rt_bool h', sc_nv a1 a2 a3 a4 a5 a6⟩
  · obtain ⟨a1, a2, a3, a4, a5, a6, _⟩ := fits_num e h
    exact ⟨nv v.k v.b, by rw [p2 e]; exact rt_num e hb h, sc_nv a1 a2 a3 a4 a5 a6⟩
  · have h' : fitsB 6 v = true := by rw [← e]; exact h
    obtain ⟨a1, a2, a3, a4, a5, a6, _⟩ := fits_one rfl h'
    exact ⟨nv 6 v.b, by rw [p3 e]; exact rt_double hb h' hn, sc_nv a1 a2 a3 a4 a5 a6⟩
  · have h' : fitsB 7 v = true := by rw [← e]; exact h
    obtain ⟨a1, a2, a3, a4, a5, a6, _⟩ := fits_txt rfl h'
    refine ⟨tv 7 v.t, by rw [p4 e]; exact rt_text h', ?_⟩
    cases v; simp_all [sc, tv]
  · have h' : fitsB 8 v = true := by rw [← e]; exact h
    obtain ⟨a1, a2, a3, a4, a5, a6, _⟩ := fits_txt rfl h'
    refine ⟨tv 8 v.t, by rw [p5 e]; exact rt_bytes h', ?_⟩
    cases v; simp_all [sc, tv]
/-- What is read fits, is in normal form, and has the text that was read. -/
theorem back {k : Int} {l : List UInt8} {X : SV} (h : parseS doubleS k l = (X, 0)) : fitsB k (sc X) = true ∧ normV (sc X) = sc X ∧ textV (sc X) = l := by
  obtain ⟨p0, p1, p2, p3, p4, p5⟩ := parse_at (k := k) l
  cases hi : isB k with
  | false => rw [p0 hi] at h; exact (pair_no h (by decide)).elim
  | true =>
    rcases kinds hi with e | e | e | e | e
    · rw [p1 e] at h; rw [e]; exact back_bool h
    · rw [p2 e] at h; exact back_num e h
    · rw [p3 e] at h; rw [e]; exact back_double h
    · rw [p4 e] at h; rw [e]; exact back_text h
    · rw [p5 e] at h; rw [e]; exact back_bytes h
theorem err {k : Int} {l : List UInt8} {X : SV} {x : Int} (h : parseS doubleS k l = (X, x)) (hx : x ≠ 0) : X = zv 0 := by
  obtain ⟨p0, p1, p2, p3, p4, p5⟩ := parse_at (k := k) l
  cases hi : isB k with
  | false => rw [p0 hi] at h; exact (congrArg Prod.fst h).symm
  | true =>
    rcases kinds hi with e | e | e | e | e
    · rw [p1 e] at h; exact err_bool h hx
    · rw [p2 e] at h; exact err_num h hx
    · rw [p3 e] at h; exact err_double h hx
    · rw [p4 e] at h; exact err_text h hx
    · rw [p5 e] at h; exact err_bytes h hx
end Go.Proofs.YthjpchnogllliaaGreatDoor.RtM
