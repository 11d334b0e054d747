import Derived.Test.YthjpchnogllliaaGreatDoorScpE
import Derived.Test.YthjpchnogllliaaGreatDoorScaX
import Derived.Test.YthjpchnogllliaaGreatDoorUtfL
import Derived.Test.YthjpchnogllliaaGreatDoorUtfA
import Derived.Test.YthjpchnogllliaaGreatDoorDigH
import Derived.Laws.BitsAllLaws
/- Whole numbers in decimal: what the program reads is what the reference reads. Plain mathematics. -/
set_option linter.unusedSimpArgs false
set_option linter.unusedVariables false
namespace Go.Proofs.YthjpchnogllliaaGreatDoor.NumQ
open UtfM UtfQ ScaM ScaV ScaN ScaT ScaW ScpB ScpC ScpD

theorem dropWhile_head {α : Type} (p : α → Bool) : ∀ (l : List α) (a : α) (t : List α), l.dropWhile p = a :: t → p a = false
  | [], a, t, h => by simp at h
  | x :: l, a, t, h => by
    rw [List.dropWhile_cons] at h
    split at h
    · exact dropWhile_head p l a t h
    · rename_i hx
      injection h with h1 h2
      rw [← h1]; simpa using hx
theorem dw_nil {α : Type} (p : α → Bool) (l : List α) : l.dropWhile p = [] ↔ ∀ x ∈ l, p x = true := by
  induction l with
  | nil => simp
  | cons a l ih =>
    rw [List.dropWhile_cons]
    cases h : p a with
    | true => simp [ih, h]
    | false => simp [h]
theorem trim_all (d cs : List UInt8) : (Lib.trimS d cs).isEmpty = d.all (cs.contains ·) := by
  cases h : d.all (cs.contains ·) with
  | true =>
    have h1 : ∀ x ∈ d, cs.contains x = true := List.all_eq_true.1 h
    have h2 : d.reverse.dropWhile (cs.contains ·) = [] := (dw_nil _ _).2 fun x hx => h1 x (List.mem_reverse.1 hx)
    unfold Lib.trimS Lib.trimRightS Lib.trimLeftS
    rw [h2]; rfl
  | false =>
    cases e : (Lib.trimS d cs).isEmpty with
    | false => rfl
    | true =>
      exfalso
      have e1 : (d.reverse.dropWhile (cs.contains ·)).reverse.dropWhile (cs.contains ·) = [] := List.isEmpty_iff.1 e
      have e2 := (dw_nil _ _).1 e1
      cases hd : d.reverse.dropWhile (cs.contains ·) with
      | nil =>
        have e3 := (dw_nil _ _).1 hd
        have : d.all (cs.contains ·) = true := List.all_eq_true.2 fun x hx => e3 x (List.mem_reverse.2 hx)
        rw [h] at this; cases this
      | cons a t =>
        have h1 := dropWhile_head _ _ _ _ hd
        have h2 := e2 a (by rw [hd]; simp)
        rw [h1] at h2; cases h2
theorem digits_isD (c : UInt8) : ScpB.digitsL.contains c = isD c := by
  have : ∀ k : Fin 256, ScpB.digitsL.contains (UInt8.ofNat k.val) = isD (UInt8.ofNat k.val) := by decide +kernel
  have h := this ⟨c.toNat, c.toNat_lt⟩
  simpa using h
theorem trim_digits (d : List UInt8) : (Lib.trimS d ScpB.digitsL).isEmpty = d.all isD := by
  rw [trim_all]
  congr 1
  funext c
  exact digits_isD c
theorem trim_minus (l : List UInt8) : Lib.trimPrefix l [45] = if l.head? = some 45 then l.drop 1 else l := by
  cases l with
  | nil => rfl
  | cons c l =>
    by_cases h : c = 45
    · subst h; simp [Lib.trimPrefix, Lib.hasPrefix]
    · have h2 : ¬ (45 : UInt8) = c := fun e => h e.symm
      simp [Lib.trimPrefix, Lib.hasPrefix, h, h2, List.isPrefixOf]

/-- A number's digits: all of them digits, none too many. -/
def good (l ds : List UInt8) : Prop := ds ≠ [] ∧ ¬ (ds.head? = some 48 ∧ l ≠ [48]) ∧ ds.all isD = true
def dsOf (l : List UInt8) : List UInt8 := if l.head? = some 45 then l.drop 1 else l
theorem dec_good (l : List UInt8) : decB l = true ↔ good l (dsOf l) := by
  unfold decB good dsOf
  rw [trim_minus, trim_digits]
  simp only [Bool.and_eq_true, Bool.not_eq_true', Bool.or_eq_true, beq_iff_eq]
  constructor
  · rintro ⟨⟨h1, h2⟩, h3⟩
    refine ⟨fun e => by rw [e] at h1; simp at h1, fun ⟨h4, h5⟩ => ?_, h2⟩
    rcases h3 with h3 | h3
    · rw [h4] at h3; simp at h3
    · exact h5 h3
  · rintro ⟨h1, h2, h3⟩
    refine ⟨⟨by simpa [List.isEmpty_iff] using h1, h3⟩, ?_⟩
    by_cases h4 : (if l.head? = some 45 then l.drop 1 else l).head? = some 48
    · exact .inr (Classical.not_not.1 fun h5 => h2 ⟨h4, h5⟩)
    · left; simpa using h4
theorem numV_good {l : List UInt8} (h : good l (dsOf l)) : numV l = if 18446744073709551616 ≤ natOf (dsOf l) then (0, false, 6) else (natOf (dsOf l), decide (l.head? = some 45), 0) := by
  obtain ⟨h1, h2, h3⟩ := h
  unfold numV
  unfold dsOf at *
  by_cases hm : l.head? = some 45
  · rw [if_pos hm] at *
    unfold numD
    rw [if_neg (by rintro (e | e | e); exact h1 e; exact h2 e; rw [h3] at e; cases e)]
    simp [hm]
  · rw [if_neg hm] at *
    unfold numD
    rw [if_neg (by rintro (e | e | e); exact h1 e; exact h2 e; rw [h3] at e; cases e)]
    simp [hm]
theorem numV_bad {l : List UInt8} (h : ¬ good l (dsOf l)) : numV l = (0, false, 2) := by
  unfold numV
  unfold good dsOf at h
  by_cases hm : l.head? = some 45
  · rw [if_pos hm] at *
    unfold numD
    rw [if_pos]
    by_cases a : l.drop 1 = []
    · exact .inl a
    · by_cases b : (l.drop 1).head? = some 48 ∧ l ≠ [48]
      · exact .inr (.inl b)
      · right; right
        cases e : (l.drop 1).all isD with
        | false => rfl
        | true => exact absurd ⟨a, b, e⟩ h
  · rw [if_neg hm] at *
    unfold numD
    rw [if_pos]
    by_cases a : l = []
    · exact .inl a
    · by_cases b : l.head? = some 48 ∧ l ≠ [48]
      · exact .inr (.inl b)
      · right; right
        cases e : l.all isD with
        | false => rfl
        | true => exact absurd ⟨a, b, e⟩ h

def stN (a : Nat) (c : UInt8) : Nat := 10 * a + (c.toNat - 48)
def natF (a : Nat) (l : List UInt8) : Nat := l.foldl stN a
theorem natF_nil (a : Nat) : natF a [] = a := by unfold natF; rw [List.foldl_nil]
theorem natF_cons (a : Nat) (c : UInt8) (l : List UInt8) : natF a (c :: l) = natF (stN a c) l := by unfold natF; rw [List.foldl_cons]
theorem natF_of (l : List UInt8) : natOf l = natF 0 l := rfl
theorem stN_eq (a : Nat) (c : UInt8) : stN a c = 10 * a + (c.toNat - 48) := rfl
theorem natF_ge : ∀ (l : List UInt8) (a : Nat), a ≤ natF a l
  | [], a => by rw [natF_nil]; exact Nat.le_refl _
  | c :: l, a => by
    rw [natF_cons]
    have := natF_ge l (stN a c)
    have e := stN_eq a c
    omega
theorem uintM (M : Nat) (hM : M = 18446744073709551615) (l : List UInt8) : ∀ (a : Nat), a ≤ M → l.all isD = true → Lib.parseUintM M a l = if natF a l ≤ M then .ok (natF a l) else .range := by
  induction l with
  | nil =>
    intro a ha _
    rw [natF_nil, if_pos ha, Lib.parseUintM]
  | cons c l ih =>
    intro a ha h
    rw [List.all_cons, Bool.and_eq_true] at h
    obtain ⟨hc, hl⟩ := h
    have hd : 48 ≤ c.toNat ∧ c.toNat ≤ 57 := by simpa [isD] using hc
    have hge := natF_ge l (stN a c)
    have es := stN_eq a c
    rw [Lib.parseUintM, if_pos hd, natF_cons]
    by_cases h1 : 1844674407370955162 ≤ a
    · rw [if_pos h1, if_neg (by omega)]
    · rw [if_neg h1]
      by_cases h2 : M < a * 10 + (c.toNat - 48)
      · rw [if_pos h2, if_neg (by omega)]
      · rw [if_neg h2, Nat.mul_comm a 10, ← es, ih _ (by omega) hl]
theorem uintB {ds : List UInt8} (h1 : ds ≠ []) (h : ds.all isD = true) : Lib.parseUintB 64 ds = if natOf ds ≤ 18446744073709551615 then .ok (natOf ds) else .range := by
  unfold Lib.parseUintB
  have e : natOf ds = natF 0 ds := natF_of ds
  have h2 : (2 : Nat) ^ 64 - 1 = 18446744073709551615 := by decide
  rw [if_neg h1, h2, e]
  exact uintM _ rfl ds 0 (Nat.zero_le _) h
theorem uint_minus (r : List UInt8) : Lib.parseUintB 64 (45 :: r) = Lib.parseUintB 64 [] := by
  have h : Lib.parseUintB 64 (45 :: r) = Lib.parseUintM (2 ^ 64 - 1) 0 (45 :: r) := by unfold Lib.parseUintB; rw [if_neg (by simp)]
  rw [h, Lib.parseUintM, if_neg (by decide)]
  rfl
theorem head_cons {l : List UInt8} {c : UInt8} (h : l.head? = some c) : ∃ r, l = c :: r := by
  cases l with
  | nil => cases h
  | cons a r => injection h with h; subst h; exact ⟨r, rfl⟩
theorem not_plus {c : UInt8} (h : isD c = true) : ¬ (c.toNat = 43 ∨ c.toNat = 45) := by
  have : 48 ≤ c.toNat ∧ c.toNat ≤ 57 := by simpa [isD] using h
  omega
theorem intB_minus {r : List UInt8} (h1 : r ≠ []) (h : r.all isD = true) : Lib.parseIntB 64 (45 :: r) = if natOf r ≤ 9223372036854775808 then .ok (-(natOf r : Int)) else .range := by
  unfold Lib.parseIntB
  simp only [show (45 : UInt8).toNat = 45 from rfl, or_true, if_true, true_and, not_true, false_and, if_false]
  rw [uintB h1 h]
  by_cases h2 : natOf r ≤ 18446744073709551615
  · rw [if_pos h2]
    simp only
    by_cases h3 : natOf r ≤ 9223372036854775808
    · rw [if_pos h3, if_neg (show ¬ 2 ^ (64 - 1) < natOf r by omega)]
    · rw [if_neg h3, if_pos (show 2 ^ (64 - 1) < natOf r by omega)]
  · rw [if_neg h2, if_neg (by omega)]
theorem intB_plain {c : UInt8} {r : List UInt8} (h : (c :: r).all isD = true) : Lib.parseIntB 64 (c :: r) = if natOf (c :: r) < 9223372036854775808 then .ok (natOf (c :: r) : Int) else .range := by
  have hc : isD c = true := by rw [List.all_cons, Bool.and_eq_true] at h; exact h.1
  have hn := not_plus hc
  have h45 : ¬ c.toNat = 45 := fun e => hn (.inr e)
  have e : (if c.toNat = 43 ∨ c.toNat = 45 then r else c :: r) = c :: r := if_neg hn
  unfold Lib.parseIntB
  simp only [e]
  rw [uintB (by simp) h]
  simp only [h45, if_false, not_false_eq_true, true_and, false_and]
  by_cases h2 : natOf (c :: r) ≤ 18446744073709551615
  · rw [if_pos h2]
    simp only
    by_cases h3 : natOf (c :: r) < 9223372036854775808
    · rw [if_pos h3, if_neg (show ¬ 2 ^ (64 - 1) ≤ natOf (c :: r) by omega)]
    · rw [if_neg h3, if_pos (show 2 ^ (64 - 1) ≤ natOf (c :: r) by omega)]
  · rw [if_neg h2, if_neg (by omega)]
/-- What the library's parsers give of a good number. -/
theorem numR_good {k : Int} {l : List UInt8} (h : good l (dsOf l)) : numR k l = if outB k (natOf (dsOf l)) (decide (l.head? = some 45)) = true ∨ 18446744073709551616 ≤ natOf (dsOf l) then none else some (if l.head? = some 45 then negN (natOf (dsOf l)) else natOf (dsOf l)) := by
  obtain ⟨h1, h2, h3⟩ := h
  unfold numR
  by_cases hm : l.head? = some 45
  · obtain ⟨r, rfl⟩ := head_cons hm
    have hds : dsOf (45 :: r) = r := rfl
    rw [hds] at h1 h2 h3 ⊢
    simp only [hm, decide_true, if_true, outB]
    cases hk : sgB k with
    | true =>
      simp only [if_true, Bool.not_true, Bool.false_or, decide_eq_true_eq]
      rw [intB_minus h1 h3]
      by_cases h4 : natOf r ≤ 9223372036854775808
      · rw [if_pos h4, if_neg (by unfold sgnN; omega)]
        simp only [Option.some.injEq]
        unfold negN
        omega
      · rw [if_neg h4, if_pos (by unfold sgnN; omega)]
    | false =>
      simp only [Bool.false_eq_true, if_false, Bool.not_false, Bool.true_or, true_or, if_true]
      rw [uint_minus]
      first | rfl | simp [Lib.parseUintB]
  · have hds : dsOf l = l := by unfold dsOf; rw [if_neg hm]
    rw [hds] at h1 h2 h3 ⊢
    simp only [hm, decide_false, if_false, outB, Bool.false_eq_true]
    cases hk : sgB k with
    | true =>
      simp only [if_true, Bool.true_and, decide_eq_true_eq]
      cases l with
      | nil => exact absurd rfl h1
      | cons c r =>
        rw [intB_plain h3]
        by_cases h4 : natOf (c :: r) < 9223372036854775808
        · rw [if_pos h4, if_neg (by unfold sgnN; omega)]
          simp only [Option.some.injEq]
          omega
        · rw [if_neg h4, if_pos (by unfold sgnN; omega)]
    | false =>
      simp only [Bool.false_eq_true, if_false, Bool.false_and, false_or]
      rw [uintB h1 h3]
      by_cases h4 : natOf l ≤ 18446744073709551615
      · rw [if_pos h4, if_neg (by omega)]
      · rw [if_neg h4, if_pos (by omega)]
theorem fits_nv {k : Int} (hk : k = 2 ∨ k = 3 ∨ k = 4 ∨ k = 5 ∨ k = 9) (n : Nat) : fitsB k (sc (nv k n)) = rgB k n := by
  have h1 : isB k = true := by rcases hk with e | e | e | e | e <;> rw [e] <;> rfl
  have h2 : txB k = false := by rcases hk with e | e | e | e | e <;> rw [e] <;> rfl
  unfold fitsB
  rw [h1, h2]
  simp [sc, nv, loneB]
/-- Numbers: the program's answer is the reference's. -/
theorem fin_whole {k : Int} (hk : k = 2 ∨ k = 3 ∨ k = 4 ∨ k = 5 ∨ k = 9) (l : List UInt8) : finB k (parseN k l) = wholeS k l := by
  by_cases hg : good l (dsOf l)
  · have hd := (dec_good l).2 hg
    unfold parseN wholeS
    rw [hd, if_pos rfl, numR_good hg, numV_good hg]
    by_cases h1 : 18446744073709551616 ≤ natOf (dsOf l)
    · rw [if_pos (.inr h1), if_pos h1]
      simp [finB]
    · rw [if_neg h1]
      simp only [ne_eq, not_true, if_false]
      by_cases h2 : outB k (natOf (dsOf l)) (decide (l.head? = some 45)) = true
      · rw [if_pos (.inl h2), if_pos h2]
        simp [finB]
      · rw [if_neg (by rintro (e | e); exact h2 e; exact h1 e), if_neg h2]
        simp only [decide_eq_true_eq]
        rw [fits_nv hk]
        generalize (if l.head? = some 45 then negN (natOf (dsOf l)) else natOf (dsOf l)) = n
        cases hr : rgB k n with
        | true => simp [finB]
        | false => simp [finB]
  · have hd : decB l = false := by
      cases e : decB l with
      | false => rfl
      | true => exact absurd ((dec_good l).1 e) hg
    unfold parseN wholeS
    rw [hd, numV_bad hg]
    simp [finB]
end Go.Proofs.YthjpchnogllliaaGreatDoor.NumQ

/- The program's parsers of bools, doubles, texts and bytes. -/
set_option linter.unusedSimpArgs false
set_option linter.unusedVariables false
namespace Go.Proofs.YthjpchnogllliaaGreatDoor.PrsP
open Go.RowKit Nums Byt UtfM UtfS UtfQ UtfH ScaM ScaV ScaA ScaB ScaC ScaT ScaW ScaX ScpM ScpA ScpB ScpC ScpD Ld Box

def falseL : List UInt8 := [102, 97, 108, 115, 101]
def trueL : List UInt8 := [116, 114, 117, 101]
theorem ret_up {a b : Int} {x y : Int} (h : a = b) (k : x = y) : Ending.returned (.tuple #[.int .u64 a, .int .i64 x]) = .returned (.tuple #[.int .u64 b, .int .i64 y]) := by rw [h, k]
theorem ret_sp {a b : ByteArray} {x y : Int} (h : a = b) (k : x = y) : Ending.returned (.tuple #[.string a, .int .i64 x]) = .returned (.tuple #[.string b, .int .i64 y]) := by rw [h, k]
theorem eq_yes {s : ByteArray} {l : List UInt8} (h : s.data.toList = l) : (s.toList == l) = true := by rw [ByteArray.toList_eq, h]; exact beq_self_eq_true _
theorem eq_no {s : ByteArray} {l : List UInt8} (h : ¬ s.data.toList = l) : (s.toList == l) = false := by rw [ByteArray.toList_eq]; exact beq_eq_false_iff_ne.2 h

def pbP (l : List UInt8) : Nat × Int := if l = falseL then (0, 0) else if l = trueL then (1, 0) else (0, 2)
set_option maxHeartbeats 2000000 in
set_option maxRecDepth 100000 in
theorem pb_any (s : ByteArray) (w : World) : Calls Tryz.prog 112 #[.string s] w fun e w' => e = .returned (.tuple #[.int .u64 (pbP s.data.toList).1, .int .i64 (pbP s.data.toList).2]) ∧ Below w.heap.size w w' := by
  by_cases h1 : s.data.toList = falseL
  · have hp : Hid (pbP s.data.toList = (0, 0)) := Lib.hid (by unfold pbP; rw [if_pos h1])
    have t1 : (s.toList == [102, 97, 108, 115, 101]) = true := eq_yes h1
    clear h1
    go_enter Tryz.func112, Tryz.ntmps112
    go_wp2
    go_ret2
    exact ⟨ret_up (by rw [hp.out]; rfl) (by rw [hp.out]), Below.refl _ _⟩
  · have t1 : (s.toList == [102, 97, 108, 115, 101]) = false := eq_no h1
    by_cases h2 : s.data.toList = trueL
    · have hp : Hid (pbP s.data.toList = (1, 0)) := Lib.hid (by unfold pbP; rw [if_neg h1, if_pos h2])
      have t2 : (s.toList == [116, 114, 117, 101]) = true := eq_yes h2
      clear h1 h2
      go_enter Tryz.func112, Tryz.ntmps112
      go_wp2
      go_ret2
      exact ⟨ret_up (by rw [hp.out]; rfl) (by rw [hp.out]), Below.refl _ _⟩
    · have hp : Hid (pbP s.data.toList = (0, 2)) := Lib.hid (by unfold pbP; rw [if_neg h1, if_neg h2])
      have t2 : (s.toList == [116, 114, 117, 101]) = false := eq_no h2
      clear h1 h2
      go_enter Tryz.func112, Tryz.ntmps112
      go_wp2
      go_ret2
      exact ⟨ret_up (by rw [hp.out]; rfl) (by rw [hp.out]), Below.refl _ _⟩

def ptP (l : List UInt8) : ByteArray × Int :=
  if (unquote l).2.2 ≠ 0 ∨ (unquote l).2.1 ≠ l.length then (⟨#[]⟩, 2) else if 0 ≤ bad (unquote l).1 then (⟨#[]⟩, 7) else if 4096 < (unquote l).1.length then (⟨#[]⟩, 3) else (⟨(unquote l).1.toArray⟩, 0)
set_option maxHeartbeats 2000000 in
set_option maxRecDepth 100000 in
theorem pt_any (s : ByteArray) (hs : s.size ≤ 35184372088000) (w : World) : Calls Tryz.prog 115 #[.string s] w fun e w' => e = .returned (.tuple #[.string (ptP s.data.toList).1, .int .i64 (ptP s.data.toList).2]) ∧ Below w.heap.size w w' := by
  have HU := fun w => UtfE.unquote_any s hs w
  have hlen := unquote_len s.data.toList
  have hl : s.data.toList.length = s.size := rfl
  have hp : ∀ r, ptP s.data.toList = r ↔ (if (unquote s.data.toList).2.2 ≠ 0 ∨ (unquote s.data.toList).2.1 ≠ s.size then ((⟨#[]⟩, 2) : ByteArray × Int) else if 0 ≤ bad (unquote s.data.toList).1 then (⟨#[]⟩, 7) else if 4096 < (unquote s.data.toList).1.length then (⟨#[]⟩, 3) else (⟨(unquote s.data.toList).1.toArray⟩, 0)) = r := by intro r; unfold ptP; rw [hl]
  generalize unquote s.data.toList = U at *
  obtain ⟨T, n, e⟩ := U
  simp only at HU hp hlen
  have HU := Lib.hid HU
  obtain ⟨t, ht⟩ : ∃ t : ByteArray, t = ⟨T.toArray⟩ := ⟨_, rfl⟩
  rw [← ht] at HU hp
  have htl : t.data.toList = T := by rw [ht]
  have hts : t.size = T.length := by rw [ht, size_mk]
  have HV := fun w => UtfA.valid_any t (by omega) w
  rw [htl] at HV
  have HV := Lib.hid HV
  clear ht htl
  generalize ptP s.data.toList = R at *
  cases e1 : (e != 0) with
  | true =>
    have he : e ≠ 0 := by simpa using e1
    have hr := Lib.hid ((hp R).1 rfl)
    rw [if_pos (.inl he)] at hr
    clear hp he
    go_enter Tryz.func115, Tryz.ntmps115
    go_wp2_with (first | (go_at_call 88; refine (HU.out _).mono ?_; rintro _ w1 ⟨rfl, hb1⟩))
    go_ret2
    exact ⟨ret_sp (by rw [← hr.out]) (by rw [← hr.out]), hb1⟩
  | false =>
    have he : e = 0 := by simpa using e1
    by_cases h2 : n = s.size
    · have n1 : ((n : Int) != (s.size : Int)) = false := by simp [h2]
      cases h3 : decide (bad T < 0) with
      | false =>
        have hb : 0 ≤ bad T := by have := of_decide_eq_false h3; omega
        have hr := Lib.hid ((hp R).1 rfl)
        rw [if_neg (by simp [he, h2]), if_pos hb] at hr
        rw [h3] at HV
        clear hp he h2 h3 hb
        go_enter Tryz.func115, Tryz.ntmps115
        go_wp2_with (first | (go_at_call 88; refine (HU.out _).mono ?_; rintro _ w1 ⟨rfl, hb1⟩) | (go_at_call 36; refine (HV.out _).mono ?_; rintro _ w2 ⟨rfl, hb2⟩))
        go_ret2
        exact ⟨ret_sp (by rw [← hr.out]) (by rw [← hr.out]), bt hb1 hb2⟩
      | true =>
        have hb : ¬ 0 ≤ bad T := by have := of_decide_eq_true h3; omega
        have hr := Lib.hid ((hp R).1 rfl)
        rw [if_neg (by simp [he, h2]), if_neg hb] at hr
        rw [h3] at HV
        by_cases h4 : 4096 < T.length
        · rw [if_pos h4] at hr
          have h4' : 4096 < (t.size : Int) := by omega
          clear hp he h2 h3 hb h4
          go_enter Tryz.func115, Tryz.ntmps115
          go_wp2_with (first | (go_at_call 88; refine (HU.out _).mono ?_; rintro _ w1 ⟨rfl, hb1⟩) | (go_at_call 36; refine (HV.out _).mono ?_; rintro _ w2 ⟨rfl, hb2⟩))
          go_ret2
          exact ⟨ret_sp (by rw [← hr.out]) (by rw [← hr.out]), bt hb1 hb2⟩
        · rw [if_neg h4] at hr
          have h4' : ¬ 4096 < (t.size : Int) := by omega
          clear hp he h2 h3 hb h4
          go_enter Tryz.func115, Tryz.ntmps115
          go_wp2_with (first | (go_at_call 88; refine (HU.out _).mono ?_; rintro _ w1 ⟨rfl, hb1⟩) | (go_at_call 36; refine (HV.out _).mono ?_; rintro _ w2 ⟨rfl, hb2⟩))
          go_ret2
          exact ⟨ret_sp (by rw [← hr.out]) (by rw [← hr.out]), bt hb1 hb2⟩
    · have n1 : ((n : Int) != (s.size : Int)) = true := by simp; omega
      have hr := Lib.hid ((hp R).1 rfl)
      rw [if_pos (.inr h2)] at hr
      clear hp he h2
      go_enter Tryz.func115, Tryz.ntmps115
      go_wp2_with (first | (go_at_call 88; refine (HU.out _).mono ?_; rintro _ w1 ⟨rfl, hb1⟩))
      go_ret2
      exact ⟨ret_sp (by rw [← hr.out]) (by rw [← hr.out]), hb1⟩
def pyP (l : List UInt8) : ByteArray × Int :=
  if Lib.hasPrefix l [120] = false ∨ (unquote (Lib.trimPrefix l [120])).2.2 ≠ 0 ∨ (unquote (Lib.trimPrefix l [120])).2.1 ≠ (Lib.trimPrefix l [120]).length then (⟨#[]⟩, 2)
  else if uhE (unquote (Lib.trimPrefix l [120])).1 ≠ 0 then (⟨#[]⟩, 2) else if 4096 < (uhT (unquote (Lib.trimPrefix l [120])).1).length then (⟨#[]⟩, 3) else (⟨(uhT (unquote (Lib.trimPrefix l [120])).1).toArray⟩, 0)
theorem trim_le (l p : List UInt8) : (Lib.trimPrefix l p).length ≤ l.length := by
  unfold Lib.trimPrefix
  split
  · rw [List.length_drop]; omega
  · exact Nat.le_refl _
set_option maxHeartbeats 2000000 in
set_option maxRecDepth 100000 in
theorem py_any (s : ByteArray) (hs : s.size ≤ 35184372088000) (w : World) : Calls Tryz.prog 116 #[.string s] w fun e w' => e = .returned (.tuple #[.string (pyP s.data.toList).1, .int .i64 (pyP s.data.toList).2]) ∧ Below w.heap.size w w' := by
  have hl : s.data.toList.length = s.size := rfl
  have hC := fun w => (Tryz.strings_CutPrefix s ⟨#[120]⟩ w).mono fun _ _ ⟨h1, h2⟩ => And.intro h1 h2.symm
  have hp : ∀ r, pyP s.data.toList = r → pyP s.data.toList = r := fun r h => h
  have htr := trim_le s.data.toList [120]
  unfold pyP at hp ⊢
  simp only [show (⟨#[120]⟩ : ByteArray).data.toList = [120] from rfl] at hC
  obtain ⟨q, hq⟩ : ∃ q : ByteArray, q = ⟨(Lib.trimPrefix s.data.toList [120]).toArray⟩ := ⟨_, rfl⟩
  have hql : Lib.trimPrefix s.data.toList [120] = q.data.toList := by rw [hq]
  have hqs : q.data.toList.length = q.size := rfl
  rw [← hq] at hC
  rw [hql] at htr ⊢
  rw [hqs] at htr ⊢
  have HC := Lib.hid hC
  have HU := fun w => UtfE.unquote_any q (by omega) w
  have hlen := unquote_len q.data.toList
  generalize unquote q.data.toList = U at *
  obtain ⟨T, n, e⟩ := U
  simp only at HU hlen ⊢
  have HU := Lib.hid HU
  obtain ⟨t, ht⟩ : ∃ t : ByteArray, t = ⟨T.toArray⟩ := ⟨_, rfl⟩
  rw [← ht] at HU
  have htl : t.data.toList = T := by rw [ht]
  have hts : t.size = T.length := by rw [ht, size_mk]
  have hX := fun w => UtfH.unhex_any t (by omega) w
  rw [htl] at hX
  obtain ⟨z, hz⟩ : ∃ z : ByteArray, z = ⟨(uhT T).toArray⟩ := ⟨_, rfl⟩
  have hzs : z.size = (uhT T).length := by rw [hz, size_mk]
  rw [← hz] at hX ⊢
  rw [← hzs]
  have HX := Lib.hid hX
  generalize Lib.hasPrefix s.data.toList [120] = fd at *
  generalize uhE T = ue at *
  obtain ⟨R, hR⟩ : ∃ R : ByteArray × Int, (if fd = false ∨ e ≠ 0 ∨ n ≠ q.size then ((⟨#[]⟩, 2) : ByteArray × Int) else if ue ≠ 0 then (⟨#[]⟩, 2) else if 4096 < z.size then (⟨#[]⟩, 3) else (z, 0)) = R := ⟨_, rfl⟩
  rw [hR]
  clear hp hq hql ht htl hz hX hC htr hl
  cases fd with
  | false =>
    have hr := Lib.hid ((if_pos (.inl rfl)).symm.trans hR)
    clear hR
    go_enter Tryz.func116, Tryz.ntmps116
    go_wp2_with (first | (go_at_call 142; refine (HC.out _).mono ?_; rintro _ w0 ⟨rfl, rfl⟩) | (go_at_call 88; refine (HU.out _).mono ?_; rintro _ w1 ⟨rfl, hb1⟩))
    go_ret2
    exact ⟨ret_sp (by rw [← hr.out]) (by rw [← hr.out]), hb1⟩
  | true =>
    cases e1 : (e != 0) with
    | true =>
      have he : e ≠ 0 := by simpa using e1
      have hr := Lib.hid ((if_pos (.inr (.inl he))).symm.trans hR)
      clear he
      clear hR
      go_enter Tryz.func116, Tryz.ntmps116
      go_wp2_with (first | (go_at_call 142; refine (HC.out _).mono ?_; rintro _ w0 ⟨rfl, rfl⟩) | (go_at_call 88; refine (HU.out _).mono ?_; rintro _ w1 ⟨rfl, hb1⟩))
      go_ret2
      exact ⟨ret_sp (by rw [← hr.out]) (by rw [← hr.out]), hb1⟩
    | false =>
      have he : e = 0 := by simpa using e1
      by_cases h2 : n = q.size
      · have n1 : ((n : Int) != (q.size : Int)) = false := by simp [h2]
        have hR2 := (if_neg (show ¬ (true = false ∨ e ≠ 0 ∨ n ≠ q.size) by simp [he, h2])).symm.trans hR
        cases e3 : (ue != 0) with
        | true =>
          have hu : ue ≠ 0 := by simpa using e3
          have hr := Lib.hid ((if_pos hu).symm.trans hR2)
          clear hR hR2 hu h2 he
          go_enter Tryz.func116, Tryz.ntmps116
          go_wp2_with (first | (go_at_call 142; refine (HC.out _).mono ?_; rintro _ w0 ⟨rfl, rfl⟩) | (go_at_call 88; refine (HU.out _).mono ?_; rintro _ w1 ⟨rfl, hb1⟩) | (go_at_call 143; refine (HX.out _).mono ?_; rintro _ w2 ⟨rfl, hb2⟩))
          go_ret2
          exact ⟨ret_sp (by rw [← hr.out]) (by rw [← hr.out]), bt hb1 hb2⟩
        | false =>
          have hu : ue = 0 := by simpa using e3
          have hR3 := (if_neg (show ¬ ue ≠ 0 by simp [hu])).symm.trans hR2
          by_cases h4 : 4096 < z.size
          · have hr := Lib.hid ((if_pos h4).symm.trans hR3)
            have h4' : 4096 < (z.size : Int) := by omega
            clear hR hR2 hR3 hu h2 he h4
            go_enter Tryz.func116, Tryz.ntmps116
            go_wp2_with (first | (go_at_call 142; refine (HC.out _).mono ?_; rintro _ w0 ⟨rfl, rfl⟩) | (go_at_call 88; refine (HU.out _).mono ?_; rintro _ w1 ⟨rfl, hb1⟩) | (go_at_call 143; refine (HX.out _).mono ?_; rintro _ w2 ⟨rfl, hb2⟩))
            go_ret2
            exact ⟨ret_sp (by rw [← hr.out]) (by rw [← hr.out]), bt hb1 hb2⟩
          · have hr := Lib.hid ((if_neg h4).symm.trans hR3)
            have h4' : ¬ 4096 < (z.size : Int) := by omega
            clear hR hR2 hR3 hu h2 he h4
            go_enter Tryz.func116, Tryz.ntmps116
            go_wp2_with (first | (go_at_call 142; refine (HC.out _).mono ?_; rintro _ w0 ⟨rfl, rfl⟩) | (go_at_call 88; refine (HU.out _).mono ?_; rintro _ w1 ⟨rfl, hb1⟩) | (go_at_call 143; refine (HX.out _).mono ?_; rintro _ w2 ⟨rfl, hb2⟩))
            go_ret2
            exact ⟨ret_sp (by rw [← hr.out]) (by rw [← hr.out]), bt hb1 hb2⟩
      · have n1 : ((n : Int) != (q.size : Int)) = true := by simp; omega
        have hr := Lib.hid ((if_pos (.inr (.inr h2))).symm.trans hR)
        clear hR h2 he
        go_enter Tryz.func116, Tryz.ntmps116
        go_wp2_with (first | (go_at_call 142; refine (HC.out _).mono ?_; rintro _ w0 ⟨rfl, rfl⟩) | (go_at_call 88; refine (HU.out _).mono ?_; rintro _ w1 ⟨rfl, hb1⟩))
        go_ret2
        exact ⟨ret_sp (by rw [← hr.out]) (by rw [← hr.out]), hb1⟩
def pdP (l : List UInt8) : Nat × Int :=
  if l = nanL then (nanN, 0) else if l = infL then (infN, 0) else if l = ninL then (infN + sgnN, 0)
  else if Lib.hasPrefix l [48, 120] = false ∨ uhE (Lib.trimPrefix l [48, 120]) ≠ 0 ∨ (uhT (Lib.trimPrefix l [48, 120])).length ≠ 8 then (0, 2)
  else if clsN (numW (uhT (Lib.trimPrefix l [48, 120]))) ≤ 1 then (0, 2) else (numW (uhT (Lib.trimPrefix l [48, 120])), 0)
theorem numW_le (l : List UInt8) : numW l ≤ 18446744073709551615 := by
  unfold numW
  suffices h : ∀ (l : List UInt8) (a : Nat), a ≤ 18446744073709551615 → l.foldl (fun a c => (256 * a + c.toNat) % 18446744073709551616) a ≤ 18446744073709551615 from h l 0 (by omega)
  intro l
  induction l with
  | nil => intro a h; exact h
  | cons c l ih => intro a h; rw [List.foldl_cons]; exact ih _ (by omega)
/-- A byte pushed in from below. -/
theorem push8 (a : Nat) (c : UInt8) : bits BinOp.or .u64 (IntKind.u64.wrap ((a : Int) * 256)) (c.toNat : Int) = (((256 * a + c.toNat) % 18446744073709551616 : Nat) : Int) := by
  have hc := c.toNat_lt
  have e : IntKind.u64.wrap ((a : Int) * 256) = ((256 * (a % 72057594037927936) : Nat) : Int) := by rw [IntKind.wrap_u64]; omega
  rw [e, u64_or_nat _ _ (by omega) (by omega)]
  have h := Nat.two_pow_add_eq_or_of_lt (i := 8) (b := c.toNat) hc (a % 72057594037927936)
  rw [show (2 : Nat) ^ 8 = 256 from rfl] at h
  rw [← h]
  congr 1
  omega
theorem num_step (z : ByteArray) (k : Nat) (h : k < z.size) : numW (z.data.toList.take (k + 1)) = (256 * numW (z.data.toList.take k) + z[k].toNat) % 18446744073709551616 := by
  rw [FixM.take_snoc z k h, numW_snoc]
set_option maxHeartbeats 2000000 in
set_option maxRecDepth 100000 in
theorem pd_any (s : ByteArray) (hs : s.size ≤ 35184372088000) (w : World) : Calls Tryz.prog 114 #[.string s] w fun e w' => e = .returned (.tuple #[.int .u64 (pdP s.data.toList).1, .int .i64 (pdP s.data.toList).2]) ∧ Below w.heap.size w w' := by
  by_cases h1 : s.data.toList = nanL
  · have hp : Hid (pdP s.data.toList = (nanN, 0)) := Lib.hid (by unfold pdP; rw [if_pos h1])
    have t1 : (s.toList == [110, 97, 110]) = true := eq_yes h1
    clear h1
    go_enter Tryz.func114, Tryz.ntmps114
    go_wp2
    go_ret2
    exact ⟨ret_up (by rw [hp.out]; rfl) (by rw [hp.out]), Below.refl _ _⟩
  have t1 : (s.toList == [110, 97, 110]) = false := eq_no h1
  by_cases h2 : s.data.toList = infL
  · have hp : Hid (pdP s.data.toList = (infN, 0)) := Lib.hid (by unfold pdP; rw [if_neg h1, if_pos h2])
    have t2 : (s.toList == [105, 110, 102]) = true := eq_yes h2
    clear h1 h2
    go_enter Tryz.func114, Tryz.ntmps114
    go_wp2
    go_ret2
    exact ⟨ret_up (by rw [hp.out]; rfl) (by rw [hp.out]), Below.refl _ _⟩
  have t2 : (s.toList == [105, 110, 102]) = false := eq_no h2
  by_cases h3 : s.data.toList = ninL
  · have hp : Hid (pdP s.data.toList = (infN + sgnN, 0)) := Lib.hid (by unfold pdP; rw [if_neg h1, if_neg h2, if_pos h3])
    have t3 : (s.toList == [45, 105, 110, 102]) = true := eq_yes h3
    clear h1 h2 h3
    go_enter Tryz.func114, Tryz.ntmps114
    go_wp2
    go_ret2
    exact ⟨ret_up (by rw [hp.out]; rfl) (by rw [hp.out]), Below.refl _ _⟩
  have t3 : (s.toList == [45, 105, 110, 102]) = false := eq_no h3
  have hC := fun w => (Tryz.strings_CutPrefix s ⟨#[48, 120]⟩ w).mono fun _ _ ⟨h1, h2⟩ => And.intro h1 h2.symm
  have htr := trim_le s.data.toList [48, 120]
  have hl : s.data.toList.length = s.size := rfl
  unfold pdP
  rw [if_neg h1, if_neg h2, if_neg h3]
  simp only [show (⟨#[48, 120]⟩ : ByteArray).data.toList = [48, 120] from rfl] at hC
  clear h1 h2 h3
  obtain ⟨q, hq⟩ : ∃ q : ByteArray, q = ⟨(Lib.trimPrefix s.data.toList [48, 120]).toArray⟩ := ⟨_, rfl⟩
  have hql : Lib.trimPrefix s.data.toList [48, 120] = q.data.toList := by rw [hq]
  have hqs : q.data.toList.length = q.size := rfl
  rw [← hq] at hC
  rw [hql] at htr ⊢
  rw [hqs] at htr
  have HC := Lib.hid hC
  have hX := fun w => UtfH.unhex_any q (by omega) w
  obtain ⟨z, hz⟩ : ∃ z : ByteArray, z = ⟨(uhT q.data.toList).toArray⟩ := ⟨_, rfl⟩
  have hzl : uhT q.data.toList = z.data.toList := by rw [hz]
  have hzs : z.data.toList.length = z.size := rfl
  rw [← hz] at hX
  rw [hzl, hzs]
  have HX := Lib.hid hX
  generalize Lib.hasPrefix s.data.toList [48, 120] = fd at *
  generalize uhE q.data.toList = ue at *
  obtain ⟨R, hR⟩ : ∃ R : Nat × Int, (if fd = false ∨ ue ≠ 0 ∨ z.size ≠ 8 then ((0, 2) : Nat × Int) else if clsN (numW z.data.toList) ≤ 1 then (0, 2) else (numW z.data.toList, 0)) = R := ⟨_, rfl⟩
  rw [hR]
  clear hq hql hz hzl hX hC htr hl hqs
  cases fd with
  | false =>
    have hr := Lib.hid ((if_pos (.inl rfl)).symm.trans hR)
    clear hR
    go_enter Tryz.func114, Tryz.ntmps114
    go_wp2_with (first | (go_at_call 142; refine (HC.out _).mono ?_; rintro _ w0 ⟨rfl, rfl⟩) | (go_at_call 143; refine (HX.out _).mono ?_; rintro _ w1 ⟨rfl, hb1⟩))
    go_ret2
    exact ⟨ret_up (by rw [← hr.out]; rfl) (by rw [← hr.out]), hb1⟩
  | true =>
    cases e1 : (ue != 0) with
    | true =>
      have he : ue ≠ 0 := by simpa using e1
      have hr := Lib.hid ((if_pos (.inr (.inl he))).symm.trans hR)
      clear hR he
      go_enter Tryz.func114, Tryz.ntmps114
      go_wp2_with (first | (go_at_call 142; refine (HC.out _).mono ?_; rintro _ w0 ⟨rfl, rfl⟩) | (go_at_call 143; refine (HX.out _).mono ?_; rintro _ w1 ⟨rfl, hb1⟩))
      go_ret2
      exact ⟨ret_up (by rw [← hr.out]; rfl) (by rw [← hr.out]), hb1⟩
    | false =>
      have he : ue = 0 := by simpa using e1
      by_cases h8 : z.size = 8
      · have hR2 := (if_neg (show ¬ (true = false ∨ ue ≠ 0 ∨ z.size ≠ 8) by simp [he, h8])).symm.trans hR
        have hz8 : ((z.size : Int) != 8) = false := by simp [h8]
        have hz8i : (z.size : Int) = 8 := by omega
        obtain ⟨M, hM⟩ : ∃ M, numW z.data.toList = M := ⟨_, rfl⟩
        have hMle : M ≤ 18446744073709551615 := by rw [← hM]; exact numW_le _
        have HK := Lib.hid fun w => class_p M hMle w
        have HS : Hid (∀ k (h : k < z.size), numW (z.data.toList.take (k + 1)) = (256 * numW (z.data.toList.take k) + z[k].toNat) % 18446744073709551616) := Lib.hid (num_step z)
        have HE : Hid (numW (z.data.toList.take 8) = M) := Lib.hid (by rw [← hM, List.take_of_length_le (by rw [hzs]; omega)])
        rw [hM] at hR2
        have HR := Lib.hid hR2
        clear hR hR2 he hM hzs
        go_enter Tryz.func114, Tryz.ntmps114
        go_wp2_with (first | (go_at_call 142; refine (HC.out _).mono ?_; rintro _ w0 ⟨rfl, rfl⟩) | (go_at_call 143; refine (HX.out _).mono ?_; rintro _ w1 ⟨rfl, hb1⟩))
        go_loop [8, 41] (fun u i => ∃ k m : Nat, k ≤ 8 ∧ i = .int .i64 k ∧ u = .int .u64 m ∧ Hid (m = numW (z.data.toList.take k))) (fun _ i => 8 - (intOf i).toNat)
        case atStart => exact ⟨0, 0, by omega, rfl, rfl, Lib.hid rfl⟩
        case round =>
          obtain ⟨k, m, hk, rfl, rfl, hm⟩ := hrel
          by_cases hlt : k < 8
          · have hkz : k < z.size := by omega
            have hop := push8 m z[k]
            have hn : Hid ((256 * m + z[k].toNat) % 18446744073709551616 = numW (z.data.toList.take (k + 1))) := Lib.hid (by rw [HS.out k hkz, hm.out])
            have hc1 : (z[k].toNat : Int) < 256 := by have := z[k].toNat_lt; omega
            have hkzi : (k : Int) < z.size := by omega
            generalize (256 * m + z[k].toNat) % 18446744073709551616 = m' at *
            clear hm HS HE HR HK
            go_wp2_with (simp only [hop])
            go_round
            case rel => exact ⟨k + 1, m', by omega, by go_num, rfl, hn⟩
            case measure => simp [intOf]; omega
          · obtain rfl : k = 8 := by omega
            obtain rfl : m = M := by rw [hm.out, HE.out]
            clear hm HS HE
            have hcl : clsN m = 0 ∨ clsN m = 1 ∨ 2 ≤ clsN m := by
              unfold clsN
              repeat' split
              all_goals omega
            rcases hcl with hc | hc | hc
            · have hr := Lib.hid ((if_pos (show clsN m ≤ 1 by omega)).symm.trans HR.out)
              rw [hc] at HK
              clear HR hc
              go_wp2_with (first | (go_at_call 73; refine (HK.out _).mono ?_; rintro _ w2 ⟨rfl, rfl⟩))
              go_ret2
              exact ⟨ret_up (by rw [← hr.out]; rfl) (by rw [← hr.out]), hb1⟩
            · have hr := Lib.hid ((if_pos (show clsN m ≤ 1 by omega)).symm.trans HR.out)
              rw [hc] at HK
              clear HR hc
              go_wp2_with (first | (go_at_call 73; refine (HK.out _).mono ?_; rintro _ w2 ⟨rfl, rfl⟩))
              go_ret2
              exact ⟨ret_up (by rw [← hr.out]; rfl) (by rw [← hr.out]), hb1⟩
            · have hr := Lib.hid ((if_neg (show ¬ clsN m ≤ 1 by omega)).symm.trans HR.out)
              obtain ⟨c, hcc⟩ : ∃ c, clsN m = c := ⟨_, rfl⟩
              rw [hcc] at HK hc
              have c0 : (c == 0) = false := by rw [beq_eq_false_iff_ne]; omega
              have c1 : (c == 1) = false := by rw [beq_eq_false_iff_ne]; omega
              clear HR hcc
              go_wp2_with (first | (go_at_call 73; refine (HK.out _).mono ?_; rintro _ w2 ⟨rfl, rfl⟩))
              go_ret2
              exact ⟨ret_up (by rw [← hr.out]) (by rw [← hr.out]), hb1⟩
      · have hz8 : ((z.size : Int) != 8) = true := by simp; omega
        have hr := Lib.hid ((if_pos (.inr (.inr h8))).symm.trans hR)
        clear hR he h8
        go_enter Tryz.func114, Tryz.ntmps114
        go_wp2_with (first | (go_at_call 142; refine (HC.out _).mono ?_; rintro _ w0 ⟨rfl, rfl⟩) | (go_at_call 143; refine (HX.out _).mono ?_; rintro _ w1 ⟨rfl, hb1⟩))
        go_ret2
        exact ⟨ret_up (by rw [← hr.out]; rfl) (by rw [← hr.out]), hb1⟩

def tvB (k : Int) (b : ByteArray) : SV := ⟨k, 0, b, none, 0, 0, none, 0, 0, none, 0, 0, none, 0, 0⟩
def finT (k : Int) (r : ByteArray × Int) : SV × Int := if r.2 = 0 then (tvB k r.1, 0) else (zv 0, r.2)

set_option maxHeartbeats 2000000 in
set_option maxRecDepth 100000 in
theorem parse_1b (s : ByteArray) (w : World) (hL : Ld w) : Calls Tryz.prog 89 #[.int .i64 1, .string s] w fun e w' => e = .returned (.tuple #[vv (finB 1 (pbP s.data.toList)).1, .int .i64 (finB 1 (pbP s.data.toList)).2]) ∧ Below w.heap.size w w' := by
  have D := Lib.hid fun w (_ : Ld w) => pb_any s w
  generalize pbP s.data.toList = r at *
  obtain ⟨b, e⟩ := r
  simp only [] at D
  cases he : (e != 0) with
  | true =>
    have hf : finB 1 (b, e) = (zv 0, e) := by unfold finB; rw [if_neg (by simpa using he)]
    rw [hf]
    clear hf
    go_enter Tryz.func89, Tryz.ntmps89
    go_wp2_with fail
    refine (zero_p 1 _).mono ?_
    rintro _ w1 ⟨rfl, hb1⟩
    have B1 := (b7_new w (.int .i64 0) (.int .u64 0) (.string ⟨#[]⟩) (.slice none 0 0) (.slice none 0 0) (.slice none 0 0) (.slice none 0 0) 42).below hb1
    have hL1 := (hL.below (below_box w _)).below hb1
    have hbw := bt (below_box w _) hb1
    have hlt := Nat.lt_of_lt_of_le (show w.heap.size < (w.alloc (.cells #[.int .i64 0, .int .u64 0, .string ⟨#[]⟩, .slice none 0 0, .slice none 0 0, .slice none 0 0, .slice none 0 0] 42)).heap.size by simp) hb1.size
    have hne : w.heap.size ≠ w1.heap.size := by omega
    have hne' : w1.heap.size ≠ w.heap.size := by omega
    clear hb1
    rw [show vv (zeroS 1) = .agg #[.int .i64 1, .int .u64 0, .string ⟨#[]⟩, .slice none 0 0, .slice none 0 0, .slice none 0 0, .slice none 0 0] from rfl]
    go_wp2_with fail
    refine (D.out _ (hL1.below (below_box _ _))).mono ?_
    rintro _ w2 ⟨rfl, hb2⟩
    obtain ⟨lt0, p0, p1, p2, p3, p4, p5, p6, pf⟩ := (B1.alloc _).below hb2
    obtain ⟨lt1, q0, q1, q2, q3, q4, q5, q6, qf⟩ := (b7_new w1 (.int .i64 1) (.int .u64 0) (.string ⟨#[]⟩) (.slice none 0 0) (.slice none 0 0) (.slice none 0 0) (.slice none 0 0) 42).below hb2
    have hbz := bt (bt hbw (below_box _ _)) hb2
    have hle := hbw.size
    clear hb2 hL1 hL D B1 hbw
    go_wp2_with fail
    exact bodyPost_ret (v := .tuple #[.agg #[.int .i64 0, .int .u64 0, .string ⟨#[]⟩, .slice none 0 0, .slice none 0 0, .slice none 0 0, .slice none 0 0], .int .i64 e]) (by simp [results, Tryz.results89, go_sem, p0, p1, p2, p3, p4, p5, p6, hne, hne']) rfl ⟨rfl, below7 (hbz.setCell hle _) (Nat.le_refl _) _ _ _ _ _ _ _⟩
  | false =>
    have h0 : e = 0 := by simpa using he
    subst h0
    have hf : finB 1 (b, 0) = (nv 1 b, 0) := by unfold finB; rw [if_pos rfl]
    rw [hf]
    clear hf he
    go_enter Tryz.func89, Tryz.ntmps89
    go_wp2_with fail
    refine (zero_p 1 _).mono ?_
    rintro _ w1 ⟨rfl, hb1⟩
    have B1 := (b7_new w (.int .i64 0) (.int .u64 0) (.string ⟨#[]⟩) (.slice none 0 0) (.slice none 0 0) (.slice none 0 0) (.slice none 0 0) 42).below hb1
    have hL1 := (hL.below (below_box w _)).below hb1
    have hbw := bt (below_box w _) hb1
    have hlt := Nat.lt_of_lt_of_le (show w.heap.size < (w.alloc (.cells #[.int .i64 0, .int .u64 0, .string ⟨#[]⟩, .slice none 0 0, .slice none 0 0, .slice none 0 0, .slice none 0 0] 42)).heap.size by simp) hb1.size
    have hne : w.heap.size ≠ w1.heap.size := by omega
    have hne' : w1.heap.size ≠ w.heap.size := by omega
    clear hb1
    rw [show vv (zeroS 1) = .agg #[.int .i64 1, .int .u64 0, .string ⟨#[]⟩, .slice none 0 0, .slice none 0 0, .slice none 0 0, .slice none 0 0] from rfl]
    go_wp2_with fail
    refine (D.out _ (hL1.below (below_box _ _))).mono ?_
    rintro _ w2 ⟨rfl, hb2⟩
    obtain ⟨lt0, p0, p1, p2, p3, p4, p5, p6, pf⟩ := (B1.alloc _).below hb2
    obtain ⟨lt1, q0, q1, q2, q3, q4, q5, q6, qf⟩ := (b7_new w1 (.int .i64 1) (.int .u64 0) (.string ⟨#[]⟩) (.slice none 0 0) (.slice none 0 0) (.slice none 0 0) (.slice none 0 0) 42).below hb2
    have hbz := bt (bt hbw (below_box _ _)) hb2
    have hle := hbw.size
    clear hb2 hL1 hL D B1 hbw
    go_wp2_with fail
    exact bodyPost_ret (v := .tuple #[.agg #[.int .i64 1, .int .u64 b, .string ⟨#[]⟩, .slice none 0 0, .slice none 0 0, .slice none 0 0, .slice none 0 0], .int .i64 0]) (by simp [results, Tryz.results89, go_sem, p0, p1, p2, p3, p4, p5, p6, q0, q1, q2, q3, q4, q5, q6, hne, hne']) rfl ⟨rfl, below7 (hbz.setCell hle _) (Nat.le_refl _) _ _ _ _ _ _ _⟩

theorem parse_1 (s : ByteArray) (hs : s.size ≤ 35184372088000) (w : World) (hL : Ld w) : Calls Tryz.prog 89 #[.int .i64 1, .string s] w fun e w' => e = .returned (.tuple #[vv (finB 1 (pbP s.data.toList)).1, .int .i64 (finB 1 (pbP s.data.toList)).2]) ∧ Below w.heap.size w w' := parse_1b s w hL

set_option maxHeartbeats 2000000 in
set_option maxRecDepth 100000 in
theorem parse_6 (s : ByteArray) (hs : s.size ≤ 35184372088000) (w : World) (hL : Ld w) : Calls Tryz.prog 89 #[.int .i64 6, .string s] w fun e w' => e = .returned (.tuple #[vv (finB 6 (pdP s.data.toList)).1, .int .i64 (finB 6 (pdP s.data.toList)).2]) ∧ Below w.heap.size w w' := by
  have D := Lib.hid fun w (_ : Ld w) => pd_any s (by omega) w
  clear hs
  generalize pdP s.data.toList = r at *
  obtain ⟨b, e⟩ := r
  simp only [] at D
  cases he : (e != 0) with
  | true =>
    have hf : finB 6 (b, e) = (zv 0, e) := by unfold finB; rw [if_neg (by simpa using he)]
    rw [hf]
    clear hf
    go_enter Tryz.func89, Tryz.ntmps89
    go_wp2_with fail
    refine (zero_p 6 _).mono ?_
    rintro _ w1 ⟨rfl, hb1⟩
    have B1 := (b7_new w (.int .i64 0) (.int .u64 0) (.string ⟨#[]⟩) (.slice none 0 0) (.slice none 0 0) (.slice none 0 0) (.slice none 0 0) 42).below hb1
    have hL1 := (hL.below (below_box w _)).below hb1
    have hbw := bt (below_box w _) hb1
    have hlt := Nat.lt_of_lt_of_le (show w.heap.size < (w.alloc (.cells #[.int .i64 0, .int .u64 0, .string ⟨#[]⟩, .slice none 0 0, .slice none 0 0, .slice none 0 0, .slice none 0 0] 42)).heap.size by simp) hb1.size
    have hne : w.heap.size ≠ w1.heap.size := by omega
    have hne' : w1.heap.size ≠ w.heap.size := by omega
    clear hb1
    rw [show vv (zeroS 6) = .agg #[.int .i64 6, .int .u64 0, .string ⟨#[]⟩, .slice none 0 0, .slice none 0 0, .slice none 0 0, .slice none 0 0] from rfl]
    go_wp2_with fail
    refine (D.out _ (hL1.below (below_box _ _))).mono ?_
    rintro _ w2 ⟨rfl, hb2⟩
    obtain ⟨lt0, p0, p1, p2, p3, p4, p5, p6, pf⟩ := (B1.alloc _).below hb2
    obtain ⟨lt1, q0, q1, q2, q3, q4, q5, q6, qf⟩ := (b7_new w1 (.int .i64 6) (.int .u64 0) (.string ⟨#[]⟩) (.slice none 0 0) (.slice none 0 0) (.slice none 0 0) (.slice none 0 0) 42).below hb2
    have hbz := bt (bt hbw (below_box _ _)) hb2
    have hle := hbw.size
    clear hb2 hL1 hL D B1 hbw
    go_wp2_with fail
    exact bodyPost_ret (v := .tuple #[.agg #[.int .i64 0, .int .u64 0, .string ⟨#[]⟩, .slice none 0 0, .slice none 0 0, .slice none 0 0, .slice none 0 0], .int .i64 e]) (by simp [results, Tryz.results89, go_sem, p0, p1, p2, p3, p4, p5, p6, hne, hne']) rfl ⟨rfl, below7 (hbz.setCell hle _) (Nat.le_refl _) _ _ _ _ _ _ _⟩
  | false =>
    have h0 : e = 0 := by simpa using he
    subst h0
    have hf : finB 6 (b, 0) = (nv 6 b, 0) := by unfold finB; rw [if_pos rfl]
    rw [hf]
    clear hf he
    go_enter Tryz.func89, Tryz.ntmps89
    go_wp2_with fail
    refine (zero_p 6 _).mono ?_
    rintro _ w1 ⟨rfl, hb1⟩
    have B1 := (b7_new w (.int .i64 0) (.int .u64 0) (.string ⟨#[]⟩) (.slice none 0 0) (.slice none 0 0) (.slice none 0 0) (.slice none 0 0) 42).below hb1
    have hL1 := (hL.below (below_box w _)).below hb1
    have hbw := bt (below_box w _) hb1
    have hlt := Nat.lt_of_lt_of_le (show w.heap.size < (w.alloc (.cells #[.int .i64 0, .int .u64 0, .string ⟨#[]⟩, .slice none 0 0, .slice none 0 0, .slice none 0 0, .slice none 0 0] 42)).heap.size by simp) hb1.size
    have hne : w.heap.size ≠ w1.heap.size := by omega
    have hne' : w1.heap.size ≠ w.heap.size := by omega
    clear hb1
    rw [show vv (zeroS 6) = .agg #[.int .i64 6, .int .u64 0, .string ⟨#[]⟩, .slice none 0 0, .slice none 0 0, .slice none 0 0, .slice none 0 0] from rfl]
    go_wp2_with fail
    refine (D.out _ (hL1.below (below_box _ _))).mono ?_
    rintro _ w2 ⟨rfl, hb2⟩
    obtain ⟨lt0, p0, p1, p2, p3, p4, p5, p6, pf⟩ := (B1.alloc _).below hb2
    obtain ⟨lt1, q0, q1, q2, q3, q4, q5, q6, qf⟩ := (b7_new w1 (.int .i64 6) (.int .u64 0) (.string ⟨#[]⟩) (.slice none 0 0) (.slice none 0 0) (.slice none 0 0) (.slice none 0 0) 42).below hb2
    have hbz := bt (bt hbw (below_box _ _)) hb2
    have hle := hbw.size
    clear hb2 hL1 hL D B1 hbw
    go_wp2_with fail
    exact bodyPost_ret (v := .tuple #[.agg #[.int .i64 6, .int .u64 b, .string ⟨#[]⟩, .slice none 0 0, .slice none 0 0, .slice none 0 0, .slice none 0 0], .int .i64 0]) (by simp [results, Tryz.results89, go_sem, p0, p1, p2, p3, p4, p5, p6, q0, q1, q2, q3, q4, q5, q6, hne, hne']) rfl ⟨rfl, below7 (hbz.setCell hle _) (Nat.le_refl _) _ _ _ _ _ _ _⟩

set_option maxHeartbeats 2000000 in
set_option maxRecDepth 100000 in
theorem parse_7 (s : ByteArray) (hs : s.size ≤ 35184372088000) (w : World) (hL : Ld w) : Calls Tryz.prog 89 #[.int .i64 7, .string s] w fun e w' => e = .returned (.tuple #[vv (finT 7 (ptP s.data.toList)).1, .int .i64 (finT 7 (ptP s.data.toList)).2]) ∧ Below w.heap.size w w' := by
  have D := Lib.hid fun w (_ : Ld w) => pt_any s (by omega) w
  clear hs
  generalize ptP s.data.toList = r at *
  obtain ⟨b, e⟩ := r
  simp only [] at D
  cases he : (e != 0) with
  | true =>
    have hf : finT 7 (b, e) = (zv 0, e) := by unfold finT; rw [if_neg (by simpa using he)]
    rw [hf]
    clear hf
    go_enter Tryz.func89, Tryz.ntmps89
    go_wp2_with fail
    refine (zero_p 7 _).mono ?_
    rintro _ w1 ⟨rfl, hb1⟩
    have B1 := (b7_new w (.int .i64 0) (.int .u64 0) (.string ⟨#[]⟩) (.slice none 0 0) (.slice none 0 0) (.slice none 0 0) (.slice none 0 0) 42).below hb1
    have hL1 := (hL.below (below_box w _)).below hb1
    have hbw := bt (below_box w _) hb1
    have hlt := Nat.lt_of_lt_of_le (show w.heap.size < (w.alloc (.cells #[.int .i64 0, .int .u64 0, .string ⟨#[]⟩, .slice none 0 0, .slice none 0 0, .slice none 0 0, .slice none 0 0] 42)).heap.size by simp) hb1.size
    have hne : w.heap.size ≠ w1.heap.size := by omega
    have hne' : w1.heap.size ≠ w.heap.size := by omega
    clear hb1
    rw [show vv (zeroS 7) = .agg #[.int .i64 7, .int .u64 0, .string ⟨#[]⟩, .slice none 0 0, .slice none 0 0, .slice none 0 0, .slice none 0 0] from rfl]
    go_wp2_with fail
    refine (D.out _ (hL1.below (below_box _ _))).mono ?_
    rintro _ w2 ⟨rfl, hb2⟩
    obtain ⟨lt0, p0, p1, p2, p3, p4, p5, p6, pf⟩ := (B1.alloc _).below hb2
    obtain ⟨lt1, q0, q1, q2, q3, q4, q5, q6, qf⟩ := (b7_new w1 (.int .i64 7) (.int .u64 0) (.string ⟨#[]⟩) (.slice none 0 0) (.slice none 0 0) (.slice none 0 0) (.slice none 0 0) 42).below hb2
    have hbz := bt (bt hbw (below_box _ _)) hb2
    have hle := hbw.size
    clear hb2 hL1 hL D B1 hbw
    go_wp2_with fail
    exact bodyPost_ret (v := .tuple #[.agg #[.int .i64 0, .int .u64 0, .string ⟨#[]⟩, .slice none 0 0, .slice none 0 0, .slice none 0 0, .slice none 0 0], .int .i64 e]) (by simp [results, Tryz.results89, go_sem, p0, p1, p2, p3, p4, p5, p6, hne, hne']) rfl ⟨rfl, below7 (hbz.setCell hle _) (Nat.le_refl _) _ _ _ _ _ _ _⟩
  | false =>
    have h0 : e = 0 := by simpa using he
    subst h0
    have hf : finT 7 (b, 0) = (tvB 7 b, 0) := by unfold finT; rw [if_pos rfl]
    rw [hf]
    clear hf he
    go_enter Tryz.func89, Tryz.ntmps89
    go_wp2_with fail
    refine (zero_p 7 _).mono ?_
    rintro _ w1 ⟨rfl, hb1⟩
    have B1 := (b7_new w (.int .i64 0) (.int .u64 0) (.string ⟨#[]⟩) (.slice none 0 0) (.slice none 0 0) (.slice none 0 0) (.slice none 0 0) 42).below hb1
    have hL1 := (hL.below (below_box w _)).below hb1
    have hbw := bt (below_box w _) hb1
    have hlt := Nat.lt_of_lt_of_le (show w.heap.size < (w.alloc (.cells #[.int .i64 0, .int .u64 0, .string ⟨#[]⟩, .slice none 0 0, .slice none 0 0, .slice none 0 0, .slice none 0 0] 42)).heap.size by simp) hb1.size
    have hne : w.heap.size ≠ w1.heap.size := by omega
    have hne' : w1.heap.size ≠ w.heap.size := by omega
    clear hb1
    rw [show vv (zeroS 7) = .agg #[.int .i64 7, .int .u64 0, .string ⟨#[]⟩, .slice none 0 0, .slice none 0 0, .slice none 0 0, .slice none 0 0] from rfl]
    go_wp2_with fail
    refine (D.out _ (hL1.below (below_box _ _))).mono ?_
    rintro _ w2 ⟨rfl, hb2⟩
    obtain ⟨lt0, p0, p1, p2, p3, p4, p5, p6, pf⟩ := (B1.alloc _).below hb2
    obtain ⟨lt1, q0, q1, q2, q3, q4, q5, q6, qf⟩ := (b7_new w1 (.int .i64 7) (.int .u64 0) (.string ⟨#[]⟩) (.slice none 0 0) (.slice none 0 0) (.slice none 0 0) (.slice none 0 0) 42).below hb2
    have hbz := bt (bt hbw (below_box _ _)) hb2
    have hle := hbw.size
    clear hb2 hL1 hL D B1 hbw
    go_wp2_with fail
    exact bodyPost_ret (v := .tuple #[.agg #[.int .i64 7, .int .u64 0, .string b, .slice none 0 0, .slice none 0 0, .slice none 0 0, .slice none 0 0], .int .i64 0]) (by simp [results, Tryz.results89, go_sem, p0, p1, p2, p3, p4, p5, p6, q0, q1, q2, q3, q4, q5, q6, hne, hne']) rfl ⟨rfl, below7 (hbz.setCell hle _) (Nat.le_refl _) _ _ _ _ _ _ _⟩

set_option maxHeartbeats 2000000 in
set_option maxRecDepth 100000 in
theorem parse_8 (s : ByteArray) (hs : s.size ≤ 35184372088000) (w : World) (hL : Ld w) : Calls Tryz.prog 89 #[.int .i64 8, .string s] w fun e w' => e = .returned (.tuple #[vv (finT 8 (pyP s.data.toList)).1, .int .i64 (finT 8 (pyP s.data.toList)).2]) ∧ Below w.heap.size w w' := by
  have D := Lib.hid fun w (_ : Ld w) => py_any s (by omega) w
  clear hs
  generalize pyP s.data.toList = r at *
  obtain ⟨b, e⟩ := r
  simp only [] at D
  cases he : (e != 0) with
  | true =>
    have hf : finT 8 (b, e) = (zv 0, e) := by unfold finT; rw [if_neg (by simpa using he)]
    rw [hf]
    clear hf
    go_enter Tryz.func89, Tryz.ntmps89
    go_wp2_with fail
    refine (zero_p 8 _).mono ?_
    rintro _ w1 ⟨rfl, hb1⟩
    have B1 := (b7_new w (.int .i64 0) (.int .u64 0) (.string ⟨#[]⟩) (.slice none 0 0) (.slice none 0 0) (.slice none 0 0) (.slice none 0 0) 42).below hb1
    have hL1 := (hL.below (below_box w _)).below hb1
    have hbw := bt (below_box w _) hb1
    have hlt := Nat.lt_of_lt_of_le (show w.heap.size < (w.alloc (.cells #[.int .i64 0, .int .u64 0, .string ⟨#[]⟩, .slice none 0 0, .slice none 0 0, .slice none 0 0, .slice none 0 0] 42)).heap.size by simp) hb1.size
    have hne : w.heap.size ≠ w1.heap.size := by omega
    have hne' : w1.heap.size ≠ w.heap.size := by omega
    clear hb1
    rw [show vv (zeroS 8) = .agg #[.int .i64 8, .int .u64 0, .string ⟨#[]⟩, .slice none 0 0, .slice none 0 0, .slice none 0 0, .slice none 0 0] from rfl]
    go_wp2_with fail
    refine (D.out _ (hL1.below (below_box _ _))).mono ?_
    rintro _ w2 ⟨rfl, hb2⟩
    obtain ⟨lt0, p0, p1, p2, p3, p4, p5, p6, pf⟩ := (B1.alloc _).below hb2
    obtain ⟨lt1, q0, q1, q2, q3, q4, q5, q6, qf⟩ := (b7_new w1 (.int .i64 8) (.int .u64 0) (.string ⟨#[]⟩) (.slice none 0 0) (.slice none 0 0) (.slice none 0 0) (.slice none 0 0) 42).below hb2
    have hbz := bt (bt hbw (below_box _ _)) hb2
    have hle := hbw.size
    clear hb2 hL1 hL D B1 hbw
    go_wp2_with fail
    exact bodyPost_ret (v := .tuple #[.agg #[.int .i64 0, .int .u64 0, .string ⟨#[]⟩, .slice none 0 0, .slice none 0 0, .slice none 0 0, .slice none 0 0], .int .i64 e]) (by simp [results, Tryz.results89, go_sem, p0, p1, p2, p3, p4, p5, p6, hne, hne']) rfl ⟨rfl, below7 (hbz.setCell hle _) (Nat.le_refl _) _ _ _ _ _ _ _⟩
  | false =>
    have h0 : e = 0 := by simpa using he
    subst h0
    have hf : finT 8 (b, 0) = (tvB 8 b, 0) := by unfold finT; rw [if_pos rfl]
    rw [hf]
    clear hf he
    go_enter Tryz.func89, Tryz.ntmps89
    go_wp2_with fail
    refine (zero_p 8 _).mono ?_
    rintro _ w1 ⟨rfl, hb1⟩
    have B1 := (b7_new w (.int .i64 0) (.int .u64 0) (.string ⟨#[]⟩) (.slice none 0 0) (.slice none 0 0) (.slice none 0 0) (.slice none 0 0) 42).below hb1
    have hL1 := (hL.below (below_box w _)).below hb1
    have hbw := bt (below_box w _) hb1
    have hlt := Nat.lt_of_lt_of_le (show w.heap.size < (w.alloc (.cells #[.int .i64 0, .int .u64 0, .string ⟨#[]⟩, .slice none 0 0, .slice none 0 0, .slice none 0 0, .slice none 0 0] 42)).heap.size by simp) hb1.size
    have hne : w.heap.size ≠ w1.heap.size := by omega
    have hne' : w1.heap.size ≠ w.heap.size := by omega
    clear hb1
    rw [show vv (zeroS 8) = .agg #[.int .i64 8, .int .u64 0, .string ⟨#[]⟩, .slice none 0 0, .slice none 0 0, .slice none 0 0, .slice none 0 0] from rfl]
    go_wp2_with fail
    refine (D.out _ (hL1.below (below_box _ _))).mono ?_
    rintro _ w2 ⟨rfl, hb2⟩
    obtain ⟨lt0, p0, p1, p2, p3, p4, p5, p6, pf⟩ := (B1.alloc _).below hb2
    obtain ⟨lt1, q0, q1, q2, q3, q4, q5, q6, qf⟩ := (b7_new w1 (.int .i64 8) (.int .u64 0) (.string ⟨#[]⟩) (.slice none 0 0) (.slice none 0 0) (.slice none 0 0) (.slice none 0 0) 42).below hb2
    have hbz := bt (bt hbw (below_box _ _)) hb2
    have hle := hbw.size
    clear hb2 hL1 hL D B1 hbw
    go_wp2_with fail
    exact bodyPost_ret (v := .tuple #[.agg #[.int .i64 8, .int .u64 0, .string b, .slice none 0 0, .slice none 0 0, .slice none 0 0, .slice none 0 0], .int .i64 0]) (by simp [results, Tryz.results89, go_sem, p0, p1, p2, p3, p4, p5, p6, q0, q1, q2, q3, q4, q5, q6, hne, hne']) rfl ⟨rfl, below7 (hbz.setCell hle _) (Nat.le_refl _) _ _ _ _ _ _ _⟩
end Go.Proofs.YthjpchnogllliaaGreatDoor.PrsP

/- Parse at kinds that are none; the program's Parse is the reference's. -/
set_option linter.unusedSimpArgs false
set_option linter.unusedVariables false
namespace Go.Proofs.YthjpchnogllliaaGreatDoor.PrsQ
open Go.RowKit Nums Byt UtfM UtfS UtfQ UtfH ScaM ScaV ScaA ScaB ScaC ScaT ScaW ScaX ScaY ScpM ScpA ScpB ScpC ScpD PrsP NumQ Ld Box

set_option maxHeartbeats 2000000 in
set_option maxRecDepth 100000 in
theorem parse_other (k : Int) (hk : isB k = false) (s : ByteArray) (w : World) : Calls Tryz.prog 89 #[.int .i64 k, .string s] w fun e w' => e = .returned (.tuple #[vv (zv 0), .int .i64 1]) ∧ Below w.heap.size w w' := by
  have hn : ¬ (1 ≤ k ∧ k ≤ 9) := by
    intro h
    unfold isB at hk
    simp only [Bool.and_eq_false_iff, decide_eq_false_iff_not] at hk
    omega
  have e1 : (k == 1) = false := by rw [beq_eq_false_iff_ne]; omega
  have e2 : (k == 2) = false := by rw [beq_eq_false_iff_ne]; omega
  have e3 : (k == 3) = false := by rw [beq_eq_false_iff_ne]; omega
  have e4 : (k == 4) = false := by rw [beq_eq_false_iff_ne]; omega
  have e5 : (k == 5) = false := by rw [beq_eq_false_iff_ne]; omega
  have e6 : (k == 6) = false := by rw [beq_eq_false_iff_ne]; omega
  have e7 : (k == 7) = false := by rw [beq_eq_false_iff_ne]; omega
  have e8 : (k == 8) = false := by rw [beq_eq_false_iff_ne]; omega
  have e9 : (k == 9) = false := by rw [beq_eq_false_iff_ne]; omega
  have hz : zeroS k = zv 0 := by unfold zeroS; rw [hk]; rfl
  have HZ := Lib.hid fun w => zero_p k w
  rw [hz] at HZ
  clear hz hn hk
  go_enter Tryz.func89, Tryz.ntmps89
  go_wp2_with fail
  refine (HZ.out _).mono ?_
  rintro _ w1 ⟨rfl, hb1⟩
  have B1 := (b7_new w (.int .i64 0) (.int .u64 0) (.string ⟨#[]⟩) (.slice none 0 0) (.slice none 0 0) (.slice none 0 0) (.slice none 0 0) 42).below hb1
  have hbw := bt (below_box w _) hb1
  have hlt := Nat.lt_of_lt_of_le (show w.heap.size < (w.alloc (.cells #[.int .i64 0, .int .u64 0, .string ⟨#[]⟩, .slice none 0 0, .slice none 0 0, .slice none 0 0, .slice none 0 0] 42)).heap.size by simp) hb1.size
  have hne : w.heap.size ≠ w1.heap.size := by omega
  have hne' : w1.heap.size ≠ w.heap.size := by omega
  clear hb1
  rw [show vv (zv 0) = .agg #[.int .i64 0, .int .u64 0, .string ⟨#[]⟩, .slice none 0 0, .slice none 0 0, .slice none 0 0, .slice none 0 0] from rfl]
  obtain ⟨lt0, p0, p1, p2, p3, p4, p5, p6, pf⟩ := B1
  have hbz := bt hbw (below_box _ (.cells #[.int .i64 0, .int .u64 0, .string ⟨#[]⟩, .slice none 0 0, .slice none 0 0, .slice none 0 0, .slice none 0 0] 42))
  have hle := hbw.size
  have hb7 := below7 hbw (Nat.le_refl w.heap.size) (.int .i64 0) (.int .u64 0) (.string ⟨#[]⟩) (.slice none 0 0) (.slice none 0 0) (.slice none 0 0) (.slice none 0 0)
  clear hbz hbw
  go_wp2_with fail
  exact bodyPost_ret (v := .tuple #[.agg #[.int .i64 0, .int .u64 0, .string ⟨#[]⟩, .slice none 0 0, .slice none 0 0, .slice none 0 0, .slice none 0 0], .int .i64 1]) (by simp [results, Tryz.results89, go_sem, World.cell?_alloc_past, lt0, p0, p1, p2, p3, p4, p5, p6, hne, hne']) rfl ⟨rfl, hb7.alloc hb7.size _⟩

theorem zv_kind (v : SV × Int) : v = (v.1, v.2) := rfl
theorem parse_bool_eq (l : List UInt8) : finB 1 (pbP l) = boolS 1 l := by
  unfold pbP boolS finB
  by_cases h1 : l = ScaY.trueL
  · have h2 : ¬ l = PrsP.falseL := by rw [h1]; decide
    rw [if_neg h2, if_pos h1, if_pos (show l = PrsP.trueL from h1)]; rfl
  · rw [if_neg h1, if_neg (show ¬ l = PrsP.trueL from h1)]
    by_cases h2 : l = ScaY.falseL
    · rw [if_pos h2, if_pos (show l = PrsP.falseL from h2)]; rfl
    · rw [if_neg h2, if_neg (show ¬ l = PrsP.falseL from h2)]; rfl
theorem parse_text_eq (l : List UInt8) : finT 7 (ptP l) = textS 7 l := by
  unfold ptP textS kept finT
  by_cases h1 : (unquote l).2.2 ≠ 0 ∨ (unquote l).2.1 ≠ l.length
  · rw [if_pos h1, if_pos h1]; rfl
  · rw [if_neg h1, if_neg h1, if_neg (show ¬ (7 : Int) = 8 by decide)]
    by_cases h2 : 0 ≤ bad (unquote l).1
    · rw [if_pos h2, if_pos h2]; rfl
    · rw [if_neg h2, if_neg h2]
      by_cases h3 : 4096 < (unquote l).1.length
      · rw [if_pos h3, if_pos h3]; rfl
      · rw [if_neg h3, if_neg h3]; rfl
theorem prefix_one (l : List UInt8) (c : UInt8) : (Lib.hasPrefix l [c] = true ↔ l.head? = some c) ∧ (l.head? = some c → Lib.trimPrefix l [c] = l.drop 1) := by
  cases l with
  | nil => exact ⟨by simp [Lib.hasPrefix], fun h => by cases h⟩
  | cons a l =>
    have e : Lib.hasPrefix (a :: l) [c] = (c == a) := by simp [Lib.hasPrefix, List.isPrefixOf]
    refine ⟨?_, fun h => ?_⟩
    · rw [e, beq_iff_eq]
      constructor
      · intro h; rw [h]; rfl
      · intro h; injection h with h; exact h.symm
    · injection h with h
      subst h
      unfold Lib.trimPrefix
      rw [show Lib.hasPrefix (a :: l) [a] = true by simp [Lib.hasPrefix, List.isPrefixOf]]
      rfl
theorem parse_bytes_eq (l : List UInt8) : finT 8 (pyP l) = bytesS 8 l := by
  obtain ⟨h1, h2⟩ := prefix_one l 120
  unfold bytesS
  by_cases hx : l.head? = some 120
  · rw [if_pos hx]
    unfold pyP
    rw [h2 hx, h1.2 hx]
    generalize l.drop 1 = d
    unfold textS kept finT
    by_cases c1 : (unquote d).2.2 ≠ 0 ∨ (unquote d).2.1 ≠ d.length
    · rw [if_pos (show (true = false ∨ (unquote d).2.2 ≠ 0 ∨ (unquote d).2.1 ≠ d.length) from .inr c1), if_pos c1]; rfl
    · rw [if_neg (show ¬ (true = false ∨ (unquote d).2.2 ≠ 0 ∨ (unquote d).2.1 ≠ d.length) by simp only [Bool.true_eq_false, false_or]; exact c1), if_neg c1, if_pos rfl]
      by_cases c2 : uhE (unquote d).1 ≠ 0
      · rw [if_pos c2, if_pos c2]; rfl
      · rw [if_neg c2, if_neg c2]
        by_cases c3 : 4096 < (uhT (unquote d).1).length
        · rw [if_pos c3, if_pos c3]; rfl
        · rw [if_neg c3, if_neg c3]; rfl
  · rw [if_neg hx]
    have hp : Lib.hasPrefix l [120] = false := by
      cases e : Lib.hasPrefix l [120] with
      | false => rfl
      | true => exact absurd (h1.1 e) hx
    unfold pyP
    rw [if_pos (.inl hp)]; rfl
theorem prefix_two (l : List UInt8) : (Lib.hasPrefix l [48, 120] = true ↔ l.take 2 = [48, 120]) ∧ (l.take 2 = [48, 120] → Lib.trimPrefix l [48, 120] = l.drop 2) := by
  match l with
  | [] => exact ⟨by simp [Lib.hasPrefix], fun h => by cases h⟩
  | [a] => exact ⟨by simp [Lib.hasPrefix, List.isPrefixOf], fun h => by simp at h⟩
  | a :: b :: l =>
    have e : Lib.hasPrefix (a :: b :: l) [48, 120] = ((48 == a) && (120 == b)) := by simp [Lib.hasPrefix, List.isPrefixOf]
    refine ⟨?_, fun h => ?_⟩
    · rw [e, Bool.and_eq_true, beq_iff_eq, beq_iff_eq]
      constructor
      · rintro ⟨h1, h2⟩; rw [← h1, ← h2]; rfl
      · intro h; simp at h; exact ⟨h.1.symm, h.2.symm⟩
    · simp at h
      obtain ⟨rfl, rfl⟩ := h
      unfold Lib.trimPrefix
      rw [show Lib.hasPrefix (48 :: 120 :: l) [48, 120] = true by simp [Lib.hasPrefix, List.isPrefixOf]]
      rfl
theorem uh_len {d : List UInt8} (h : uhE d = 0) : 2 * (uhT d).length = d.length := by
  cases e : unhexL d with
  | none => unfold uhE at h; rw [e] at h; cases h
  | some r =>
    have := unhexL_len d r e
    unfold uhT
    rw [e]
    exact this
theorem parse_double_eq (l : List UInt8) : finB 6 (pdP l) = doubleS l := by
  unfold pdP doubleS
  by_cases h1 : l = nanL
  · rw [if_pos h1, if_pos h1]; rfl
  · rw [if_neg h1, if_neg h1]
    by_cases h2 : l = infL
    · rw [if_pos h2, if_pos h2]; rfl
    · rw [if_neg h2, if_neg h2]
      by_cases h3 : l = ninL
      · rw [if_pos h3, if_pos h3]; rfl
      · rw [if_neg h3, if_neg h3]
        obtain ⟨p1, p2⟩ := prefix_two l
        by_cases hx : l.take 2 = [48, 120]
        · rw [p2 hx, p1.2 hx]
          have hd : (l.drop 2).length = l.length - 2 := by rw [List.length_drop]
          have h2l : 2 ≤ l.length := by
            have := congrArg List.length hx
            simp [List.length_take] at this
            omega
          unfold bitsS
          by_cases hu : uhE (l.drop 2) = 0
          · have hul := uh_len hu
            by_cases h8 : (uhT (l.drop 2)).length = 8
            · rw [if_neg (show ¬ (true = false ∨ uhE (l.drop 2) ≠ 0 ∨ (uhT (l.drop 2)).length ≠ 8) by simp [hu, h8]), if_neg (show ¬ (l.length ≠ 18 ∨ l.take 2 ≠ [48, 120]) by rintro (e | e); omega; exact e hx), if_neg (show ¬ uhE (l.drop 2) ≠ 0 by simp [hu])]
              by_cases hc : clsN (numW (uhT (l.drop 2))) ≤ 1
              · rw [if_pos hc, if_pos hc]; rfl
              · rw [if_neg hc, if_neg hc]; rfl
            · rw [if_pos (.inr (.inr h8)), if_pos (show l.length ≠ 18 ∨ l.take 2 ≠ [48, 120] from .inl (by omega))]; rfl
          · rw [if_pos (.inr (.inl hu))]
            by_cases h18 : l.length ≠ 18 ∨ l.take 2 ≠ [48, 120]
            · rw [if_pos h18]; rfl
            · rw [if_neg h18, if_pos hu]; rfl
        · have hp : Lib.hasPrefix l [48, 120] = false := by
            cases e : Lib.hasPrefix l [48, 120] with
            | false => rfl
            | true => exact absurd (p1.1 e) hx
          rw [if_pos (.inl hp), if_pos (.inr hx)]; rfl
/-- Parse. -/
theorem parse_p (k : Int) (s : ByteArray) (hs : s.size ≤ 35184372088000) (w : World) (hL : Ld w) : Calls Tryz.prog 89 #[.int .i64 k, .string s] w fun e w' => e = .returned (.tuple #[vv (parseS doubleS k s.data.toList).1, .int .i64 (parseS doubleS k s.data.toList).2]) ∧ Below w.heap.size w w' := by
  cases hk : isB k with
  | false =>
    have hf : parseS doubleS k s.data.toList = (zv 0, 1) := by unfold parseS; rw [if_pos hk]
    rw [hf]
    exact parse_other k hk s w
  | true =>
    have hn : ¬ isB k = false := by rw [hk]; simp
    have hr : 1 ≤ k ∧ k ≤ 9 := by
      unfold isB at hk
      simp only [Bool.and_eq_true, decide_eq_true_eq] at hk
      exact hk
    unfold parseS
    rw [if_neg hn]
    rcases (by omega : k = 1 ∨ k = 2 ∨ k = 3 ∨ k = 4 ∨ k = 5 ∨ k = 6 ∨ k = 7 ∨ k = 8 ∨ k = 9) with rfl | rfl | rfl | rfl | rfl | rfl | rfl | rfl | rfl
    · rw [if_pos rfl, ← parse_bool_eq]; exact parse_1 s hs w hL
    · rw [if_neg (by decide), if_neg (by decide), if_neg (by decide), if_neg (by decide), ← fin_whole (by omega)]; exact parse_2 s (by omega) w hL
    · rw [if_neg (by decide), if_neg (by decide), if_neg (by decide), if_neg (by decide), ← fin_whole (by omega)]; exact parse_3 s (by omega) w hL
    · rw [if_neg (by decide), if_neg (by decide), if_neg (by decide), if_neg (by decide), ← fin_whole (by omega)]; exact parse_4 s (by omega) w hL
    · rw [if_neg (by decide), if_neg (by decide), if_neg (by decide), if_neg (by decide), ← fin_whole (by omega)]; exact parse_5 s (by omega) w hL
    · rw [if_neg (by decide), if_pos rfl, ← parse_double_eq]; exact parse_6 s hs w hL
    · rw [if_neg (by decide), if_neg (by decide), if_pos rfl, ← parse_text_eq]; exact parse_7 s hs w hL
    · rw [if_neg (by decide), if_neg (by decide), if_neg (by decide), if_pos rfl, ← parse_bytes_eq]; exact parse_8 s hs w hL
    · rw [if_neg (by decide), if_neg (by decide), if_neg (by decide), if_neg (by decide), ← fin_whole (by omega)]; exact parse_9 s (by omega) w hL
end Go.Proofs.YthjpchnogllliaaGreatDoor.PrsQ
