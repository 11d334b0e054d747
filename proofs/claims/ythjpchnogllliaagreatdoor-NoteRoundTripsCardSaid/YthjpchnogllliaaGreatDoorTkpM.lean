import Derived.Test.YthjpchnogllliaaGreatDoorIdnC
import Derived.Test.YthjpchnogllliaaGreatDoorUtfQ
import Derived.Test.YthjpchnogllliaaGreatDoorScaM
import Derived.Lib.ParseIntB
/- Stage 7 as plain mathematics: tokens, how a text is divided into them, how they are written. Of no program. -/
set_option linter.unusedSimpArgs false
set_option linter.unusedVariables false
namespace Go.Proofs.YthjpchnogllliaaGreatDoor.TokM
open IdnM IdnC UtfM UtfQ

/-- A token: its kind, text and number. -/
structure Tok where
  kind : Int
  text : List UInt8
  num : Int
deriving DecidableEq

/-- How long the word is that begins here. -/
def wlen (l : List UInt8) : Nat := (l.takeWhile inn).length
theorem wlen_le (l : List UInt8) : wlen l ≤ l.length := (List.takeWhile_prefix _).length_le
theorem ltr_inn {b : UInt8} (h : ltr b = true) : inn b = true := by
  simp only [ltr, Bool.or_eq_true] at h
  simp only [inn, Bool.or_eq_true]
  rcases h with h | h <;> simp [h]
theorem wlen_pos {b : UInt8} {t : List UInt8} (h : ltr b = true) : 1 ≤ wlen (b :: t) := by
  unfold wlen
  rw [List.takeWhile_cons_of_pos (ltr_inn h)]
  simp
/-- How long the name is that begins here with a letter: words joined by dots. -/
def dname (l : List UInt8) : Nat := match l with
  | [] => 0
  | b :: t => if h : ltr b = true then
      (match e : (b :: t).drop (wlen (b :: t)) with
        | [] => wlen (b :: t)
        | c :: r => if c = 46 then (if dname r = 0 then wlen (b :: t) else wlen (b :: t) + 1 + dname r) else wlen (b :: t))
    else 0
termination_by l.length
decreasing_by
  all_goals
    have h1 := congrArg List.length e
    have h2 := wlen_pos (t := t) h
    simp only [List.length_drop, List.length_cons] at h1 ⊢
    omega
theorem dname_not {b : UInt8} {t : List UInt8} (h : ltr b = false) : dname (b :: t) = 0 := by
  rw [dname, dif_neg (by rw [h]; simp)]
theorem dname_nil : dname [] = 0 := by rw [dname]
theorem dname_end {b : UInt8} {t : List UInt8} (h : ltr b = true) (e : (b :: t).drop (wlen (b :: t)) = []) : dname (b :: t) = wlen (b :: t) := by
  rw [dname, dif_pos h]
  split
  · rfl
  · rename_i e2; rw [e] at e2; cases e2
theorem dname_no {b c : UInt8} {t r : List UInt8} (h : ltr b = true) (e : (b :: t).drop (wlen (b :: t)) = c :: r) (hc : c ≠ 46) : dname (b :: t) = wlen (b :: t) := by
  rw [dname, dif_pos h]
  split
  · rfl
  · rename_i e2; rw [e] at e2; cases e2; rw [if_neg hc]
theorem dname_dot {b : UInt8} {t r : List UInt8} (h : ltr b = true) (e : (b :: t).drop (wlen (b :: t)) = 46 :: r) : dname (b :: t) = if dname r = 0 then wlen (b :: t) else wlen (b :: t) + 1 + dname r := by
  rw [dname, dif_pos h]
  split
  · rename_i e2; rw [e] at e2; cases e2
  · rename_i e2; rw [e] at e2; cases e2; rw [if_pos rfl]
/-- How long the name is that begins here, 0 if none does. -/
def nm (l : List UInt8) : Nat := match l with
  | [] => 0
  | c :: r => if c = 46 then (if dname r = 0 then 0 else 1 + dname r) else dname (c :: r)
theorem nm_dot (r : List UInt8) : nm (46 :: r) = if dname r = 0 then 0 else 1 + dname r := by
  unfold nm
  simp
theorem nm_let {c : UInt8} (r : List UInt8) (hc : c ≠ 46) : nm (c :: r) = dname (c :: r) := by
  unfold nm
  simp [hc]

theorem wlen_drop (l : List UInt8) : ∀ c r, l.drop (wlen l) = c :: r → inn c = false := by
  induction l with
  | nil => intro c r h; simp [wlen] at h
  | cons b t ih =>
    intro c r h
    by_cases hb : inn b = true
    · have e : wlen (b :: t) = wlen t + 1 := by unfold wlen; rw [List.takeWhile_cons_of_pos hb]; rfl
      rw [e, List.drop_succ_cons] at h
      exact ih c r h
    · have e : wlen (b :: t) = 0 := by unfold wlen; rw [List.takeWhile_cons_of_neg hb]; rfl
      rw [e, List.drop_zero] at h
      cases h
      simpa using hb
theorem wlen_append {l r : List UInt8} (h : wlen l < l.length) : wlen (l ++ r) = wlen l := by
  induction l with
  | nil => simp [wlen] at h
  | cons b t ih =>
    by_cases hb : inn b = true
    · have e : wlen (b :: t) = wlen t + 1 := by unfold wlen; rw [List.takeWhile_cons_of_pos hb]; rfl
      have e2 : wlen (b :: t ++ r) = wlen (t ++ r) + 1 := by unfold wlen; rw [List.cons_append, List.takeWhile_cons_of_pos hb]; rfl
      rw [e, e2, ih (by rw [e] at h; simp only [List.length_cons] at h; omega)]
    · unfold wlen
      rw [List.cons_append, List.takeWhile_cons_of_neg hb, List.takeWhile_cons_of_neg hb]
/-- What may stand behind a name without being taken into it. -/
def apart (r : List UInt8) : Prop := ∀ c t, r = c :: t → inn c = false ∧ c ≠ 46
theorem wlen_full {l r : List UInt8} (h : wlen l = l.length) (hr : apart r) : wlen (l ++ r) = l.length := by
  induction l with
  | nil =>
    cases r with
    | nil => rfl
    | cons c t =>
      have := (hr c t rfl).1
      unfold wlen
      rw [List.nil_append, List.takeWhile_cons_of_neg (by rw [this]; simp)]
  | cons b t ih =>
    by_cases hb : inn b = true
    · have e : wlen (b :: t) = wlen t + 1 := by unfold wlen; rw [List.takeWhile_cons_of_pos hb]; rfl
      have e2 : wlen (b :: t ++ r) = wlen (t ++ r) + 1 := by unfold wlen; rw [List.cons_append, List.takeWhile_cons_of_pos hb]; rfl
      rw [e2, ih (by rw [e] at h; simp only [List.length_cons] at h; omega)]
      rfl
    · have e : wlen (b :: t) = 0 := by unfold wlen; rw [List.takeWhile_cons_of_neg hb]; rfl
      rw [e] at h
      simp at h
theorem dname_le : ∀ (n : Nat) (l : List UInt8), l.length ≤ n → dname l ≤ l.length
  | _, [], _ => by rw [dname_nil]; exact Nat.le_refl _
  | 0, b :: t, h => by simp at h
  | n + 1, b :: t, h => by
    cases hb : ltr b with
    | false => rw [dname_not hb]; exact Nat.zero_le _
    | true =>
      have hw := wlen_le (b :: t)
      cases e : (b :: t).drop (wlen (b :: t)) with
      | nil => rw [dname_end hb e]; exact hw
      | cons c r =>
        by_cases hc : c = 46
        · subst hc
          have h1 := congrArg List.length e
          have h2 := wlen_pos (t := t) hb
          simp only [List.length_drop, List.length_cons] at h1 h ⊢
          have ih := dname_le n r (by omega)
          rw [dname_dot hb e]
          split <;> omega
        · rw [dname_no hb e hc]; exact hw
/-- A text that is a name up to its end stays one in front of what is apart. -/
theorem dname_append : ∀ (n : Nat) (l r : List UInt8), l.length ≤ n → l ≠ [] → dname l = l.length → apart r → dname (l ++ r) = l.length
  | _, [], _, _, h, _, _ => absurd rfl h
  | 0, b :: t, _, h, _, _, _ => by simp at h
  | n + 1, b :: t, r, hn, _, hd, hr => by
    have hb : ltr b = true := by
      cases hb : ltr b with
      | true => rfl
      | false => rw [dname_not hb] at hd; simp at hd
    rcases Nat.lt_or_ge (wlen (b :: t)) (b :: t).length with hlt | hge
    · have hw := wlen_append (r := r) hlt
      cases e : (b :: t).drop (wlen (b :: t)) with
      | nil =>
        have h1 := congrArg List.length e
        simp only [List.length_drop, List.length_nil] at h1
        omega
      | cons c q =>
        have e2 : (b :: (t ++ r)).drop (wlen (b :: (t ++ r))) = c :: (q ++ r) := by
          have : b :: (t ++ r) = (b :: t) ++ r := rfl
          rw [this, hw, List.drop_append_of_le_length (Nat.le_of_lt hlt), e]
          rfl
        have hw2 : wlen (b :: (t ++ r)) = wlen (b :: t) := hw
        by_cases hc : c = 46
        · subst hc
          have h1 := congrArg List.length e
          have h2 := wlen_pos (t := t) hb
          simp only [List.length_drop, List.length_cons] at h1 hn hd
          rw [dname_dot hb e] at hd
          have hq0 : dname q ≠ 0 := by
            intro h0
            rw [if_pos h0] at hd
            simp only [List.length_cons] at hlt
            omega
          rw [if_neg hq0] at hd
          have hqne : q ≠ [] := by rintro rfl; exact hq0 dname_nil
          have ih := dname_append n q r (by omega) hqne (by omega) hr
          show dname (b :: (t ++ r)) = _
          rw [dname_dot hb e2, if_neg (by rw [ih]; intro h0; exact hqne (List.length_eq_zero_iff.1 h0)), ih, hw2]
          simp only [List.length_cons]
          omega
        · rw [dname_no hb e hc] at hd
          simp only [List.length_cons] at hlt hd
          omega
    · have hwf : wlen (b :: t) = (b :: t).length := Nat.le_antisymm (wlen_le _) hge
      have hw := wlen_full hwf hr
      have hw2 : wlen (b :: (t ++ r)) = (b :: t).length := hw
      show dname (b :: (t ++ r)) = _
      cases e : (b :: (t ++ r)).drop (wlen (b :: (t ++ r))) with
      | nil => rw [dname_end hb e, hw2]
      | cons c q =>
        have hq : r = c :: q := by
          have : b :: (t ++ r) = (b :: t) ++ r := rfl
          rw [hw2, this, List.drop_left] at e
          exact e
        rw [dname_no hb e (hr c q hq).2, hw2]
theorem nm_le (l : List UInt8) : nm l ≤ l.length := by
  cases l with
  | nil => exact Nat.le_refl _
  | cons c r =>
    unfold nm
    have h1 := dname_le _ r (Nat.le_refl _)
    have h2 := dname_le _ (c :: r) (Nat.le_refl _)
    simp only [List.length_cons] at h2 ⊢
    split
    · split <;> omega
    · omega
theorem nm_append {l r : List UInt8} (hl : l ≠ []) (hd : nm l = l.length) (hr : apart r) : nm (l ++ r) = l.length := by
  cases l with
  | nil => exact absurd rfl hl
  | cons c t =>
    by_cases hc : c = 46
    · subst hc
      rw [nm_dot] at hd
      have h0 : dname t ≠ 0 := by intro h0; rw [if_pos h0] at hd; simp at hd
      rw [if_neg h0] at hd
      simp only [List.length_cons] at hd
      have ht : t ≠ [] := by rintro rfl; exact h0 dname_nil
      have := dname_append _ t r (Nat.le_refl _) ht (by omega) hr
      rw [List.cons_append, nm_dot]
      rw [this, if_neg (by intro h0; exact ht (List.length_eq_zero_iff.1 h0))]
      simp only [List.length_cons]
      omega
    · rw [nm_let _ hc] at hd
      rw [List.cons_append, nm_let _ hc]
      exact dname_append _ (c :: t) r (Nat.le_refl _) (by simp) hd hr
/-- The name that was found, taken alone, is a name up to its end. -/
theorem wlen_take : ∀ (l : List UInt8) (k : Nat), wlen l ≤ k → wlen (l.take k) = wlen l
  | [], k, _ => by simp
  | b :: t, 0, h => by
    have : wlen (b :: t) = 0 := by omega
    rw [this]; rfl
  | b :: t, k + 1, h => by
    by_cases hb : inn b = true
    · have e : wlen (b :: t) = wlen t + 1 := by unfold wlen; rw [List.takeWhile_cons_of_pos hb]; rfl
      have e2 : wlen ((b :: t).take (k + 1)) = wlen (t.take k) + 1 := by unfold wlen; rw [List.take_succ_cons, List.takeWhile_cons_of_pos hb]; rfl
      rw [e, e2, wlen_take t k (by omega)]
    · unfold wlen
      rw [List.take_succ_cons, List.takeWhile_cons_of_neg hb, List.takeWhile_cons_of_neg hb]
theorem dname_take : ∀ (n : Nat) (l : List UInt8), l.length ≤ n → dname (l.take (dname l)) = dname l
  | _, [], _ => by rw [dname_nil]; exact dname_nil
  | 0, b :: t, h => by simp at h
  | n + 1, b :: t, hn => by
    cases hb : ltr b with
    | false => rw [dname_not hb]; exact dname_nil
    | true =>
      have hw := wlen_le (b :: t)
      have hp := wlen_pos (t := t) hb
      have stop : dname (b :: t) = wlen (b :: t) → dname ((b :: t).take (dname (b :: t))) = dname (b :: t) := by
        intro hd
        rw [hd]
        obtain ⟨k, hk⟩ : ∃ k, wlen (b :: t) = k + 1 := ⟨wlen (b :: t) - 1, by omega⟩
        have hwt := wlen_take (b :: t) (wlen (b :: t)) (Nat.le_refl _)
        rw [hk, List.take_succ_cons] at hwt ⊢
        rw [dname_end hb (by rw [hwt]; apply List.drop_of_length_le; simp only [List.length_cons, List.length_take]; omega), hwt]
      cases e : (b :: t).drop (wlen (b :: t)) with
      | nil => exact stop (dname_end hb e)
      | cons c r =>
        by_cases hc : c = 46
        · subst hc
          have hd := dname_dot hb e
          by_cases h0 : dname r = 0
          · rw [if_pos h0] at hd; exact stop hd
          · rw [if_neg h0] at hd
            have h1 := congrArg List.length e
            simp only [List.length_drop, List.length_cons] at h1 hn
            have ih := dname_take n r (by omega)
            obtain ⟨k, hk⟩ : ∃ k, wlen (b :: t) = k + 1 := ⟨wlen (b :: t) - 1, by omega⟩
            have hwt := wlen_take (b :: t) (wlen (b :: t) + 1 + dname r) (by omega)
            have e3 : ((b :: t).take (wlen (b :: t) + 1 + dname r)).drop (wlen (b :: t)) = 46 :: r.take (dname r) := by
              rw [List.drop_take, e, show wlen (b :: t) + 1 + dname r - wlen (b :: t) = dname r + 1 by omega, List.take_succ_cons]
            rw [hd]
            have e4 : (b :: t).take (wlen (b :: t) + 1 + dname r) = b :: t.take (wlen (b :: t) + dname r) := by
              rw [show wlen (b :: t) + 1 + dname r = (wlen (b :: t) + dname r) + 1 by omega, List.take_succ_cons]
            rw [e4] at hwt e3 ⊢
            rw [dname_dot (r := r.take (dname r)) hb (by rw [hwt]; exact e3), ih, if_neg h0, hwt]
        · exact stop (dname_no hb e hc)
theorem nm_take (l : List UInt8) : nm (l.take (nm l)) = nm l := by
  cases l with
  | nil => rfl
  | cons c r =>
    by_cases hc : c = 46
    · subst hc
      by_cases h0 : dname r = 0
      · rw [nm_dot, if_pos h0]; rfl
      · have h1 : nm (46 :: r) = 1 + dname r := by rw [nm_dot, if_neg h0]
        rw [h1, Nat.add_comm, List.take_succ_cons, nm_dot]
        rw [dname_take _ r (Nat.le_refl _), if_neg h0, Nat.add_comm]
    · have h1 : nm (c :: r) = dname (c :: r) := nm_let r hc
      rw [h1]
      have h2 := dname_take _ (c :: r) (Nat.le_refl _)
      rcases Nat.eq_zero_or_pos (dname (c :: r)) with h0 | h0
      · rw [h0]; rfl
      · obtain ⟨k, hk⟩ : ∃ k, dname (c :: r) = k + 1 := ⟨dname (c :: r) - 1, by omega⟩
        rw [hk, List.take_succ_cons] at h2 ⊢
        rw [nm_let _ hc, h2]
end Go.Proofs.YthjpchnogllliaaGreatDoor.TokM

/- Decimal digits as plain mathematics: of a number, and back. Of no program. -/
set_option linter.unusedSimpArgs false
set_option linter.unusedVariables false
namespace Go.Proofs.YthjpchnogllliaaGreatDoor.TokD
open IdnM ScaM

/-- The number that digits stand for. -/
def natD (l : List UInt8) : Nat := l.foldl (fun a c => 10 * a + (c.toNat - 48)) 0
theorem natD_nil : natD [] = 0 := rfl
theorem natD_snoc (l : List UInt8) (c : UInt8) : natD (l ++ [c]) = 10 * natD l + (c.toNat - 48) := by
  unfold natD
  rw [List.foldl_append]
  rfl
theorem dg_dig {d : Nat} (h : d < 10) : dg (UInt8.ofNat (48 + d)) = true ∧ (UInt8.ofNat (48 + d)).toNat - 48 = d := by
  have : ∀ k : Fin 10, dg (UInt8.ofNat (48 + k.val)) = true ∧ (UInt8.ofNat (48 + k.val)).toNat - 48 = k.val := by decide
  exact this ⟨d, h⟩
theorem dec_all : ∀ n : Nat, (dec n).all dg = true ∧ natD (dec n) = n := by
  intro n
  induction n using Nat.strongRecOn with
  | ind n ih =>
    by_cases h : n < 10
    · obtain ⟨h1, h2⟩ := dg_dig h
      rw [dec_small h]
      refine ⟨by rw [List.all_cons, h1]; rfl, ?_⟩
      have := natD_snoc [] (UInt8.ofNat (48 + n))
      rw [List.nil_append, natD_nil] at this
      omega
    · obtain ⟨h1, h2⟩ := dg_dig (Nat.mod_lt n (by decide : 10 > 0))
      obtain ⟨i1, i2⟩ := ih (n / 10) (by omega)
      rw [dec_large h]
      refine ⟨by rw [List.all_append, i1, List.all_cons, h1]; rfl, ?_⟩
      rw [natD_snoc, i2, h2]
      omega
theorem dec_head : ∀ n : Nat, n ≠ 0 → (dec n).head? ≠ some 48 := by
  intro n
  induction n using Nat.strongRecOn with
  | ind n ih =>
    intro hn
    by_cases h : n < 10
    · rw [dec_small h]
      intro e
      injection e with e
      have : ∀ k : Fin 10, k.val ≠ 0 → UInt8.ofNat (48 + k.val) ≠ 48 := by decide
      exact this ⟨n, h⟩ hn e
    · have i := ih (n / 10) (by omega) (by omega)
      rw [dec_large h]
      have hne := dec_ne (n / 10)
      cases hd : dec (n / 10) with
      | nil => exact absurd hd hne
      | cons a r => rw [hd] at i; exact i
theorem dg_back {c : UInt8} (h : dg c = true) : UInt8.ofNat (48 + (c.toNat - 48)) = c ∧ c.toNat - 48 < 10 ∧ 48 ≤ c.toNat := by
  have h2 : 48 ≤ c.toNat ∧ c.toNat ≤ 57 := by simpa [dg] using h
  refine ⟨?_, by omega, by omega⟩
  rw [show 48 + (c.toNat - 48) = c.toNat by omega]; simp
theorem natD_pos : ∀ (r : List UInt8) (c : UInt8), dg c = true → c ≠ 48 → 1 ≤ natD (c :: r) := by
  intro r
  have key : ∀ (l : List UInt8) (a : Nat), 1 ≤ a → 1 ≤ l.foldl (fun a c => 10 * a + (c.toNat - 48)) a := by
    intro l
    induction l with
    | nil => intro a h; exact h
    | cons c l ih => intro a h; exact ih _ (by show 1 ≤ 10 * a + (c.toNat - 48); omega)
  intro c hc hn
  have h2 := dg_back hc
  have h3 : c.toNat ≠ 48 := fun e => hn (UInt8.toNat_inj.1 e)
  exact key r _ (by show 1 ≤ 10 * 0 + (c.toNat - 48); omega)
/-- Digits without a leading zero are those of their number. -/
theorem dec_natD : ∀ (k : Nat) (ds : List UInt8), ds.length = k → ds.all dg = true → ds ≠ [] → (ds.head? = some 48 → ds = [48]) → dec (natD ds) = ds := by
  intro k
  induction k with
  | zero => intro ds hl _ hne; exact absurd (List.eq_nil_of_length_eq_zero hl) hne
  | succ k ih =>
    intro ds hl h hne hh
    have e := List.dropLast_concat_getLast hne
    obtain ⟨init, hi⟩ : ∃ init, init = ds.dropLast := ⟨_, rfl⟩
    obtain ⟨c, hc⟩ : ∃ c, c = ds.getLast hne := ⟨_, rfl⟩
    rw [← hi, ← hc] at e
    clear hi hc
    subst e
    rw [List.all_append, Bool.and_eq_true] at h
    obtain ⟨h1, h2⟩ := h
    have hcD : dg c = true := by simpa using h2
    obtain ⟨b1, b2, _⟩ := dg_back hcD
    rw [natD_snoc]
    by_cases h0 : init = []
    · subst h0
      rw [natD_nil, Nat.mul_zero, Nat.zero_add, dec_small b2, b1]; rfl
    · have hi : init.head? ≠ some 48 := by
        intro e
        cases init with
        | nil => exact h0 rfl
        | cons a r =>
          have := hh (by simpa using e)
          have := congrArg List.length this
          simp at this
      have hp : 1 ≤ natD init := by
        cases init with
        | nil => exact absurd rfl h0
        | cons a r =>
          rw [List.all_cons, Bool.and_eq_true] at h1
          exact natD_pos r a h1.1 (fun e => hi (by rw [e]; rfl))
      have hlen : init.length = k := by rw [List.length_append] at hl; simp at hl; omega
      rw [dec_large (by omega), show (10 * natD init + (c.toNat - 48)) / 10 = natD init by omega, show (10 * natD init + (c.toNat - 48)) % 10 = c.toNat - 48 by omega, b1, ih init hlen h1 h0 (fun e => absurd e hi)]
end Go.Proofs.YthjpchnogllliaaGreatDoor.TokD

/- Stage 7 as plain mathematics: reading one token, reading all, writing them; what is written is read again. Of no program. -/
set_option linter.unusedSimpArgs false
set_option linter.unusedVariables false
namespace Go.Proofs.YthjpchnogllliaaGreatDoor.TokS
open IdnM IdnC UtfM UtfQ TokM TokD

/-- A name within the limits. -/
def fitN (l : List UInt8) : Bool := match l with
  | [] => full []
  | c :: r => if c = 46 then full r else full (c :: r)
def wch (c : UInt8) : Bool := ltr c || decide (c = 95)
def dlen (l : List UInt8) : Nat := (l.takeWhile dg).length
def signs : List UInt8 := [123, 125, 91, 93, 40, 41, 60, 62, 61, 59, 44, 64, 45]
/-- A number of 64 bits as a signed one. -/
def sI (n : Nat) : Int := if n < 9223372036854775808 then n else (n : Int) - 18446744073709551616
/-- .. and a signed one as one without a sign. -/
def uI (n : Int) : Nat := if 0 ≤ n then n.toNat else (n + 18446744073709551616).toNat
def number (ds : List UInt8) : Except Nat Int :=
  if 1 < ds.length ∧ ds.head? = some 48 then .error 2 else if 18446744073709551616 ≤ natD ds then .error 6 else .ok (sI (natD ds))
/-- The token that begins here, and how long it is; or the error. -/
def oneC (b : UInt8) (t : List UInt8) : Except Nat (Tok × Nat) :=
    if nm (b :: t) ≠ 0 then (if fitN ((b :: t).take (nm (b :: t))) then .ok (⟨1, (b :: t).take (nm (b :: t)), 0⟩, nm (b :: t)) else .error 8)
    else if dg b then (match (b :: t).drop (dlen (b :: t)) with
      | [] => (number ((b :: t).take (dlen (b :: t)))).map fun n => (⟨2, [], n⟩, dlen (b :: t))
      | c :: _ => if wch c then .error 2 else (number ((b :: t).take (dlen (b :: t)))).map fun n => (⟨2, [], n⟩, dlen (b :: t)))
    else if b = 34 then (if (unquote (b :: t)).2.2 = 0 then .ok (⟨3, (unquote (b :: t)).1, 0⟩, (unquote (b :: t)).2.1) else .error 2)
    else if signs.contains b then .ok (⟨4, [b], 0⟩, 1) else .error 2
def one (l : List UInt8) : Except Nat (Tok × Nat) := match l with
  | [] => .error 2
  | b :: t => oneC b t
def ws (b : UInt8) : Bool := decide (b = 32) || decide (b = 9) || decide (b = 13)
def skipc (l : List UInt8) : List UInt8 := l.dropWhile fun c => decide (c ≠ 10)
theorem skipc_le (l : List UInt8) : (skipc l).length ≤ l.length := by
  unfold skipc
  exact (List.dropWhile_suffix _).length_le
theorem skipc_lt {b : UInt8} (t : List UInt8) (h : b ≠ 10) : (skipc (b :: t)).length < (b :: t).length := by
  unfold skipc
  rw [List.dropWhile_cons_of_pos (by simpa using h)]
  have := skipc_le t
  unfold skipc at this
  simp only [List.length_cons]
  omega
/-- The tokens of a text, each with its line; or the line of the first error, and the error. -/
def scanT (line : Nat) (l : List UInt8) : Except (Nat × Nat) (List (Tok × Nat)) := match l with
  | [] => .ok []
  | b :: t =>
    if b = 10 then scanT (line + 1) t
    else if ws b then scanT line t
    else if h : b = 47 ∧ t.head? = some 47 then scanT line (skipc (b :: t))
    else match one (b :: t) with
      | .error e => .error (line, e)
      | .ok (k, n) => if n = 0 then .error (line, 2) else (scanT line ((b :: t).drop n)).map fun r => (k, line) :: r
termination_by l.length
decreasing_by
  · simp
  · simp
  · exact skipc_lt t (by rw [h.1]; decide)
  · simp only [List.length_drop, List.length_cons]; omega
theorem scan_nil (line : Nat) : scanT line [] = .ok [] := by rw [scanT]
theorem scan_lf (line : Nat) (t : List UInt8) : scanT line (10 :: t) = scanT (line + 1) t := by rw [scanT, if_pos rfl]
theorem scan_ws {b : UInt8} (line : Nat) (t : List UInt8) (h : ws b = true) : scanT line (b :: t) = scanT line t := by
  have hb : b ≠ 10 := by rintro rfl; revert h; decide
  rw [scanT, if_neg hb, if_pos h]
theorem scan_com {b : UInt8} (line : Nat) (t : List UInt8) (h : b = 47 ∧ t.head? = some 47) : scanT line (b :: t) = scanT line (skipc (b :: t)) := by
  have hb : b ≠ 10 := by rw [h.1]; decide
  have hw : ws b = false := by rw [h.1]; decide
  rw [scanT, if_neg hb, if_neg (by rw [hw]; simp), dif_pos h]
theorem scan_err {b : UInt8} {line e : Nat} {t : List UInt8} (hb : b ≠ 10) (hw : ws b = false) (hc : ¬ (b = 47 ∧ t.head? = some 47)) (h : one (b :: t) = .error e) : scanT line (b :: t) = .error (line, e) := by
  rw [scanT, if_neg hb, if_neg (by rw [hw]; simp), dif_neg hc, h]
theorem scan_tok {b : UInt8} {line n : Nat} {k : Tok} {t : List UInt8} (hb : b ≠ 10) (hw : ws b = false) (hc : ¬ (b = 47 ∧ t.head? = some 47)) (h : one (b :: t) = .ok (k, n)) (hn : n ≠ 0) :
    scanT line (b :: t) = (scanT line ((b :: t).drop n)).map fun r => (k, line) :: r := by
  rw [scanT, if_neg hb, if_neg (by rw [hw]; simp), dif_neg hc, h]
  show (if n = 0 then _ else _) = _
  rw [if_neg hn]

theorem one_name {b : UInt8} {t : List UInt8} (h : nm (b :: t) ≠ 0) : one (b :: t) = if fitN ((b :: t).take (nm (b :: t))) then .ok (⟨1, (b :: t).take (nm (b :: t)), 0⟩, nm (b :: t)) else .error 8 := by
  show oneC b t = _
  unfold oneC
  rw [if_pos h]
theorem one_int {b : UInt8} {t : List UInt8} (h : nm (b :: t) = 0) (hd : dg b = true) (hs : ∀ c r, (b :: t).drop (dlen (b :: t)) = c :: r → wch c = false) :
    one (b :: t) = (number ((b :: t).take (dlen (b :: t)))).map fun n => (⟨2, [], n⟩, dlen (b :: t)) := by
  show oneC b t = _
  unfold oneC
  rw [if_neg (not_not_intro h), if_pos hd]
  split
  · rfl
  · rename_i c r e
    rw [hs c r e]
    rfl
theorem one_int_bad {b c : UInt8} {t r : List UInt8} (h : nm (b :: t) = 0) (hd : dg b = true) (e : (b :: t).drop (dlen (b :: t)) = c :: r) (hs : wch c = true) : one (b :: t) = .error 2 := by
  show oneC b t = _
  unfold oneC
  rw [if_neg (not_not_intro h), if_pos hd]
  split
  · rename_i e2; rw [e] at e2; cases e2
  · rename_i c r e2
    rw [e] at e2
    cases e2
    rw [if_pos hs]
theorem one_text {t : List UInt8} (h : nm (34 :: t) = 0) : one (34 :: t) = if (unquote (34 :: t)).2.2 = 0 then .ok (⟨3, (unquote (34 :: t)).1, 0⟩, (unquote (34 :: t)).2.1) else .error 2 := by
  show oneC 34 t = _
  unfold oneC
  rw [if_neg (not_not_intro h), if_neg (by decide), if_pos rfl]
theorem one_sign {b : UInt8} {t : List UInt8} (h : nm (b :: t) = 0) (hd : dg b = false) (hq : b ≠ 34) : one (b :: t) = if signs.contains b then .ok (⟨4, [b], 0⟩, 1) else .error 2 := by
  show oneC b t = _
  unfold oneC
  rw [if_neg (not_not_intro h), if_neg (by rw [hd]; simp), if_neg hq]

/-- A token as it is written; nothing if it cannot be. -/
def wrtn (k : Tok) : List UInt8 :=
  if k.kind = 2 then (if k.text = [] then ScaM.dec (uI k.num) else [])
  else if k.num ≠ 0 then []
  else if k.kind = 3 then quote k.text
  else if k.kind = 4 then (match k.text with | [b] => if signs.contains b then [b] else [] | _ => [])
  else if k.kind = 1 then (if nm k.text = k.text.length ∧ k.text ≠ [] ∧ fitN k.text = true then k.text else [])
  else []

theorem wrtn_int (n : Int) : wrtn ⟨2, [], n⟩ = ScaM.dec (uI n) := rfl
theorem wrtn_text (x : List UInt8) : wrtn ⟨3, x, 0⟩ = quote x := rfl
theorem wrtn_sign (b : UInt8) : wrtn ⟨4, [b], 0⟩ = if signs.contains b then [b] else [] := rfl
theorem wrtn_name (x : List UInt8) : wrtn ⟨1, x, 0⟩ = if nm x = x.length ∧ x ≠ [] ∧ fitN x = true then x else [] := rfl
theorem all_takeWhile (p : UInt8 → Bool) : ∀ l : List UInt8, (l.takeWhile p).all p = true
  | [] => rfl
  | b :: t => by
    by_cases hb : p b = true
    · rw [List.takeWhile_cons_of_pos hb, List.all_cons, hb, all_takeWhile p t]; rfl
    · rw [List.takeWhile_cons_of_neg hb]; rfl

theorem nm_first {b : UInt8} {t : List UInt8} (h : nm (b :: t) ≠ 0) : b = 46 ∨ ltr b = true := by
  by_cases hb : b = 46
  · exact .inl hb
  · right
    cases hl : ltr b with
    | true => rfl
    | false => rw [nm_let _ hb, dname_not hl] at h; exact absurd rfl h
theorem nm_zero {b : UInt8} (t : List UInt8) (h1 : b ≠ 46) (h2 : ltr b = false) : nm (b :: t) = 0 := by
  rw [nm_let _ h1, dname_not h2]
theorem dg_not {b : UInt8} (h : dg b = true) : b ≠ 46 ∧ ltr b = false := by
  have h2 : 48 ≤ b.toNat ∧ b.toNat ≤ 57 := by simpa [dg] using h
  refine ⟨?_, ?_⟩
  · rintro rfl; simp at h2
  · simp [ltr, sm, cp]; omega
theorem signs_not {b : UInt8} (h : signs.contains b = true) : b ≠ 46 ∧ ltr b = false ∧ dg b = false ∧ b ≠ 34 ∧ b ≠ 10 ∧ ws b = false ∧ b ≠ 47 := by
  have hm : b ∈ signs := by simpa using h
  simp only [signs, List.mem_cons, List.not_mem_nil, or_false] at hm
  rcases hm with rfl | rfl | rfl | rfl | rfl | rfl | rfl | rfl | rfl | rfl | rfl | rfl | rfl <;> decide
theorem dlen_le (l : List UInt8) : dlen l ≤ l.length := (List.takeWhile_prefix _).length_le
theorem dlen_take (l : List UInt8) : l.take (dlen l) = l.takeWhile dg := by
  unfold dlen
  induction l with
  | nil => rfl
  | cons b t ih =>
    by_cases hb : dg b = true
    · rw [List.takeWhile_cons_of_pos hb, List.length_cons, List.take_succ_cons, ih]
    · rw [List.takeWhile_cons_of_neg hb]; rfl
theorem sI_uI (n : Nat) (h : n < 18446744073709551616) : uI (sI n) = n := by
  unfold uI sI
  split <;> split <;> omega
theorem uI_sI (n : Int) (h1 : -9223372036854775808 ≤ n) (h2 : n ≤ 9223372036854775807) : sI (uI n) = n := by
  unfold uI sI
  split <;> split <;> omega
theorem uI_lt (n : Int) (h1 : -9223372036854775808 ≤ n) (h2 : n ≤ 9223372036854775807) : uI n < 18446744073709551616 := by
  unfold uI
  split <;> omega

/-- What was read is written as it stood. -/
theorem one_wrtn {l : List UInt8} {k : Tok} {n : Nat} (h : one l = .ok (k, n)) : wrtn k = l.take n ∧ 1 ≤ n ∧ n ≤ l.length := by
  cases l with
  | nil => simp [one] at h
  | cons b t =>
    by_cases h0 : nm (b :: t) = 0
    · cases hd : dg b with
      | true =>
        have hle := dlen_le (b :: t)
        have hpos : 1 ≤ dlen (b :: t) := by unfold dlen; rw [List.takeWhile_cons_of_pos hd]; simp
        have key : (number ((b :: t).take (dlen (b :: t)))).map (fun n => ((⟨2, [], n⟩ : Tok), dlen (b :: t))) = .ok (k, n) → wrtn k = (b :: t).take n ∧ 1 ≤ n ∧ n ≤ (b :: t).length := by
          intro hk
          unfold number at hk
          split at hk
          · cases hk
          · rename_i h1
            split at hk
            · cases hk
            · rename_i h2
              simp only [Except.map, Except.ok.injEq, Prod.mk.injEq] at hk
              obtain ⟨rfl, rfl⟩ := hk
              refine ⟨?_, hpos, hle⟩
              have hall : ((b :: t).take (dlen (b :: t))).all dg = true := by
                rw [dlen_take]
                exact all_takeWhile dg _
              have hne : (b :: t).take (dlen (b :: t)) ≠ [] := by
                obtain ⟨m, hm⟩ : ∃ m, dlen (b :: t) = m + 1 := ⟨dlen (b :: t) - 1, by omega⟩
                rw [hm, List.take_succ_cons]; simp
              rw [wrtn_int, sI_uI _ (by omega)]
              refine dec_natD _ _ rfl hall hne ?_
              intro h48
              have hlen : ¬ 1 < ((b :: t).take (dlen (b :: t))).length := fun hl => h1 ⟨hl, h48⟩
              cases hc : (b :: t).take (dlen (b :: t)) with
              | nil => exact absurd hc hne
              | cons x r =>
                rw [hc] at hlen h48
                simp only [List.length_cons] at hlen
                have hr : r = [] := List.length_eq_zero_iff.1 (by omega)
                rw [hr]
                simpa using h48
        cases e : (b :: t).drop (dlen (b :: t)) with
        | nil =>
          rw [one_int h0 hd (fun c r e2 => by rw [e] at e2; cases e2)] at h
          exact key h
        | cons c r =>
          cases hw : wch c with
          | true => rw [one_int_bad h0 hd e hw] at h; cases h
          | false =>
            rw [one_int h0 hd (fun c2 r2 e2 => by rw [e] at e2; cases e2; exact hw)] at h
            exact key h
      | false =>
        by_cases hq : b = 34
        · subst hq
          rw [one_text h0] at h
          split at h
          · rename_i hu
            rcases unquote_cases (34 :: t) with h1 | ⟨s, m, h1, h2, h3, h4⟩
            · rw [h1] at hu; simp at hu
            · rw [h1] at h
              simp only [Except.ok.injEq, Prod.mk.injEq] at h
              obtain ⟨rfl, rfl⟩ := h
              refine ⟨?_, by omega, h3⟩
              rw [wrtn_text, h4]
          · cases h
        · rw [one_sign h0 hd hq] at h
          split at h
          · rename_i hs
            simp only [Except.ok.injEq, Prod.mk.injEq] at h
            obtain ⟨rfl, rfl⟩ := h
            refine ⟨?_, Nat.le_refl _, by simp⟩
            rw [wrtn_sign, if_pos hs]
            rfl
          · cases h
    · rw [one_name h0] at h
      split at h
      · rename_i hf
        simp only [Except.ok.injEq, Prod.mk.injEq] at h
        obtain ⟨rfl, rfl⟩ := h
        have hle := nm_le (b :: t)
        refine ⟨?_, by omega, hle⟩
        rw [wrtn_name, if_pos]
        refine ⟨by rw [nm_take, List.length_take]; omega, ?_, hf⟩
        obtain ⟨m, hm⟩ : ∃ m, nm (b :: t) = m + 1 := ⟨nm (b :: t) - 1, by omega⟩
        rw [hm, List.take_succ_cons]; simp
      · cases h

/-- What may stand behind a token: nothing, a space, a line feed, a carriage return. -/
def sep (r : List UInt8) : Prop := ∀ c t, r = c :: t → c = 32 ∨ c = 10 ∨ c = 13
theorem sep_apart {r : List UInt8} (h : sep r) : apart r := by
  intro c t e
  rcases h c t e with rfl | rfl | rfl <;> decide
theorem sep_wch {r : List UInt8} (h : sep r) : ∀ c t, r = c :: t → wch c = false ∧ dg c = false := by
  intro c t e
  rcases h c t e with rfl | rfl | rfl <;> decide
theorem dlen_append {l r : List UInt8} (h : sep r) : dlen (l ++ r) = dlen l := by
  unfold dlen
  induction l with
  | nil =>
    cases r with
    | nil => rfl
    | cons c t =>
      have := (sep_wch h c t rfl).2
      rw [List.nil_append, List.takeWhile_cons_of_neg (by rw [this]; simp)]
      rfl
  | cons b t ih =>
    by_cases hb : dg b = true
    · rw [List.cons_append, List.takeWhile_cons_of_pos hb, List.takeWhile_cons_of_pos hb, List.length_cons, List.length_cons, ih]
    · rw [List.cons_append, List.takeWhile_cons_of_neg hb, List.takeWhile_cons_of_neg hb]
end Go.Proofs.YthjpchnogllliaaGreatDoor.TokS

/- Stage 7 as plain mathematics: what is written is read again; spaces, line ends and comments change nothing but lines. Of no program. -/
set_option linter.unusedSimpArgs false
set_option linter.unusedVariables false
namespace Go.Proofs.YthjpchnogllliaaGreatDoor.TokT
open IdnM IdnC UtfM UtfQ TokM TokD TokS

theorem wlen_local {l r : List UInt8} (hr : apart r) : wlen (l ++ r) = wlen l := by
  rcases Nat.lt_or_ge (wlen l) l.length with h | h
  · exact wlen_append h
  · have e := Nat.le_antisymm (wlen_le l) h
    rw [wlen_full e hr, e]
theorem dname_apart {r : List UInt8} (hr : apart r) : dname r = 0 := by
  cases r with
  | nil => exact dname_nil
  | cons c t =>
    refine dname_not ?_
    cases hl : ltr c with
    | false => rfl
    | true =>
      have := (hr c t rfl).1
      rw [ltr_inn hl] at this
      cases this
theorem dname_local {r : List UInt8} (hr : apart r) : ∀ (n : Nat) (l : List UInt8), l.length ≤ n → dname (l ++ r) = dname l
  | _, [], _ => by rw [List.nil_append, dname_apart hr, dname_nil]
  | 0, b :: t, h => by simp at h
  | n + 1, b :: t, hn => by
    rw [List.cons_append]
    cases hb : ltr b with
    | false => rw [dname_not hb, dname_not hb]
    | true =>
      have hw : wlen (b :: (t ++ r)) = wlen (b :: t) := wlen_local (l := b :: t) hr
      have hle := wlen_le (b :: t)
      have hpos := wlen_pos (t := t) hb
      have hdrop : (b :: (t ++ r)).drop (wlen (b :: (t ++ r))) = (b :: t).drop (wlen (b :: t)) ++ r := by
        rw [hw]
        exact List.drop_append_of_le_length (l₁ := b :: t) hle
      cases e : (b :: t).drop (wlen (b :: t)) with
      | nil =>
        rw [e, List.nil_append] at hdrop
        rw [dname_end hb e]
        cases r with
        | nil => rw [dname_end hb hdrop, hw]
        | cons c q => rw [dname_no hb hdrop (hr c q rfl).2, hw]
      | cons c q =>
        rw [e, List.cons_append] at hdrop
        by_cases hc : c = 46
        · subst hc
          have h1 := congrArg List.length e
          simp only [List.length_drop, List.length_cons] at h1 hn
          rw [dname_dot hb hdrop, dname_dot hb e, hw, dname_local hr n q (by omega)]
        · rw [dname_no hb hdrop hc, dname_no hb e hc, hw]
theorem nm_local {l r : List UInt8} (hl : l ≠ []) (hr : apart r) : nm (l ++ r) = nm l := by
  cases l with
  | nil => exact absurd rfl hl
  | cons c t =>
    rw [List.cons_append]
    by_cases hc : c = 46
    · subst hc
      rw [nm_dot, nm_dot, dname_local hr _ t (Nat.le_refl _)]
    · rw [nm_let _ hc, nm_let _ hc]
      exact dname_local hr _ (c :: t) (Nat.le_refl _)
theorem one_local {l r : List UInt8} {k : Tok} {n : Nat} (h : one l = .ok (k, n)) (hr : sep r) : one (l ++ r) = .ok (k, n) := by
  have hw := one_wrtn h
  cases l with
  | nil => simp [one] at h
  | cons b t =>
    have hnm : nm (b :: (t ++ r)) = nm (b :: t) := nm_local (l := b :: t) (by simp) (sep_apart hr)
    have hdl : dlen (b :: (t ++ r)) = dlen (b :: t) := dlen_append (l := b :: t) hr
    have htk : ∀ m, m ≤ (b :: t).length → (b :: (t ++ r)).take m = (b :: t).take m := fun m hm => List.take_append_of_le_length (l₁ := b :: t) hm
    rw [List.cons_append]
    by_cases h0 : nm (b :: t) = 0
    · have h0' : nm (b :: (t ++ r)) = 0 := by rw [hnm, h0]
      cases hd : dg b with
      | true =>
        have hle := dlen_le (b :: t)
        have hdrop : (b :: (t ++ r)).drop (dlen (b :: (t ++ r))) = (b :: t).drop (dlen (b :: t)) ++ r := by
          rw [hdl]
          exact List.drop_append_of_le_length (l₁ := b :: t) hle
        cases e : (b :: t).drop (dlen (b :: t)) with
        | nil =>
          rw [e, List.nil_append] at hdrop
          rw [one_int h0 hd (fun c q e2 => by rw [e] at e2; cases e2)] at h
          rw [one_int h0' hd (fun c q e2 => (sep_wch hr c q (by rw [← hdrop, e2])).1), hdl, htk _ hle]
          exact h
        | cons c q =>
          rw [e, List.cons_append] at hdrop
          cases hwc : wch c with
          | true => rw [one_int_bad h0 hd e hwc] at h; cases h
          | false =>
            rw [one_int h0 hd (fun c2 r2 e2 => by rw [e] at e2; cases e2; exact hwc)] at h
            rw [one_int h0' hd (fun c2 r2 e2 => by rw [hdrop] at e2; cases e2; exact hwc), hdl, htk _ hle]
            exact h
      | false =>
        by_cases hq : b = 34
        · subst hq
          rw [one_text h0] at h
          rw [one_text h0']
          split at h
          · rename_i hu
            rcases unquote_cases (34 :: t) with h1 | ⟨s, m, h1, h2, h3, h4⟩
            · rw [h1] at hu; simp at hu
            · have hul : unquote (34 :: (t ++ r)) = (s, m, 0) := by
                have e1 : (34 :: (t ++ r) : List UInt8) = quote s ++ ((34 :: t).drop m ++ r) := by
                  rw [h4, ← List.append_assoc, List.take_append_drop]; rfl
                rw [e1, unquote_quote, h4, List.length_take, Nat.min_eq_left h3]
              rw [h1] at h
              rw [hul]
              exact h
          · cases h
        · rw [one_sign h0 hd hq] at h
          rw [one_sign h0' hd hq]
          exact h
    · have h0' : nm (b :: (t ++ r)) ≠ 0 := by rw [hnm]; exact h0
      rw [one_name h0] at h
      rw [one_name h0', hnm, htk _ (nm_le _)]
      exact h

/-- What is written is read again. -/
theorem one_back {k : Tok} (hw : wrtn k ≠ []) (h1 : -9223372036854775808 ≤ k.num) (h2 : k.num ≤ 9223372036854775807) {r : List UInt8} (hr : sep r) : one (wrtn k ++ r) = .ok (k, (wrtn k).length) := by
  refine one_local ?_ hr
  obtain ⟨kd, tx, nu⟩ := k
  simp only at h1 h2
  by_cases c2 : kd = 2
  · subst c2
    have htx : tx = [] := by
      by_cases ht : tx = []
      · exact ht
      · exact absurd (by simp only [wrtn]; rw [if_neg ht]; simp) hw
    subst htx
    rw [wrtn_int]
    have hlt := uI_lt nu h1 h2
    have hs := uI_sI nu h1 h2
    generalize uI nu = u at *
    obtain ⟨ha, hn⟩ := dec_all u
    have hne := ScaM.dec_ne u
    cases hd : ScaM.dec u with
    | nil => exact absurd hd hne
    | cons b t =>
      rw [hd] at ha hn
      have hb : dg b = true := by rw [List.all_cons, Bool.and_eq_true] at ha; exact ha.1
      have hnot := dg_not hb
      have hfull : (b :: t).takeWhile dg = b :: t := by
        have : ∀ l : List UInt8, l.all dg = true → l.takeWhile dg = l := by
          intro l
          induction l with
          | nil => intro _; rfl
          | cons x y ih =>
            intro h
            rw [List.all_cons, Bool.and_eq_true] at h
            rw [List.takeWhile_cons_of_pos h.1, ih h.2]
        exact this _ ha
      have hdl : dlen (b :: t) = (b :: t).length := by unfold dlen; rw [hfull]
      rw [one_int (nm_zero t hnot.1 hnot.2) hb (fun c q e => by rw [hdl, List.drop_length] at e; cases e), hdl, List.take_length]
      have hnum : number (b :: t) = .ok nu := by
        unfold number
        rw [if_neg, if_neg (by rw [hn]; omega), hn, hs]
        rintro ⟨hl, h48⟩
        have hu0 : u = 0 := by
          by_cases h0 : u = 0
          · exact h0
          · have := dec_head u h0
            rw [hd] at this
            exact absurd h48 this
        rw [hu0, ScaM.dec_small (by omega)] at hd
        have := congrArg List.length hd
        simp only [List.length_cons, List.length_nil] at this hl
        omega
      rw [hnum]
      rfl
  · by_cases c0 : nu = 0
    · subst c0
      by_cases c3 : kd = 3
      · subst c3
        rw [wrtn_text]
        have hz : nm (quote tx) = 0 := by unfold quote; exact nm_zero _ (by decide) (by decide)
        have hu := unquote_quote tx []
        rw [List.append_nil] at hu
        have e : ∃ t, quote tx = 34 :: t := ⟨_, rfl⟩
        obtain ⟨t, ht⟩ := e
        rw [ht] at hz hu ⊢
        rw [one_text hz, hu]
        rfl
      · by_cases c4 : kd = 4
        · subst c4
          have hx : ∃ b, tx = [b] ∧ signs.contains b = true := by
            simp only [wrtn] at hw
            cases tx with
            | nil => simp at hw
            | cons b q =>
              cases q with
              | nil =>
                refine ⟨b, rfl, ?_⟩
                cases hc : signs.contains b with
                | true => rfl
                | false => simp [hc] at hw; exact absurd hc (by simp [hw])
              | cons _ _ => simp at hw
          obtain ⟨b, rfl, hb⟩ := hx
          have hn := signs_not hb
          rw [wrtn_sign, if_pos hb, one_sign (nm_zero _ hn.1 hn.2.1) hn.2.2.1 hn.2.2.2.1, if_pos hb]
          rfl
        · by_cases c1 : kd = 1
          · subst c1
            rw [wrtn_name] at hw ⊢
            by_cases hc : nm tx = tx.length ∧ tx ≠ [] ∧ fitN tx = true
            · rw [if_pos hc]
              obtain ⟨g1, g2, g3⟩ := hc
              cases tx with
              | nil => exact absurd rfl g2
              | cons b t =>
                have h0 : nm (b :: t) ≠ 0 := by rw [g1]; simp
                rw [one_name h0, g1, List.take_length, if_pos g3]
            · rw [if_neg hc] at hw
              exact absurd rfl hw
          · exact absurd (by simp [wrtn, c2, c3, c4, c1]) hw
    · exact absurd (by simp [wrtn, c2, c0]) hw

/-- The first byte of a token begins no line, is no space, and begins no comment. -/
theorem one_first {b : UInt8} {t : List UInt8} {k : Tok} {n : Nat} (h : one (b :: t) = .ok (k, n)) : b ≠ 10 ∧ ws b = false ∧ b ≠ 47 := by
  have hn : ∀ x : UInt8, (x = 10 ∨ ws x = true ∨ x = 47) → x ≠ 46 ∧ ltr x = false ∧ dg x = false ∧ x ≠ 34 ∧ signs.contains x = false := by
    intro x hx
    rcases hx with rfl | hx | rfl
    · decide
    · simp only [ws, Bool.or_eq_true, decide_eq_true_eq] at hx
      rcases hx with (rfl | rfl) | rfl <;> decide
    · decide
  have key : ¬ (b = 10 ∨ ws b = true ∨ b = 47) := by
    intro hx
    obtain ⟨h1, h2, h3, h4, h5⟩ := hn b hx
    rw [one_sign (nm_zero t h1 h2) h3 h4, if_neg (by rw [h5]; simp)] at h
    cases h
  refine ⟨fun e => key (.inl e), ?_, fun e => key (.inr (.inr e))⟩
  cases hw : ws b with
  | false => rfl
  | true => exact absurd (.inr (.inl hw)) key
theorem scan_one {line n : Nat} {l : List UInt8} {k : Tok} (h : one l = .ok (k, n)) : scanT line l = (scanT line (l.drop n)).map fun r => (k, line) :: r := by
  cases l with
  | nil => simp [one] at h
  | cons b t =>
    obtain ⟨h1, h2, h3⟩ := one_first h
    have := one_wrtn h
    exact scan_tok h1 h2 (fun e => h3 e.1) h (by omega)
end Go.Proofs.YthjpchnogllliaaGreatDoor.TokT

/- Stage 7 as plain mathematics: printing, reading back, tails, shifted lines, ascending lines. Of no program. -/
set_option linter.unusedSimpArgs false
set_option linter.unusedVariables false
namespace Go.Proofs.YthjpchnogllliaaGreatDoor.TokU
open IdnM IdnC UtfM UtfQ TokM TokD TokS TokT

def endsLine (k : Tok) : Bool := decide (k.kind = 4) && (decide (wrtn k = [59]) || decide (wrtn k = [123]) || decide (wrtn k = [125]))
def sepOf (k : Tok) (more : Bool) : List UInt8 := if endsLine k then [10] else if more then [32] else []
/-- The tokens as they are written, one behind the other. -/
def pr : List Tok → List UInt8
  | [] => []
  | k :: rest => wrtn k ++ (sepOf k (!rest.isEmpty) ++ pr rest)
def wrt (k : Tok) : Bool := !(wrtn k).isEmpty
theorem wrt_iff {k : Tok} : wrt k = true ↔ wrtn k ≠ [] := by
  unfold wrt
  cases wrtn k <;> simp
/-- The tokens as a text, if they can be. -/
def print (l : List Tok) : List UInt8 := if (l.all wrt && decide ((pr l).length ≤ 16384)) = true then pr l else []
def inI (k : Tok) : Prop := -9223372036854775808 ≤ k.num ∧ k.num ≤ 9223372036854775807

theorem sep_of (k : Tok) (rest : List Tok) : sep (sepOf k (!rest.isEmpty) ++ pr rest) := by
  intro c t e
  unfold sepOf at e
  split at e
  · cases e; exact .inr (.inl rfl)
  · split at e
    · cases e; exact .inl rfl
    · rename_i h
      have : rest = [] := by simpa using h
      subst this
      simp [pr] at e
theorem scan_pr : ∀ (l : List Tok) (line : Nat), (∀ k ∈ l, wrtn k ≠ [] ∧ inI k) → ∃ toks, scanT line (pr l) = .ok toks ∧ toks.map (·.1) = l
  | [], line, _ => ⟨[], by rw [pr, TokS.scan_nil], rfl⟩
  | k :: rest, line, h => by
    obtain ⟨hw, hi⟩ := h k (by simp)
    have hone := one_back hw hi.1 hi.2 (sep_of k rest)
    have hrest : ∀ line2, ∃ toks, scanT line2 (pr rest) = .ok toks ∧ toks.map (·.1) = rest := fun line2 => scan_pr rest line2 (fun x hx => h x (by simp [hx]))
    have hr : ∃ toks, scanT line (sepOf k (!rest.isEmpty) ++ pr rest) = .ok toks ∧ toks.map (·.1) = rest := by
      unfold sepOf
      split
      · rw [List.singleton_append, scan_lf]; exact hrest _
      · split
        · rw [List.singleton_append, scan_ws line _ (by decide)]; exact hrest _
        · rw [List.nil_append]; exact hrest _
    obtain ⟨toks, h1, h2⟩ := hr
    refine ⟨(k, line) :: toks, ?_, by simp [h2]⟩
    rw [pr, scan_one hone, List.drop_left, h1]
    rfl
theorem number_in {ds : List UInt8} {n : Int} (h : number ds = .ok n) : -9223372036854775808 ≤ n ∧ n ≤ 9223372036854775807 := by
  unfold number at h
  split at h
  · cases h
  · split at h
    · cases h
    · simp only [Except.ok.injEq] at h
      rw [← h]
      unfold sI
      split <;> omega
theorem one_in {l : List UInt8} {k : Tok} {n : Nat} (h : one l = .ok (k, n)) : inI k := by
  cases l with
  | nil => simp [one] at h
  | cons b t =>
    by_cases h0 : nm (b :: t) = 0
    · cases hd : dg b with
      | true =>
        have key : (number ((b :: t).take (dlen (b :: t)))).map (fun n => ((⟨2, [], n⟩ : Tok), dlen (b :: t))) = .ok (k, n) → inI k := by
          intro hk
          cases hn : number ((b :: t).take (dlen (b :: t))) with
          | error e => rw [hn] at hk; cases hk
          | ok m =>
            rw [hn] at hk
            simp only [Except.map, Except.ok.injEq, Prod.mk.injEq] at hk
            obtain ⟨rfl, _⟩ := hk
            exact number_in hn
        cases e : (b :: t).drop (dlen (b :: t)) with
        | nil =>
          rw [one_int h0 hd (fun c r e2 => by rw [e] at e2; cases e2)] at h
          exact key h
        | cons c r =>
          cases hw : wch c with
          | true => rw [one_int_bad h0 hd e hw] at h; cases h
          | false =>
            rw [one_int h0 hd (fun c2 r2 e2 => by rw [e] at e2; cases e2; exact hw)] at h
            exact key h
      | false =>
        by_cases hq : b = 34
        · subst hq
          rw [one_text h0] at h
          split at h
          · simp only [Except.ok.injEq, Prod.mk.injEq] at h
            obtain ⟨rfl, _⟩ := h
            exact ⟨by show (-9223372036854775808 : Int) ≤ 0; decide, by show (0 : Int) ≤ 9223372036854775807; decide⟩
          · cases h
        · rw [one_sign h0 hd hq] at h
          split at h
          · simp only [Except.ok.injEq, Prod.mk.injEq] at h
            obtain ⟨rfl, _⟩ := h
            exact ⟨by show (-9223372036854775808 : Int) ≤ 0; decide, by show (0 : Int) ≤ 9223372036854775807; decide⟩
          · cases h
    · rw [one_name h0] at h
      split at h
      · simp only [Except.ok.injEq, Prod.mk.injEq] at h
        obtain ⟨rfl, _⟩ := h
        exact ⟨by show (-9223372036854775808 : Int) ≤ 0; decide, by show (0 : Int) ≤ 9223372036854775807; decide⟩
      · cases h

/-- Cases of a scan. -/
theorem scan_ind {M : Nat → List UInt8 → Except (Nat × Nat) (List (Tok × Nat)) → Prop}
    (hnil : ∀ line, M line [] (.ok []))
    (hlf : ∀ line t, M (line + 1) t (scanT (line + 1) t) → M line (10 :: t) (scanT (line + 1) t))
    (hws : ∀ line b t, ws b = true → M line t (scanT line t) → M line (b :: t) (scanT line t))
    (hcom : ∀ line t, M line (skipc (47 :: 47 :: t)) (scanT line (skipc (47 :: 47 :: t))) → M line (47 :: 47 :: t) (scanT line (skipc (47 :: 47 :: t))))
    (herr : ∀ line b t e, b ≠ 10 → ws b = false → ¬ (b = 47 ∧ t.head? = some 47) → one (b :: t) = .error e → M line (b :: t) (.error (line, e)))
    (htok : ∀ line l k n, one l = .ok (k, n) → M line (l.drop n) (scanT line (l.drop n)) → M line l ((scanT line (l.drop n)).map fun r => (k, line) :: r)) :
    ∀ line l, M line l (scanT line l) := by
  intro line l
  generalize hn : l.length = n
  induction n using Nat.strongRecOn generalizing line l with
  | _ n ih =>
    cases l with
    | nil => rw [TokS.scan_nil]; exact hnil line
    | cons b t =>
      simp only [List.length_cons] at hn
      by_cases hb : b = 10
      · subst hb
        rw [scan_lf]
        exact hlf line t (ih t.length (by omega) _ t rfl)
      · cases hw : ws b with
        | true =>
          rw [scan_ws line t hw]
          exact hws line b t hw (ih t.length (by omega) _ t rfl)
        | false =>
          by_cases hc : b = 47 ∧ t.head? = some 47
          · rw [scan_com line t hc]
            obtain ⟨rfl, h2⟩ := hc
            cases t with
            | nil => cases h2
            | cons c r =>
              simp only [List.head?_cons, Option.some.injEq] at h2
              subst h2
              have hlt := skipc_lt (b := 47) (47 :: r) (by decide)
              simp only [List.length_cons] at hlt hn
              exact hcom line r (ih _ (by omega) _ _ rfl)
          · cases ho : one (b :: t) with
            | error e => rw [scan_err hb hw hc ho]; exact herr line b t e hb hw hc ho
            | ok p =>
              obtain ⟨k, m⟩ := p
              have h1 := one_wrtn ho
              rw [scan_one ho]
              exact htok line _ k m ho (ih _ (by simp only [List.length_drop, List.length_cons]; omega) _ _ rfl)
theorem map_ok {x : Except (Nat × Nat) (List (Tok × Nat))} {f : List (Tok × Nat) → List (Tok × Nat)} {r : List (Tok × Nat)} (h : x.map f = .ok r) : ∃ y, x = .ok y ∧ r = f y := by
  cases x with
  | error e => cases h
  | ok y => cases h; exact ⟨y, rfl, rfl⟩
theorem map_err {x : Except (Nat × Nat) (List (Tok × Nat))} {f : List (Tok × Nat) → List (Tok × Nat)} {e : Nat × Nat} (h : x.map f = .error e) : x = .error e := by
  cases x with
  | error e => cases h; rfl
  | ok y => cases h

theorem sepOf_len (k : Tok) (m : Bool) : (sepOf k m).length ≤ 1 := by
  unfold sepOf
  split
  · simp
  · split <;> simp
theorem pr_len_cons (k : Tok) (rest : List Tok) : (pr (k :: rest)).length ≤ (wrtn k).length + 1 + (pr rest).length := by
  rw [pr, List.length_append, List.length_append]
  have := sepOf_len k (!rest.isEmpty)
  omega
/-- Tokens that were read can be written, in at most twice the bytes. -/
theorem scan_fine (line : Nat) (l : List UInt8) : ∀ toks, scanT line l = .ok toks → (pr (toks.map (·.1))).length ≤ 2 * l.length ∧ ∀ k ∈ toks.map (·.1), wrtn k ≠ [] ∧ inI k := by
  refine scan_ind (M := fun line l x => ∀ toks, x = .ok toks → (pr (toks.map (·.1))).length ≤ 2 * l.length ∧ ∀ k ∈ toks.map (·.1), wrtn k ≠ [] ∧ inI k) ?_ ?_ ?_ ?_ ?_ ?_ line l
  · intro line toks h
    cases h
    exact ⟨Nat.le_refl _, by simp⟩
  · intro line t ih toks h
    obtain ⟨h1, h2⟩ := ih toks h
    exact ⟨by simp only [List.length_cons]; omega, h2⟩
  · intro line b t hw ih toks h
    obtain ⟨h1, h2⟩ := ih toks h
    exact ⟨by simp only [List.length_cons]; omega, h2⟩
  · intro line t ih toks h
    obtain ⟨h1, h2⟩ := ih toks h
    have := skipc_le (47 :: 47 :: t)
    exact ⟨by omega, h2⟩
  · intro line b t e _ _ _ _ toks h
    cases h
  · intro line l k n ho ih toks h
    obtain ⟨y, hy, rfl⟩ := map_ok h
    obtain ⟨h1, h2⟩ := ih y hy
    obtain ⟨w1, w2, w3⟩ := one_wrtn ho
    have hlen : (wrtn k).length = n := by rw [w1, List.length_take]; omega
    constructor
    · show (pr (k :: y.map (·.1))).length ≤ _
      have := pr_len_cons k (y.map (·.1))
      rw [List.length_drop] at h1
      omega
    · intro x hx
      rw [List.map_cons] at hx
      rcases List.mem_cons.1 hx with rfl | hx
      · refine ⟨?_, one_in ho⟩
        intro e
        rw [e] at hlen
        simp at hlen
        omega
      · exact h2 x hx
theorem print_fine {l : List Tok} (h1 : (pr l).length ≤ 16384) (h2 : ∀ k ∈ l, wrtn k ≠ []) : print l = pr l := by
  unfold print
  rw [if_pos]
  rw [Bool.and_eq_true, List.all_eq_true, decide_eq_true_eq]
  exact ⟨fun k hk => wrt_iff.2 (h2 k hk), h1⟩
theorem print_ne {l : List Tok} (h : print l ≠ []) : print l = pr l ∧ (pr l).length ≤ 16384 ∧ ∀ k ∈ l, wrtn k ≠ [] := by
  unfold print at h ⊢
  by_cases hc : (l.all wrt && decide ((pr l).length ≤ 16384)) = true
  · rw [if_pos hc]
    rw [Bool.and_eq_true, List.all_eq_true, decide_eq_true_eq] at hc
    exact ⟨rfl, hc.2, fun k hk => wrt_iff.1 (hc.1 k hk)⟩
  · rw [if_neg hc] at h; exact absurd rfl h

/-- Lines shifted. -/
def shift (n : Nat) (x : Except (Nat × Nat) (List (Tok × Nat))) : Except (Nat × Nat) (List (Tok × Nat)) := match x with
  | .ok l => .ok (l.map fun p => (p.1, p.2 + n))
  | .error e => .error (e.1 + n, e.2)
theorem shift_map (n : Nat) (k : Tok) (line : Nat) (x : Except (Nat × Nat) (List (Tok × Nat))) : shift n (x.map fun r => (k, line) :: r) = (shift n x).map fun r => (k, line + n) :: r := by
  cases x <;> rfl
theorem scan_shift (n line : Nat) (l : List UInt8) : scanT (line + n) l = shift n (scanT line l) := by
  refine scan_ind (M := fun line l x => scanT (line + n) l = shift n x) ?_ ?_ ?_ ?_ ?_ ?_ line l
  · intro line; rw [TokS.scan_nil]; rfl
  · intro line t ih
    rw [scan_lf, show line + n + 1 = line + 1 + n by omega]
    exact ih
  · intro line b t hw ih
    rw [scan_ws _ _ hw]
    exact ih
  · intro line t ih
    rw [scan_com _ _ ⟨rfl, rfl⟩]
    exact ih
  · intro line b t e h1 h2 h3 h4
    rw [scan_err h1 h2 h3 h4]
    rfl
  · intro line l k m ho ih
    rw [scan_one ho, ih, shift_map]
theorem scan_lfs : ∀ (n line : Nat) (l : List UInt8), scanT line (List.replicate n 10 ++ l) = scanT (line + n) l
  | 0, line, l => rfl
  | n + 1, line, l => by
    rw [List.replicate_succ, List.cons_append, scan_lf, scan_lfs n (line + 1) l, show line + 1 + n = line + (n + 1) by omega]

def lfs (l : List UInt8) : Nat := l.count 10
theorem lfs_drop (l : List UInt8) (n : Nat) : lfs (l.drop n) ≤ lfs l := List.Sublist.count_le _ (List.drop_sublist n l)
theorem lfs_skip (l : List UInt8) : lfs (skipc l) ≤ lfs l := List.Sublist.count_le _ (List.dropWhile_sublist _)
/-- The lines of tokens ascend, and exist; also that of an error. -/
def Lined (line : Nat) (l : List UInt8) (x : Except (Nat × Nat) (List (Tok × Nat))) : Prop := match x with
  | .ok r => (r.map (·.2)).Pairwise (· ≤ ·) ∧ ∀ p ∈ r, line ≤ p.2 ∧ p.2 ≤ line + lfs l
  | .error e => line ≤ e.1 ∧ e.1 ≤ line + lfs l ∧ e.2 ≠ 0
theorem Lined.mono {line line2 : Nat} {l l2 : List UInt8} {x : Except (Nat × Nat) (List (Tok × Nat))} (h : Lined line2 l2 x) (h1 : line ≤ line2) (h2 : line2 + lfs l2 ≤ line + lfs l) : Lined line l x := by
  cases x with
  | error e => exact ⟨Nat.le_trans h1 h.1, Nat.le_trans h.2.1 h2, h.2.2⟩
  | ok r => exact ⟨h.1, fun p hp => ⟨Nat.le_trans h1 (h.2 p hp).1, Nat.le_trans (h.2 p hp).2 h2⟩⟩
theorem number_err {ds : List UInt8} {e : Nat} (h : number ds = .error e) : e ≠ 0 := by
  unfold number at h
  split at h
  · cases h; decide
  · split at h
    · cases h; decide
    · cases h
theorem one_err {b : UInt8} {t : List UInt8} {e : Nat} (h : one (b :: t) = .error e) : e ≠ 0 := by
  by_cases h0 : nm (b :: t) = 0
  · cases hd : dg b with
    | true =>
      have key : (number ((b :: t).take (dlen (b :: t)))).map (fun n => ((⟨2, [], n⟩ : Tok), dlen (b :: t))) = .error e → e ≠ 0 := by
        intro hk
        cases hn : number ((b :: t).take (dlen (b :: t))) with
        | error e2 => rw [hn] at hk; cases hk; exact number_err hn
        | ok m => rw [hn] at hk; cases hk
      cases e2 : (b :: t).drop (dlen (b :: t)) with
      | nil =>
        rw [one_int h0 hd (fun c r e3 => by rw [e2] at e3; cases e3)] at h
        exact key h
      | cons c r =>
        cases hw : wch c with
        | true => rw [one_int_bad h0 hd e2 hw] at h; cases h; decide
        | false =>
          rw [one_int h0 hd (fun c2 r2 e3 => by rw [e2] at e3; cases e3; exact hw)] at h
          exact key h
    | false =>
      by_cases hq : b = 34
      · subst hq
        rw [one_text h0] at h
        split at h
        · cases h
        · cases h; decide
      · rw [one_sign h0 hd hq] at h
        split at h
        · cases h
        · cases h; decide
  · rw [one_name h0] at h
    split at h
    · cases h
    · cases h; decide
theorem scan_lined (line : Nat) (l : List UInt8) : Lined line l (scanT line l) := by
  refine scan_ind (M := fun line l x => Lined line l x) ?_ ?_ ?_ ?_ ?_ ?_ line l
  · intro line; exact ⟨List.Pairwise.nil, by simp⟩
  · intro line t ih
    refine ih.mono (by omega) ?_
    have : lfs (10 :: t) = lfs t + 1 := by unfold lfs; rw [List.count_cons_self]
    omega
  · intro line b t hw ih
    refine ih.mono (Nat.le_refl _) ?_
    have := lfs_drop (b :: t) 1
    simp only [List.drop_succ_cons, List.drop_zero] at this
    omega
  · intro line t ih
    refine ih.mono (Nat.le_refl _) ?_
    have := lfs_skip (47 :: 47 :: t)
    omega
  · intro line b t e h1 h2 h3 h4
    exact ⟨Nat.le_refl _, Nat.le_add_right _ _, one_err h4⟩
  · intro line l k n ho ih
    have hd := lfs_drop l n
    have ih2 := ih.mono (line := line) (l := l) (Nat.le_refl _) (by omega)
    cases hx : scanT line (l.drop n) with
    | error e => rw [hx] at ih2; exact ih2
    | ok r =>
      rw [hx] at ih2
      refine ⟨?_, ?_⟩
      · show ((k, line) :: r).map (·.2) |>.Pairwise (· ≤ ·)
        rw [List.map_cons, List.pairwise_cons]
        refine ⟨?_, ih2.1⟩
        intro m hm
        obtain ⟨p, hp, rfl⟩ := List.mem_map.1 hm
        exact (ih2.2 p hp).1
      · intro p hp
        rcases List.mem_cons.1 hp with rfl | hp
        · exact ⟨Nat.le_refl _, Nat.le_add_right _ _⟩
        · exact ih2.2 p hp

theorem scan_count (line : Nat) (l : List UInt8) : ∀ toks, scanT line l = .ok toks → toks.length ≤ l.length := by
  refine scan_ind (M := fun line l x => ∀ toks, x = .ok toks → toks.length ≤ l.length) ?_ ?_ ?_ ?_ ?_ ?_ line l
  · intro line toks h; cases h; exact Nat.le_refl _
  · intro line t ih toks h; have := ih toks h; simp only [List.length_cons]; omega
  · intro line b t hw ih toks h; have := ih toks h; simp only [List.length_cons]; omega
  · intro line t ih toks h
    have := ih toks h
    have := skipc_le (47 :: 47 :: t)
    omega
  · intro line b t e _ _ _ _ toks h; cases h
  · intro line l k n ho ih toks h
    obtain ⟨y, hy, rfl⟩ := map_ok h
    have h1 := ih y hy
    obtain ⟨_, w2, w3⟩ := one_wrtn ho
    rw [List.length_drop] at h1
    simp only [List.length_cons]
    omega
/-- What may be written behind a text without changing its tokens. -/
structure Tail (T : List UInt8) : Prop where
  all : ∀ line, scanT line T = .ok []
  skip : ∀ line, scanT line (skipc T) = .ok []
  sp : sep T
  first : T.head? ≠ some 47
theorem skipc_cons {l T : List UInt8} (h : skipc l ≠ []) : skipc (l ++ T) = skipc l ++ T := by
  unfold skipc at *
  induction l with
  | nil => exact absurd rfl h
  | cons b t ih =>
    by_cases hb : b = 10
    · rw [List.cons_append, List.dropWhile_cons_of_neg (by simp [hb]), List.dropWhile_cons_of_neg (by simp [hb])]
      rfl
    · rw [List.dropWhile_cons_of_pos (by simpa using hb)] at h ⊢
      rw [List.cons_append, List.dropWhile_cons_of_pos (by simpa using hb)]
      exact ih h
theorem skipc_end {l T : List UInt8} (h : skipc l = []) : skipc (l ++ T) = skipc T := by
  unfold skipc at *
  induction l with
  | nil => rfl
  | cons b t ih =>
    by_cases hb : b = 10
    · rw [List.dropWhile_cons_of_neg (by simp [hb])] at h; cases h
    · rw [List.dropWhile_cons_of_pos (by simpa using hb)] at h
      rw [List.cons_append, List.dropWhile_cons_of_pos (by simpa using hb)]
      exact ih h
theorem scan_tail {T : List UInt8} (hT : Tail T) (line : Nat) (l : List UInt8) : ∀ toks, scanT line l = .ok toks → scanT line (l ++ T) = .ok toks := by
  refine scan_ind (M := fun line l x => ∀ toks, x = .ok toks → scanT line (l ++ T) = .ok toks) ?_ ?_ ?_ ?_ ?_ ?_ line l
  · intro line toks h
    cases h
    exact hT.all line
  · intro line t ih toks h
    rw [List.cons_append, scan_lf]
    exact ih toks h
  · intro line b t hw ih toks h
    rw [List.cons_append, scan_ws _ _ hw]
    exact ih toks h
  · intro line t ih toks h
    rw [List.cons_append, List.cons_append, scan_com _ _ ⟨rfl, rfl⟩]
    by_cases hs : skipc (47 :: 47 :: t) = []
    · have e := skipc_end (T := T) hs
      rw [List.cons_append, List.cons_append] at e
      rw [hs, TokS.scan_nil] at h
      cases h
      rw [e]
      exact hT.skip line
    · have e := skipc_cons (T := T) hs
      rw [List.cons_append, List.cons_append] at e
      rw [e]
      exact ih toks h
  · intro line b t e _ _ _ _ toks h
    cases h
  · intro line l k n ho ih toks h
    obtain ⟨y, hy, rfl⟩ := map_ok h
    have w := one_wrtn ho
    rw [scan_one (one_local ho hT.sp), List.drop_append_of_le_length w.2.2, ih y hy]
    rfl
/-- A carriage return, line feeds, a space and a comment. -/
def theTail : List UInt8 := [13, 10, 32, 10, 47, 47, 32, 116, 104, 101, 114, 101]
theorem com_end (line : Nat) (t : List UInt8) (h : ∀ c ∈ t, c ≠ 10) : scanT line (47 :: 47 :: t) = .ok [] := by
  rw [scan_com line _ ⟨rfl, rfl⟩]
  have : skipc (47 :: 47 :: t) = [] := by
    unfold skipc
    rw [List.dropWhile_cons_of_pos (by decide), List.dropWhile_cons_of_pos (by decide)]
    induction t with
    | nil => rfl
    | cons c r ih =>
      rw [List.dropWhile_cons_of_pos (by simpa using h c (by simp))]
      exact ih (fun x hx => h x (by simp [hx]))
  rw [this, TokS.scan_nil]
theorem tail_ok : Tail theTail := by
  have h47 : ∀ line, scanT line [47, 47, 32, 116, 104, 101, 114, 101] = .ok [] := fun line => com_end line _ (by decide)
  refine ⟨?_, ?_, ?_, by decide⟩
  · intro line
    show scanT line (13 :: 10 :: 32 :: 10 :: [47, 47, 32, 116, 104, 101, 114, 101]) = _
    rw [scan_ws _ _ (by decide), scan_lf, scan_ws _ _ (by decide), scan_lf]
    exact h47 _
  · intro line
    show scanT line (10 :: 32 :: 10 :: [47, 47, 32, 116, 104, 101, 114, 101]) = _
    rw [scan_lf, scan_ws _ _ (by decide), scan_lf]
    exact h47 _
  · intro c t e
    cases e
    exact .inr (.inr rfl)
theorem scan_head (line : Nat) (l : List UInt8) : scanT line ([47, 47, 32, 104, 101, 114, 101, 10, 9] ++ l) = scanT (line + 1) l := by
  show scanT line (47 :: 47 :: 32 :: 104 :: 101 :: 114 :: 101 :: 10 :: 9 :: l) = _
  rw [scan_com line _ ⟨rfl, rfl⟩]
  show scanT line (10 :: 9 :: l) = _
  rw [scan_lf, scan_ws _ _ (by decide)]
end Go.Proofs.YthjpchnogllliaaGreatDoor.TokU

/- Stage 7 as plain mathematics: how the program finds the end of a name, of a number, and what stands at the beginning of a text. Of no program. -/
set_option linter.unusedSimpArgs false
set_option linter.unusedVariables false
namespace Go.Proofs.YthjpchnogllliaaGreatDoor.TkpM
open IdnM IdnC UtfM UtfQ TokM TokD TokS

/-- A dot that a letter follows. -/
def idot (l : List UInt8) : Bool := match l with
  | b :: c :: _ => decide (b = 46) && ltr c
  | _ => false
/-- How far a name reaches that begins here. -/
def pn : List UInt8 → Nat
  | [] => 0
  | c :: r => if (inn c || idot (c :: r)) = true then pn r + 1 else 0
theorem pn_yes {c : UInt8} {r : List UInt8} (h : (inn c || idot (c :: r)) = true) : pn (c :: r) = pn r + 1 := by rw [pn, if_pos h]
theorem pn_no {c : UInt8} {r : List UInt8} (h : (inn c || idot (c :: r)) = false) : pn (c :: r) = 0 := by rw [pn, if_neg (by rw [h]; simp)]
theorem idot_46 (r : List UInt8) : idot (46 :: r) = match r with | [] => false | c :: _ => ltr c := by
  cases r with
  | nil => rfl
  | cons c t => simp [idot]
theorem idot_ne {b : UInt8} (r : List UInt8) (h : b ≠ 46) : idot (b :: r) = false := by
  cases r with
  | nil => rfl
  | cons c t => simp [idot, h]
theorem pn_word : ∀ l : List UInt8, pn l = wlen l + pn (l.drop (wlen l))
  | [] => rfl
  | b :: t => by
    by_cases hb : inn b = true
    · have e : wlen (b :: t) = wlen t + 1 := by unfold wlen; rw [List.takeWhile_cons_of_pos hb]; rfl
      rw [e, List.drop_succ_cons, pn_yes (by rw [hb]; rfl), pn_word t]
      omega
    · have e : wlen (b :: t) = 0 := by unfold wlen; rw [List.takeWhile_cons_of_neg hb]; rfl
      rw [e, List.drop_zero, Nat.zero_add]
theorem dname_pos {b : UInt8} {t : List UInt8} (h : ltr b = true) : 1 ≤ dname (b :: t) := by
  have hp := wlen_pos (t := t) h
  cases e : (b :: t).drop (wlen (b :: t)) with
  | nil => rw [dname_end h e]; exact hp
  | cons c r =>
    by_cases hc : c = 46
    · subst hc
      rw [dname_dot h e]
      split <;> omega
    · rw [dname_no h e hc]; exact hp
theorem inn_46 : inn 46 = false := by decide
theorem pn_dname : ∀ (n : Nat) (b : UInt8) (t : List UInt8), (b :: t).length ≤ n → ltr b = true → pn (b :: t) = dname (b :: t)
  | 0, b, t, h, _ => by simp at h
  | n + 1, b, t, hn, hb => by
    rw [pn_word (b :: t)]
    cases e : (b :: t).drop (wlen (b :: t)) with
    | nil => rw [dname_end hb e]; rfl
    | cons c r =>
      have hci := wlen_drop _ _ _ e
      by_cases hc : c = 46
      · subst hc
        rw [dname_dot hb e]
        cases r with
        | nil =>
          rw [pn_no (by rw [hci, idot_46]; rfl), dname_nil]
          simp
        | cons d q =>
          cases hd : ltr d with
          | true =>
            have h1 := congrArg List.length e
            have h2 := wlen_pos (t := t) hb
            simp only [List.length_drop, List.length_cons] at h1 hn
            have ih := pn_dname n d q (by simp only [List.length_cons]; omega) hd
            have h3 := dname_pos (t := q) hd
            rw [pn_yes (by rw [idot_46]; simp [hd]), if_neg (by omega), ih]
            omega
          | false =>
            rw [pn_no (by rw [hci, idot_46]; simp [hd]), dname_not hd]
            simp
      · rw [dname_no hb e hc, pn_no (by rw [hci, idot_ne _ hc]; rfl)]
        rfl
/-- A name begins here. -/
def atN (b : UInt8) (t : List UInt8) : Bool := ltr b || idot (b :: t)
theorem pn_nm {b : UInt8} {t : List UInt8} (h : atN b t = true) : pn (b :: t) = nm (b :: t) ∧ nm (b :: t) ≠ 0 := by
  by_cases hb : b = 46
  · subst hb
    have hl : ltr 46 = false := by decide
    unfold atN at h
    rw [hl, Bool.false_or, idot_46] at h
    cases t with
    | nil => cases h
    | cons c r =>
      have h1 := dname_pos (t := r) h
      rw [nm_dot, if_neg (by omega), pn_yes (by rw [idot_46]; simp only [h]; rw [Bool.or_true]), pn_dname _ c r (Nat.le_refl _) h]
      omega
  · unfold atN at h
    rw [idot_ne _ hb, Bool.or_false] at h
    have h1 := dname_pos (t := t) h
    rw [nm_let _ hb, pn_dname _ b t (Nat.le_refl _) h]
    omega
theorem nm_none {b : UInt8} {t : List UInt8} (h : atN b t = false) : nm (b :: t) = 0 := by
  unfold atN at h
  rw [Bool.or_eq_false_iff] at h
  by_cases hb : b = 46
  · subst hb
    rw [idot_46] at h
    rw [nm_dot, if_pos]
    cases t with
    | nil => exact dname_nil
    | cons c r => exact dname_not h.2
  · exact nm_zero t hb h.1
theorem pn_le (l : List UInt8) : pn l ≤ l.length := by
  induction l with
  | nil => exact Nat.le_refl _
  | cons c r ih =>
    rw [pn]
    simp only [List.length_cons]
    split <;> omega

/-- A full name is a name up to its end. -/
theorem wlen_all {u r : List UInt8} {c : UInt8} (hu : ∀ b ∈ u, inn b = true) (hc : inn c = false) : wlen (u ++ c :: r) = u.length ∧ wlen u = u.length := by
  induction u with
  | nil =>
    refine ⟨?_, rfl⟩
    unfold wlen
    rw [List.nil_append, List.takeWhile_cons_of_neg (by rw [hc]; simp)]
  | cons b t ih =>
    have hb := hu b (by simp)
    have h2 := ih (fun x hx => hu x (by simp [hx]))
    unfold wlen at *
    rw [List.cons_append, List.takeWhile_cons_of_pos hb, List.takeWhile_cons_of_pos hb, List.length_cons, List.length_cons, List.length_cons, h2.1, h2.2]
    exact ⟨rfl, rfl⟩
theorem dot_split (l : List UInt8) : (∀ b ∈ l, b ≠ 46) ∨ ∃ u r, l = u ++ 46 :: r ∧ ∀ b ∈ u, b ≠ 46 := by
  induction l with
  | nil => left; simp
  | cons b t ih =>
    by_cases hb : b = 46
    · right
      exact ⟨[], t, by rw [hb]; rfl, by simp⟩
    · rcases ih with h | ⟨u, r, h1, h2⟩
      · left
        intro x hx
        rcases List.mem_cons.1 hx with rfl | hx
        · exact hb
        · exact h x hx
      · right
        refine ⟨b :: u, r, by rw [h1]; rfl, ?_⟩
        intro x hx
        rcases List.mem_cons.1 hx with rfl | hx
        · exact hb
        · exact h2 x hx
theorem nmp_first {l : List UInt8} (h : nmp l = true) : ∃ b t, l = b :: t ∧ ltr b = true := by
  cases l with
  | nil => cases h
  | cons b t =>
    have := (nmp_iff.1 h).2.2 0 (by simp)
    exact ⟨b, t, rfl, by simpa [okAt] using this⟩
theorem dname_all : ∀ (n : Nat) (l : List UInt8), l.length ≤ n → (pieces 46 l).all nmp = true → l ≠ [] ∧ dname l = l.length := by
  intro n
  induction n with
  | zero =>
    intro l hl h
    have : l = [] := List.length_eq_zero_iff.1 (by omega)
    subst this
    exact absurd h (by decide)
  | succ n ih =>
    intro l hl h
    rcases dot_split l with hd | ⟨u, r, rfl, hd⟩
    · unfold pieces at h
      rw [pc_nodot 46 l [] hd, List.nil_append] at h
      simp only [List.all_cons, List.all_nil, Bool.and_true] at h
      obtain ⟨b, t, rfl, hb⟩ := nmp_first h
      refine ⟨by simp, ?_⟩
      have hw := (wlen_all (r := []) (nmp_inn h) inn_46).2
      rw [dname_end hb (by rw [hw]; simp), hw]
    · unfold pieces at h
      rw [pc_dot, pc_nodot 46 u [] hd, List.nil_append, List.singleton_append, List.all_cons, Bool.and_eq_true] at h
      obtain ⟨b, t, rfl, hb⟩ := nmp_first h.1
      have hw := (wlen_all (r := r) (nmp_inn h.1) inn_46).1
      rw [List.cons_append] at hw
      simp only [List.length_append, List.length_cons] at hl
      obtain ⟨h1, h2⟩ := ih r (by omega) h.2
      have hdr : (b :: (t ++ 46 :: r)).drop (wlen (b :: (t ++ 46 :: r))) = 46 :: r := by
        rw [hw]
        have : b :: (t ++ 46 :: r) = (b :: t) ++ 46 :: r := rfl
        rw [this, List.drop_left]
      refine ⟨by simp, ?_⟩
      have hr : r.length ≠ 0 := fun e => h1 (List.length_eq_zero_iff.1 e)
      rw [List.cons_append, dname_dot hb hdr, h2, if_neg hr, hw]
      simp only [List.length_append, List.length_cons]
      omega
theorem fit_nm {l : List UInt8} (h : fitN l = true) : nm l = l.length ∧ l ≠ [] := by
  have key : ∀ l, full l = true → l ≠ [] ∧ dname l = l.length := by
    intro l h
    unfold full at h
    rw [Bool.and_eq_true] at h
    exact dname_all _ l (Nat.le_refl _) h.2
  cases l with
  | nil => exact absurd h (by decide)
  | cons c r =>
    refine ⟨?_, by simp⟩
    have h2 : (if c = 46 then full r else full (c :: r)) = true := h
    by_cases hc : c = 46
    · rw [if_pos hc] at h2
      subst hc
      obtain ⟨h3, h4⟩ := key r h2
      have hr : r.length ≠ 0 := fun e => h3 (List.length_eq_zero_iff.1 e)
      rw [nm_dot, h4, if_neg hr]
      simp only [List.length_cons]
      omega
    · rw [if_neg hc] at h2
      rw [nm_let _ hc, (key _ h2).2]
theorem wrtn_nameP (x : List UInt8) : wrtn ⟨1, x, 0⟩ = if fitN x = true then x else [] := by
  rw [wrtn_name]
  by_cases h : fitN x = true
  · obtain ⟨h1, h2⟩ := fit_nm h
    rw [if_pos ⟨h1, h2, h⟩, if_pos h]
  · rw [if_neg (fun e => h e.2.2), if_neg h]

def stD (a : Nat) (c : UInt8) : Nat := 10 * a + (c.toNat - 48)
def natE (a : Nat) (l : List UInt8) : Nat := l.foldl stD a
theorem natE_nil (a : Nat) : natE a [] = a := by unfold natE; rw [List.foldl_nil]
theorem natE_cons (a : Nat) (c : UInt8) (l : List UInt8) : natE a (c :: l) = natE (stD a c) l := by unfold natE; rw [List.foldl_cons]
theorem natE_of (l : List UInt8) : natD l = natE 0 l := rfl
theorem stD_eq (a : Nat) (c : UInt8) : stD a c = 10 * a + (c.toNat - 48) := rfl
theorem natE_ge : ∀ (l : List UInt8) (a : Nat), a ≤ natE a l
  | [], a => by rw [natE_nil]; exact Nat.le_refl _
  | c :: l, a => by
    rw [natE_cons]
    have := natE_ge l (stD a c)
    have e := stD_eq a c
    omega
theorem uintM (M : Nat) (hM : M = 18446744073709551615) (l : List UInt8) : ∀ (a : Nat), a ≤ M → l.all dg = true → Lib.parseUintM M a l = if natE a l ≤ M then .ok (natE a l) else .range := by
  induction l with
  | nil =>
    intro a ha _
    rw [natE_nil, if_pos ha, Lib.parseUintM]
  | cons c l ih =>
    intro a ha h
    rw [List.all_cons, Bool.and_eq_true] at h
    obtain ⟨hc, hl⟩ := h
    have hd : 48 ≤ c.toNat ∧ c.toNat ≤ 57 := by simpa [dg] using hc
    have hge := natE_ge l (stD a c)
    have es := stD_eq a c
    rw [Lib.parseUintM, if_pos hd, natE_cons]
    by_cases h1 : 1844674407370955162 ≤ a
    · rw [if_pos h1, if_neg (by omega)]
    · rw [if_neg h1]
      by_cases h2 : M < a * 10 + (c.toNat - 48)
      · rw [if_pos h2, if_neg (by omega)]
      · rw [if_neg h2, Nat.mul_comm a 10, ← es, ih _ (by omega) hl]
/-- The library's ParseUint at base 10 of digits. -/
theorem uintD {ds : List UInt8} (h1 : ds ≠ []) (h : ds.all dg = true) : Lib.parseUintB 64 ds = if natD ds ≤ 18446744073709551615 then .ok (natD ds) else .range := by
  unfold Lib.parseUintB
  have e : natD ds = natE 0 ds := natE_of ds
  have h2 : (2 : Nat) ^ 64 - 1 = 18446744073709551615 := by decide
  rw [if_neg h1, h2, e]
  exact uintM _ rfl ds 0 (Nat.zero_le _) h
theorem dlen_all (l : List UInt8) : (l.take (dlen l)).all dg = true := by
  rw [dlen_take]
  exact all_takeWhile dg _
theorem dlen_drop (l : List UInt8) : ∀ c r, l.drop (dlen l) = c :: r → dg c = false := by
  induction l with
  | nil => intro c r h; simp [dlen] at h
  | cons b t ih =>
    intro c r h
    by_cases hb : dg b = true
    · have e : dlen (b :: t) = dlen t + 1 := by unfold dlen; rw [List.takeWhile_cons_of_pos hb]; rfl
      rw [e, List.drop_succ_cons] at h
      exact ih c r h
    · have e : dlen (b :: t) = 0 := by unfold dlen; rw [List.takeWhile_cons_of_neg hb]; rfl
      rw [e, List.drop_zero] at h
      cases h
      simpa using hb
theorem wch_inn {c : UInt8} (h : dg c = false) : inn c = wch c := by
  have e : us c = decide (c = 95) := by rw [Bool.eq_iff_iff, us_iff, decide_eq_true_eq]
  unfold inn wch ltr
  rw [h, e, Bool.or_false]
/-- What stands at the beginning of a text that is not empty. -/
def stP (b : UInt8) (t : List UInt8) : Nat :=
  if ws b = true then 0 else if b = 10 then 1 else if b = 47 ∧ t.head? = some 47 then 2 else if atN b t = true then 3 else if dg b = true then 4 else if b = 34 then 5 else if signs.contains b = true then 6 else 7
end Go.Proofs.YthjpchnogllliaaGreatDoor.TkpM
