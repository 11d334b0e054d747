import Derived.Test.YthjpchnogllliaaGreatDoorNums
import Derived.Test.YthjpchnogllliaaGreatDoorIdnC
import Derived.WalkKit
import Derived.ProofKit
import Derived.WalkSpells
import Derived.WalkLawsBesides
import Derived.Lib.Hide
import Derived.Lib.Walk
import Derived.WalkSmall
import Derived.LoopTactic
import Derived.Test.YthjpchnogllliaaGreatDoorBytT
import Derived.Test.YthjpchnogllliaaGreatDoorTkpM
/- The reference of stage 6: letters, parts, full names. -/
set_option linter.unusedSimpArgs false
set_option linter.unusedVariables false
namespace Go.Proofs.YthjpchnogllliaaGreatDoor.IdrA
open Go.RowKit Nums IdnM IdnC

theorem ret_bool {a b : Bool} (h : a = b) : Ending.returned (.bool a) = .returned (.bool b) := by rw [h]

theorem inn_parts (b : UInt8) : inn b = (sm b || cp b || us b || dg b) := by
  unfold inn
  cases sm b <;> cases cp b <;> cases dg b <;> cases us b <;> rfl
theorem n95 {b : UInt8} {v : Bool} (h : us b = v) : ((b.toNat : Int) != 95) = !v := by
  rw [← h, us, Bool.eq_iff_iff, bne_iff_ne, Bool.not_eq_true', decide_eq_false_iff_not]
  omega
theorem t95 {b : UInt8} {v : Bool} (h : us b = v) : ((b.toNat : Int) == 95) = v := by
  rw [← h, us, Bool.eq_iff_iff, beq_iff_eq, decide_eq_true_eq]
  omega
theorem ext_one {s : ByteArray} {k : Nat} (h : k < s.size) : (s.extract k (k + 1)).data.toList = [s[k]] := by
  have h1 : s.data.toList.length = s.size := rfl
  have h2 : s.data.toList.drop k = s[k] :: s.data.toList.drop (k + 1) := List.drop_eq_getElem_cons (show k < s.data.toList.length from h)
  simp
  rw [h2]
  rfl
end Go.Proofs.YthjpchnogllliaaGreatDoor.IdrA

/- The reference of stage 6: the two spellings. -/
set_option linter.unusedSimpArgs false
set_option linter.unusedVariables false
namespace Go.Proofs.YthjpchnogllliaaGreatDoor.IdrC
open Go.RowKit Nums IdnM IdnC IdrA Byt

theorem conv_z (W : World) (z : Int) (c : UInt8) (hz : z = c.toNat) : (convert 57 9 (.slice (some ⟨W.heap.size, 0, none⟩) 1 1)).run Tryz.prog (W.alloc (.cells #[.int .u8 z] 5)) = .ok (.string ⟨#[c]⟩) (W.alloc (.cells #[.int .u8 z] 5)) := by
  subst hz
  exact conv_cells BytT.bytesT Tryz.underlying9 W.heap.size 1 1 [c] rfl (fun i hi => by
    obtain rfl : i = 0 := by simp at hi; omega
    rw [World.cell?_alloc_at _ _ _ _ rfl]; rfl)
theorem one_data (c : UInt8) : (⟨#[c]⟩ : ByteArray).data.toList = [c] := rfl
theorem add_one_size (T : ByteArray) (c : UInt8) : (T ++ (⟨#[c]⟩ : ByteArray)).size = T.size + 1 := by rw [ByteArray.size_append]; rfl
theorem cp_add2 {b : UInt8} (h : cp b = true) : ((b.toNat : Int) - 65 + 97) = ((b + 32).toNat : Int) := by
  simp only [cp, Bool.and_eq_true, decide_eq_true_eq] at h
  rw [UInt8.toNat_add]
  have : (32 : UInt8).toNat = 32 := rfl
  rw [this]
  omega
/-- A byte that begins a piece. -/
def stAt (l : List UInt8) (k : Nat) : Bool := k == 0 || l[k - 1]? == some 95

end Go.Proofs.YthjpchnogllliaaGreatDoor.IdrC

/- The reference of stage 7: bytes, signs, names, numbers. -/
set_option linter.unusedSimpArgs false
set_option linter.unusedVariables false
namespace Go.Proofs.YthjpchnogllliaaGreatDoor.TkrA
open Go.RowKit Nums IdnM IdnC TokM TokS IdrA

/-- The byte at a place, 0 behind the end. -/
def atB (s : ByteArray) (k : Nat) : UInt8 := match s.data.toList[k]? with | some b => b | none => 0
theorem atB_lt {s : ByteArray} {k : Nat} (h : k < s.size) : atB s k = s[k] := by
  unfold atB
  rw [List.getElem?_eq_getElem (show k < s.data.toList.length from h)]
  rfl
theorem atB_ge {s : ByteArray} {k : Nat} (h : s.size ≤ k) : atB s k = 0 := by
  unfold atB
  rw [List.getElem?_eq_none (show s.data.toList.length ≤ k from h)]
theorem drop_at {s : ByteArray} {k : Nat} (h : k < s.size) : s.data.toList.drop k = atB s k :: s.data.toList.drop (k + 1) := by
  rw [atB_lt h]
  exact List.drop_eq_getElem_cons (show k < s.data.toList.length from h)
theorem drop_end {s : ByteArray} {k : Nat} (h : s.size ≤ k) : s.data.toList.drop k = [] := List.drop_of_length_le (show s.data.toList.length ≤ k from h)
theorem inn_of (b : UInt8) : inn b = (ltr b || dg b || decide (b.toNat = 95)) := by
  unfold inn ltr us
  cases sm b <;> cases cp b <;> cases dg b <;> rfl
theorem beq_of {b : UInt8} {n : Nat} {v : Bool} (h : decide (b.toNat = n) = v) : ((b.toNat : Int) == (n : Int)) = v := by
  rw [← h, Bool.eq_iff_iff, beq_iff_eq, decide_eq_true_eq]
  omega
theorem bne_of {b : UInt8} {n : Nat} {v : Bool} (h : decide (b.toNat = n) = v) : ((b.toNat : Int) != (n : Int)) = !v := by
  rw [← h, Bool.eq_iff_iff, bne_iff_ne, Bool.not_eq_true', decide_eq_false_iff_not]
  omega

/-- Whether a text is one sign. -/
def signB (s : List UInt8) : Bool := match s with | [b] => signs.contains b | _ => false
theorem signB_len {l : List UInt8} (h : l.length ≠ 1) : signB l = false := by
  match l, h with
  | [], _ => rfl
  | [b], h => exact absurd rfl h
  | _ :: _ :: _, _ => rfl
theorem signB_one {s : ByteArray} (h : s.size = 1) : signB s.data.toList = signs.contains (s[0]'(by omega)) := by
  have hl : s.data.toList.length = 1 := h
  match e : s.data.toList, hl with
  | [b], _ =>
    have h1 : s.data.toList[0]? = some (s[0]'(by omega)) := List.getElem?_eq_getElem (show 0 < s.data.toList.length by omega)
    rw [e] at h1
    have h2 : b = s[0]'(by omega) := Option.some.inj h1
    rw [h2]
    rfl
theorem cst_get (k : Nat) (hk : k < 13) : ((⟨#[123, 125, 91, 93, 40, 41, 60, 62, 61, 59, 44, 64, 45]⟩ : ByteArray)[k]'hk) = signs[k]'hk := by
  match k, hk with
  | 0, _ | 1, _ | 2, _ | 3, _ | 4, _ | 5, _ | 6, _ | 7, _ | 8, _ | 9, _ | 10, _ | 11, _ | 12, _ => rfl
theorem wlen_step {s : ByteArray} {k : Nat} (h : k < s.size) (hi : inn (atB s k) = true) : wlen (s.data.toList.drop k) = wlen (s.data.toList.drop (k + 1)) + 1 := by
  rw [drop_at h]
  unfold wlen
  rw [List.takeWhile_cons_of_pos hi]
  rfl
theorem wlen_stop {s : ByteArray} {k : Nat} (hi : inn (atB s k) = false) : wlen (s.data.toList.drop k) = 0 := by
  rcases Nat.lt_or_ge k s.size with h | h
  · rw [drop_at h]
    unfold wlen
    rw [List.takeWhile_cons_of_neg (by rw [hi]; simp)]
    rfl
  · rw [drop_end h]; rfl
theorem dname_none {s : ByteArray} {k : Nat} (hl : ltr (atB s k) = false) : dname (s.data.toList.drop k) = 0 := by
  rcases Nat.lt_or_ge k s.size with h | h
  · rw [drop_at h]; exact dname_not hl
  · rw [drop_end h]; exact dname_nil
theorem at_in {s : ByteArray} {k : Nat} (h : inn (atB s k) = true) : k < s.size := by
  rcases Nat.lt_or_ge k s.size with h1 | h1
  · exact h1
  · rw [atB_ge h1] at h; exact absurd h (by decide)
theorem at_46 {s : ByteArray} {k : Nat} (h : atB s k = 46) : k < s.size := by
  rcases Nat.lt_or_ge k s.size with h1 | h1
  · exact h1
  · rw [atB_ge h1] at h; exact absurd h (by decide)
theorem dname_word {s : ByteArray} {k : Nat} (hl : ltr (atB s k) = true) (h46 : atB s (k + wlen (s.data.toList.drop k)) ≠ 46) : dname (s.data.toList.drop k) = wlen (s.data.toList.drop k) := by
  have hk := at_in (ltr_inn hl)
  obtain ⟨b, t, e⟩ : ∃ b t, s.data.toList.drop k = b :: t := ⟨_, _, drop_at hk⟩
  have hb : b = atB s k := by rw [drop_at hk] at e; cases e; rfl
  have hdd : (s.data.toList.drop k).drop (wlen (s.data.toList.drop k)) = s.data.toList.drop (k + wlen (s.data.toList.drop k)) := List.drop_drop
  generalize hn : wlen (s.data.toList.drop k) = n at *
  rw [e] at hdd hn ⊢
  rcases Nat.lt_or_ge (k + n) s.size with h | h
  · rw [drop_at h, ← hn] at hdd
    rw [dname_no (by rw [hb]; exact hl) hdd (by rw [hn]; exact h46), hn]
  · rw [drop_end h, ← hn] at hdd
    rw [dname_end (by rw [hb]; exact hl) hdd, hn]
theorem dname_more {s : ByteArray} {k : Nat} (hl : ltr (atB s k) = true) (h46 : atB s (k + wlen (s.data.toList.drop k)) = 46) :
    dname (s.data.toList.drop k) = if dname (s.data.toList.drop (k + wlen (s.data.toList.drop k) + 1)) = 0 then wlen (s.data.toList.drop k) else wlen (s.data.toList.drop k) + 1 + dname (s.data.toList.drop (k + wlen (s.data.toList.drop k) + 1)) := by
  have hk := at_in (ltr_inn hl)
  obtain ⟨b, t, e⟩ : ∃ b t, s.data.toList.drop k = b :: t := ⟨_, _, drop_at hk⟩
  have hb : b = atB s k := by rw [drop_at hk] at e; cases e; rfl
  have hdd : (s.data.toList.drop k).drop (wlen (s.data.toList.drop k)) = s.data.toList.drop (k + wlen (s.data.toList.drop k)) := List.drop_drop
  generalize hn : wlen (s.data.toList.drop k) = n at *
  have h := at_46 h46
  rw [drop_at h, h46] at hdd
  rw [e] at hdd hn ⊢
  rw [← hn] at hdd
  rw [dname_dot (by rw [hb]; exact hl) hdd, hn]
theorem nm_at {s : ByteArray} {i : Nat} : nm (s.data.toList.drop i) = if atB s i = 46 then (if dname (s.data.toList.drop (i + 1)) = 0 then 0 else 1 + dname (s.data.toList.drop (i + 1))) else dname (s.data.toList.drop i) := by
  rcases Nat.lt_or_ge i s.size with h | h
  · rw [drop_at h]
    by_cases h46 : atB s i = 46
    · rw [h46, nm_dot, if_pos rfl]
    · rw [nm_let _ h46, if_neg h46]
  · rw [drop_end h, atB_ge h, if_neg (by decide), dname_nil]
    rfl
theorem dec46 {b : UInt8} : (b = 46) ↔ decide (b.toNat = 46) = true := by
  rw [decide_eq_true_eq]
  constructor
  · rintro rfl; rfl
  · intro h; exact UInt8.toNat_inj.1 h

end Go.Proofs.YthjpchnogllliaaGreatDoor.TkrA

/- The reference of stage 7: the limits of a name, numbers out of digits, digits out of numbers. -/
set_option linter.unusedSimpArgs false
set_option linter.unusedVariables false
namespace Go.Proofs.YthjpchnogllliaaGreatDoor.TkrB
open Go.RowKit Nums IdnM IdnC TokM TokD TokS IdrA TkrA

theorem fitN_yes {s : ByteArray} (h : atB s 0 = 46) : fitN s.data.toList = full (s.extract 1 s.size).data.toList := by
  have hp := at_46 h
  have hd := drop_at hp
  rw [List.drop_zero] at hd
  have e : (s.extract 1 s.size).data.toList = s.data.toList.drop 1 := by
    simp
    rw [List.take_of_length_le (by simp)]
  rw [e, hd, h]
  rfl
theorem fitN_no {s : ByteArray} (h : atB s 0 ≠ 46) : fitN s.data.toList = full s.data.toList := by
  rcases Nat.eq_zero_or_pos s.size with hz | hp
  · rw [List.length_eq_zero_iff.1 (show s.data.toList.length = 0 from hz)]; rfl
  · have hd := drop_at hp
    rw [List.drop_zero] at hd
    rw [hd]
    unfold fitN
    exact if_neg h
def numT (ds : List UInt8) : Int × Nat := match number ds with | .ok n => (n, 0) | .error e => (0, e)
theorem natD_step {l : List UInt8} {k : Nat} {c : UInt8} (h : l[k]? = some c) : natD (l.take (k + 1)) = 10 * natD (l.take k) + (c.toNat - 48) := by
  rw [List.take_add_one, h]
  exact natD_snoc _ c
theorem natD_le {l : List UInt8} : ∀ (n k : Nat), natD (l.take k) ≤ natD (l.take (k + n))
  | 0, k => Nat.le_refl _
  | n + 1, k => by
    have ih := natD_le (l := l) n k
    cases h : l[k + n]? with
    | none =>
      have e : l.take (k + (n + 1)) = l.take (k + n) := by
        rw [show k + (n + 1) = (k + n) + 1 by omega, List.take_add_one, h]; simp
      rw [e]; exact ih
    | some c =>
      have := natD_step h
      rw [show k + (n + 1) = (k + n) + 1 by omega]
      omega
theorem natD_all {l : List UInt8} (k : Nat) (hk : k ≤ l.length) : natD (l.take k) ≤ natD l := by
  have := natD_le (l := l) (l.length - k) k
  rw [show k + (l.length - k) = l.length by omega, List.take_length] at this
  exact this
theorem wrap_sI (n : Nat) (h : n ≤ 18446744073709551615) : wrap64 (n : Int) = sI n := by
  unfold wrap64 sI
  split <;> omega

theorem quo_ex (d : Nat) (hd : d ≤ 9) : ∃ q : Nat, (18446744073709551615 - (d : Int)) / 10 = q ∧ ((q : Int) * 10 + d ≤ 18446744073709551615 ∧ 18446744073709551615 < (q : Int) * 10 + 10 + d) := by
  refine ⟨((18446744073709551615 - (d : Int)) / 10).toNat, ?_, ?_⟩
  · omega
  · omega
theorem mul_wrap (n d q : Nat) (h : (q : Int) * 10 + d ≤ 18446744073709551615) (hn : n ≤ q) : IntKind.u64.wrap (10 * (n : Int)) = 10 * n ∧ IntKind.u64.wrap (10 * (n : Int) + d) = 10 * n + d ∧ 10 * n + d ≤ 18446744073709551615 := by
  rw [IntKind.wrap_u64, IntKind.wrap_u64]
  omega
theorem big_of (n d q X : Nat) (h : 18446744073709551615 < (q : Int) * 10 + 10 + d) (hn : q < n) (hX : 10 * n + d ≤ X) : 18446744073709551616 ≤ X := by omega
end Go.Proofs.YthjpchnogllliaaGreatDoor.TkrB

/- The reference of stage 7: digits of a number, the integer that begins at a place. -/
set_option linter.unusedSimpArgs false
set_option linter.unusedVariables false
namespace Go.Proofs.YthjpchnogllliaaGreatDoor.TkrC
open Go.RowKit Nums IdnM IdnC TokM TokD TokS IdrA TkrA TkrB

/-- The digit of a number below ten. -/
def dig1 (d : Nat) : UInt8 := UInt8.ofNat (48 + d)
def decR (m : Nat) : List UInt8 := if m < 10 then [] else ScaM.dec (m / 10)
theorem dec_decR (m : Nat) : ScaM.dec m = decR m ++ [dig1 (m % 10)] := by
  unfold decR
  by_cases h : m < 10
  · rw [if_pos h, ScaM.dec_small h, show m % 10 = m by omega]; rfl
  · rw [if_neg h, ScaM.dec_large h]; rfl
theorem dig_nat (m : Nat) : (48 + ((m : Int) % 10)) = ((dig1 (m % 10)).toNat : Int) := by
  unfold dig1
  rw [UInt8.toNat_ofNat']
  omega

end Go.Proofs.YthjpchnogllliaaGreatDoor.TkrC
