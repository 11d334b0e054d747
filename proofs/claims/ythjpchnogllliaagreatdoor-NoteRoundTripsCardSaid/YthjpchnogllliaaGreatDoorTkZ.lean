import Derived.Test.YthjpchnogllliaaGreatDoorTkpD
import Derived.Test.YthjpchnogllliaaGreatDoorTkrG
import Derived.Test.YthjpchnogllliaaGreatDoorUtfP
import Derived.Test.YthjpchnogllliaaGreatDoorTxtP
import Derived.Test.YthjpchnogllliaaGreatDoorBldP
import Derived.Test.YthjpchnogllliaaGreatDoorTld
import Derived.BigQuiet
/- Package token of the program: a token as it is written, what ends a line, Print. -/
set_option linter.unusedSimpArgs false
set_option linter.unusedVariables false
namespace Go.Proofs.YthjpchnogllliaaGreatDoor.TkpE
open Go.RowKit Nums IdnM IdnC TokM TokD TokS TokU TkrD TkrE TkrF TkrG TkpM TkpA TkpB TkpC Box4 BldP

theorem dec_digits (n : Nat) : Lib.decDigits n = ScaM.dec n := by
  induction n using Nat.strongRecOn with
  | _ n ih =>
    by_cases h : n < 10
    · rw [Lib.decDigits, dif_pos h, ScaM.dec_small h]
    · rw [Lib.decDigits, dif_neg h, ScaM.dec_large h, ih (n / 10) (by omega)]
/-- A token as the program writes it: a text that is too long alone is nothing. -/
def wrtP (k : Tok) : List UInt8 := if k.kind = 3 ∧ k.num = 0 ∧ 16384 ≤ k.text.length then [] else wrtn k
theorem wrtP_not {k : Tok} (h : ¬ (k.kind = 3 ∧ k.num = 0 ∧ 16384 ≤ k.text.length)) : wrtP k = wrtn k := if_neg h
theorem wrtP_long {k : Tok} (h : k.kind = 3 ∧ k.num = 0 ∧ 16384 ≤ k.text.length) : wrtP k = [] := if_pos h
theorem wrtP_eq {k : Tok} (h : wrtP k ≠ []) : wrtP k = wrtn k := by
  by_cases hc : k.kind = 3 ∧ k.num = 0 ∧ 16384 ≤ k.text.length
  · exact absurd (wrtP_long hc) h
  · exact wrtP_not hc
theorem pr_mem {k : Tok} : ∀ {l : List Tok}, k ∈ l → (wrtn k).length ≤ (pr l).length
  | [], h => by cases h
  | x :: l, h => by
    rw [pr, List.length_append, List.length_append]
    rcases List.mem_cons.1 h with rfl | h
    · omega
    · have := pr_mem h
      omega
theorem wrtP_no {l : List Tok} {k : Tok} (hm : k ∈ l) (h : wrtP k = []) : TokU.print l = [] := by
  by_cases hc : k.kind = 3 ∧ k.num = 0 ∧ 16384 ≤ k.text.length
  · apply long_no
    have h1 := pr_mem hm
    obtain ⟨kd, x, nu⟩ := k
    obtain ⟨h2, h3, h4⟩ := hc
    simp only at h2 h3 h4
    subst h2
    subst h3
    rw [wrtn_text, UtfQ.quote_len] at h1
    have := (UtfQ.body_le x).1
    omega
  · rw [wrtP_not hc] at h
    exact all_no hm h
def endP (k : Tok) : Bool := decide (k.kind = 4) && Lib.contains [59, 123, 125] k.text
theorem endP_eq {k : Tok} (h : wrtn k ≠ []) : endP k = endsLine k := by
  obtain ⟨kd, x, nu⟩ := k
  unfold endP endsLine
  by_cases h4 : kd = 4
  · subst h4
    by_cases h0 : nu = 0
    · subst h0
      rw [w_sign] at h ⊢
      match x with
      | [] => exact absurd rfl h
      | [b] =>
        have hs : TkrA.signB [b] = true := by
          cases e : TkrA.signB [b] with
          | true => rfl
          | false => rw [e] at h; exact absurd rfl h
        rw [hs, if_pos rfl]
        show (decide ((4 : Int) = 4) && Lib.contains [59, 123, 125] [b]) = _
        rw [contains_one]
        rw [Bool.eq_iff_iff]
        simp [or_assoc]
      | _ :: _ :: _ => exact absurd rfl h
    · exact absurd (w_num (by decide) h0) h
  · show (decide (kd = 4) && _) = (decide (kd = 4) && _)
    rw [decide_eq_false h4]
    rfl

theorem bytes_app (a b : List UInt8) : Lib.byteCells (a ++ b) = Lib.byteCells a ++ Lib.byteCells b := by simp [Lib.byteCells]
theorem bytes_len (l : List UInt8) : (Lib.byteCells l).length = l.length := by simp [Lib.byteCells]
theorem bytes_str (s : ByteArray) : Lib.byteCells s.data.toList = Lib.strCells s := rfl
theorem kept_tok {w w1 : World} {b g : Nat} {cs : Array Value} (h : Kept b w w1) (hg : w.heap[g]? = some (.cells cs 34 (0, 0))) (hb : b < g) : w1.heap[g]? = some (.cells cs 34 (0, 0)) :=
  h g _ hg (fun e => by have := Option.some.inj e; omega) (fun c fz e => by injection e with _ e2; revert e2; decide)
theorem is_lt {w : World} {B b : Nat} {bs : List Value} (h : Is B b bs w) : b < w.heap.size := by
  rcases h with h | h <;> exact (Array.getElem?_eq_some_iff.1 h.2.choose_spec.1).1
end Go.Proofs.YthjpchnogllliaaGreatDoor.TkpE

/- Package token of the program: whether a token is a sign or name, comparing tokens. -/
set_option linter.unusedSimpArgs false
set_option linter.unusedVariables false
namespace Go.Proofs.YthjpchnogllliaaGreatDoor.TkpF
open Go.RowKit Nums IdnM IdnC TokM TokD TokS TkrE TkrF Box4

end Go.Proofs.YthjpchnogllliaaGreatDoor.TkpF

/- What the laws of stage 7 ask of package token: the contracts of Scan, Print, Same and Is, as the program has them. -/
set_option linter.unusedSimpArgs false
set_option linter.unusedVariables false
namespace Go.Proofs.YthjpchnogllliaaGreatDoor.TkZ
open Go.RowKit Nums TokM TokS TokU TkrD TkrF OwnT

/-- What the walks ask of the world. -/
abbrev Ld := Tld.Ld
theorem Ld.below {w w' : World} (h : Ld w) (hb : Below w.heap.size w w') : Ld w' := Tld.Ld.below h hb
theorem Ld.drew {w : World} (h : Ld w) : Ld w.drew := Tld.Ld.drew h
theorem pscan (s : ByteArray) (hs : s.size ≤ 140737488351232) (w : World) (hL : Ld w) : Calls Tryz.prog 11 #[.string s] w fun e w' => SB s w e w' := TkpD.pscan s hs w hL
end Go.Proofs.YthjpchnogllliaaGreatDoor.TkZ
