/- A cursor and the cursors that it was entered from: what each call leaves of them: plain mathematics. -/
import Derived.Test.YtdgbbfhhjhhahaaCurM
import Derived.Test.YtdgbbfhhjhhahaaVarS
namespace Go.Proofs.Ytdgbbfhhjhhahaa.CurS
open VarM VarS FixM CurM

/-- x lies within c: it reads no more, and has no greater limits. -/
structure Within (x c : Cur) : Prop where
  s : sound x = true
  d : x.d = c.d
  a : c.a ≤ x.a
  e : x.e ≤ c.e
  dp : x.dp ≤ c.dp
  n : x.n ≤ c.n
  t : x.t ≤ c.t
  z : 0 ≤ x.n
  w : Wf x

theorem Within.refl {c : Cur} (hs : sound c = true) (hn : 0 ≤ c.n) (hw : Wf c) : Within c c := ⟨hs, rfl, by omega, by omega, by omega, by omega, by omega, hn, hw⟩
theorem Within.trans {x y z : Cur} (h : Within x y) (k : Within y z) : Within x z :=
  ⟨h.s, h.d.trans k.d, by have := h.a; have := k.a; omega, by have := h.e; have := k.e; omega, by have := h.dp; have := k.dp; omega, by have := h.n; have := k.n; omega, by have := h.t; have := k.t; omega, h.z, h.w⟩

theorem wf_fwd {c : Cur} {m : Nat} (hw : Wf c) (hm : m ≤ (rest c).size) : Wf (fwd c m) := by
  refine ⟨hw.d, ?_, hw.e, hw.dp, hw.n, hw.t⟩
  have ha := hw.a
  have hd := hw.d
  unfold inI at ha ⊢
  simp only [fwd]
  cases h : sound c with
  | true =>
    have := sound_iff.1 h
    have := rest_size_yes h
    omega
  | false => rw [rest_size_no h] at hm; omega
theorem within_fwd {c : Cur} {m : Nat} (hs : sound c = true) (hn : 0 ≤ c.n) (hw : Wf c) (hm : m ≤ (rest c).size) : Within (fwd c m) c := by
  have h1 := sound_iff.1 hs
  have h2 := rest_size_yes hs
  refine ⟨sound_iff.2 ⟨?_, ?_, ?_⟩, rfl, ?_, ?_, ?_, ?_, ?_, ?_, wf_fwd hw hm⟩ <;> (simp only [fwd]; omega)

/-- What a call gives: the cursor itself, or one that has read on. -/
theorem byte_fwd (c : Cur) : (pByte c).2.1 = c ∨ ∃ m : Nat, m ≤ (rest c).size ∧ (pByte c).2.1 = fwd c m := by
  unfold pByte
  by_cases h : 0 < (rest c).size
  · rw [dif_pos h]; exact .inr ⟨1, by omega, rfl⟩
  · rw [dif_neg h]; exact .inl rfl
theorem varint_fwd (c : Cur) : (pVarint c).2.1 = c ∨ ∃ m : Nat, m ≤ (rest c).size ∧ (pVarint c).2.1 = fwd c m := by
  unfold pVarint
  have hn := (take_n (rest c).data.toList).1
  by_cases h : (take (rest c).data.toList).2.2 = 0
  · rw [if_pos h]; exact .inr ⟨_, hn, rfl⟩
  · rw [if_neg h]; exact .inl rfl
theorem fixed_fwd (c : Cur) : (pFixed c).2.1 = c ∨ ∃ m : Nat, m ≤ (rest c).size ∧ (pFixed c).2.1 = fwd c m := by
  unfold pFixed
  by_cases h : (rest c).size < 8
  · rw [if_pos h]; exact .inl rfl
  · rw [if_neg h]; exact .inr ⟨8, by omega, rfl⟩
theorem text_fwd (c : Cur) (n : Int) : (pText c n).2.1 = c ∨ ∃ m : Nat, m ≤ (rest c).size ∧ (pText c n).2.1 = fwd c m := by
  unfold pText
  by_cases h1 : n < 0
  · rw [if_pos h1]; exact .inl rfl
  · by_cases h2 : ((rest c).size : Int) < n
    · rw [if_neg h1, if_pos h2]; exact .inl rfl
    · by_cases h3 : c.t < n
      · rw [if_neg h1, if_neg h2, if_pos h3]; exact .inl rfl
      · rw [if_neg h1, if_neg h2, if_neg h3]
        refine .inr ⟨n.toNat, by omega, ?_⟩
        have e : ((n.toNat : Nat) : Int) = n := by omega
        rw [e]

/-- A call other than Enter and Leave. -/
def pStep (c : Cur) (k n : Int) : Cur :=
  if k = 0 then (pByte c).2.1 else if k = 1 then (pVarint c).2.1 else if k = 2 then (pFixed c).2.1 else if k = 3 then (pText c n).2.1 else if k = 4 then (pSpend c n).1 else c

theorem wf_of_fwd {c x : Cur} (hw : Wf c) (h : x = c ∨ ∃ m : Nat, m ≤ (rest c).size ∧ x = fwd c m) : Wf x := by
  rcases h with rfl | ⟨m, hm, rfl⟩
  · exact hw
  · exact wf_fwd hw hm
theorem within_of_fwd {c x : Cur} (hs : sound c = true) (hn : 0 ≤ c.n) (hw : Wf c) (h : x = c ∨ ∃ m : Nat, m ≤ (rest c).size ∧ x = fwd c m) : Within x c := by
  rcases h with rfl | ⟨m, hm, rfl⟩
  · exact .refl hs hn hw
  · exact within_fwd hs hn hw hm
theorem wf_spend {c : Cur} {n : Int} (hw : Wf c) (hn : inI n) : Wf (pSpend c n).1 := by
  unfold pSpend
  by_cases h1 : n < 0
  · rw [if_pos h1]; exact hw
  · by_cases h2 : c.n < n
    · rw [if_neg h1, if_pos h2]; exact hw
    · rw [if_neg h1, if_neg h2]
      refine ⟨hw.d, hw.a, hw.e, hw.dp, ?_, hw.t⟩
      have := hw.n
      unfold inI at *
      simp only
      omega
theorem within_spend {c : Cur} {n : Int} (hs : sound c = true) (h0 : 0 ≤ c.n) (hw : Wf c) (hn : inI n) : Within (pSpend c n).1 c := by
  have hwf := wf_spend hw hn
  unfold pSpend at hwf ⊢
  by_cases h1 : n < 0
  · rw [if_pos h1]; exact .refl hs h0 hw
  · by_cases h2 : c.n < n
    · rw [if_neg h1, if_pos h2]; exact .refl hs h0 hw
    · rw [if_neg h1, if_neg h2] at hwf ⊢
      exact ⟨hs, rfl, Int.le_refl _, Int.le_refl _, Int.le_refl _, by simp only; omega, Int.le_refl _, by simp only; omega, hwf⟩
theorem wf_step {c : Cur} {k n : Int} (hw : Wf c) (hn : inI n) : Wf (pStep c k n) := by
  unfold pStep
  split
  · exact wf_of_fwd hw (byte_fwd c)
  · split
    · exact wf_of_fwd hw (varint_fwd c)
    · split
      · exact wf_of_fwd hw (fixed_fwd c)
      · split
        · exact wf_of_fwd hw (text_fwd c n)
        · split
          · exact wf_spend hw hn
          · exact hw
theorem within_step {c : Cur} {k n : Int} (hs : sound c = true) (h0 : 0 ≤ c.n) (hw : Wf c) (hn : inI n) : Within (pStep c k n) c := by
  unfold pStep
  split
  · exact within_of_fwd hs h0 hw (byte_fwd c)
  · split
    · exact within_of_fwd hs h0 hw (varint_fwd c)
    · split
      · exact within_of_fwd hs h0 hw (fixed_fwd c)
      · split
        · exact within_of_fwd hs h0 hw (text_fwd c n)
        · split
          · exact within_spend hs h0 hw hn
          · exact .refl hs h0 hw

/-- Enter: an error and the cursor itself, or a part of it. -/
theorem enter_cases (c : Cur) (n : Int) : (∃ x : Int, 0 < x ∧ pEnter c n = (c, x)) ∨ (0 ≤ n ∧ n ≤ (rest c).size ∧ 1 ≤ c.dp ∧ pEnter c n = ({ c with e := c.a + n, dp := c.dp - 1 }, 0)) := by
  unfold pEnter
  by_cases h1 : n < 0
  · exact .inl ⟨1, by omega, by rw [if_pos h1]⟩
  · by_cases h2 : ((rest c).size : Int) < n
    · exact .inl ⟨4, by omega, by rw [if_neg h1, if_pos h2]⟩
    · by_cases h3 : c.dp < 1
      · exact .inl ⟨17, by omega, by rw [if_neg h1, if_neg h2, if_pos h3]⟩
      · exact .inr ⟨by omega, by omega, by omega, by rw [if_neg h1, if_neg h2, if_neg h3]⟩
theorem wf_enter {c : Cur} {n : Int} (hw : Wf c) : Wf (pEnter c n).1 := by
  rcases enter_cases c n with ⟨x, _, h⟩ | ⟨h1, h2, h3, h⟩
  · rw [h]; exact hw
  · rw [h]
    have ha := hw.a
    have hd := hw.d
    have hdp := hw.dp
    refine ⟨hw.d, hw.a, ?_, ?_, hw.n, hw.t⟩
    · unfold inI at *
      simp only
      cases h : sound c with
      | true =>
        have := sound_iff.1 h
        have := rest_size_yes h
        omega
      | false => rw [rest_size_no h] at h2; omega
    · unfold inI at *
      simp only
      omega
theorem within_enter {c : Cur} {n : Int} (hs : sound c = true) (h0 : 0 ≤ c.n) (hw : Wf c) : Within (pEnter c n).1 c := by
  have hwf := wf_enter (n := n) hw
  rcases enter_cases c n with ⟨x, _, h⟩ | ⟨h1, h2, h3, h⟩
  · rw [h]; exact .refl hs h0 hw
  · rw [h] at hwf ⊢
    have k1 := sound_iff.1 hs
    have k2 := rest_size_yes hs
    exact ⟨sound_iff.2 ⟨by simp only; omega, by simp only; omega, by simp only; omega⟩, rfl, Int.le_refl _, by simp only; omega, by simp only; omega, Int.le_refl _, Int.le_refl _, h0, hwf⟩
theorem wf_leave {c i : Cur} (hw : Wf c) (hi : Wf i) : Wf (pLeave c i) := by
  unfold pLeave
  split
  · exact ⟨hw.d, hi.e, hw.e, hw.dp, hi.n, hw.t⟩
  · exact hw

/-- The cursors that c was entered from, the last one first. -/
def Stk : Cur → List Cur → Prop
  | c, [] => Within c c
  | c, o :: st => Within c o ∧ Stk o st
theorem Stk.self {c : Cur} {st : List Cur} (h : Stk c st) : Within c c := by
  cases st with
  | nil => exact h
  | cons o st => exact .refl h.1.s h.1.z h.1.w
theorem Stk.step {c x : Cur} {st : List Cur} (h : Stk c st) (hx : Within x c) : Stk x st := by
  cases st with
  | nil => exact .refl hx.s hx.z hx.w
  | cons o st => exact ⟨hx.trans h.1, h.2⟩
theorem Stk.push {c x : Cur} {st : List Cur} (h : Stk c st) (hx : Within x c) : Stk x (c :: st) := ⟨hx, h⟩
/-- What Leave gives of a cursor that lies within. -/
theorem leave_within {c o : Cur} (hco : Within c o) (ho : Within o o) : pLeave o c = { o with a := c.e, n := c.n } := by
  unfold pLeave
  have h1 := sound_iff.1 hco.s
  have h2 := hco.a
  exact if_pos (leaves_iff.2 ⟨ho.s, by omega, hco.e, hco.z, hco.n⟩)
theorem Stk.pop {c o : Cur} {st : List Cur} (h : Stk c (o :: st)) : Within { o with a := c.e, n := c.n } o ∧ Stk { o with a := c.e, n := c.n } st := by
  have hco := h.1
  have ho := h.2.self
  have h1 := sound_iff.1 hco.s
  have h2 := sound_iff.1 ho.s
  have h3 := hco.a
  have h4 := hco.e
  have hd := hco.d
  have hw : Within { o with a := c.e, n := c.n } o :=
    ⟨sound_iff.2 ⟨by simp only; omega, by simp only; omega, h2.2.2⟩, rfl, by simp only; omega, Int.le_refl _, Int.le_refl _, hco.n, Int.le_refl _, hco.z, ⟨ho.w.d, hco.w.e, ho.w.e, ho.w.dp, hco.w.n, ho.w.t⟩⟩
  exact ⟨hw, h.2.step hw⟩
end Go.Proofs.Ytdgbbfhhjhhahaa.CurS
