/- Stage 3 as plain mathematics: how a list of bytes is divided into parts, quoted forms, hexadecimal digits. Of no program. -/
import GoSem.Core.Utf8
import Derived.Lib.RuneBytes
import Derived.Lib.Bytealg
set_option linter.unusedSimpArgs false
set_option linter.unusedVariables false
namespace Go.Proofs.YtgjbpadhdnclnaaGreatDoor.UtfM

/-- The byte is there and lies between the two numbers. -/
def inR (o : Option UInt8) (lo hi : Nat) : Bool := match o with
  | none => false
  | some b => decide (lo ≤ b.toNat) && decide (b.toNat ≤ hi)

theorem inR_iff {o : Option UInt8} {lo hi : Nat} : inR o lo hi = true ↔ ∃ b, o = some b ∧ lo ≤ b.toNat ∧ b.toNat ≤ hi := by
  cases o with
  | none => simp [inR]
  | some b => simp [inR]

/-- The length of the well-formed sequence that begins here, or 0; f gives the bytes from here on. -/
def szF (f : Nat → Option UInt8) : Nat := match f 0 with
  | none => 0
  | some b0 =>
    if b0.toNat < 128 then 1
    else if (decide (194 ≤ b0.toNat) && decide (b0.toNat ≤ 223) && inR (f 1) 128 191) = true then 2
    else if (decide (b0.toNat = 224) && inR (f 1) 160 191 && inR (f 2) 128 191) = true then 3
    else if (decide (b0.toNat = 237) && inR (f 1) 128 159 && inR (f 2) 128 191) = true then 3
    else if (decide (225 ≤ b0.toNat) && decide (b0.toNat ≤ 239) && decide (b0.toNat ≠ 237) && (inR (f 1) 128 191 && inR (f 2) 128 191)) = true then 3
    else if (decide (b0.toNat = 240) && inR (f 1) 144 191 && (inR (f 2) 128 191 && inR (f 3) 128 191)) = true then 4
    else if (decide (241 ≤ b0.toNat) && decide (b0.toNat ≤ 243) && (inR (f 1) 128 191 && inR (f 2) 128 191 && inR (f 3) 128 191)) = true then 4
    else if (decide (b0.toNat = 244) && inR (f 1) 128 143 && (inR (f 2) 128 191 && inR (f 3) 128 191)) = true then 4
    else 0

def W2 (a b : Nat) : Prop := 194 ≤ a ∧ a ≤ 223 ∧ 128 ≤ b ∧ b ≤ 191
def W3 (a b c : Nat) : Prop := 128 ≤ c ∧ c ≤ 191 ∧ ((a = 224 ∧ 160 ≤ b ∧ b ≤ 191) ∨ (a = 237 ∧ 128 ≤ b ∧ b ≤ 159) ∨ (225 ≤ a ∧ a ≤ 239 ∧ a ≠ 237 ∧ 128 ≤ b ∧ b ≤ 191))
def W4 (a b c d : Nat) : Prop := 128 ≤ c ∧ c ≤ 191 ∧ 128 ≤ d ∧ d ≤ 191 ∧ ((a = 240 ∧ 144 ≤ b ∧ b ≤ 191) ∨ (241 ≤ a ∧ a ≤ 243 ∧ 128 ≤ b ∧ b ≤ 191) ∨ (a = 244 ∧ 128 ≤ b ∧ b ≤ 143))

theorem szF_le (f : Nat → Option UInt8) : szF f ≤ 4 := by
  unfold szF
  split
  · omega
  · repeat' split
    all_goals omega
theorem szF_none {f : Nat → Option UInt8} (h : f 0 = none) : szF f = 0 := by simp [szF, h]
theorem szF_mk1 {f : Nat → Option UInt8} {a : UInt8} (h0 : f 0 = some a) (h : a.toNat < 128) : szF f = 1 := by simp [szF, h0, h]
theorem szF_mk2 {f : Nat → Option UInt8} {a b : UInt8} (h0 : f 0 = some a) (h1 : f 1 = some b) (h : W2 a.toNat b.toNat) : szF f = 2 := by
  obtain ⟨w1, w2, w3, w4⟩ := h
  have n : ¬ a.toNat < 128 := by omega
  simp [szF, h0, h1, inR, n, w1, w2, w3, w4]
theorem szF_mk3 {f : Nat → Option UInt8} {a b c : UInt8} (h0 : f 0 = some a) (h1 : f 1 = some b) (h2 : f 2 = some c) (h : W3 a.toNat b.toNat c.toNat) : szF f = 3 := by
  obtain ⟨w1, w2, w3⟩ := h
  have n : ¬ a.toNat < 128 := by omega
  have n2 : ¬ (a.toNat ≤ 223) := by omega
  rcases w3 with ⟨u1, u2, u3⟩ | ⟨u1, u2, u3⟩ | ⟨u1, u2, u3, u4, u5⟩
  · simp [szF, h0, h1, h2, inR, w1, w2, u1, u2, u3]
  · simp [szF, h0, h1, h2, inR, w1, w2, u1, u2, u3]
  · have n3 : a.toNat ≠ 224 := by omega
    simp [szF, h0, h1, h2, inR, n, n2, n3, w1, w2, u1, u2, u3, u4, u5]
theorem szF_mk4 {f : Nat → Option UInt8} {a b c d : UInt8} (h0 : f 0 = some a) (h1 : f 1 = some b) (h2 : f 2 = some c) (h3 : f 3 = some d) (h : W4 a.toNat b.toNat c.toNat d.toNat) : szF f = 4 := by
  obtain ⟨w1, w2, w3, w4, w5⟩ := h
  have n : ¬ a.toNat < 128 := by omega
  have n2 : ¬ (a.toNat ≤ 223) := by omega
  have n3 : a.toNat ≠ 224 := by omega
  have n4 : a.toNat ≠ 237 := by omega
  have n5 : ¬ (a.toNat ≤ 239) := by omega
  rcases w5 with ⟨u1, u2, u3⟩ | ⟨u1, u2, u3, u4⟩ | ⟨u1, u2, u3⟩
  · simp [szF, h0, h1, h2, h3, inR, w1, w2, w3, w4, u1, u2, u3]
  · have n6 : a.toNat ≠ 240 := by omega
    simp [szF, h0, h1, h2, h3, inR, n, n2, n3, n4, n5, n6, w1, w2, w3, w4, u1, u2, u3, u4]
  · simp [szF, h0, h1, h2, h3, inR, w1, w2, w3, w4, u1, u2, u3]

/-- What the bytes are, by the length. -/
theorem szF_cases (f : Nat → Option UInt8) : (szF f = 0) ∨
    (szF f = 1 ∧ ∃ a, f 0 = some a ∧ a.toNat < 128) ∨
    (szF f = 2 ∧ ∃ a b, f 0 = some a ∧ f 1 = some b ∧ W2 a.toNat b.toNat) ∨
    (szF f = 3 ∧ ∃ a b c, f 0 = some a ∧ f 1 = some b ∧ f 2 = some c ∧ W3 a.toNat b.toNat c.toNat) ∨
    (szF f = 4 ∧ ∃ a b c d, f 0 = some a ∧ f 1 = some b ∧ f 2 = some c ∧ f 3 = some d ∧ W4 a.toNat b.toNat c.toNat d.toNat) := by
  cases h0 : f 0 with
  | none => exact .inl (szF_none h0)
  | some a =>
    by_cases hn : a.toNat < 128
    · exact .inr (.inl ⟨szF_mk1 h0 hn, a, rfl, hn⟩)
    unfold szF
    rw [h0]
    simp only [if_neg hn]
    repeat' split
    all_goals try (rename_i h; simp only [Bool.and_eq_true, decide_eq_true_eq, inR_iff] at h)
    · obtain ⟨⟨p, q⟩, b, hb, r, s⟩ := h
      exact .inr (.inr (.inl ⟨rfl, a, b, rfl, hb, p, q, r, s⟩))
    · obtain ⟨⟨p, b, hb, r, s⟩, c, hc, t, u⟩ := h
      exact .inr (.inr (.inr (.inl ⟨rfl, a, b, c, rfl, hb, hc, t, u, .inl ⟨p, r, s⟩⟩)))
    · obtain ⟨⟨p, b, hb, r, s⟩, c, hc, t, u⟩ := h
      exact .inr (.inr (.inr (.inl ⟨rfl, a, b, c, rfl, hb, hc, t, u, .inr (.inl ⟨p, r, s⟩)⟩)))
    · obtain ⟨⟨⟨p, q⟩, q'⟩, ⟨b, hb, r, s⟩, c, hc, t, u⟩ := h
      exact .inr (.inr (.inr (.inl ⟨rfl, a, b, c, rfl, hb, hc, t, u, .inr (.inr ⟨p, q, q', r, s⟩)⟩)))
    · obtain ⟨⟨p, b, hb, r, s⟩, ⟨c, hc, t, u⟩, d, hd, v, w⟩ := h
      exact .inr (.inr (.inr (.inr ⟨rfl, a, b, c, d, rfl, hb, hc, hd, t, u, v, w, .inl ⟨p, r, s⟩⟩)))
    · obtain ⟨⟨p, q⟩, ⟨⟨b, hb, r, s⟩, c, hc, t, u⟩, d, hd, v, w⟩ := h
      exact .inr (.inr (.inr (.inr ⟨rfl, a, b, c, d, rfl, hb, hc, hd, t, u, v, w, .inr (.inl ⟨p, q, r, s⟩)⟩)))
    · obtain ⟨⟨p, b, hb, r, s⟩, ⟨c, hc, t, u⟩, d, hd, v, w⟩ := h
      exact .inr (.inr (.inr (.inr ⟨rfl, a, b, c, d, rfl, hb, hc, hd, t, u, v, w, .inr (.inr ⟨p, r, s⟩)⟩)))
    · exact .inl rfl

/-- The length depends on the bytes of the sequence alone. -/
theorem szF_same {f g : Nat → Option UInt8} (h : szF f ≠ 0) (hg : ∀ k, k < szF f → g k = f k) : szF g = szF f := by
  rcases szF_cases f with h' | ⟨hs, a, h0, hw⟩ | ⟨hs, a, b, h0, h1, hw⟩ | ⟨hs, a, b, c, h0, h1, h2, hw⟩ | ⟨hs, a, b, c, d, h0, h1, h2, h3, hw⟩
  · exact absurd h' h
  all_goals rw [hs] at hg ⊢
  · exact szF_mk1 (by rw [hg 0 (by omega), h0]) hw
  · exact szF_mk2 (by rw [hg 0 (by omega), h0]) (by rw [hg 1 (by omega), h1]) hw
  · exact szF_mk3 (by rw [hg 0 (by omega), h0]) (by rw [hg 1 (by omega), h1]) (by rw [hg 2 (by omega), h2]) hw
  · exact szF_mk4 (by rw [hg 0 (by omega), h0]) (by rw [hg 1 (by omega), h1]) (by rw [hg 2 (by omega), h2]) (by rw [hg 3 (by omega), h3]) hw

/-- Of a list of bytes. -/
def sz (l : List UInt8) : Nat := szF (fun k => l[k]?)
theorem sz_nil : sz [] = 0 := rfl
theorem sz_le (l : List UInt8) : sz l ≤ l.length := by
  have some_lt : ∀ {k : Nat} {b : UInt8}, l[k]? = some b → k < l.length := fun h => (List.getElem?_eq_some_iff.1 h).1
  unfold sz
  rcases szF_cases (fun k => l[k]?) with h' | ⟨hs, a, h0, hw⟩ | ⟨hs, a, b, h0, h1, hw⟩ | ⟨hs, a, b, c, h0, h1, h2, hw⟩ | ⟨hs, a, b, c, d, h0, h1, h2, h3, hw⟩
  · omega
  · have := some_lt h0; omega
  · have := some_lt h1; omega
  · have := some_lt h2; omega
  · have := some_lt h3; omega
theorem sz_app {l r : List UInt8} (h : sz l ≠ 0) : sz (l.take (sz l) ++ r) = sz l := by
  have hl := sz_le l
  refine szF_same (f := fun k => l[k]?) h (fun k hk => ?_)
  have hk' : k < sz l := hk
  rw [List.getElem?_append_left (by rw [List.length_take]; omega), List.getElem?_take, if_pos hk']
theorem sz_drop (l : List UInt8) (i : Nat) : sz (l.drop i) = szF (fun k => l[i + k]?) := by
  unfold sz
  congr 1
  funext k
  rw [List.getElem?_drop]

/-- How many bytes the first part has. -/
def stp (l : List UInt8) : Nat := if sz l = 0 then 1 else sz l
theorem step_pos (l : List UInt8) : 0 < stp l := by unfold stp; split <;> omega
theorem step_le {l : List UInt8} (h : l ≠ []) : stp l ≤ l.length := by
  have := sz_le l
  have : 0 < l.length := List.length_pos_iff.2 h
  unfold stp; split <;> omega
theorem step_le4 (l : List UInt8) : stp l ≤ 4 := by
  have := szF_le (fun k => l[k]?)
  unfold stp; split
  · omega
  · exact this

/-- The parts of a list of bytes. -/
def parts (l : List UInt8) : List (List UInt8) := if h : l = [] then [] else l.take (stp l) :: parts (l.drop (stp l))
termination_by l.length
decreasing_by
  have := step_pos l
  have : 0 < l.length := List.length_pos_iff.2 h
  simp only [List.length_drop]; omega
theorem parts_nil : parts [] = [] := by rw [parts]; simp
theorem parts_cons {l : List UInt8} (h : l ≠ []) : parts l = l.take (stp l) :: parts (l.drop (stp l)) := by
  conv => lhs; rw [parts]
  simp [h]
theorem parts_ind {C : List UInt8 → Prop} (h0 : C []) (h1 : ∀ l, l ≠ [] → C (l.drop (stp l)) → C l) (l : List UInt8) : C l := by
  generalize hn : l.length = n
  induction n using Nat.strongRecOn generalizing l with
  | _ n ih =>
    by_cases h : l = []
    · rw [h]; exact h0
    · have hp := step_pos l
      have : 0 < l.length := List.length_pos_iff.2 h
      exact h1 l h (ih _ (by simp only [List.length_drop]; omega) _ rfl)
theorem parts_flatten (l : List UInt8) : (parts l).flatten = l := by
  refine parts_ind (C := fun l => (parts l).flatten = l) (by rw [parts_nil]; rfl) (fun l h ih => ?_) l
  rw [parts_cons h, List.flatten_cons, ih, List.take_append_drop]

/-- A part that is a well-formed sequence. -/
def Well (p : List UInt8) : Prop := sz p = p.length ∧ p ≠ []
theorem Well.pos {p : List UInt8} (h : Well p) : 0 < p.length := List.length_pos_iff.2 h.2
theorem well_app {p r : List UInt8} (h : Well p) : sz (p ++ r) = p.length := by
  have hp := h.pos
  have h1 := sz_app (l := p) (r := r) (by rw [h.1]; omega)
  rwa [h.1, List.take_length] at h1
theorem take_well {l : List UInt8} (h : sz l ≠ 0) : Well (l.take (sz l)) := by
  have hl := sz_le l
  have h1 := sz_app (l := l) (r := []) h
  rw [List.append_nil] at h1
  have h2 : (l.take (sz l)).length = sz l := by rw [List.length_take]; omega
  refine ⟨by rw [h1, h2], fun e => ?_⟩
  rw [e] at h2
  simp at h2
  omega
theorem step_well {p r : List UInt8} (h : Well p) : stp (p ++ r) = p.length := by
  have hp := h.pos
  unfold stp
  rw [well_app h, if_neg (by omega)]
theorem parts_well_cons {p : List UInt8} (r : List UInt8) (h : Well p) : parts (p ++ r) = p :: parts r := by
  rw [parts_cons (by simp [h.2]), step_well h, List.take_left, List.drop_left]
theorem parts_app (ps : List (List UInt8)) (r : List UInt8) (h : ∀ p ∈ ps, Well p) : parts (ps.flatten ++ r) = ps ++ parts r := by
  induction ps with
  | nil => rfl
  | cons p ps ih =>
    rw [List.flatten_cons, List.append_assoc, parts_well_cons _ (h p (by simp)), ih (fun q hq => h q (by simp [hq]))]
    rfl
theorem parts_of_well (ps : List (List UInt8)) (h : ∀ p ∈ ps, Well p) : parts ps.flatten = ps := by
  have := parts_app ps [] h
  rwa [List.append_nil, parts_nil, List.append_nil] at this
/-- Each part is well formed, or one byte that begins no such sequence. -/
theorem parts_each (l : List UInt8) : ∀ p ∈ parts l, Well p ∨ ∃ b, p = [b] ∧ sz p = 0 := by
  refine parts_ind (C := fun l => ∀ p ∈ parts l, Well p ∨ ∃ b, p = [b] ∧ sz p = 0) (by rw [parts_nil]; simp) (fun l h ih => ?_) l
  rw [parts_cons h]
  intro p hp
  rcases List.mem_cons.1 hp with rfl | hp
  · unfold stp
    by_cases hz : sz l = 0
    · rw [if_pos hz]
      right
      cases l with
      | nil => exact absurd rfl h
      | cons b t =>
        refine ⟨b, rfl, ?_⟩
        show sz [b] = 0
        rcases szF_cases (fun k => [b][k]?) with h' | ⟨hs, a, h0, hw⟩ | ⟨hs, a, c, h0, h1, hw⟩ | ⟨hs, a, b', c, h0, h1, h2, hw⟩ | ⟨hs, a, b', c, d, h0, h1, h2, h3, hw⟩
        · exact h'
        · exfalso
          simp at h0
          subst h0
          have : sz (b :: t) = 1 := szF_mk1 (a := b) (by simp) hw
          omega
        · simp at h1
        · simp at h1
        · simp at h1
    · rw [if_neg hz]
      exact .inl (take_well hz)
  · exact ih p hp

/-- The index of the first wrong byte among parts that begin at i, or -1. -/
def badP (i : Nat) : List (List UInt8) → Int
  | [] => -1
  | p :: ps => if sz p = 0 then (i : Int) else badP (i + p.length) ps
def bad (l : List UInt8) : Int := badP 0 (parts l)
def count (l : List UInt8) : Nat := (parts l).length

theorem badP_well (i : Nat) (ps qs : List (List UInt8)) (h : ∀ p ∈ ps, Well p) : badP i (ps ++ qs) = badP (i + ps.flatten.length) qs := by
  induction ps generalizing i with
  | nil => rfl
  | cons p ps ih =>
    have hw := h p (by simp)
    have := hw.pos
    rw [List.cons_append, badP, if_neg (by rw [hw.1]; omega), ih _ (fun q hq => h q (by simp [hq])), List.flatten_cons, List.length_append]
    congr 1; omega
theorem badP_all (i : Nat) (ps : List (List UInt8)) (h : ∀ p ∈ ps, Well p) : badP i ps = -1 := by
  have := badP_well i ps [] h
  rwa [List.append_nil] at this
theorem badP_shift (i j : Nat) (ps : List (List UInt8)) : badP (i + j) ps = if badP i ps < 0 then -1 else badP i ps + j := by
  induction ps generalizing i with
  | nil => rfl
  | cons p ps ih =>
    rw [badP, badP]
    by_cases h : sz p = 0
    · rw [if_pos h, if_pos h, if_neg (by omega)]; omega
    · rw [if_neg h, if_neg h, show i + j + p.length = i + p.length + j from by omega, ih]
theorem badP_ge (i : Nat) (ps : List (List UInt8)) : badP i ps = -1 ∨ (i : Int) ≤ badP i ps := by
  induction ps generalizing i with
  | nil => exact .inl rfl
  | cons p ps ih =>
    rw [badP]
    split
    · exact .inr (Int.le_refl _)
    · rcases ih (i + p.length) with h | h
      · exact .inl h
      · right; omega
/-- The parts before the first wrong byte are well formed. -/
theorem badP_split (i : Nat) (ps : List (List UInt8)) (he : ∀ p ∈ ps, Well p ∨ ∃ b, p = [b] ∧ sz p = 0) :
    (badP i ps = -1 ∧ ∀ p ∈ ps, Well p) ∨ ∃ qs b rs, ps = qs ++ [b] :: rs ∧ (∀ p ∈ qs, Well p) ∧ sz [b] = 0 ∧ badP i ps = (i : Int) + qs.flatten.length := by
  induction ps generalizing i with
  | nil => left; exact ⟨rfl, by simp⟩
  | cons p ps ih =>
    rcases he p (by simp) with hw | ⟨b, rfl, hb⟩
    · have hp := hw.pos
      have hne : ¬ sz p = 0 := by rw [hw.1]; omega
      rw [badP, if_neg hne]
      rcases ih (i + p.length) (fun q hq => he q (by simp [hq])) with ⟨h1, h2⟩ | ⟨qs, b, rs, h1, h2, h3, h4⟩
      · left
        refine ⟨h1, fun q hq => ?_⟩
        rcases List.mem_cons.1 hq with rfl | hq
        · exact hw
        · exact h2 q hq
      · right
        refine ⟨p :: qs, b, rs, by rw [h1]; rfl, fun q hq => ?_, h3, ?_⟩
        · rcases List.mem_cons.1 hq with rfl | hq
          · exact hw
          · exact h2 q hq
        · rw [h4, List.flatten_cons, List.length_append]; omega
    · right
      exact ⟨[], b, ps, rfl, by simp, hb, by rw [badP, if_pos hb]; simp⟩
theorem bad_split (l : List UInt8) : (bad l = -1 ∧ ∀ p ∈ parts l, Well p) ∨ ∃ qs b rs, parts l = qs ++ [b] :: rs ∧ (∀ p ∈ qs, Well p) ∧ sz [b] = 0 ∧ bad l = (qs.flatten.length : Int) := by
  rcases badP_split 0 (parts l) (parts_each l) with h | ⟨qs, b, rs, h1, h2, h3, h4⟩
  · exact .inl h
  · refine .inr ⟨qs, b, rs, h1, h2, h3, ?_⟩
    unfold bad
    rw [h4]; omega
theorem bad_range (l : List UInt8) : bad l = -1 ∨ (0 ≤ bad l ∧ bad l < l.length) := by
  rcases bad_split l with ⟨h, _⟩ | ⟨qs, b, rs, h1, _, _, h4⟩
  · exact .inl h
  · right
    have := congrArg (fun x => (List.flatten x).length) h1
    simp only [parts_flatten, List.flatten_append, List.flatten_cons, List.length_append, List.length_cons, List.length_nil] at this
    rw [h4]; omega

/-- What a loop over the parts asks. -/
theorem badP_end {l : List UInt8} {i : Nat} (h : l.length ≤ i) : badP i (parts (l.drop i)) = -1 := by
  rw [List.drop_eq_nil_of_le h, parts_nil]; rfl
theorem drop_ne {l : List UInt8} {i : Nat} (h : i < l.length) : l.drop i ≠ [] := by
  intro e
  have := congrArg List.length e
  rw [List.length_drop] at this
  simp at this; omega
theorem sz_part {l : List UInt8} (h : l ≠ []) : sz (l.take (stp l)) = sz l := by
  unfold stp
  by_cases hz : sz l = 0
  · rw [if_pos hz, hz]
    rcases parts_each l (l.take (stp l)) (by rw [parts_cons h]; simp) with hw | ⟨b, h1, h2⟩
    · exfalso
      unfold stp at hw
      rw [if_pos hz] at hw
      have h3 := well_app (r := l.drop 1) hw
      rw [List.take_append_drop, hz] at h3
      have := hw.pos; omega
    · unfold stp at h2
      rwa [if_pos hz] at h2
  · rw [if_neg hz]
    have := sz_app (l := l) (r := []) hz
    rwa [List.append_nil] at this
theorem badP_wrong {l : List UInt8} {i : Nat} (h : i < l.length) (hz : sz (l.drop i) = 0) : badP i (parts (l.drop i)) = i := by
  rw [parts_cons (drop_ne h), badP, if_pos (by rw [sz_part (drop_ne h), hz])]
theorem badP_next {l : List UInt8} {i : Nat} (h : i < l.length) (hz : sz (l.drop i) ≠ 0) : badP i (parts (l.drop i)) = badP (i + sz (l.drop i)) (parts (l.drop (i + sz (l.drop i)))) := by
  have hs : stp (l.drop i) = sz (l.drop i) := by unfold stp; rw [if_neg hz]
  have hl := sz_le (l.drop i)
  rw [parts_cons (drop_ne h), badP, if_neg (by rw [sz_part (drop_ne h)]; exact hz), hs, List.length_take, List.drop_drop]
  congr 1; omega
theorem count_end {l : List UInt8} {i : Nat} (h : l.length ≤ i) : count (l.drop i) = 0 := by
  rw [List.drop_eq_nil_of_le h]; unfold count; rw [parts_nil]; rfl
theorem count_next {l : List UInt8} {i : Nat} (h : i < l.length) : count (l.drop i) = count (l.drop (i + stp (l.drop i))) + 1 := by
  unfold count
  rw [parts_cons (drop_ne h), List.drop_drop]; rfl
theorem count_le (l : List UInt8) : count l ≤ l.length := by
  refine parts_ind (C := fun l => count l ≤ l.length) (by unfold count; rw [parts_nil]; simp) (fun l h ih => ?_) l
  unfold count at ih ⊢
  rw [parts_cons h, List.length_cons]
  rw [List.length_drop] at ih
  have := step_pos l
  have := step_le h
  omega

/-- Joined behind well-formed parts. -/
theorem join_count {a b : List UInt8} (h : bad a = -1) : count (a ++ b) = count a + count b := by
  rcases bad_split a with ⟨_, hw⟩ | ⟨qs, c, rs, _, _, _, h4⟩
  · have := parts_app (parts a) b hw
    rw [parts_flatten] at this
    unfold count
    rw [this, List.length_append]
  · omega
theorem join_bad {a b : List UInt8} (h : bad a = -1) : bad (a ++ b) = if bad b < 0 then -1 else bad b + a.length := by
  rcases bad_split a with ⟨_, hw⟩ | ⟨qs, c, rs, _, _, _, h4⟩
  · have := parts_app (parts a) b hw
    rw [parts_flatten] at this
    unfold bad
    rw [this, badP_well _ _ _ hw, parts_flatten, Nat.zero_add]
    have := badP_shift 0 a.length (parts b)
    rwa [Nat.zero_add] at this
  · omega
theorem bad_before {a : List UInt8} (h : bad a ≠ -1) : bad (a.take (bad a).toNat) = -1 := by
  rcases bad_split a with ⟨h', _⟩ | ⟨qs, c, rs, h1, h2, h3, h4⟩
  · exact absurd h' h
  · have hf : a = qs.flatten ++ (c :: rs.flatten) := by
      conv => lhs; rw [← parts_flatten a, h1]
      simp
    rw [h4, Int.toNat_natCast]
    have : a.take qs.flatten.length = qs.flatten := by
      conv => lhs; rw [hf]
      exact List.take_left
    rw [this]
    unfold bad
    rw [parts_of_well qs h2, badP_all _ _ h2]
end Go.Proofs.YtgjbpadhdnclnaaGreatDoor.UtfM
