import GoSem.Core.Utf8
import Derived.Lib.RuneBytes
import Derived.Lib.Bytealg
/- Stage 3 as plain mathematics: how a list of bytes is divided into parts, quoted forms, hexadecimal digits. Of no program. -/
set_option linter.unusedSimpArgs false
set_option linter.unusedVariables false
namespace Go.Proofs.YthjpchnogllliaaGreatDoor.UtfM

/-- The byte is there and lies between the two numbers. -/
def inR (o : Option UInt8) (lo hi : Nat) : Bool := match o with
  | none => false
  | some b => decide (lo ≤ b.toNat) && decide (b.toNat ≤ hi)

theorem inR_iff {o : Option UInt8} {lo hi : Nat} : inR o lo hi = true ↔ ∃ b, o = some b ∧ lo ≤ b.toNat ∧ b.toNat ≤ hi := by
  cases o with
  | none => simp [inR]
  | some b => simp [inR]

/-- The length of the well-formed sequence that begins here, or 0; f gives the bytes from here on. -/
def szF (f : Nat → Option UInt8) : Nat := match f 0 with
  | none => 0
  | some b0 =>
    if b0.toNat < 128 then 1
    else if (decide (194 ≤ b0.toNat) && decide (b0.toNat ≤ 223) && inR (f 1) 128 191) = true then 2
    else if (decide (b0.toNat = 224) && inR (f 1) 160 191 && inR (f 2) 128 191) = true then 3
    else if (decide (b0.toNat = 237) && inR (f 1) 128 159 && inR (f 2) 128 191) = true then 3
    else if (decide (225 ≤ b0.toNat) && decide (b0.toNat ≤ 239) && decide (b0.toNat ≠ 237) && (inR (f 1) 128 191 && inR (f 2) 128 191)) = true then 3
    else if (decide (b0.toNat = 240) && inR (f 1) 144 191 && (inR (f 2) 128 191 && inR (f 3) 128 191)) = true then 4
    else if (decide (241 ≤ b0.toNat) && decide (b0.toNat ≤ 243) && (inR (f 1) 128 191 && inR (f 2) 128 191 && inR (f 3) 128 191)) = true then 4
    else if (decide (b0.toNat = 244) && inR (f 1) 128 143 && (inR (f 2) 128 191 && inR (f 3) 128 191)) = true then 4
    else 0

def W2 (a b : Nat) : Prop := 194 ≤ a ∧ a ≤ 223 ∧ 128 ≤ b ∧ b ≤ 191
def W3 (a b c : Nat) : Prop := 128 ≤ c ∧ c ≤ 191 ∧ ((a = 224 ∧ 160 ≤ b ∧ b ≤ 191) ∨ (a = 237 ∧ 128 ≤ b ∧ b ≤ 159) ∨ (225 ≤ a ∧ a ≤ 239 ∧ a ≠ 237 ∧ 128 ≤ b ∧ b ≤ 191))
def W4 (a b c d : Nat) : Prop := 128 ≤ c ∧ c ≤ 191 ∧ 128 ≤ d ∧ d ≤ 191 ∧ ((a = 240 ∧ 144 ≤ b ∧ b ≤ 191) ∨ (241 ≤ a ∧ a ≤ 243 ∧ 128 ≤ b ∧ b ≤ 191) ∨ (a = 244 ∧ 128 ≤ b ∧ b ≤ 143))

theorem szF_le (f : Nat → Option UInt8) : szF f ≤ 4 := by
  unfold szF
  split
  · omega
  · repeat' split
    all_goals omega
theorem szF_none {f : Nat → Option UInt8} (h : f 0 = none) : szF f = 0 := by simp [szF, h]
theorem szF_mk1 {f : Nat → Option UInt8} {a : UInt8} (h0 : f 0 = some a) (h : a.toNat < 128) : szF f = 1 := by simp [szF, h0, h]
theorem szF_mk2 {f : Nat → Option UInt8} {a b : UInt8} (h0 : f 0 = some a) (h1 : f 1 = some b) (h : W2 a.toNat b.toNat) : szF f = 2 := by
  obtain ⟨w1, w2, w3, w4⟩ := h
  have n : ¬ a.toNat < 128 := by omega
  simp [szF, h0, h1, inR, n, w1, w2, w3, w4]
theorem szF_mk3 {f : Nat → Option UInt8} {a b c : UInt8} (h0 : f 0 = some a) (h1 : f 1 = some b) (h2 : f 2 = some c) (h : W3 a.toNat b.toNat c.toNat) : szF f = 3 := by
  obtain ⟨w1, w2, w3⟩ := h
  have n : ¬ a.toNat < 128 := by omega
  have n2 : ¬ (a.toNat ≤ 223) := by omega
  rcases w3 with ⟨u1, u2, u3⟩ | ⟨u1, u2, u3⟩ | ⟨u1, u2, u3, u4, u5⟩
  · simp [szF, h0, h1, h2, inR, w1, w2, u1, u2, u3]
  · simp [szF, h0, h1, h2, inR, w1, w2, u1, u2, u3]
  · have n3 : a.toNat ≠ 224 := by omega
    simp [szF, h0, h1, h2, inR, n, n2, n3, w1, w2, u1, u2, u3, u4, u5]
theorem szF_mk4 {f : Nat → Option UInt8} {a b c d : UInt8} (h0 : f 0 = some a) (h1 : f 1 = some b) (h2 : f 2 = some c) (h3 : f 3 = some d) (h : W4 a.toNat b.toNat c.toNat d.toNat) : szF f = 4 := by
  obtain ⟨w1, w2, w3, w4, w5⟩ := h
  have n : ¬ a.toNat < 128 := by omega
  have n2 : ¬ (a.toNat ≤ 223) := by omega
  have n3 : a.toNat ≠ 224 := by omega
  have n4 : a.toNat ≠ 237 := by omega
  have n5 : ¬ (a.toNat ≤ 239) := by omega
  rcases w5 with ⟨u1, u2, u3⟩ | ⟨u1, u2, u3, u4⟩ | ⟨u1, u2, u3⟩
  · simp [szF, h0, h1, h2, h3, inR, w1, w2, w3, w4, u1, u2, u3]
  · have n6 : a.toNat ≠ 240 := by omega
    simp [szF, h0, h1, h2, h3, inR, n, n2, n3, n4, n5, n6, w1, w2, w3, w4, u1, u2, u3, u4]
  · simp [szF, h0, h1, h2, h3, inR, w1, w2, w3, w4, u1, u2, u3]

/-- What the bytes are, by the length. -/
theorem szF_cases (f : Nat → Option UInt8) : (szF f = 0) ∨
    (szF f = 1 ∧ ∃ a, f 0 = some a ∧ a.toNat < 128) ∨
    (szF f = 2 ∧ ∃ a b, f 0 = some a ∧ f 1 = some b ∧ W2 a.toNat b.toNat) ∨
    (szF f = 3 ∧ ∃ a b c, f 0 = some a ∧ f 1 = some b ∧ f 2 = some c ∧ W3 a.toNat b.toNat c.toNat) ∨
    (szF f = 4 ∧ ∃ a b c d, f 0 = some a ∧ f 1 = some b ∧ f 2 = some c ∧ f 3 = some d ∧ W4 a.toNat b.toNat c.toNat d.toNat) := by
  cases h0 : f 0 with
  | none => exact .inl (szF_none h0)
  | some a =>
    by_cases hn : a.toNat < 128
    · exact .inr (.inl ⟨szF_mk1 h0 hn, a, rfl, hn⟩)
    unfold szF
    rw [h0]
    simp only [if_neg hn]
    repeat' split
    all_goals try (rename_i h; simp only [Bool.and_eq_true, decide_eq_true_eq, inR_iff] at h)
    · obtain ⟨⟨p, q⟩, b, hb, r, s⟩ := h
      exact .inr (.inr (.inl ⟨rfl, a, b, rfl, hb, p, q, r, s⟩))
    · obtain ⟨⟨p, b, hb, r, s⟩, c, hc, t, u⟩ := h
      exact .inr (.inr (.inr (.inl ⟨rfl, a, b, c, rfl, hb, hc, t, u, .inl ⟨p, r, s⟩⟩)))
    · obtain ⟨⟨p, b, hb, r, s⟩, c, hc, t, u⟩ := h
      exact .inr (.inr (.inr (.inl ⟨rfl, a, b, c, rfl, hb, hc, t, u, .inr (.inl ⟨p, r, s⟩)⟩)))
    · obtain ⟨⟨⟨p, q⟩, q'⟩, ⟨b, hb, r, s⟩, c, hc, t, u⟩ := h
      exact .inr (.inr (.inr (.inl ⟨rfl, a, b, c, rfl, hb, hc, t, u, .inr (.inr ⟨p, q, q', r, s⟩)⟩)))
    · obtain ⟨⟨p, b, hb, r, s⟩, ⟨c, hc, t, u⟩, d, hd, v, w⟩ := h
      exact .inr (.inr (.inr (.inr ⟨rfl, a, b, c, d, rfl, hb, hc, hd, t, u, v, w, .inl ⟨p, r, s⟩⟩)))
    · obtain ⟨⟨p, q⟩, ⟨⟨b, hb, r, s⟩, c, hc, t, u⟩, d, hd, v, w⟩ := h
      exact .inr (.inr (.inr (.inr ⟨rfl, a, b, c, d, rfl, hb, hc, hd, t, u, v, w, .inr (.inl ⟨p, q, r, s⟩)⟩)))
    · obtain ⟨⟨p, b, hb, r, s⟩, ⟨c, hc, t, u⟩, d, hd, v, w⟩ := h
      exact .inr (.inr (.inr (.inr ⟨rfl, a, b, c, d, rfl, hb, hc, hd, t, u, v, w, .inr (.inr ⟨p, r, s⟩)⟩)))
    · exact .inl rfl

/-- The length depends on the bytes of the sequence alone. -/
theorem szF_same {f g : Nat → Option UInt8} (h : szF f ≠ 0) (hg : ∀ k, k < szF f → g k = f k) : szF g = szF f := by
  rcases szF_cases f with h' | ⟨hs, a, h0, hw⟩ | ⟨hs, a, b, h0, h1, hw⟩ | ⟨hs, a, b, c, h0, h1, h2, hw⟩ | ⟨hs, a, b, c, d, h0, h1, h2, h3, hw⟩
  · exact absurd h' h
  all_goals rw [hs] at hg ⊢
  · exact szF_mk1 (by rw [hg 0 (by omega), h0]) hw
  · exact szF_mk2 (by rw [hg 0 (by omega), h0]) (by rw [hg 1 (by omega), h1]) hw
  · exact szF_mk3 (by rw [hg 0 (by omega), h0]) (by rw [hg 1 (by omega), h1]) (by rw [hg 2 (by omega), h2]) hw
  · exact szF_mk4 (by rw [hg 0 (by omega), h0]) (by rw [hg 1 (by omega), h1]) (by rw [hg 2 (by omega), h2]) (by rw [hg 3 (by omega), h3]) hw

/-- Of a list of bytes. -/
def sz (l : List UInt8) : Nat := szF (fun k => l[k]?)
theorem sz_nil : sz [] = 0 := rfl
theorem sz_le (l : List UInt8) : sz l ≤ l.length := by
  have some_lt : ∀ {k : Nat} {b : UInt8}, l[k]? = some b → k < l.length := fun h => (List.getElem?_eq_some_iff.1 h).1
  unfold sz
  rcases szF_cases (fun k => l[k]?) with h' | ⟨hs, a, h0, hw⟩ | ⟨hs, a, b, h0, h1, hw⟩ | ⟨hs, a, b, c, h0, h1, h2, hw⟩ | ⟨hs, a, b, c, d, h0, h1, h2, h3, hw⟩
  · omega
  · have := some_lt h0; omega
  · have := some_lt h1; omega
  · have := some_lt h2; omega
  · have := some_lt h3; omega
theorem sz_app {l r : List UInt8} (h : sz l ≠ 0) : sz (l.take (sz l) ++ r) = sz l := by
  have hl := sz_le l
  refine szF_same (f := fun k => l[k]?) h (fun k hk => ?_)
  have hk' : k < sz l := hk
  rw [List.getElem?_append_left (by rw [List.length_take]; omega), List.getElem?_take, if_pos hk']
theorem sz_drop (l : List UInt8) (i : Nat) : sz (l.drop i) = szF (fun k => l[i + k]?) := by
  unfold sz
  congr 1
  funext k
  rw [List.getElem?_drop]

/-- How many bytes the first part has. -/
def stp (l : List UInt8) : Nat := if sz l = 0 then 1 else sz l
theorem step_pos (l : List UInt8) : 0 < stp l := by unfold stp; split <;> omega
theorem step_le {l : List UInt8} (h : l ≠ []) : stp l ≤ l.length := by
  have := sz_le l
  have : 0 < l.length := List.length_pos_iff.2 h
  unfold stp; split <;> omega
theorem step_le4 (l : List UInt8) : stp l ≤ 4 := by
  have := szF_le (fun k => l[k]?)
  unfold stp; split
  · omega
  · exact this

/-- The parts of a list of bytes. -/
def parts (l : List UInt8) : List (List UInt8) := if h : l = [] then [] else l.take (stp l) :: parts (l.drop (stp l))
termination_by l.length
decreasing_by
  have := step_pos l
  have : 0 < l.length := List.length_pos_iff.2 h
  simp only [List.length_drop]; omega
theorem parts_nil : parts [] = [] := by rw [parts]; simp
theorem parts_cons {l : List UInt8} (h : l ≠ []) : parts l = l.take (stp l) :: parts (l.drop (stp l)) := by
  conv => lhs; rw [parts]
  simp [h]
theorem parts_ind {C : List UInt8 → Prop} (h0 : C []) (h1 : ∀ l, l ≠ [] → C (l.drop (stp l)) → C l) (l : List UInt8) : C l := by
  generalize hn : l.length = n
  induction n using Nat.strongRecOn generalizing l with
  | _ n ih =>
    by_cases h : l = []
    · rw [h]; exact h0
    · have hp := step_pos l
      have : 0 < l.length := List.length_pos_iff.2 h
      exact h1 l h (ih _ (by simp only [List.length_drop]; omega) _ rfl)
theorem parts_flatten (l : List UInt8) : (parts l).flatten = l := by
  refine parts_ind (C := fun l => (parts l).flatten = l) (by rw [parts_nil]; rfl) (fun l h ih => ?_) l
  rw [parts_cons h, List.flatten_cons, ih, List.take_append_drop]

/-- A part that is a well-formed sequence. -/
def Well (p : List UInt8) : Prop := sz p = p.length ∧ p ≠ []
theorem Well.pos {p : List UInt8} (h : Well p) : 0 < p.length := List.length_pos_iff.2 h.2
theorem well_app {p r : List UInt8} (h : Well p) : sz (p ++ r) = p.length := by
  have hp := h.pos
  have h1 := sz_app (l := p) (r := r) (by rw [h.1]; omega)
  rwa [h.1, List.take_length] at h1
theorem take_well {l : List UInt8} (h : sz l ≠ 0) : Well (l.take (sz l)) := by
  have hl := sz_le l
  have h1 := sz_app (l := l) (r := []) h
  rw [List.append_nil] at h1
  have h2 : (l.take (sz l)).length = sz l := by rw [List.length_take]; omega
  refine ⟨by rw [h1, h2], fun e => ?_⟩
  rw [e] at h2
  simp at h2
  omega
theorem step_well {p r : List UInt8} (h : Well p) : stp (p ++ r) = p.length := by
  have hp := h.pos
  unfold stp
  rw [well_app h, if_neg (by omega)]
theorem parts_well_cons {p : List UInt8} (r : List UInt8) (h : Well p) : parts (p ++ r) = p :: parts r := by
  rw [parts_cons (by simp [h.2]), step_well h, List.take_left, List.drop_left]
theorem parts_app (ps : List (List UInt8)) (r : List UInt8) (h : ∀ p ∈ ps, Well p) : parts (ps.flatten ++ r) = ps ++ parts r := by
  induction ps with
  | nil => rfl
  | cons p ps ih =>
    rw [List.flatten_cons, List.append_assoc, parts_well_cons _ (h p (by simp)), ih (fun q hq => h q (by simp [hq]))]
    rfl
theorem parts_of_well (ps : List (List UInt8)) (h : ∀ p ∈ ps, Well p) : parts ps.flatten = ps := by
  have := parts_app ps [] h
  rwa [List.append_nil, parts_nil, List.append_nil] at this
/-- Each part is well formed, or one byte that begins no such sequence. -/
theorem parts_each (l : List UInt8) : ∀ p ∈ parts l, Well p ∨ ∃ b, p = [b] ∧ sz p = 0 := by
  refine parts_ind (C := fun l => ∀ p ∈ parts l, Well p ∨ ∃ b, p = [b] ∧ sz p = 0) (by rw [parts_nil]; simp) (fun l h ih => ?_) l
  rw [parts_cons h]
  intro p hp
  rcases List.mem_cons.1 hp with rfl | hp
  · unfold stp
    by_cases hz : sz l = 0
    · rw [if_pos hz]
      right
      cases l with
      | nil => exact absurd rfl h
      | cons b t =>
        refine ⟨b, rfl, ?_⟩
        show sz [b] = 0
        rcases szF_cases (fun k => [b][k]?) with h' | ⟨hs, a, h0, hw⟩ | ⟨hs, a, c, h0, h1, hw⟩ | ⟨hs, a, b', c, h0, h1, h2, hw⟩ | ⟨hs, a, b', c, d, h0, h1, h2, h3, hw⟩
        · exact h'
        · exfalso
          simp at h0
          subst h0
          have : sz (b :: t) = 1 := szF_mk1 (a := b) (by simp) hw
          omega
        · simp at h1
        · simp at h1
        · simp at h1
    · rw [if_neg hz]
      exact .inl (take_well hz)
  · exact ih p hp

/-- The index of the first wrong byte among parts that begin at i, or -1. -/
def badP (i : Nat) : List (List UInt8) → Int
  | [] => -1
  | p :: ps => if sz p = 0 then (i : Int) else badP (i + p.length) ps
def bad (l : List UInt8) : Int := badP 0 (parts l)
def count (l : List UInt8) : Nat := (parts l).length

theorem badP_well (i : Nat) (ps qs : List (List UInt8)) (h : ∀ p ∈ ps, Well p) : badP i (ps ++ qs) = badP (i + ps.flatten.length) qs := by
  induction ps generalizing i with
  | nil => rfl
  | cons p ps ih =>
    have hw := h p (by simp)
    have := hw.pos
    rw [List.cons_append, badP, if_neg (by rw [hw.1]; omega), ih _ (fun q hq => h q (by simp [hq])), List.flatten_cons, List.length_append]
    congr 1; omega
theorem badP_all (i : Nat) (ps : List (List UInt8)) (h : ∀ p ∈ ps, Well p) : badP i ps = -1 := by
  have := badP_well i ps [] h
  rwa [List.append_nil] at this
theorem badP_shift (i j : Nat) (ps : List (List UInt8)) : badP (i + j) ps = if badP i ps < 0 then -1 else badP i ps + j := by
  induction ps generalizing i with
  | nil => rfl
  | cons p ps ih =>
    rw [badP, badP]
    by_cases h : sz p = 0
    · rw [if_pos h, if_pos h, if_neg (by omega)]; omega
    · rw [if_neg h, if_neg h, show i + j + p.length = i + p.length + j from by omega, ih]
theorem badP_ge (i : Nat) (ps : List (List UInt8)) : badP i ps = -1 ∨ (i : Int) ≤ badP i ps := by
  induction ps generalizing i with
  | nil => exact .inl rfl
  | cons p ps ih =>
    rw [badP]
    split
    · exact .inr (Int.le_refl _)
    · rcases ih (i + p.length) with h | h
      · exact .inl h
      · right; omega
/-- The parts before the first wrong byte are well formed. -/
theorem badP_split (i : Nat) (ps : List (List UInt8)) (he : ∀ p ∈ ps, Well p ∨ ∃ b, p = [b] ∧ sz p = 0) :
    (badP i ps = -1 ∧ ∀ p ∈ ps, Well p) ∨ ∃ qs b rs, ps = qs ++ [b] :: rs ∧ (∀ p ∈ qs, Well p) ∧ sz [b] = 0 ∧ badP i ps = (i : Int) + qs.flatten.length := by
  induction ps generalizing i with
  | nil => left; exact ⟨rfl, by simp⟩
  | cons p ps ih =>
    rcases he p (by simp) with hw | ⟨b, rfl, hb⟩
    · have hp := hw.pos
      have hne : ¬ sz p = 0 := by rw [hw.1]; omega
      rw [badP, if_neg hne]
      rcases ih (i + p.length) (fun q hq => he q (by simp [hq])) with ⟨h1, h2⟩ | ⟨qs, b, rs, h1, h2, h3, h4⟩
      · left
        refine ⟨h1, fun q hq => ?_⟩
        rcases List.mem_cons.1 hq with rfl | hq
        · exact hw
        · exact h2 q hq
      · right
        refine ⟨p :: qs, b, rs, by rw [h1]; rfl, fun q hq => ?_, h3, ?_⟩
        · rcases List.mem_cons.1 hq with rfl | hq
          · exact hw
          · exact h2 q hq
        · rw [h4, List.flatten_cons, List.length_append]; omega
    · right
      exact ⟨[], b, ps, rfl, by simp, hb, by rw [badP, if_pos hb]; simp⟩
theorem bad_split (l : List UInt8) : (bad l = -1 ∧ ∀ p ∈ parts l, Well p) ∨ ∃ qs b rs, parts l = qs ++ [b] :: rs ∧ (∀ p ∈ qs, Well p) ∧ sz [b] = 0 ∧ bad l = (qs.flatten.length : Int) := by
  rcases badP_split 0 (parts l) (parts_each l) with h | ⟨qs, b, rs, h1, h2, h3, h4⟩
  · exact .inl h
  · refine .inr ⟨qs, b, rs, h1, h2, h3, ?_⟩
    unfold bad
    rw [h4]; omega
theorem bad_range (l : List UInt8) : bad l = -1 ∨ (0 ≤ bad l ∧ bad l < l.length) := by
  rcases bad_split l with ⟨h, _⟩ | ⟨qs, b, rs, h1, _, _, h4⟩
  · exact .inl h
  · right
    have := congrArg (fun x => (List.flatten x).length) h1
    simp only [parts_flatten, List.flatten_append, List.flatten_cons, List.length_append, List.length_cons, List.length_nil] at this
    rw [h4]; omega

/-- What a loop over the parts asks. -/
theorem badP_end {l : List UInt8} {i : Nat} (h : l.length ≤ i) : badP i (parts (l.drop i)) = -1 := by
  rw [List.drop_eq_nil_of_le h, parts_nil]; rfl
theorem drop_ne {l : List UInt8} {i : Nat} (h : i < l.length) : l.drop i ≠ [] := by
  intro e
  have := congrArg List.length e
  rw [List.length_drop] at this
  simp at this; omega
theorem sz_part {l : List UInt8} (h : l ≠ []) : sz (l.take (stp l)) = sz l := by
  unfold stp
  by_cases hz : sz l = 0
  · rw [if_pos hz, hz]
    rcases parts_each l (l.take (stp l)) (by rw [parts_cons h]; simp) with hw | ⟨b, h1, h2⟩
    · exfalso
      unfold stp at hw
      rw [if_pos hz] at hw
      have h3 := well_app (r := l.drop 1) hw
      rw [List.take_append_drop, hz] at h3
      have := hw.pos; omega
    · unfold stp at h2
      rwa [if_pos hz] at h2
  · rw [if_neg hz]
    have := sz_app (l := l) (r := []) hz
    rwa [List.append_nil] at this
theorem badP_wrong {l : List UInt8} {i : Nat} (h : i < l.length) (hz : sz (l.drop i) = 0) : badP i (parts (l.drop i)) = i := by
  rw [parts_cons (drop_ne h), badP, if_pos (by rw [sz_part (drop_ne h), hz])]
theorem badP_next {l : List UInt8} {i : Nat} (h : i < l.length) (hz : sz (l.drop i) ≠ 0) : badP i (parts (l.drop i)) = badP (i + sz (l.drop i)) (parts (l.drop (i + sz (l.drop i)))) := by
  have hs : stp (l.drop i) = sz (l.drop i) := by unfold stp; rw [if_neg hz]
  have hl := sz_le (l.drop i)
  rw [parts_cons (drop_ne h), badP, if_neg (by rw [sz_part (drop_ne h)]; exact hz), hs, List.length_take, List.drop_drop]
  congr 1; omega
theorem count_end {l : List UInt8} {i : Nat} (h : l.length ≤ i) : count (l.drop i) = 0 := by
  rw [List.drop_eq_nil_of_le h]; unfold count; rw [parts_nil]; rfl
theorem count_next {l : List UInt8} {i : Nat} (h : i < l.length) : count (l.drop i) = count (l.drop (i + stp (l.drop i))) + 1 := by
  unfold count
  rw [parts_cons (drop_ne h), List.drop_drop]; rfl
theorem count_le (l : List UInt8) : count l ≤ l.length := by
  refine parts_ind (C := fun l => count l ≤ l.length) (by unfold count; rw [parts_nil]; simp) (fun l h ih => ?_) l
  unfold count at ih ⊢
  rw [parts_cons h, List.length_cons]
  rw [List.length_drop] at ih
  have := step_pos l
  have := step_le h
  omega

/-- Joined behind well-formed parts. -/
theorem join_count {a b : List UInt8} (h : bad a = -1) : count (a ++ b) = count a + count b := by
  rcases bad_split a with ⟨_, hw⟩ | ⟨qs, c, rs, _, _, _, h4⟩
  · have := parts_app (parts a) b hw
    rw [parts_flatten] at this
    unfold count
    rw [this, List.length_append]
  · omega
theorem join_bad {a b : List UInt8} (h : bad a = -1) : bad (a ++ b) = if bad b < 0 then -1 else bad b + a.length := by
  rcases bad_split a with ⟨_, hw⟩ | ⟨qs, c, rs, _, _, _, h4⟩
  · have := parts_app (parts a) b hw
    rw [parts_flatten] at this
    unfold bad
    rw [this, badP_well _ _ _ hw, parts_flatten, Nat.zero_add]
    have := badP_shift 0 a.length (parts b)
    rwa [Nat.zero_add] at this
  · omega
theorem bad_before {a : List UInt8} (h : bad a ≠ -1) : bad (a.take (bad a).toNat) = -1 := by
  rcases bad_split a with ⟨h', _⟩ | ⟨qs, c, rs, h1, h2, h3, h4⟩
  · exact absurd h' h
  · have hf : a = qs.flatten ++ (c :: rs.flatten) := by
      conv => lhs; rw [← parts_flatten a, h1]
      simp
    rw [h4, Int.toNat_natCast]
    have : a.take qs.flatten.length = qs.flatten := by
      conv => lhs; rw [hf]
      exact List.take_left
    rw [this]
    unfold bad
    rw [parts_of_well qs h2, badP_all _ _ h2]
end Go.Proofs.YthjpchnogllliaaGreatDoor.UtfM

/- Stage 3 as plain mathematics: quoted forms and hexadecimal digits, written and read. Of no program. -/
set_option linter.unusedSimpArgs false
set_option linter.unusedVariables false
namespace Go.Proofs.YthjpchnogllliaaGreatDoor.UtfQ
open UtfM

/-- The digit for a number below 16. -/
def hx (n : Nat) : UInt8 := if n < 10 then UInt8.ofNat (48 + n) else UInt8.ofNat (87 + n)
/-- The number that a digit means, or -1. -/
def dig (b : UInt8) : Int := if 48 ≤ b.toNat ∧ b.toNat ≤ 57 then b.toNat - 48 else if 97 ≤ b.toNat ∧ b.toNat ≤ 102 then b.toNat - 87 else -1
theorem dig_hx {n : Nat} (h : n < 16) : dig (hx n) = n := by
  have : ∀ k : Fin 16, dig (hx k.val) = (k.val : Int) := by decide
  exact this ⟨n, h⟩
theorem dig_range (b : UInt8) : dig b = -1 ∨ (0 ≤ dig b ∧ dig b < 16) := by
  unfold dig
  repeat' split
  all_goals omega
theorem hx_dig {b : UInt8} (h : 0 ≤ dig b) : hx (dig b).toNat = b := by
  have : ∀ k : Fin 256, 0 ≤ dig (UInt8.ofNat k.val) → hx (dig (UInt8.ofNat k.val)).toNat = UInt8.ofNat k.val := by decide +kernel
  have h1 := this ⟨b.toNat, b.toNat_lt⟩
  simp only [UInt8.ofNat_toNat] at h1
  exact h1 h
theorem hx_range {n : Nat} (h : n < 16) : 48 ≤ (hx n).toNat ∧ (hx n).toNat ≤ 102 ∧ hx n ≠ 92 := by
  have : ∀ k : Fin 16, 48 ≤ (hx k.val).toNat ∧ (hx k.val).toNat ≤ 102 ∧ hx k.val ≠ 92 := by decide
  exact this ⟨n, h⟩
def digitsL : List UInt8 := [48, 49, 50, 51, 52, 53, 54, 55, 56, 57, 97, 98, 99, 100, 101, 102]
theorem digits_at {n : Nat} (h : n < 16) : digitsL[n]? = some (hx n) := by
  have : ∀ k : Fin 16, digitsL[k.val]? = some (hx k.val) := by decide
  exact this ⟨n, h⟩
theorem index_digits (b : UInt8) : Lib.indexByte digitsL b = dig b := by
  have : ∀ k : Fin 256, Lib.indexByte digitsL (UInt8.ofNat k.val) = dig (UInt8.ofNat k.val) := by decide +kernel
  have h1 := this ⟨b.toNat, b.toNat_lt⟩
  simpa only [UInt8.ofNat_toNat] using h1

/-- The bytes that have a letter behind a backslash. -/
def mkI (b : UInt8) : Int := if b = 34 then 0 else if b = 92 then 1 else if b = 10 then 2 else if b = 9 then 3 else if b = 13 then 4 else -1
def leI (b : UInt8) : Int := if b = 34 then 0 else if b = 92 then 1 else if b = 110 then 2 else if b = 116 then 3 else if b = 114 then 4 else -1
theorem index_marked (b : UInt8) : Lib.indexByte [34, 92, 10, 9, 13] b = mkI b := by
  have : ∀ k : Fin 256, Lib.indexByte [34, 92, 10, 9, 13] (UInt8.ofNat k.val) = mkI (UInt8.ofNat k.val) := by decide +kernel
  have h1 := this ⟨b.toNat, b.toNat_lt⟩
  simpa only [UInt8.ofNat_toNat] using h1
theorem index_letters (b : UInt8) : Lib.indexByte [34, 92, 110, 116, 114] b = leI b := by
  have : ∀ k : Fin 256, Lib.indexByte [34, 92, 110, 116, 114] (UInt8.ofNat k.val) = leI (UInt8.ofNat k.val) := by decide +kernel
  have h1 := this ⟨b.toNat, b.toNat_lt⟩
  simpa only [UInt8.ofNat_toNat] using h1

/-- The form of a part in a quoted text. -/
def form (p : List UInt8) : List UInt8 := match p with
  | [] => []
  | b :: t => if b = 34 then [92, 34] else if b = 92 then [92, 92] else if b = 10 then [92, 110] else if b = 9 then [92, 116] else if b = 13 then [92, 114]
    else if b.toNat < 32 ∨ b.toNat = 127 ∨ sz (b :: t) = 0 then [92, 120, hx (b.toNat / 16), hx (b.toNat % 16)] else b :: t
def body (l : List UInt8) : List UInt8 := (parts l).flatMap form
def quote (l : List UInt8) : List UInt8 := 34 :: (body l ++ [34])

theorem body_end {l : List UInt8} {i : Nat} (h : l.length ≤ i) : body (l.drop i) = [] := by
  unfold body
  rw [List.drop_eq_nil_of_le h, parts_nil]; rfl
theorem body_next {l : List UInt8} {i : Nat} (h : i < l.length) : body (l.drop i) = form ((l.drop i).take (stp (l.drop i))) ++ body (l.drop (i + stp (l.drop i))) := by
  unfold body
  rw [parts_cons (drop_ne h), List.drop_drop]; rfl
theorem form_le {p : List UInt8} (h : Well p ∨ ∃ b, p = [b] ∧ sz p = 0) : p.length ≤ (form p).length ∧ (form p).length ≤ 4 * p.length := by
  cases p with
  | nil => simp [form]
  | cons b t =>
    have single : b.toNat < 128 ∨ sz (b :: t) = 0 → t = [] := by
      intro hh
      rcases h with hw | ⟨c, hc, _⟩
      · rcases hh with hh | hh
        · have h1 : sz (b :: t) = 1 := szF_mk1 (a := b) (by simp) hh
          have := hw.1
          rw [h1] at this
          simp at this
          cases t with
          | nil => rfl
          | cons _ _ => simp at this
        · have := hw.1
          rw [hh] at this
          simp at this
      · injection hc
    unfold form
    have cases34 : ∀ c : UInt8, b = c → c.toNat < 128 → t = [] := fun c e hc => single (.inl (by rw [e]; exact hc))
    simp only []
    by_cases h1 : b = 34
    · rw [if_pos h1, cases34 34 h1 (by decide)]; simp
    rw [if_neg h1]
    by_cases h2 : b = 92
    · rw [if_pos h2, cases34 92 h2 (by decide)]; simp
    rw [if_neg h2]
    by_cases h3 : b = 10
    · rw [if_pos h3, cases34 10 h3 (by decide)]; simp
    rw [if_neg h3]
    by_cases h4 : b = 9
    · rw [if_pos h4, cases34 9 h4 (by decide)]; simp
    rw [if_neg h4]
    by_cases h5 : b = 13
    · rw [if_pos h5, cases34 13 h5 (by decide)]; simp
    rw [if_neg h5]
    by_cases h6 : b.toNat < 32 ∨ b.toNat = 127 ∨ sz (b :: t) = 0
    · rw [if_pos h6, single (by rcases h6 with h | h | h; exact .inl (by omega); exact .inl (by omega); exact .inr h)]; simp
    · rw [if_neg h6]; simp; omega
theorem flat_le (ps : List (List UInt8)) (h : ∀ p ∈ ps, Well p ∨ ∃ b, p = [b] ∧ sz p = 0) : ps.flatten.length ≤ (ps.flatMap form).length ∧ (ps.flatMap form).length ≤ 4 * ps.flatten.length := by
  induction ps with
  | nil => simp
  | cons p ps ih =>
    have h1 := form_le (h p (by simp))
    have h2 := ih (fun q hq => h q (by simp [hq]))
    rw [List.flatten_cons, List.flatMap_cons, List.length_append, List.length_append]
    omega
theorem body_le (l : List UInt8) : l.length ≤ (body l).length ∧ (body l).length ≤ 4 * l.length := by
  have := flat_le (parts l) (parts_each l)
  rwa [parts_flatten] at this
theorem quote_len (l : List UInt8) : (quote l).length = (body l).length + 2 := by unfold quote; simp

/-- The byte that the beginning means behind a backslash, and the length of this beginning, or 0. -/
def two (l : List UInt8) : Option UInt8 := match l with
  | a :: b :: _ => if dig a < 0 ∨ dig b < 0 then none else some (UInt8.ofNat ((dig a).toNat * 16 + (dig b).toNat))
  | _ => none
def esc (l : List UInt8) : UInt8 × Nat := match l with
  | [] => (0, 0)
  | b :: t => if b = 34 then (34, 1) else if b = 92 then (92, 1) else if b = 110 then (10, 1) else if b = 116 then (9, 1) else if b = 114 then (13, 1)
    else if b ≠ 120 then (0, 0) else match two t with
      | none => (0, 0)
      | some c => (c, 3)
/-- The text up to the closing quotation mark, and how many bytes it takes with this mark. -/
def scan (l : List UInt8) : Option (List UInt8 × Nat) := match l with
  | [] => none
  | b :: t => if b = 34 then some ([], 1) else if b = 92 then (if (esc t).2 = 0 then none else (scan (t.drop (esc t).2)).map fun r => ((esc t).1 :: r.1, 1 + (esc t).2 + r.2))
    else (scan t).map fun r => (b :: r.1, 1 + r.2)
termination_by l.length
decreasing_by
  all_goals simp only [List.length_cons, List.length_drop]; omega
theorem scan_nil : scan [] = none := by rw [scan]
theorem scan_mark (t : List UInt8) : scan (34 :: t) = some ([], 1) := by rw [scan]; simp
theorem scan_esc (t : List UInt8) : scan (92 :: t) = if (esc t).2 = 0 then none else (scan (t.drop (esc t).2)).map fun r => ((esc t).1 :: r.1, 1 + (esc t).2 + r.2) := by
  rw [scan]; simp
theorem scan_plain {b : UInt8} (t : List UInt8) (h1 : b ≠ 34) (h2 : b ≠ 92) : scan (b :: t) = (scan t).map fun r => (b :: r.1, 1 + r.2) := by
  rw [scan]; simp [h1, h2]
theorem scan_le (l : List UInt8) : ∀ r, scan l = some r → 1 ≤ r.2 ∧ r.2 ≤ l.length ∧ r.1.length + 1 ≤ r.2 := by
  generalize hn : l.length = n
  induction n using Nat.strongRecOn generalizing l with
  | _ n ih =>
    intro r hr
    cases l with
    | nil => rw [scan_nil] at hr; cases hr
    | cons b t =>
      simp only [List.length_cons] at hn
      by_cases h1 : b = 34
      · subst h1; rw [scan_mark] at hr; injection hr with hr; subst hr; simp; omega
      · by_cases h2 : b = 92
        · subst h2
          rw [scan_esc] at hr
          by_cases h3 : (esc t).2 = 0
          · rw [if_pos h3] at hr; cases hr
          · rw [if_neg h3] at hr
            obtain ⟨q, hq, rfl⟩ := Option.map_eq_some_iff.1 hr
            have := ih (t.drop (esc t).2).length (by rw [List.length_drop]; omega) _ rfl q hq
            rw [List.length_drop] at this
            simp only [List.length_cons]
            omega
        · rw [scan_plain t h1 h2] at hr
          obtain ⟨q, hq, rfl⟩ := Option.map_eq_some_iff.1 hr
          have := ih t.length (by omega) _ rfl q hq
          simp only [List.length_cons]
          omega

theorem scan_many {p : List UInt8} (r : List UInt8) (h : ∀ b ∈ p, b ≠ 34 ∧ b ≠ 92) : scan (p ++ r) = (scan r).map fun x => (p ++ x.1, p.length + x.2) := by
  induction p with
  | nil => cases hr : scan r <;> simp [hr]
  | cons b p ih =>
    have hb := h b (by simp)
    rw [List.cons_append, scan_plain _ hb.1 hb.2, ih (fun c hc => h c (by simp [hc]))]
    cases scan r with
    | none => rfl
    | some x => simp; omega
theorem byte_of_digits (b : UInt8) : UInt8.ofNat ((dig (hx (b.toNat / 16))).toNat * 16 + (dig (hx (b.toNat % 16))).toNat) = b := by
  have := b.toNat_lt
  rw [dig_hx (by omega), dig_hx (by omega)]
  have e : ((b.toNat / 16 : Nat) : Int).toNat * 16 + ((b.toNat % 16 : Nat) : Int).toNat = b.toNat := by omega
  rw [e, UInt8.ofNat_toNat]
theorem two_hx (b : UInt8) (r : List UInt8) : two (hx (b.toNat / 16) :: hx (b.toNat % 16) :: r) = some b := by
  have := b.toNat_lt
  have h1 := dig_hx (n := b.toNat / 16) (by omega)
  have h2 := dig_hx (n := b.toNat % 16) (by omega)
  unfold two
  simp only []
  rw [if_neg (by rw [h1, h2]; omega), byte_of_digits]
/-- What a part's bytes are, if it is left as it is. -/
theorem well_high {b : UInt8} {t : List UInt8} (h : Well (b :: t)) (hb : 128 ≤ b.toNat) : ∀ c ∈ b :: t, 128 ≤ c.toNat := by
  have hw := h.1
  have lt_some : ∀ {c : UInt8}, c ∈ b :: t → ∃ k, k < (b :: t).length ∧ (b :: t)[k]? = some c := fun hc => by
    obtain ⟨k, hk, he⟩ := List.mem_iff_getElem.1 hc
    exact ⟨k, hk, by rw [List.getElem?_eq_getElem hk, he]⟩
  intro c hc
  obtain ⟨k, hk, hkc⟩ := lt_some hc
  unfold sz at hw
  rcases szF_cases (fun k => (b :: t)[k]?) with h' | ⟨hs, x0, h0, hu⟩ | ⟨hs, x0, x1, h0, h1, hu⟩ | ⟨hs, x0, x1, x2, h0, h1, h2, hu⟩ | ⟨hs, x0, x1, x2, x3, h0, h1, h2, h3, hu⟩
  · rw [h'] at hw; simp at hw
  · simp at h0; subst h0; omega
  · have hk2 : k < 2 := by omega
    unfold W2 at hu
    rcases (by omega : k = 0 ∨ k = 1) with rfl | rfl
    · rw [h0] at hkc; injection hkc with e; subst e; omega
    · rw [h1] at hkc; injection hkc with e; subst e; omega
  · have hk2 : k < 3 := by omega
    unfold W3 at hu
    rcases (by omega : k = 0 ∨ k = 1 ∨ k = 2) with rfl | rfl | rfl
    · rw [h0] at hkc; injection hkc with e; subst e; omega
    · rw [h1] at hkc; injection hkc with e; subst e; omega
    · rw [h2] at hkc; injection hkc with e; subst e; omega
  · have hk2 : k < 4 := by omega
    unfold W4 at hu
    rcases (by omega : k = 0 ∨ k = 1 ∨ k = 2 ∨ k = 3) with rfl | rfl | rfl | rfl
    · rw [h0] at hkc; injection hkc with e; subst e; omega
    · rw [h1] at hkc; injection hkc with e; subst e; omega
    · rw [h2] at hkc; injection hkc with e; subst e; omega
    · rw [h3] at hkc; injection hkc with e; subst e; omega
theorem well_low {b : UInt8} {t : List UInt8} (h : Well (b :: t)) (hb : b.toNat < 128) : t = [] := by
  have h1 : sz (b :: t) = 1 := szF_mk1 (a := b) (by simp) hb
  have := h.1
  rw [h1] at this
  cases t with
  | nil => rfl
  | cons _ _ => simp at this

/-- The three ways in which a part is written. -/
theorem form_cases {p : List UInt8} (h : Well p ∨ ∃ b, p = [b] ∧ sz p = 0) :
    (∃ b c, p = [b] ∧ form p = [92, c] ∧ (∀ r, esc (c :: r) = (b, 1)) ∧ 32 ≤ c.toNat ∧ c.toNat < 127) ∨
    (∃ b, p = [b] ∧ form p = [92, 120, hx (b.toNat / 16), hx (b.toNat % 16)]) ∨
    (Well p ∧ form p = p ∧ (∀ b ∈ p, b ≠ 34 ∧ b ≠ 92 ∧ 32 ≤ b.toNat ∧ b.toNat ≠ 127)) := by
  cases p with
  | nil =>
    rcases h with h | ⟨b, h, _⟩
    · exact absurd rfl h.2
    · cases h
  | cons b t =>
    have single : b.toNat < 128 ∨ sz (b :: t) = 0 → t = [] := by
      intro hh
      rcases h with hw | ⟨c, hc, _⟩
      · rcases hh with hh | hh
        · exact well_low hw hh
        · have := hw.1
          rw [hh] at this
          simp at this
      · injection hc
    by_cases h1 : b = 34
    · left; subst h1; obtain rfl := single (.inl (by decide)); exact ⟨34, 34, rfl, rfl, fun r => rfl, by decide, by decide⟩
    by_cases h2 : b = 92
    · left; subst h2; obtain rfl := single (.inl (by decide)); exact ⟨92, 92, rfl, rfl, fun r => rfl, by decide, by decide⟩
    by_cases h3 : b = 10
    · left; subst h3; obtain rfl := single (.inl (by decide)); exact ⟨10, 110, rfl, rfl, fun r => rfl, by decide, by decide⟩
    by_cases h4 : b = 9
    · left; subst h4; obtain rfl := single (.inl (by decide)); exact ⟨9, 116, rfl, rfl, fun r => rfl, by decide, by decide⟩
    by_cases h5 : b = 13
    · left; subst h5; obtain rfl := single (.inl (by decide)); exact ⟨13, 114, rfl, rfl, fun r => rfl, by decide, by decide⟩
    right
    by_cases h6 : b.toNat < 32 ∨ b.toNat = 127 ∨ sz (b :: t) = 0
    · left
      obtain rfl := single (by rcases h6 with h | h | h; exact .inl (by omega); exact .inl (by omega); exact .inr h)
      refine ⟨b, rfl, ?_⟩
      unfold form
      simp only [if_neg h1, if_neg h2, if_neg h3, if_neg h4, if_neg h5, if_pos h6]
    · right
      have hw : Well (b :: t) := by
        rcases h with hw | ⟨c, hc, hz⟩
        · exact hw
        · exact absurd hz (fun e => h6 (.inr (.inr e)))
      refine ⟨hw, ?_, fun c hc => ?_⟩
      · unfold form
        simp only [if_neg h1, if_neg h2, if_neg h3, if_neg h4, if_neg h5, if_neg h6]
      · by_cases hb : b.toNat < 128
        · obtain rfl := well_low hw hb
          simp at hc
          subst hc
          exact ⟨h1, h2, by omega, by omega⟩
        · have := well_high hw (by omega) c hc
          refine ⟨fun e => ?_, fun e => ?_, by omega, by omega⟩
          · subst e; exact absurd this (by decide)
          · subst e; exact absurd this (by decide)

theorem scan_form {p : List UInt8} (r : List UInt8) (h : Well p ∨ ∃ b, p = [b] ∧ sz p = 0) : scan (form p ++ r) = (scan r).map fun x => (p ++ x.1, (form p).length + x.2) := by
  rcases form_cases h with ⟨b, c, rfl, hf, he, _⟩ | ⟨b, rfl, hf⟩ | ⟨_, hf, hp⟩
  · rw [hf, List.cons_append, List.cons_append, List.nil_append, scan_esc, he, if_neg (by simp)]
    cases hr : scan r with
    | none => simp [hr]
    | some x => simp [hr]
  · rw [hf]
    have he : esc (120 :: hx (b.toNat / 16) :: hx (b.toNat % 16) :: r) = (b, 3) := by
      unfold esc
      simp only [two_hx]
      rfl
    rw [List.cons_append, List.cons_append, List.cons_append, List.cons_append, List.nil_append, scan_esc, he, if_neg (by simp)]
    cases hr : scan r with
    | none => simp [hr]
    | some x => simp [hr]
  · rw [hf, scan_many r (fun b hb => ⟨(hp b hb).1, (hp b hb).2.1⟩)]
theorem scan_parts (ps : List (List UInt8)) (r : List UInt8) (h : ∀ p ∈ ps, Well p ∨ ∃ b, p = [b] ∧ sz p = 0) : scan (ps.flatMap form ++ 34 :: r) = some (ps.flatten, (ps.flatMap form).length + 1) := by
  induction ps with
  | nil => exact scan_mark r
  | cons p ps ih =>
    rw [List.flatMap_cons, List.append_assoc, scan_form _ (h p (by simp)), ih (fun q hq => h q (by simp [hq]))]
    simp; omega
theorem scan_quote (l r : List UInt8) : scan (body l ++ 34 :: r) = some (l, (body l).length + 1) := by
  have := scan_parts (parts l) r (parts_each l)
  rwa [parts_flatten] at this

/-- The text that s begins with, in any notation, and its length, or 0. -/
def unescape (l : List UInt8) : List UInt8 × Nat := match l with
  | [] => ([], 0)
  | b :: t => if b = 34 then (match scan t with
      | none => ([], 0)
      | some r => (r.1, 1 + r.2)) else ([], 0)
def unquote (l : List UInt8) : List UInt8 × Nat × Int :=
  if (unescape l).2 = 0 ∨ quote (unescape l).1 ≠ l.take (unescape l).2 then ([], 0, 2) else ((unescape l).1, (unescape l).2, 0)
theorem unescape_quote (l r : List UInt8) : unescape (quote l ++ r) = (l, (quote l).length) := by
  unfold unescape quote
  rw [List.cons_append, List.append_assoc]
  simp only [if_true]
  rw [List.cons_append, List.nil_append, scan_quote]
  simp; omega
theorem unescape_len (l : List UInt8) : (unescape l).2 ≤ l.length ∧ (unescape l).1.length ≤ (unescape l).2 := by
  unfold unescape
  cases l with
  | nil => simp
  | cons b t =>
    simp only []
    split
    · cases hs : scan t with
      | none => simp
      | some r => have := scan_le t r hs; simp only [List.length_cons]; omega
    · simp
theorem unquote_quote (l r : List UInt8) : unquote (quote l ++ r) = (l, (quote l).length, 0) := by
  unfold unquote
  rw [unescape_quote]
  simp only [List.take_left]
  rw [if_neg]
  intro h
  rcases h with h | h
  · rw [quote_len] at h; omega
  · exact h rfl
theorem unquote_cases (l : List UInt8) : (unquote l = ([], 0, 2)) ∨ (∃ t n, unquote l = (t, n, 0) ∧ 2 ≤ n ∧ n ≤ l.length ∧ quote t = l.take n) := by
  unfold unquote
  by_cases h : (unescape l).2 = 0 ∨ quote (unescape l).1 ≠ l.take (unescape l).2
  · rw [if_pos h]; exact .inl rfl
  · rw [if_neg h]
    have hq : quote (unescape l).1 = l.take (unescape l).2 := Decidable.byContradiction fun e => h (.inr e)
    have hl := unescape_len l
    have := congrArg List.length hq
    rw [quote_len, List.length_take] at this
    exact .inr ⟨_, _, rfl, by omega, by omega, hq⟩

/-- A quoted form is made of well-formed parts. -/
def WellL (l : List UInt8) : Prop := ∃ ps : List (List UInt8), (∀ p ∈ ps, Well p) ∧ l = ps.flatten
theorem WellL.app {a b : List UInt8} (ha : WellL a) (hb : WellL b) : WellL (a ++ b) := by
  obtain ⟨ps, h1, rfl⟩ := ha
  obtain ⟨qs, h2, rfl⟩ := hb
  refine ⟨ps ++ qs, fun p hp => ?_, by simp⟩
  rcases List.mem_append.1 hp with h | h
  · exact h1 p h
  · exact h2 p h
theorem WellL.one {b : UInt8} (h : b.toNat < 128) : WellL [b] := by
  refine ⟨[[b]], fun p hp => ?_, rfl⟩
  simp at hp
  subst hp
  exact ⟨szF_mk1 (a := b) (by simp) h, by simp⟩
theorem WellL.cons {b : UInt8} {l : List UInt8} (h : b.toNat < 128) (hl : WellL l) : WellL (b :: l) := (WellL.one h).app hl
theorem WellL.nil : WellL [] := ⟨[], by simp, rfl⟩
theorem WellL.bad {l : List UInt8} (h : WellL l) : bad l = -1 := by
  obtain ⟨ps, h1, rfl⟩ := h
  unfold UtfM.bad
  rw [parts_of_well ps h1, badP_all _ _ h1]
def Fine (l : List UInt8) : Prop := WellL l ∧ ∀ b ∈ l, 32 ≤ b.toNat ∧ b.toNat ≠ 127
theorem form_fine {p : List UInt8} (h : Well p ∨ ∃ b, p = [b] ∧ sz p = 0) : Fine (form p) := by
  rcases form_cases h with ⟨b, c, rfl, hf, he, h1, h2⟩ | ⟨b, rfl, hf⟩ | ⟨hw, hf, hp⟩
  · rw [hf]
    refine ⟨.cons (by decide) (.cons (by omega) .nil), fun x hx => ?_⟩
    simp at hx
    rcases hx with rfl | rfl
    · decide
    · omega
  · rw [hf]
    have hb := b.toNat_lt
    have r1 := hx_range (n := b.toNat / 16) (by omega)
    have r2 := hx_range (n := b.toNat % 16) (by omega)
    refine ⟨.cons (by decide) (.cons (by decide) (.cons (by omega) (.cons (by omega) .nil))), fun x hx => ?_⟩
    simp at hx
    rcases hx with rfl | rfl | rfl | rfl
    · decide
    · decide
    · omega
    · omega
  · rw [hf]
    exact ⟨⟨[p], by simpa using hw, by simp⟩, fun b hb => (hp b hb).2.2⟩
theorem parts_fine (ps : List (List UInt8)) (h : ∀ p ∈ ps, Well p ∨ ∃ b, p = [b] ∧ sz p = 0) : Fine (ps.flatMap form) := by
  induction ps with
  | nil => exact ⟨.nil, by simp⟩
  | cons p ps ih =>
    have h1 := form_fine (h p (by simp))
    have h2 := ih (fun q hq => h q (by simp [hq]))
    rw [List.flatMap_cons]
    refine ⟨h1.1.app h2.1, fun b hb => ?_⟩
    rcases List.mem_append.1 hb with h | h
    · exact h1.2 b h
    · exact h2.2 b h
theorem quote_fine (l : List UInt8) : Fine (quote l) := by
  have h := parts_fine (parts l) (parts_each l)
  refine ⟨.cons (by decide) (h.1.app (.one (by decide))), fun b hb => ?_⟩
  unfold quote at hb
  rcases List.mem_cons.1 hb with rfl | hb
  · decide
  · rcases List.mem_append.1 hb with hb | hb
    · exact h.2 b hb
    · simp at hb; subst hb; decide

/-- Hexadecimal digits. -/
def hexL (l : List UInt8) : List UInt8 := l.flatMap fun b => [hx (b.toNat / 16), hx (b.toNat % 16)]
def unhexL : List UInt8 → Option (List UInt8)
  | [] => some []
  | [_] => none
  | a :: b :: t => if dig a < 0 ∨ dig b < 0 then none else (unhexL t).map fun r => UInt8.ofNat ((dig a).toNat * 16 + (dig b).toNat) :: r
theorem hexL_len (l : List UInt8) : (hexL l).length = 2 * l.length := by
  induction l with
  | nil => rfl
  | cons b l ih => unfold hexL at ih ⊢; rw [List.flatMap_cons, List.length_append, ih]; simp; omega
theorem hexL_snoc (l : List UInt8) (b : UInt8) : hexL (l ++ [b]) = hexL l ++ [hx (b.toNat / 16), hx (b.toNat % 16)] := by
  unfold hexL; rw [List.flatMap_append]; simp
theorem unhex_hex (l : List UInt8) : unhexL (hexL l) = some l := by
  induction l with
  | nil => rfl
  | cons b l ih =>
    have hb := b.toNat_lt
    have h1 := dig_hx (n := b.toNat / 16) (by omega)
    have h2 := dig_hx (n := b.toNat % 16) (by omega)
    have e : hexL (b :: l) = hx (b.toNat / 16) :: hx (b.toNat % 16) :: hexL l := rfl
    rw [e, unhexL, if_neg (by rw [h1, h2]; omega), ih, byte_of_digits]; rfl
theorem hex_unhex : ∀ (h u : List UInt8), unhexL h = some u → hexL u = h
  | [], u, e => by rw [unhexL] at e; injection e with e; subst e; rfl
  | [_], u, e => by rw [unhexL] at e; cases e
  | a :: b :: t, u, e => by
    rw [unhexL] at e
    by_cases hd : dig a < 0 ∨ dig b < 0
    · rw [if_pos hd] at e; cases e
    · rw [if_neg hd] at e
      obtain ⟨r, hr, rfl⟩ := Option.map_eq_some_iff.1 e
      have ih := hex_unhex t r hr
      have ra := dig_range a
      have rb := dig_range b
      have e1 : (UInt8.ofNat ((dig a).toNat * 16 + (dig b).toNat)).toNat = (dig a).toNat * 16 + (dig b).toNat := by
        rw [UInt8.toNat_ofNat']; omega
      have e2 : hexL (UInt8.ofNat ((dig a).toNat * 16 + (dig b).toNat) :: r) = hx ((UInt8.ofNat ((dig a).toNat * 16 + (dig b).toNat)).toNat / 16) :: hx ((UInt8.ofNat ((dig a).toNat * 16 + (dig b).toNat)).toNat % 16) :: hexL r := rfl
      rw [e2, e1, ih, show ((dig a).toNat * 16 + (dig b).toNat) / 16 = (dig a).toNat from by omega, show ((dig a).toNat * 16 + (dig b).toNat) % 16 = (dig b).toNat from by omega, hx_dig (by omega), hx_dig (by omega)]
theorem unhex_len : ∀ (h u : List UInt8), unhexL h = some u → h.length = 2 * u.length := fun h u e => by rw [← hex_unhex h u e, hexL_len]
theorem unhex_two (l : List UInt8) (h : l ≠ []) : unhexL l = match two l with
    | none => none
    | some c => (unhexL (l.drop 2)).map fun r => c :: r := by
  match l, h with
  | [_], _ => rfl
  | a :: b :: t, _ =>
    rw [unhexL]
    unfold two
    simp only []
    by_cases hd : dig a < 0 ∨ dig b < 0
    · rw [if_pos hd, if_pos hd]
    · rw [if_neg hd, if_neg hd]; rfl
end Go.Proofs.YthjpchnogllliaaGreatDoor.UtfQ
