import Derived.Lib.SplitLaws
import Derived.Lib.Strings
import Derived.Lib.LastIndexByte
/- Stage 6 as plain mathematics: parts of names, full names, scopes, what a name means, the two spellings. Of no program. -/
set_option linter.unusedSimpArgs false
set_option linter.unusedVariables false
namespace Go.Proofs.YthjpchnogllliaaGreatDoor.IdnM

def sm (b : UInt8) : Bool := decide (97 ≤ b.toNat) && decide (b.toNat ≤ 122)
def cp (b : UInt8) : Bool := decide (65 ≤ b.toNat) && decide (b.toNat ≤ 90)
def dg (b : UInt8) : Bool := decide (48 ≤ b.toNat) && decide (b.toNat ≤ 57)
def us (b : UInt8) : Bool := decide (b.toNat = 95)
/-- The class of a byte: small letter, capital letter, digit, underscore, other. -/
def cls (b : UInt8) : Nat := if sm b then 1 else if cp b then 2 else if dg b then 3 else if us b then 4 else 0
def ltr (b : UInt8) : Bool := sm b || cp b
def inn (b : UInt8) : Bool := sm b || cp b || dg b || us b
/-- The byte may stand at this place of a part. -/
def okAt (k : Nat) (b : UInt8) : Bool := if k = 0 then ltr b else inn b

theorem cls_le (b : UInt8) : cls b ≤ 4 := by unfold cls; repeat' split <;> try omega
theorem ok_cls0 {b : UInt8} (k : Nat) (h : cls b = 0) : okAt k b = false := by
  unfold cls at h
  unfold okAt ltr inn
  cases h1 : sm b <;> cases h2 : cp b <;> cases h3 : dg b <;> cases h4 : us b <;> simp_all
theorem ok_cls12 {b : UInt8} (k : Nat) (h : cls b = 1 ∨ cls b = 2) : okAt k b = true := by
  unfold cls at h
  unfold okAt ltr inn
  cases h1 : sm b <;> cases h2 : cp b <;> cases h3 : dg b <;> cases h4 : us b <;> simp_all
theorem ok_cls34 {b : UInt8} (h : cls b = 3 ∨ cls b = 4) : okAt 0 b = false ∧ ∀ k, k ≠ 0 → okAt k b = true := by
  unfold cls at h
  unfold okAt ltr inn
  refine ⟨?_, fun k hk => ?_⟩ <;> cases h1 : sm b <;> cases h2 : cp b <;> cases h3 : dg b <;> cases h4 : us b <;> simp_all
theorem cls1_iff (b : UInt8) : cls b = 1 ↔ sm b = true := by
  unfold cls
  cases h1 : sm b <;> cases h2 : cp b <;> cases h3 : dg b <;> cases h4 : us b <;> simp
theorem cls2_iff (b : UInt8) : cls b = 2 ↔ cp b = true := by
  unfold cls
  have hx : sm b = true → cp b = true → False := by
    intro h1 h2
    simp only [sm, cp, Bool.and_eq_true, decide_eq_true_eq] at h1 h2
    omega
  cases h1 : sm b <;> cases h2 : cp b <;> cases h3 : dg b <;> cases h4 : us b <;> simp_all

/-- A part of a name. -/
def nmp : List UInt8 → Bool
  | [] => false
  | b :: t => decide (t.length ≤ 39) && (ltr b && t.all inn)

theorem nmp_long {l : List UInt8} (h : 40 < l.length) : nmp l = false := by
  cases l with
  | nil => rfl
  | cons b t =>
    simp only [List.length_cons] at h
    simp [nmp, show ¬ t.length ≤ 39 by omega]
theorem nmp_iff {l : List UInt8} : nmp l = true ↔ 1 ≤ l.length ∧ l.length ≤ 40 ∧ ∀ (k : Nat) (h : k < l.length), okAt k l[k] = true := by
  cases l with
  | nil => simp [nmp]
  | cons b t =>
    simp only [nmp, Bool.and_eq_true, decide_eq_true_eq, List.all_eq_true, List.length_cons]
    constructor
    · rintro ⟨h1, h2, h3⟩
      refine ⟨by omega, by omega, ?_⟩
      intro k hk
      match k, hk with
      | 0, _ => simpa [okAt] using h2
      | k + 1, hk => simpa [okAt] using h3 _ (List.getElem_mem (by omega))
    · rintro ⟨_, h2, h3⟩
      refine ⟨by omega, by simpa [okAt] using h3 0 (by omega), ?_⟩
      intro x hx
      obtain ⟨k, hk, rfl⟩ := List.mem_iff_getElem.1 hx
      have := h3 (k + 1) (by omega)
      rw [List.getElem_cons_succ] at this
      simpa [okAt] using this
theorem nmp_bad {l : List UInt8} {k : Nat} (h : k < l.length) (hb : okAt k l[k] = false) : nmp l = false := by
  cases hp : nmp l with
  | false => rfl
  | true => rw [(nmp_iff.1 hp).2.2 k h] at hb; cases hb
theorem nmp_ne {l : List UInt8} (h : nmp l = true) : l ≠ [] := by rintro rfl; cases h
theorem nmp_len {l : List UInt8} (h : nmp l = true) : l.length ≤ 40 := (nmp_iff.1 h).2.1

/-- A list cut at each byte c; acc is what stands in front of the first cut. -/
def pc (c : UInt8) (acc : List UInt8) : List UInt8 → List (List UInt8)
  | [] => [acc]
  | b :: t => if b = c then acc :: pc c [] t else pc c (acc ++ [b]) t
def pieces (c : UInt8) (l : List UInt8) : List (List UInt8) := pc c [] l

theorem splitK_ne (c : UInt8) (n : Nat) (s : List UInt8) : ∃ p r, Lib.splitK [c] 0 n s = p :: r := by
  cases n with
  | zero => exact ⟨_, _, rfl⟩
  | succ n => unfold Lib.splitK; split <;> exact ⟨_, _, rfl⟩
theorem index_cons_eq (c : UInt8) (t : List UInt8) : Lib.index (c :: t) [c] = 0 := by rw [Lib.index]; simp [List.isPrefixOf]
theorem index_cons_ne {b c : UInt8} (t : List UInt8) (h : b ≠ c) : Lib.index (b :: t) [c] = if Lib.index t [c] == -1 then -1 else Lib.index t [c] + 1 := by
  have hp : ([c] : List UInt8).isPrefixOf (b :: t) = false := by simp [List.isPrefixOf, Ne.symm h]
  rw [Lib.index, hp]; simp
theorem pc_split (c : UInt8) : ∀ (l acc p : List UInt8) (r : List (List UInt8)), Lib.splitK [c] 0 (Lib.count l [c]) l = p :: r → pc c acc l = (acc ++ p) :: r
  | [], acc, p, r, h => by
    rw [Lib.count_miss (by simp [Lib.index])] at h
    simp only [Lib.splitK, List.cons.injEq] at h
    obtain ⟨rfl, rfl⟩ := h
    simp [pc]
  | b :: t, acc, p, r, h => by
    by_cases hb : b = c
    · subst hb
      rw [Lib.count_cons_eq, Nat.add_comm, Lib.splitK, index_cons_eq] at h
      rw [if_neg (by decide)] at h
      simp only [List.cons.injEq, List.length_singleton] at h
      obtain ⟨h1, h2⟩ := h
      have h1' : p = [] := by rw [← h1]; rfl
      have h2' : Lib.splitK [b] 0 (Lib.count t [b]) t = r := h2
      obtain ⟨p', r', hs⟩ := splitK_ne b (Lib.count t [b]) t
      have ih := pc_split b t [] p' r' hs
      rw [pc, if_pos rfl, ih, h1', ← h2', hs]
      simp
    · rw [Lib.count_cons_ne b c t hb] at h
      rw [pc, if_neg hb]
      by_cases hm : Lib.index t [c] = -1
      · rw [Lib.count_miss hm] at h
        simp only [Lib.splitK, List.cons.injEq] at h
        obtain ⟨rfl, rfl⟩ := h
        rw [pc_split c t (acc ++ [b]) t [] (by rw [Lib.count_miss hm]; rfl)]
        simp
      · have hge := Lib.index_ge t [c]
        obtain ⟨j, hj⟩ : ∃ j : Nat, Lib.index t [c] = j := ⟨(Lib.index t [c]).toNat, by omega⟩
        obtain ⟨n, hn⟩ : ∃ n, Lib.count t [c] = n + 1 := ⟨_, (Lib.count_hit (by simp) hj).trans (Nat.add_comm _ _)⟩
        have hix : Lib.index (b :: t) [c] = ((j + 1 : Nat) : Int) := by rw [index_cons_ne t hb, if_neg (fun e => hm (beq_iff_eq.1 e)), hj]; omega
        have h1 : ¬ (Lib.index (b :: t) [c] == -1) = true := fun e => by have := beq_iff_eq.1 e; omega
        have h2 : ¬ (Lib.index t [c] == -1) = true := fun e => hm (beq_iff_eq.1 e)
        rw [hn, Lib.splitK, if_neg h1, hix] at h
        simp only [List.cons.injEq] at h
        obtain ⟨e1, e2⟩ := h
        have hs : Lib.splitK [c] 0 (Lib.count t [c]) t = t.take j :: r := by
          rw [hn, Lib.splitK, if_neg h2, hj, ← e2]
          congr 1
        rw [pc_split c t (acc ++ [b]) _ _ hs, ← e1]
        simp
theorem pieces_split (c : UInt8) (s : ByteArray) : (Lib.splitB ⟨#[c]⟩ 0 (Lib.countB s ⟨#[c]⟩) s).map (·.data.toList) = pieces c s.data.toList := by
  rw [Lib.splitB_data]
  have e : Lib.countB s ⟨#[c]⟩ = Lib.count s.data.toList [c] := rfl
  rw [e]
  obtain ⟨p, r, h⟩ := splitK_ne c (Lib.count s.data.toList [c]) s.data.toList
  have := pc_split c _ [] _ _ h
  show Lib.splitK [c] 0 _ _ = _
  rw [h, pieces, this]
  simp

/-- A full name. -/
def full (l : List UInt8) : Bool := decide (l.length ≤ 120) && (pieces 46 l).all nmp

/-- The last dot. -/
def ldot : List UInt8 → Option Nat
  | [] => none
  | b :: t => match ldot t with
    | some i => some (i + 1)
    | none => if b = 46 then some 0 else none
theorem ldot_spec : ∀ l : List UInt8, (ldot l = none ∧ ∀ j : Nat, l[j]? ≠ some 46) ∨ ∃ i, ldot l = some i ∧ l[i]? = some 46 ∧ ∀ j, i < j → l[j]? ≠ some 46
  | [] => .inl ⟨rfl, by simp⟩
  | b :: t => by
    rcases ldot_spec t with ⟨h1, h2⟩ | ⟨i, h1, h2, h3⟩
    · by_cases hb : b = 46
      · refine .inr ⟨0, by simp [ldot, h1, hb], by simp [hb], ?_⟩
        intro j hj
        obtain ⟨j, rfl⟩ : ∃ k, j = k + 1 := ⟨j - 1, by omega⟩
        simpa using h2 j
      · refine .inl ⟨by simp [ldot, h1, hb], ?_⟩
        intro j
        match j with
        | 0 => simpa using hb
        | j + 1 => simpa using h2 j
    · refine .inr ⟨i + 1, by simp [ldot, h1], by simpa using h2, ?_⟩
      intro j hj
      obtain ⟨j, rfl⟩ : ∃ k, j = k + 1 := ⟨j - 1, by omega⟩
      simpa using h3 j (by omega)
theorem ldot_none {l : List UInt8} (h : ∀ j : Nat, l[j]? ≠ some 46) : ldot l = none := by
  rcases ldot_spec l with ⟨h1, _⟩ | ⟨i, _, h2, _⟩
  · exact h1
  · exact absurd h2 (h i)
theorem ldot_some {l : List UInt8} {i : Nat} (h : l[i]? = some 46) (h2 : ∀ j, i < j → l[j]? ≠ some 46) : ldot l = some i := by
  rcases ldot_spec l with ⟨_, h3⟩ | ⟨k, h3, h4, h5⟩
  · exact absurd h (h3 i)
  · rcases Nat.lt_trichotomy i k with hk | rfl | hk
    · exact absurd h4 (h2 k hk)
    · exact h3
    · exact absurd h (h5 i hk)
theorem ldot_lt {l : List UInt8} {i : Nat} (h : ldot l = some i) : i < l.length := by
  rcases ldot_spec l with ⟨h1, _⟩ | ⟨k, h1, h2, _⟩
  · rw [h] at h1; cases h1
  · rw [h] at h1
    cases h1
    exact (List.getElem?_eq_some_iff.1 h2).1

/-- The scope of a name, and its last part. -/
def sc (l : List UInt8) : List UInt8 := match ldot l with | none => [] | some i => l.take i
def la (l : List UInt8) : List UInt8 := match ldot l with | none => l | some i => l.drop (i + 1)
def scB (s : ByteArray) : ByteArray := match ldot s.data.toList with | none => ⟨#[]⟩ | some i => s.extract 0 i
def laB (s : ByteArray) : ByteArray := match ldot s.data.toList with | none => s | some i => s.extract (i + 1) s.size
theorem scB_data (s : ByteArray) : (scB s).data.toList = sc s.data.toList := by
  unfold scB sc
  cases ldot s.data.toList with
  | none => rfl
  | some i => simp
theorem laB_data (s : ByteArray) : (laB s).data.toList = la s.data.toList := by
  have hs : s.data.toList.length = s.size := rfl
  unfold laB la
  cases ldot s.data.toList with
  | none => rfl
  | some i =>
    simp
    rw [List.take_of_length_le (by simp)]
theorem scB_lt {s : ByteArray} (h : s.size ≠ 0) : (scB s).size < s.size := by
  unfold scB
  cases hl : ldot s.data.toList with
  | none => show 0 < s.size; omega
  | some i =>
    have h1 : i < s.data.toList.length := ldot_lt hl
    have h2 : s.data.toList.length = s.size := rfl
    simp only [ByteArray.size_extract]
    omega
/-- The scopes of a name, from inside out. -/
def upsB (s : ByteArray) : List ByteArray := if h : s.size = 0 then [s] else s :: upsB (scB s)
termination_by s.size
decreasing_by exact scB_lt h
theorem upsB_nil {s : ByteArray} (h : s.size = 0) : upsB s = [s] := by rw [upsB, dif_pos h]
theorem upsB_cons {s : ByteArray} (h : s.size ≠ 0) : upsB s = s :: upsB (scB s) := by rw [upsB, dif_neg h]
theorem upsB_ind {M : ByteArray → Prop} (h0 : ∀ s, s.size = 0 → M s) (h1 : ∀ s, s.size ≠ 0 → M (scB s) → M s) (s : ByteArray) : M s := by
  generalize hn : s.size = n
  induction n using Nat.strongRecOn generalizing s with
  | _ n ih =>
    by_cases hz : s.size = 0
    · exact h0 s hz
    · exact h1 s hz (ih (scB s).size (by have := scB_lt hz; omega) _ rfl)
theorem upsB_len (s : ByteArray) : (upsB s).length ≤ s.size + 1 := by
  refine upsB_ind (M := fun s => (upsB s).length ≤ s.size + 1) ?_ ?_ s
  · intro s h; rw [upsB_nil h]; simp
  · intro s h ih
    rw [upsB_cons h, List.length_cons]
    have := scB_lt h
    omega
theorem upsB_pos (s : ByteArray) : 1 ≤ (upsB s).length := by
  by_cases h : s.size = 0
  · rw [upsB_nil h]; simp
  · rw [upsB_cons h]; simp
theorem upsB_mem_size (s : ByteArray) : ∀ u ∈ upsB s, u.size ≤ s.size := by
  refine upsB_ind (M := fun s => ∀ u ∈ upsB s, u.size ≤ s.size) ?_ ?_ s
  · intro s h u hu
    rw [upsB_nil h] at hu
    simp at hu; subst hu; exact Nat.le_refl _
  · intro s h ih u hu
    rw [upsB_cons h] at hu
    rcases List.mem_cons.1 hu with rfl | hu
    · exact Nat.le_refl _
    · have := ih u hu
      have := scB_lt h
      omega
theorem upsB_desc (s : ByteArray) : (upsB s).Pairwise fun a b => b.size < a.size := by
  refine upsB_ind (M := fun s => (upsB s).Pairwise fun a b => b.size < a.size) ?_ ?_ s
  · intro s h; rw [upsB_nil h]; simp
  · intro s h ih
    rw [upsB_cons h]
    refine List.pairwise_cons.2 ⟨fun u hu => ?_, ih⟩
    have h1 := upsB_mem_size _ u hu
    have h2 := scB_lt h
    omega
theorem size_zero {s : ByteArray} (h : s.size = 0) : s = ⟨#[]⟩ := by
  obtain ⟨d⟩ := s
  have : d.size = 0 := h
  rw [Array.size_eq_zero_iff] at this
  rw [this]
theorem upsB_empty_mem (s : ByteArray) : (⟨#[]⟩ : ByteArray) ∈ upsB s := by
  refine upsB_ind (M := fun s => (⟨#[]⟩ : ByteArray) ∈ upsB s) ?_ ?_ s
  · intro s h; rw [upsB_nil h, size_zero h]; simp
  · intro s h ih; rw [upsB_cons h]; exact List.mem_cons_of_mem _ ih

/-- A name in a scope. -/
def joinB (u n : ByteArray) : ByteArray := if u.size = 0 then n else u ++ ⟨#[46]⟩ ++ n
theorem joinB_nil {u : ByteArray} (n : ByteArray) (h : u.size = 0) : joinB u n = n := if_pos h
theorem joinB_cons {u : ByteArray} (n : ByteArray) (h : u.size ≠ 0) : joinB u n = u ++ ⟨#[46]⟩ ++ n := if_neg h
theorem joinB_size (u n : ByteArray) : (joinB u n).size = if u.size = 0 then n.size else u.size + 1 + n.size := by
  unfold joinB
  split
  · rfl
  · rw [ByteArray.size_append, ByteArray.size_append]; rfl
theorem joinB_le (u n : ByteArray) : (joinB u n).size ≤ u.size + 1 + n.size := by
  rw [joinB_size]; split <;> omega
theorem joinB_data {u n : ByteArray} (h : u.size ≠ 0) : (joinB u n).data.toList = u.data.toList ++ 46 :: n.data.toList := by
  rw [joinB_cons n h]; simp

def has (known : List ByteArray) (x : ByteArray) : Bool := known.any fun k => k.toList == x.toList
theorem toList_inj {a b : ByteArray} (h : a.toList = b.toList) : a = b := by
  rw [ByteArray.toList_eq, ByteArray.toList_eq] at h
  cases a; cases b
  simp at h
  rw [h]
theorem data_inj {a b : ByteArray} (h : a.data.toList = b.data.toList) : a = b := by
  cases a; cases b
  simp at h
  rw [h]
theorem has_iff {known : List ByteArray} {x : ByteArray} : has known x = true ↔ x ∈ known := by
  unfold has
  rw [List.any_eq_true]
  constructor
  · rintro ⟨k, h1, h2⟩
    rw [← toList_inj (beq_iff_eq.1 h2)]; exact h1
  · intro h; exact ⟨x, h, by simp⟩

/-- The first of the name's full names that is known. -/
def look (scope name : ByteArray) (known : List ByteArray) : Option ByteArray := ((upsB scope).map fun u => joinB u name).find? fun x => has known x
def dotted (name : ByteArray) : Bool := match name.data.toList with | [] => false | b :: _ => decide (b = 46)
/-- What a name means. -/
def means (scope name : ByteArray) (known : List ByteArray) : Option ByteArray :=
  if dotted name then (if has known (name.extract 1 name.size) then some (name.extract 1 name.size) else none) else look scope name known

theorem look_empty (name : ByteArray) (known : List ByteArray) : look ⟨#[]⟩ name known = if has known name then some name else none := by
  unfold look
  rw [upsB_nil rfl]
  simp only [List.map_cons, List.map_nil, joinB_nil name (show (⟨#[]⟩ : ByteArray).size = 0 from rfl)]
  cases h : has known name <;> simp [h]

def Cand (scope name k : ByteArray) : Prop := ∃ u ∈ upsB scope, k = joinB u name

theorem find_best {p : ByteArray → Bool} {b : ByteArray} : ∀ {L : List ByteArray}, L.Pairwise (fun x y => y.size < x.size) → b ∈ L → p b = true → (∀ x ∈ L, p x = true → x.size ≤ b.size) → L.find? p = some b
  | [], _, h, _, _ => by cases h
  | x :: t, hd, hm, hp, hall => by
    rw [List.pairwise_cons] at hd
    by_cases hx : p x = true
    · rcases List.mem_cons.1 hm with rfl | hm
      · simp [hx]
      · have h1 := hd.1 b hm
        have h2 := hall x (by simp) hx
        omega
    · rcases List.mem_cons.1 hm with rfl | hm
      · exact absurd hp hx
      · rw [List.find?_cons_of_neg (by simpa using hx)]
        exact find_best hd.2 hm hp (fun y hy => hall y (by simp [hy]))
theorem joins_desc (scope name : ByteArray) : ((upsB scope).map fun u => joinB u name).Pairwise fun x y => y.size < x.size := by
  rw [List.pairwise_map]
  refine (upsB_desc scope).imp ?_
  intro a b h
  rw [joinB_size, joinB_size]
  split <;> split <;> omega
/-- The longest known candidate, so far. -/
def Best (scope name : ByteArray) (ks : List ByteArray) (best : ByteArray) (found : Bool) : Prop :=
  (found = false ∧ best = ⟨#[]⟩ ∧ ∀ k ∈ ks, ¬ Cand scope name k) ∨ (found = true ∧ best ∈ ks ∧ Cand scope name best ∧ ∀ k ∈ ks, Cand scope name k → k.size ≤ best.size)
theorem Best.nil (scope name : ByteArray) : Best scope name [] ⟨#[]⟩ false := .inl ⟨rfl, rfl, by simp⟩
theorem Best.skip {scope name : ByteArray} {ks : List ByteArray} {best : ByteArray} {found : Bool} (h : Best scope name ks best found) {k : ByteArray} (hk : ¬ Cand scope name k ∨ (found = true ∧ k.size ≤ best.size)) : Best scope name (ks ++ [k]) best found := by
  rcases h with ⟨h1, h2, h3⟩ | ⟨h1, h2, h3, h4⟩
  · refine .inl ⟨h1, h2, ?_⟩
    intro x hx
    rcases List.mem_append.1 hx with hx | hx
    · exact h3 x hx
    · simp at hx; subst hx
      rcases hk with hk | ⟨hk, _⟩
      · exact hk
      · rw [h1] at hk; cases hk
  · refine .inr ⟨h1, by simp [h2], h3, ?_⟩
    intro x hx hc
    rcases List.mem_append.1 hx with hx | hx
    · exact h4 x hx hc
    · simp at hx; subst hx
      rcases hk with hk | ⟨_, hk⟩
      · exact absurd hc hk
      · exact hk
theorem Best.take {scope name : ByteArray} {ks : List ByteArray} {best : ByteArray} {found : Bool} (h : Best scope name ks best found) {k : ByteArray} (hk : Cand scope name k) (hn : found = false ∨ best.size < k.size) : Best scope name (ks ++ [k]) k true := by
  refine .inr ⟨rfl, by simp, hk, ?_⟩
  intro x hx hc
  rcases List.mem_append.1 hx with hx | hx
  · rcases h with ⟨h1, h2, h3⟩ | ⟨h1, h2, h3, h4⟩
    · exact absurd hc (h3 x hx)
    · have := h4 x hx hc
      rcases hn with hn | hn
      · rw [h1] at hn; cases hn
      · omega
  · simp at hx; subst hx; exact Nat.le_refl _
theorem Best.look {scope name : ByteArray} {known : List ByteArray} {best : ByteArray} {found : Bool} (h : Best scope name known best found) : IdnM.look scope name known = if found then some best else none := by
  unfold IdnM.look
  rcases h with ⟨h1, h2, h3⟩ | ⟨h1, h2, ⟨u, hu, hb⟩, h4⟩
  · rw [h1]
    simp only [Bool.false_eq_true, if_false, List.find?_eq_none, List.mem_map]
    rintro x ⟨u, hu, rfl⟩ hx
    exact h3 _ (has_iff.1 hx) ⟨u, hu, rfl⟩
  · rw [h1, if_pos rfl]
    refine find_best (joins_desc scope name) (List.mem_map.2 ⟨u, hu, hb.symm⟩) (has_iff.2 h2) ?_
    intro x hx hp
    obtain ⟨v, hv, rfl⟩ := List.mem_map.1 hx
    exact h4 _ (has_iff.1 hp) ⟨v, hv, rfl⟩

/-- The scopes that are not empty: what stands in front of a dot, and the whole. -/
theorem mem_ups (s : ByteArray) : ∀ u : ByteArray, u.size ≠ 0 → (u ∈ upsB s ↔ u = s ∨ ∃ r, s.data.toList = u.data.toList ++ 46 :: r) := by
  refine upsB_ind (M := fun s => ∀ u : ByteArray, u.size ≠ 0 → (u ∈ upsB s ↔ u = s ∨ ∃ r, s.data.toList = u.data.toList ++ 46 :: r)) ?_ ?_ s
  · intro s h u hu
    rw [upsB_nil h]
    constructor
    · intro hm; simp at hm; exact .inl hm
    · rintro (rfl | ⟨r, hr⟩)
      · simp
      · have := congrArg List.length hr
        have e : s.data.toList.length = s.size := rfl
        simp only [List.length_append, List.length_cons] at this
        omega
  · intro s h ih u hu
    have hul : u.data.toList.length = u.size := rfl
    rw [upsB_cons h, List.mem_cons, ih u hu]
    constructor
    · rintro (rfl | rfl | ⟨r, hr⟩)
      · exact .inl rfl
      · right
        rcases ldot_spec s.data.toList with ⟨h1, _⟩ | ⟨i, h1, h2, h3⟩
        · exact absurd (show (scB s).size = 0 by unfold scB; rw [h1]; rfl) hu
        · rw [scB_data, sc, h1]
          refine ⟨s.data.toList.drop (i + 1), ?_⟩
          obtain ⟨hi, he⟩ := List.getElem?_eq_some_iff.1 h2
          show s.data.toList = s.data.toList.take i ++ _
          rw [← he, ← List.drop_eq_getElem_cons hi, List.take_append_drop]
      · right
        rw [scB_data, sc] at hr
        cases h1 : ldot s.data.toList with
        | none => rw [h1] at hr; simp at hr
        | some i =>
          rw [h1] at hr
          simp only at hr
          refine ⟨r ++ s.data.toList.drop i, ?_⟩
          have := List.take_append_drop i s.data.toList
          rw [hr] at this
          refine this.symm.trans ?_
          simp
    · rintro (rfl | ⟨r, hr⟩)
      · exact .inl rfl
      · right
        rcases ldot_spec s.data.toList with ⟨_, h1⟩ | ⟨i, h1, h2, h3⟩
        · refine absurd ?_ (h1 u.data.toList.length)
          rw [hr]; simp
        · have hle : u.data.toList.length ≤ i := by
            rcases Nat.lt_or_ge i u.data.toList.length with hlt | hge
            · exact absurd (by rw [hr]; simp) (h3 _ hlt)
            · exact hge
          rw [scB_data, sc, h1]
          simp only
          rcases Nat.lt_or_ge u.data.toList.length i with hlt | hge
          · right
            refine ⟨r.take (i - u.data.toList.length - 1), ?_⟩
            rw [hr, List.take_append, List.take_of_length_le (by omega)]
            obtain ⟨d, hd⟩ : ∃ d, i - u.data.toList.length = d + 1 := ⟨i - u.data.toList.length - 1, by omega⟩
            rw [hd]; simp
          · left
            apply data_inj
            have hi : i = u.data.toList.length := by omega
            rw [scB_data, sc, h1]
            simp only
            rw [hr, hi]
            simp
theorem cand_iff (scope name k : ByteArray) : Cand scope name k ↔ k = name ∨ ∃ u : ByteArray, u.size ≠ 0 ∧ (u = scope ∨ ∃ r, scope.data.toList = u.data.toList ++ 46 :: r) ∧ k.data.toList = u.data.toList ++ 46 :: name.data.toList := by
  unfold Cand
  constructor
  · rintro ⟨u, hu, rfl⟩
    by_cases hz : u.size = 0
    · exact .inl (joinB_nil name hz)
    · exact .inr ⟨u, hz, (mem_ups scope u hz).1 hu, joinB_data hz⟩
  · rintro (rfl | ⟨u, hz, hm, hk⟩)
    · exact ⟨⟨#[]⟩, upsB_empty_mem scope, (joinB_nil _ rfl).symm⟩
    · exact ⟨u, (mem_ups scope u hz).2 hm, data_inj (by rw [hk, joinB_data hz])⟩
end Go.Proofs.YthjpchnogllliaaGreatDoor.IdnM

/- Stage 6 as plain mathematics: the two spellings, and how a full name is taken apart. Of no program. -/
set_option linter.unusedSimpArgs false
set_option linter.unusedVariables false
namespace Go.Proofs.YthjpchnogllliaaGreatDoor.IdnC
open IdnM

def capF : List UInt8 → List UInt8
  | [] => []
  | b :: t => (if sm b then b - 32 else b) :: t
def cam (st : Bool) : List UInt8 → List UInt8
  | [] => []
  | b :: t => if b = 95 then cam true t else (if (st && sm b) = true then b - 32 else b) :: cam false t
def snk (first : Bool) : List UInt8 → List UInt8
  | [] => []
  | b :: t => (if cp b then (if first then [b + 32] else [95, b + 32]) else [b]) ++ snk false t
def camel (l : List UInt8) : List UInt8 := if nmp l then cam true l else []
def snake (l : List UInt8) : List UInt8 := if nmp l then snk true l else []

theorem capF_append {acc : List UInt8} (h : acc ≠ []) (t : List UInt8) : capF (acc ++ t) = capF acc ++ t := by
  cases acc with
  | nil => exact absurd rfl h
  | cons b r => rfl
theorem cam_pieces : ∀ (l acc : List UInt8), (pc 95 acc l).flatMap capF = capF acc ++ cam acc.isEmpty l
  | [], acc => by simp [pc, cam]
  | b :: t, acc => by
    rw [pc, cam]
    by_cases hb : b = 95
    · rw [if_pos hb, if_pos hb, List.flatMap_cons, cam_pieces t []]
      rfl
    · rw [if_neg hb, if_neg hb, cam_pieces t (acc ++ [b])]
      cases acc with
      | nil => simp [capF]
      | cons c r => simp [capF]
theorem cam_all (l : List UInt8) : (pieces 95 l).flatMap capF = cam true l := by
  rw [pieces, cam_pieces]; rfl
theorem cam_len : ∀ (l : List UInt8) (st : Bool), (cam st l).length ≤ l.length
  | [], _ => Nat.le_refl _
  | b :: t, st => by
    rw [cam]
    split
    · have := cam_len t true; simp only [List.length_cons]; omega
    · have := cam_len t false; simp only [List.length_cons]; omega
theorem snk_len : ∀ (l : List UInt8) (st : Bool), (snk st l).length ≤ 2 * l.length
  | [], _ => by simp [snk]
  | b :: t, st => by
    rw [snk]
    have := snk_len t false
    simp only [List.length_append, List.length_cons]
    split
    · split
      · simp only [List.length_cons, List.length_nil]; omega
      · simp only [List.length_cons, List.length_nil]; omega
    · simp only [List.length_cons, List.length_nil]; omega

theorem sm_sub {b : UInt8} (h : sm b = true) : (b - 32).toNat = b.toNat - 32 := by
  simp only [sm, Bool.and_eq_true, decide_eq_true_eq] at h
  rw [UInt8.toNat_sub_of_le _ _ (by rw [UInt8.le_iff_toNat_le]; show 32 ≤ b.toNat; omega)]
  rfl
theorem cp_sub {b : UInt8} (h : sm b = true) : cp (b - 32) = true := by
  have h1 := sm_sub h
  simp only [sm, Bool.and_eq_true, decide_eq_true_eq] at h
  simp only [cp, Bool.and_eq_true, decide_eq_true_eq, h1]
  omega
theorem cp_not {b : UInt8} (h : cp b = true) : b ≠ 95 ∧ sm b = false ∧ ltr b = true ∧ inn b = true := by
  have h0 := h
  simp only [cp, Bool.and_eq_true, decide_eq_true_eq] at h
  refine ⟨?_, ?_, ?_, ?_⟩
  · rintro rfl; simp at h
  · simp [sm]; omega
  · simp [ltr, h0]
  · simp [inn, h0]
theorem sub_add (b : UInt8) : b - 32 + 32 = b := by
  have : b - 32 + 32 = b := by
    apply UInt8.toBitVec_inj.1
    simp
  exact this
theorem us_iff (b : UInt8) : us b = true ↔ b = 95 := by
  simp only [us, decide_eq_true_eq]
  constructor
  · intro h; exact UInt8.toNat_inj.1 h
  · rintro rfl; rfl
theorem cam_fine : ∀ (l : List UInt8) (st : Bool), (∀ b ∈ l, inn b = true) → ∀ b ∈ cam st l, inn b = true ∧ b ≠ 95
  | [], _, _, _, hb => by simp [cam] at hb
  | x :: t, st, h, b, hb => by
    rw [cam] at hb
    have ht : ∀ b ∈ t, inn b = true := fun b hb => h b (by simp [hb])
    split at hb
    · exact cam_fine t true ht b hb
    · rename_i hx
      rcases List.mem_cons.1 hb with rfl | hb
      · by_cases hs : (st && sm x) = true
        · rw [if_pos hs]
          have hs2 : sm x = true := by simp at hs; exact hs.2
          have := cp_not (cp_sub hs2)
          exact ⟨this.2.2.2, this.1⟩
        · rw [if_neg hs]; exact ⟨h x (by simp), hx⟩
      · exact cam_fine t false ht b hb
theorem nmp_inn {l : List UInt8} (h : nmp l = true) : ∀ b ∈ l, inn b = true := by
  cases l with
  | nil => simp
  | cons x t =>
    simp only [nmp, Bool.and_eq_true, decide_eq_true_eq, List.all_eq_true] at h
    intro b hb
    rcases List.mem_cons.1 hb with rfl | hb
    · have := h.2.1; simp only [ltr, Bool.or_eq_true] at this; simp only [inn, Bool.or_eq_true]; rcases this with h | h <;> simp [h]
    · exact h.2.2 b hb
/-- The other spelling of a part is a part that begins with a capital letter and has no underscore. -/
theorem cam_part {l : List UInt8} (h : nmp l = true) : nmp (cam true l) = true ∧ (∃ c r, cam true l = c :: r ∧ cp c = true) ∧ ∀ b ∈ cam true l, b ≠ 95 := by
  have hf := cam_fine l true (nmp_inn h)
  have hlen := cam_len l true
  have hl := nmp_len h
  refine ⟨?_, ?_, fun b hb => (hf b hb).2⟩
  all_goals
    cases l with
    | nil => cases h
    | cons x t =>
      simp only [nmp, Bool.and_eq_true, decide_eq_true_eq, List.all_eq_true] at h
      have hx : x ≠ 95 := by
        rintro rfl
        have := h.2.1
        revert this; decide
      have hc : cp (if sm x = true then x - 32 else x) = true := by
        split
        · rename_i hs; exact cp_sub hs
        · rename_i hs
          have := h.2.1
          simp only [ltr, Bool.or_eq_true] at this
          exact this.resolve_left hs
      have e : cam true (x :: t) = (if sm x = true then x - 32 else x) :: cam false t := by
        rw [cam, if_neg hx, Bool.true_and]
      first
        | (rw [e] at hf hlen ⊢
           simp only [List.length_cons] at hlen hl
           simp only [nmp, Bool.and_eq_true, decide_eq_true_eq, List.all_eq_true]
           exact ⟨by omega, (cp_not hc).2.2.1, fun b hb => (hf b (by simp [hb])).1⟩)
        | exact ⟨_, _, e, hc⟩
/-- No capital letter, and each underscore is followed by a small letter. -/
def Good (l : List UInt8) : Prop := ∀ (i : Nat) (b : UInt8), l[i]? = some b → cp b = false ∧ (b = 95 → ∃ c, l[i + 1]? = some c ∧ sm c = true)
theorem Good.tail {b : UInt8} {t : List UInt8} (h : Good (b :: t)) : Good t := fun i c hc => by
  have := h (i + 1) c (by simpa using hc)
  simpa using this
theorem snk_cam : ∀ (n : Nat) (l : List UInt8), l.length ≤ n → Good l → snk false (cam false l) = l
  | _, [], _, _ => by simp [cam, snk]
  | 0, b :: t, h, _ => by simp at h
  | n + 1, b :: t, hn, hg => by
    have h0 := hg 0 b rfl
    have ht := hg.tail
    rw [cam]
    by_cases hb : b = 95
    · rw [if_pos hb]
      obtain ⟨c, hc, hs⟩ := h0.2 hb
      cases t with
      | nil => simp at hc
      | cons x r =>
        simp only [Nat.zero_add, List.getElem?_cons_succ, List.getElem?_cons_zero, Option.some.injEq] at hc
        subst hc
        have hx : x ≠ 95 := by rintro rfl; revert hs; decide
        simp only [List.length_cons] at hn
        rw [cam, if_neg hx, Bool.true_and, if_pos hs, snk, if_pos (cp_sub hs), if_neg (by simp), sub_add, snk_cam n r (by omega) ht.tail, hb]
        rfl
    · simp only [List.length_cons] at hn
      rw [if_neg hb, Bool.false_and, if_neg (by simp), snk, if_neg (by simp [h0.1]), snk_cam n t (by omega) ht]
      rfl
theorem snake_camel {l : List UInt8} (h : nmp l = true) (hg : Good l) : snk true (cam true l) = l := by
  cases l with
  | nil => cases h
  | cons x t =>
    simp only [nmp, Bool.and_eq_true, decide_eq_true_eq, List.all_eq_true] at h
    have hx : x ≠ 95 := by
      rintro rfl
      have := h.2.1
      revert this; decide
    have h0 := (hg 0 x rfl).1
    have hs : sm x = true := by
      have := h.2.1
      simp only [ltr, Bool.or_eq_true, h0] at this
      simpa using this
    rw [cam, if_neg hx, Bool.true_and, if_pos hs, snk, if_pos (cp_sub hs), if_pos rfl, sub_add, snk_cam _ t (Nat.le_refl _) hg.tail]
    rfl

theorem pc_dot (c : UInt8) : ∀ (u acc r : List UInt8), pc c acc (u ++ c :: r) = pc c acc u ++ pc c [] r
  | [], acc, r => by simp [pc]
  | b :: t, acc, r => by
    rw [List.cons_append, pc, pc]
    split
    · rw [pc_dot c t [] r]; rfl
    · rw [pc_dot c t _ r]
theorem pc_nodot (c : UInt8) : ∀ (r acc : List UInt8), (∀ b ∈ r, b ≠ c) → pc c acc r = [acc ++ r]
  | [], acc, _ => by simp [pc]
  | b :: t, acc, h => by
    rw [pc, if_neg (h b (by simp)), pc_nodot c t _ (fun x hx => h x (by simp [hx]))]
    simp
/-- A full name without its last part. -/
theorem full_step {l : List UInt8} (h : full l = true) : nmp (la l) = true ∧ (sc l = [] ∨ full (sc l) = true) ∧ (sc l = [] → la l = l) ∧ (sc l ≠ [] → l = sc l ++ 46 :: la l) := by
  simp only [full, Bool.and_eq_true, decide_eq_true_eq] at h
  obtain ⟨h1, h2⟩ := h
  rcases ldot_spec l with ⟨hd, hn⟩ | ⟨i, hd, hi, hn⟩
  · have e1 : sc l = [] := by rw [sc, hd]
    have e2 : la l = l := by rw [la, hd]
    have hnd : ∀ b ∈ l, b ≠ 46 := by
      intro b hb e
      obtain ⟨j, hj⟩ := List.getElem?_of_mem hb
      exact hn j (hj.trans (congrArg some e))
    rw [pieces, pc_nodot 46 l [] hnd] at h2
    rw [e1, e2]
    exact ⟨by simpa using h2, .inl rfl, fun _ => rfl, fun h => absurd rfl h⟩
  · have e1 : sc l = l.take i := by rw [sc, hd]
    have e2 : la l = l.drop (i + 1) := by rw [la, hd]
    obtain ⟨hlt, hg⟩ := List.getElem?_eq_some_iff.1 hi
    have hl : l = l.take i ++ 46 :: l.drop (i + 1) := by
      rw [← hg, ← List.drop_eq_getElem_cons hlt, List.take_append_drop]
    have hnd : ∀ b ∈ l.drop (i + 1), b ≠ 46 := by
      intro b hb e
      obtain ⟨j, hj⟩ := List.getElem?_of_mem hb
      rw [List.getElem?_drop] at hj
      exact hn _ (by omega) (hj.trans (congrArg some e))
    have hp : pieces 46 l = pc 46 [] (l.take i) ++ [l.drop (i + 1)] := by
      have h3 : pieces 46 l = pieces 46 (l.take i ++ 46 :: l.drop (i + 1)) := by rw [← hl]
      rw [h3, pieces, pc_dot, pc_nodot 46 _ [] hnd]
      simp
    rw [hp, List.all_append] at h2
    simp only [Bool.and_eq_true] at h2
    rw [e1, e2]
    refine ⟨by simpa using h2.2, ?_, ?_, fun _ => hl⟩
    · right
      simp only [full, Bool.and_eq_true, decide_eq_true_eq, pieces]
      exact ⟨by rw [List.length_take]; omega, h2.1⟩
    · intro he
      rw [he] at h2
      simp [pc, nmp] at h2
theorem fullB_step {s : ByteArray} (h : full s.data.toList = true) : nmp (laB s).data.toList = true ∧ ((scB s).size = 0 ∨ full (scB s).data.toList = true) ∧ joinB (scB s) (laB s) = s := by
  obtain ⟨h1, h2, h3, h4⟩ := full_step h
  rw [← laB_data] at h1 h3 h4
  rw [← scB_data] at h2 h3 h4
  have hz : (scB s).data.toList = [] ↔ (scB s).size = 0 := by
    rw [← List.length_eq_zero_iff]; rfl
  refine ⟨h1, h2.imp hz.1 id, ?_⟩
  by_cases he : (scB s).size = 0
  · rw [joinB_nil _ he]
    exact data_inj (h3 (hz.2 he))
  · apply data_inj
    rw [joinB_data he]
    exact (h4 (fun e => he (hz.1 e))).symm
theorem full_ne {l : List UInt8} (h : full l = true) : l ≠ [] := by
  rintro rfl
  revert h; decide
theorem full_len {l : List UInt8} (h : full l = true) : l.length ≤ 120 := by
  simp only [full, Bool.and_eq_true, decide_eq_true_eq] at h
  exact h.1
end Go.Proofs.YthjpchnogllliaaGreatDoor.IdnC
