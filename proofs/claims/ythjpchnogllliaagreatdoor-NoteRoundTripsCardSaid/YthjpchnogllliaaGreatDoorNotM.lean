/- Stage 8 as plain mathematics: known annotations, checking, finding, setting, their text. Of no program. -/
import Derived.Test.YthjpchnogllliaaGreatDoorScaM
set_option linter.unusedSimpArgs false
set_option linter.unusedVariables false
namespace Go.Proofs.YthjpchnogllliaaGreatDoor.NotM
open UtfM UtfQ ScaM

/-- An annotation: its name and its value. -/
structure Nt where
  nm : List UInt8
  v : Sc
def knB : List (List UInt8) := [[100, 101, 112, 114, 101, 99, 97, 116, 101, 100], [115, 101, 99, 114, 101, 116], [105, 100, 101, 109, 112, 111, 116, 101, 110, 116]]
def knT : List (List UInt8) := [[100, 111, 99], [97, 108, 105, 97, 115], [114, 111, 117, 116, 101], [111, 119, 110, 101, 114]]
def knU : List (List UInt8) := [[115, 105, 110, 99, 101], [117, 110, 116, 105, 108], [108, 101, 110, 103, 116, 104], [116, 105, 109, 101, 111, 117, 116]]
def knI : List (List UInt8) := [[109, 105, 110], [109, 97, 120]]
/-- The kind of a known annotation, 0 of another name. -/
def kindN (n : List UInt8) : Int := if knB.contains n then 1 else if knT.contains n then 7 else if knU.contains n then 4 else if knI.contains n then 3 else 0
def tgA : List (List UInt8) := [[100, 101, 112, 114, 101, 99, 97, 116, 101, 100], [100, 111, 99]]
def tgF : List (List UInt8) := [[97, 108, 105, 97, 115], [115, 105, 110, 99, 101], [117, 110, 116, 105, 108]]
def tgO : List (List UInt8) := [[109, 105, 110], [109, 97, 120], [108, 101, 110, 103, 116, 104], [115, 101, 99, 114, 101, 116]]
def tgM : List (List UInt8) := [[105, 100, 101, 109, 112, 111, 116, 101, 110, 116], [116, 105, 109, 101, 111, 117, 116], [114, 111, 117, 116, 101]]
/-- Whether a known annotation may annotate a target. -/
def fitsT (n : List UInt8) (t : Int) : Bool :=
  if tgA.contains n then decide (1 ≤ t) && decide (t ≤ 6) else if tgF.contains n then t == 2 || (t == 4 || t == 6) else if tgO.contains n then t == 2 else if tgM.contains n then t == 6 else t == 1 || t == 5
/-- Whether the value is right. -/
def rightB (n : Nt) : Bool := kindN n.nm != 0 && (n.v.k == kindN n.nm && fitsB (kindN n.nm) n.v)

/-- The order of names. -/
abbrev less := Op.bytesLess
theorem less_irrefl : ∀ a : List UInt8, less a a = false
  | [] => rfl
  | a :: x => by
    have := less_irrefl x
    simp [less, Op.bytesLess] at this ⊢
    exact this
theorem less_nil (a : List UInt8) : less a [] = false := by cases a <;> rfl
theorem less_cons (a b : UInt8) (x y : List UInt8) : less (a :: x) (b :: y) = true ↔ a < b ∨ (a = b ∧ less x y = true) := by
  simp [less, Op.bytesLess]
theorem less_trans : ∀ {a b c : List UInt8}, less a b = true → less b c = true → less a c = true
  | _, [], _, h, _ => by rw [less_nil] at h; cases h
  | _, _ :: _, [], _, h => by rw [less_nil] at h; cases h
  | [], _ :: _, _ :: _, _, _ => rfl
  | a :: x, b :: y, c :: z, h, k => by
    rw [less_cons] at h k ⊢
    rcases h with h | ⟨rfl, h⟩
    · rcases k with k | ⟨rfl, k⟩
      · left
        rw [UInt8.lt_iff_toNat_lt] at *
        omega
      · exact .inl h
    · rcases k with k | ⟨rfl, k⟩
      · exact .inl k
      · exact .inr ⟨rfl, less_trans h k⟩
theorem less_tri : ∀ {a b : List UInt8}, less a b = false → a ≠ b → less b a = true
  | [], [], _, h => absurd rfl h
  | [], _ :: _, h, _ => by cases h
  | _ :: _, [], _, _ => rfl
  | a :: x, b :: y, h, hne => by
    have h2 : ¬ (a < b ∨ (a = b ∧ less x y = true)) := by
      rw [← less_cons, h]
      simp
    rw [less_cons]
    by_cases hab : a = b
    · subst hab
      right
      refine ⟨rfl, less_tri ?_ (fun e => hne (by rw [e]))⟩
      cases hl : less x y with
      | false => rfl
      | true => exact absurd (.inr ⟨rfl, hl⟩) h2
    · left
      have h3 : ¬ a < b := fun e => h2 (.inl e)
      rw [UInt8.lt_iff_toNat_lt] at *
      have h4 : a.toNat ≠ b.toNat := fun e => hab (UInt8.toNat_inj.1 e)
      omega
theorem less_asymm {a b : List UInt8} (h : less a b = true) : less b a = false := by
  cases hb : less b a with
  | false => rfl
  | true =>
    have := less_trans h hb
    rw [less_irrefl] at this
    cases this

/-- The outcome for one annotation behind another. -/
def chk1 (tg : Int) (prev : Option (List UInt8)) (n : Nt) : Int :=
  if kindN n.nm = 0 then 8 else if fitsT n.nm tg = false then 1 else if rightB n = false then 12 else
    match prev with
    | none => 0
    | some p => if less n.nm p = true then 11 else if n.nm = p then 9 else 0
def chk (tg : Int) (prev : Option (List UInt8)) : List Nt → Int
  | [] => 0
  | n :: r => if chk1 tg prev n ≠ 0 then chk1 tg prev n else chk tg (some n.nm) r
/-- The outcome of checking. -/
def checkN (l : List Nt) (tg : Int) : Int := if 8 < l.length then 3 else chk tg none l

section
variable {α : Type} (key : α → List UInt8)
/-- The first one with a name. -/
def findG (n : List UInt8) : List α → Option α
  | [] => none
  | y :: r => if key y = n then some y else findG n r
def repl (x : α) : List α → List α
  | [] => []
  | y :: r => if key y = key x then x :: r else y :: repl x r
def ins (x : α) : List α → List α
  | [] => [x]
  | y :: r => if less (key x) (key y) = true then x :: y :: r else y :: ins x r
/-- The list with x in it. -/
def setG (x : α) (l : List α) : List α := match findG key (key x) l with
  | some _ => repl key x l
  | none => ins key x l
variable {key}
theorem find_none {n : List UInt8} : ∀ {l : List α}, findG key n l = none ↔ ∀ y ∈ l, key y ≠ n
  | [] => by simp [findG]
  | y :: r => by
    by_cases h : key y = n
    · simp [findG, h]
    · simp [findG, h, find_none (l := r)]
theorem find_some {n : List UInt8} {y : α} : ∀ {l : List α}, findG key n l = some y → y ∈ l ∧ key y = n
  | [], h => by simp [findG] at h
  | z :: r, h => by
    by_cases hz : key z = n
    · simp [findG, hz] at h
      subst h
      exact ⟨by simp, hz⟩
    · simp only [findG, hz, if_false] at h
      have := find_some h
      exact ⟨by simp [this.1], this.2⟩
theorem find_repl {x : α} : ∀ {l : List α}, findG key (key x) l ≠ none → findG key (key x) (repl key x l) = some x
  | [], h => absurd rfl h
  | y :: r, h => by
    by_cases hy : key y = key x
    · simp [repl, hy, findG]
    · simp only [findG, hy, if_false] at h
      simp only [repl, hy, if_false, findG]
      exact find_repl h
theorem find_repl_other {x : α} {n : List UInt8} (hn : n ≠ key x) : ∀ {l : List α}, findG key n (repl key x l) = findG key n l
  | [] => rfl
  | y :: r => by
    by_cases hy : key y = key x
    · simp [repl, hy, findG, Ne.symm hn]
    · simp only [repl, hy, if_false, findG]
      rw [find_repl_other hn]
theorem find_ins {x : α} : ∀ {l : List α}, findG key (key x) l = none → findG key (key x) (ins key x l) = some x
  | [], _ => by simp [ins, findG]
  | y :: r, h => by
    by_cases hy : key y = key x
    · simp [findG, hy] at h
    · simp only [findG, hy, if_false] at h
      by_cases hl : less (key x) (key y) = true
      · simp [ins, hl, findG]
      · simp only [ins, if_neg hl, findG, hy, if_false]
        exact find_ins h
theorem find_ins_other {x : α} {n : List UInt8} (hn : n ≠ key x) : ∀ {l : List α}, findG key n (ins key x l) = findG key n l
  | [] => by simp [ins, findG, Ne.symm hn]
  | y :: r => by
    by_cases hl : less (key x) (key y) = true
    · simp [ins, hl, findG, Ne.symm hn]
    · simp only [ins, if_neg hl, findG]
      rw [find_ins_other hn]
theorem find_set (x : α) (l : List α) : findG key (key x) (setG key x l) = some x := by
  unfold setG
  cases h : findG key (key x) l with
  | some y => exact find_repl (by rw [h]; simp)
  | none => exact find_ins h
theorem find_set_other {x : α} {n : List UInt8} (hn : n ≠ key x) (l : List α) : findG key n (setG key x l) = findG key n l := by
  unfold setG
  cases h : findG key (key x) l with
  | some y => exact find_repl_other hn
  | none => exact find_ins_other hn
theorem repl_len (x : α) : ∀ l : List α, (repl key x l).length = l.length
  | [] => rfl
  | y :: r => by
    by_cases hy : key y = key x
    · simp [repl, hy]
    · simp only [repl, hy, if_false, List.length_cons, repl_len x r]
theorem ins_len (x : α) : ∀ l : List α, (ins key x l).length = l.length + 1
  | [] => rfl
  | y :: r => by
    by_cases hl : less (key x) (key y) = true
    · simp [ins, hl]
    · simp only [ins, if_neg hl, List.length_cons, ins_len x r]
theorem set_len (x : α) (l : List α) : (setG key x l).length ≤ l.length + 1 := by
  unfold setG
  split
  · rw [repl_len]; omega
  · rw [ins_len]; exact Nat.le_refl _
theorem map_find {β : Type} {key2 : β → List UInt8} (f : α → β) (hf : ∀ a, key2 (f a) = key a) (n : List UInt8) : ∀ l : List α, findG key2 n (l.map f) = (findG key n l).map f
  | [] => rfl
  | y :: r => by
    rw [List.map_cons]
    simp only [findG, hf]
    split
    · rfl
    · exact map_find f hf n r
theorem map_set {β : Type} {key2 : β → List UInt8} (f : α → β) (hf : ∀ a, key2 (f a) = key a) (x : α) (l : List α) : (setG key x l).map f = setG key2 (f x) (l.map f) := by
  have h1 : ∀ l : List α, (repl key x l).map f = repl key2 (f x) (l.map f) := by
    intro l
    induction l with
    | nil => rfl
    | cons y r ih =>
      simp only [repl, List.map_cons, hf]
      split
      · rfl
      · rw [List.map_cons, ih]
  have h2 : ∀ l : List α, (ins key x l).map f = ins key2 (f x) (l.map f) := by
    intro l
    induction l with
    | nil => rfl
    | cons y r ih =>
      simp only [ins, List.map_cons, hf]
      split
      · rfl
      · rw [List.map_cons, ih]
  unfold setG
  rw [hf, map_find f hf]
  cases findG key (key x) l with
  | some y => exact h1 l
  | none => exact h2 l
theorem mem_set {x y : α} {l : List α} (h : y ∈ setG key x l) : y = x ∨ y ∈ l := by
  have h1 : ∀ l : List α, y ∈ repl key x l → y = x ∨ y ∈ l := by
    intro l
    induction l with
    | nil => intro h; cases h
    | cons z r ih =>
      intro h
      simp only [repl] at h
      split at h
      · rcases List.mem_cons.1 h with h | h
        · exact .inl h
        · exact .inr (by simp [h])
      · rcases List.mem_cons.1 h with h | h
        · exact .inr (by simp [h])
        · rcases ih h with h | h
          · exact .inl h
          · exact .inr (by simp [h])
  have h2 : ∀ l : List α, y ∈ ins key x l → y = x ∨ y ∈ l := by
    intro l
    induction l with
    | nil => intro h; simp [ins] at h; exact .inl h
    | cons z r ih =>
      intro h
      simp only [ins] at h
      split at h
      · rcases List.mem_cons.1 h with h | h
        · exact .inl h
        · exact .inr h
      · rcases List.mem_cons.1 h with h | h
        · exact .inr (by simp [h])
        · rcases ih h with h | h
          · exact .inl h
          · exact .inr (by simp [h])
  unfold setG at h
  split at h
  · exact h1 l h
  · exact h2 l h
/-- Names that ascend. -/
def Asc (prev : Option (List UInt8)) : List α → Prop
  | [] => True
  | y :: r => (∀ p, prev = some p → less p (key y) = true) ∧ Asc (some (key y)) r
theorem asc_repl {x : α} : ∀ {l : List α} {prev : Option (List UInt8)}, Asc (key := key) prev l → Asc (key := key) prev (repl key x l)
  | [], _, h => h
  | y :: r, prev, h => by
    by_cases hy : key y = key x
    · simp only [repl, hy, if_true]
      refine ⟨fun p hp => ?_, ?_⟩
      · rw [← hy]; exact h.1 p hp
      · rw [← hy]; exact h.2
    · simp only [repl, hy, if_false]
      exact ⟨h.1, asc_repl h.2⟩
theorem asc_ins {x : α} : ∀ {l : List α} {prev : Option (List UInt8)}, Asc (key := key) prev l → (∀ y ∈ l, key y ≠ key x) → (∀ p, prev = some p → less p (key x) = true) → Asc (key := key) prev (ins key x l)
  | [], _, _, _, hp => ⟨hp, trivial⟩
  | y :: r, prev, h, hne, hp => by
    by_cases hl : less (key x) (key y) = true
    · simp only [ins, hl, if_true]
      exact ⟨hp, fun p e => by cases e; exact hl, h.2⟩
    · simp only [ins, if_neg hl]
      refine ⟨h.1, asc_ins h.2 (fun z hz => hne z (by simp [hz])) (fun p e => ?_)⟩
      cases e
      exact less_tri (by simpa using hl) (Ne.symm (hne y (by simp)))
theorem asc_set {x : α} {l : List α} (h : Asc (key := key) none l) : Asc (key := key) none (setG key x l) := by
  unfold setG
  cases hf : findG key (key x) l with
  | some y => exact asc_repl h
  | none => exact asc_ins h (find_none.1 hf) (fun p e => by cases e)
end
def ok1 (tg : Int) (n : Nt) : Prop := kindN n.nm ≠ 0 ∧ fitsT n.nm tg = true ∧ rightB n = true
theorem chk1_zero {tg : Int} {prev : Option (List UInt8)} {n : Nt} : chk1 tg prev n = 0 ↔ ok1 tg n ∧ ∀ p, prev = some p → less p n.nm = true := by
  unfold chk1 ok1
  by_cases h1 : kindN n.nm = 0
  · rw [if_pos h1]
    simp [h1]
  · rw [if_neg h1]
    cases h2 : fitsT n.nm tg with
    | false => simp
    | true =>
      rw [if_neg (by simp)]
      cases h3 : rightB n with
      | false => simp
      | true =>
        rw [if_neg (by simp)]
        cases prev with
        | none => simp [h1]
        | some p =>
          simp only
          by_cases h4 : less n.nm p = true
          · rw [if_pos h4]
            have := less_asymm h4
            simp [this]
          · rw [if_neg h4]
            by_cases h5 : n.nm = p
            · rw [if_pos h5, h5]
              simp [less_irrefl]
            · rw [if_neg h5]
              have := less_tri (by simpa using h4) h5
              simp [h1, this]
theorem chk_zero {tg : Int} : ∀ {l : List Nt} {prev : Option (List UInt8)}, chk tg prev l = 0 ↔ (∀ n ∈ l, ok1 tg n) ∧ Asc (key := Nt.nm) prev l
  | [], prev => by simp [chk, Asc]
  | n :: r, prev => by
    rw [chk]
    by_cases h : chk1 tg prev n = 0
    · rw [if_neg (not_not_intro h), chk_zero (l := r)]
      have h2 := chk1_zero.1 h
      constructor
      · rintro ⟨a, b⟩
        refine ⟨fun x hx => ?_, h2.2, b⟩
        rcases List.mem_cons.1 hx with rfl | hx
        · exact h2.1
        · exact a x hx
      · rintro ⟨a, b⟩
        exact ⟨fun x hx => a x (by simp [hx]), b.2⟩
    · rw [if_pos h]
      constructor
      · intro e; exact absurd e h
      · rintro ⟨a, b⟩
        exact absurd (chk1_zero.2 ⟨a n (by simp), b.1⟩) h
/-- What was accepted stays accepted when one that is right is set. -/
theorem check_set {tg : Int} {l : List Nt} {n : Nt} (h1 : checkN l tg = 0) (h2 : l.length < 8) (h3 : checkN [n] tg = 0) : checkN (setG Nt.nm n l) tg = 0 := by
  unfold checkN at *
  rw [if_neg (by omega)] at h1
  rw [if_neg (by simp)] at h3
  have h4 := set_len (key := Nt.nm) n l
  rw [if_neg (by omega)]
  obtain ⟨a, b⟩ := chk_zero.1 h1
  obtain ⟨c, _⟩ := chk_zero.1 h3
  refine chk_zero.2 ⟨fun y hy => ?_, asc_set b⟩
  rcases mem_set hy with rfl | hy
  · exact c _ (by simp)
  · exact a y hy

/-- One annotation as it is written. -/
def item (n : Nt) : List UInt8 := n.nm ++ ([32, 61, 32] ++ textV n.v)
/-- Annotations, one behind the other. -/
def body : List Nt → List UInt8
  | [] => []
  | n :: r => item n ++ r.flatMap fun m => [44, 32] ++ item m
/-- The text of annotations. -/
def noteText (l : List Nt) : List UInt8 := if l = [] ∨ l.all rightB = false then [] else 91 :: (body l ++ [93])
theorem body_snoc (l : List Nt) (n : Nt) : body (l ++ [n]) = body l ++ ((if l = [] then [] else [44, 32]) ++ item n) := by
  cases l with
  | nil => simp [body]
  | cons m r => simp [body]
theorem text_no {l : List Nt} {n : Nt} (hm : n ∈ l) (h : rightB n = false) : noteText l = [] := by
  unfold noteText
  rw [if_pos]
  right
  rw [List.all_eq_false]
  exact ⟨n, hm, by rw [h]; simp⟩
theorem text_yes {l : List Nt} (h : l ≠ []) (h2 : ∀ n ∈ l, rightB n = true) : noteText l = 91 :: (body l ++ [93]) := by
  unfold noteText
  rw [if_neg]
  rintro (e | e)
  · exact h e
  · rw [List.all_eq_false] at e
    obtain ⟨n, hn, hf⟩ := e
    exact hf (h2 n hn)
end Go.Proofs.YthjpchnogllliaaGreatDoor.NotM
