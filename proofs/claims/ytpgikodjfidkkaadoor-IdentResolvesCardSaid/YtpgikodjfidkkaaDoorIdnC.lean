/- Stage 6 as plain mathematics: the two spellings, and how a full name is taken apart. Of no program. -/
import Derived.Test.YtpgikodjfidkkaaDoorIdnM
set_option linter.unusedSimpArgs false
set_option linter.unusedVariables false
namespace Go.Proofs.YtpgikodjfidkkaaDoor.IdnC
open IdnM

def capF : List UInt8 → List UInt8
  | [] => []
  | b :: t => (if sm b then b - 32 else b) :: t
def cam (st : Bool) : List UInt8 → List UInt8
  | [] => []
  | b :: t => if b = 95 then cam true t else (if (st && sm b) = true then b - 32 else b) :: cam false t
def snk (first : Bool) : List UInt8 → List UInt8
  | [] => []
  | b :: t => (if cp b then (if first then [b + 32] else [95, b + 32]) else [b]) ++ snk false t
def camel (l : List UInt8) : List UInt8 := if nmp l then cam true l else []
def snake (l : List UInt8) : List UInt8 := if nmp l then snk true l else []

theorem capF_append {acc : List UInt8} (h : acc ≠ []) (t : List UInt8) : capF (acc ++ t) = capF acc ++ t := by
  cases acc with
  | nil => exact absurd rfl h
  | cons b r => rfl
theorem cam_pieces : ∀ (l acc : List UInt8), (pc 95 acc l).flatMap capF = capF acc ++ cam acc.isEmpty l
  | [], acc => by simp [pc, cam]
  | b :: t, acc => by
    rw [pc, cam]
    by_cases hb : b = 95
    · rw [if_pos hb, if_pos hb, List.flatMap_cons, cam_pieces t []]
      rfl
    · rw [if_neg hb, if_neg hb, cam_pieces t (acc ++ [b])]
      cases acc with
      | nil => simp [capF]
      | cons c r => simp [capF]
theorem cam_all (l : List UInt8) : (pieces 95 l).flatMap capF = cam true l := by
  rw [pieces, cam_pieces]; rfl
theorem cam_len : ∀ (l : List UInt8) (st : Bool), (cam st l).length ≤ l.length
  | [], _ => Nat.le_refl _
  | b :: t, st => by
    rw [cam]
    split
    · have := cam_len t true; simp only [List.length_cons]; omega
    · have := cam_len t false; simp only [List.length_cons]; omega
theorem snk_len : ∀ (l : List UInt8) (st : Bool), (snk st l).length ≤ 2 * l.length
  | [], _ => by simp [snk]
  | b :: t, st => by
    rw [snk]
    have := snk_len t false
    simp only [List.length_append, List.length_cons]
    split
    · split
      · simp only [List.length_cons, List.length_nil]; omega
      · simp only [List.length_cons, List.length_nil]; omega
    · simp only [List.length_cons, List.length_nil]; omega

theorem sm_sub {b : UInt8} (h : sm b = true) : (b - 32).toNat = b.toNat - 32 := by
  simp only [sm, Bool.and_eq_true, decide_eq_true_eq] at h
  rw [UInt8.toNat_sub_of_le _ _ (by rw [UInt8.le_iff_toNat_le]; show 32 ≤ b.toNat; omega)]
  rfl
theorem cp_sub {b : UInt8} (h : sm b = true) : cp (b - 32) = true := by
  have h1 := sm_sub h
  simp only [sm, Bool.and_eq_true, decide_eq_true_eq] at h
  simp only [cp, Bool.and_eq_true, decide_eq_true_eq, h1]
  omega
theorem cp_not {b : UInt8} (h : cp b = true) : b ≠ 95 ∧ sm b = false ∧ ltr b = true ∧ inn b = true := by
  have h0 := h
  simp only [cp, Bool.and_eq_true, decide_eq_true_eq] at h
  refine ⟨?_, ?_, ?_, ?_⟩
  · rintro rfl; simp at h
  · simp [sm]; omega
  · simp [ltr, h0]
  · simp [inn, h0]
theorem sub_add (b : UInt8) : b - 32 + 32 = b := by
  have : b - 32 + 32 = b := by
    apply UInt8.toBitVec_inj.1
    simp
  exact this
theorem us_iff (b : UInt8) : us b = true ↔ b = 95 := by
  simp only [us, decide_eq_true_eq]
  constructor
  · intro h; exact UInt8.toNat_inj.1 h
  · rintro rfl; rfl
theorem cam_fine : ∀ (l : List UInt8) (st : Bool), (∀ b ∈ l, inn b = true) → ∀ b ∈ cam st l, inn b = true ∧ b ≠ 95
  | [], _, _, _, hb => by simp [cam] at hb
  | x :: t, st, h, b, hb => by
    rw [cam] at hb
    have ht : ∀ b ∈ t, inn b = true := fun b hb => h b (by simp [hb])
    split at hb
    · exact cam_fine t true ht b hb
    · rename_i hx
      rcases List.mem_cons.1 hb with rfl | hb
      · by_cases hs : (st && sm x) = true
        · rw [if_pos hs]
          have hs2 : sm x = true := by simp at hs; exact hs.2
          have := cp_not (cp_sub hs2)
          exact ⟨this.2.2.2, this.1⟩
        · rw [if_neg hs]; exact ⟨h x (by simp), hx⟩
      · exact cam_fine t false ht b hb
theorem nmp_inn {l : List UInt8} (h : nmp l = true) : ∀ b ∈ l, inn b = true := by
  cases l with
  | nil => simp
  | cons x t =>
    simp only [nmp, Bool.and_eq_true, decide_eq_true_eq, List.all_eq_true] at h
    intro b hb
    rcases List.mem_cons.1 hb with rfl | hb
    · have := h.2.1; simp only [ltr, Bool.or_eq_true] at this; simp only [inn, Bool.or_eq_true]; rcases this with h | h <;> simp [h]
    · exact h.2.2 b hb
/-- The other spelling of a part is a part that begins with a capital letter and has no underscore. -/
theorem cam_part {l : List UInt8} (h : nmp l = true) : nmp (cam true l) = true ∧ (∃ c r, cam true l = c :: r ∧ cp c = true) ∧ ∀ b ∈ cam true l, b ≠ 95 := by
  have hf := cam_fine l true (nmp_inn h)
  have hlen := cam_len l true
  have hl := nmp_len h
  refine ⟨?_, ?_, fun b hb => (hf b hb).2⟩
  all_goals
    cases l with
    | nil => cases h
    | cons x t =>
      simp only [nmp, Bool.and_eq_true, decide_eq_true_eq, List.all_eq_true] at h
      have hx : x ≠ 95 := by
        rintro rfl
        have := h.2.1
        revert this; decide
      have hc : cp (if sm x = true then x - 32 else x) = true := by
        split
        · rename_i hs; exact cp_sub hs
        · rename_i hs
          have := h.2.1
          simp only [ltr, Bool.or_eq_true] at this
          exact this.resolve_left hs
      have e : cam true (x :: t) = (if sm x = true then x - 32 else x) :: cam false t := by
        rw [cam, if_neg hx, Bool.true_and]
      first
        | (rw [e] at hf hlen ⊢
           simp only [List.length_cons] at hlen hl
           simp only [nmp, Bool.and_eq_true, decide_eq_true_eq, List.all_eq_true]
           exact ⟨by omega, (cp_not hc).2.2.1, fun b hb => (hf b (by simp [hb])).1⟩)
        | exact ⟨_, _, e, hc⟩
/-- No capital letter, and each underscore is followed by a small letter. -/
def Good (l : List UInt8) : Prop := ∀ (i : Nat) (b : UInt8), l[i]? = some b → cp b = false ∧ (b = 95 → ∃ c, l[i + 1]? = some c ∧ sm c = true)
theorem Good.tail {b : UInt8} {t : List UInt8} (h : Good (b :: t)) : Good t := fun i c hc => by
  have := h (i + 1) c (by simpa using hc)
  simpa using this
theorem snk_cam : ∀ (n : Nat) (l : List UInt8), l.length ≤ n → Good l → snk false (cam false l) = l
  | _, [], _, _ => by simp [cam, snk]
  | 0, b :: t, h, _ => by simp at h
  | n + 1, b :: t, hn, hg => by
    have h0 := hg 0 b rfl
    have ht := hg.tail
    rw [cam]
    by_cases hb : b = 95
    · rw [if_pos hb]
      obtain ⟨c, hc, hs⟩ := h0.2 hb
      cases t with
      | nil => simp at hc
      | cons x r =>
        simp only [Nat.zero_add, List.getElem?_cons_succ, List.getElem?_cons_zero, Option.some.injEq] at hc
        subst hc
        have hx : x ≠ 95 := by rintro rfl; revert hs; decide
        simp only [List.length_cons] at hn
        rw [cam, if_neg hx, Bool.true_and, if_pos hs, snk, if_pos (cp_sub hs), if_neg (by simp), sub_add, snk_cam n r (by omega) ht.tail, hb]
        rfl
    · simp only [List.length_cons] at hn
      rw [if_neg hb, Bool.false_and, if_neg (by simp), snk, if_neg (by simp [h0.1]), snk_cam n t (by omega) ht]
      rfl
theorem snake_camel {l : List UInt8} (h : nmp l = true) (hg : Good l) : snk true (cam true l) = l := by
  cases l with
  | nil => cases h
  | cons x t =>
    simp only [nmp, Bool.and_eq_true, decide_eq_true_eq, List.all_eq_true] at h
    have hx : x ≠ 95 := by
      rintro rfl
      have := h.2.1
      revert this; decide
    have h0 := (hg 0 x rfl).1
    have hs : sm x = true := by
      have := h.2.1
      simp only [ltr, Bool.or_eq_true, h0] at this
      simpa using this
    rw [cam, if_neg hx, Bool.true_and, if_pos hs, snk, if_pos (cp_sub hs), if_pos rfl, sub_add, snk_cam _ t (Nat.le_refl _) hg.tail]
    rfl

theorem pc_dot (c : UInt8) : ∀ (u acc r : List UInt8), pc c acc (u ++ c :: r) = pc c acc u ++ pc c [] r
  | [], acc, r => by simp [pc]
  | b :: t, acc, r => by
    rw [List.cons_append, pc, pc]
    split
    · rw [pc_dot c t [] r]; rfl
    · rw [pc_dot c t _ r]
theorem pc_nodot (c : UInt8) : ∀ (r acc : List UInt8), (∀ b ∈ r, b ≠ c) → pc c acc r = [acc ++ r]
  | [], acc, _ => by simp [pc]
  | b :: t, acc, h => by
    rw [pc, if_neg (h b (by simp)), pc_nodot c t _ (fun x hx => h x (by simp [hx]))]
    simp
/-- A full name without its last part. -/
theorem full_step {l : List UInt8} (h : full l = true) : nmp (la l) = true ∧ (sc l = [] ∨ full (sc l) = true) ∧ (sc l = [] → la l = l) ∧ (sc l ≠ [] → l = sc l ++ 46 :: la l) := by
  simp only [full, Bool.and_eq_true, decide_eq_true_eq] at h
  obtain ⟨h1, h2⟩ := h
  rcases ldot_spec l with ⟨hd, hn⟩ | ⟨i, hd, hi, hn⟩
  · have e1 : sc l = [] := by rw [sc, hd]
    have e2 : la l = l := by rw [la, hd]
    have hnd : ∀ b ∈ l, b ≠ 46 := by
      intro b hb e
      obtain ⟨j, hj⟩ := List.getElem?_of_mem hb
      exact hn j (hj.trans (congrArg some e))
    rw [pieces, pc_nodot 46 l [] hnd] at h2
    rw [e1, e2]
    exact ⟨by simpa using h2, .inl rfl, fun _ => rfl, fun h => absurd rfl h⟩
  · have e1 : sc l = l.take i := by rw [sc, hd]
    have e2 : la l = l.drop (i + 1) := by rw [la, hd]
    obtain ⟨hlt, hg⟩ := List.getElem?_eq_some_iff.1 hi
    have hl : l = l.take i ++ 46 :: l.drop (i + 1) := by
      rw [← hg, ← List.drop_eq_getElem_cons hlt, List.take_append_drop]
    have hnd : ∀ b ∈ l.drop (i + 1), b ≠ 46 := by
      intro b hb e
      obtain ⟨j, hj⟩ := List.getElem?_of_mem hb
      rw [List.getElem?_drop] at hj
      exact hn _ (by omega) (hj.trans (congrArg some e))
    have hp : pieces 46 l = pc 46 [] (l.take i) ++ [l.drop (i + 1)] := by
      have h3 : pieces 46 l = pieces 46 (l.take i ++ 46 :: l.drop (i + 1)) := by rw [← hl]
      rw [h3, pieces, pc_dot, pc_nodot 46 _ [] hnd]
      simp
    rw [hp, List.all_append] at h2
    simp only [Bool.and_eq_true] at h2
    rw [e1, e2]
    refine ⟨by simpa using h2.2, ?_, ?_, fun _ => hl⟩
    · right
      simp only [full, Bool.and_eq_true, decide_eq_true_eq, pieces]
      exact ⟨by rw [List.length_take]; omega, h2.1⟩
    · intro he
      rw [he] at h2
      simp [pc, nmp] at h2
theorem fullB_step {s : ByteArray} (h : full s.data.toList = true) : nmp (laB s).data.toList = true ∧ ((scB s).size = 0 ∨ full (scB s).data.toList = true) ∧ joinB (scB s) (laB s) = s := by
  obtain ⟨h1, h2, h3, h4⟩ := full_step h
  rw [← laB_data] at h1 h3 h4
  rw [← scB_data] at h2 h3 h4
  have hz : (scB s).data.toList = [] ↔ (scB s).size = 0 := by
    rw [← List.length_eq_zero_iff]; rfl
  refine ⟨h1, h2.imp hz.1 id, ?_⟩
  by_cases he : (scB s).size = 0
  · rw [joinB_nil _ he]
    exact data_inj (h3 (hz.2 he))
  · apply data_inj
    rw [joinB_data he]
    exact (h4 (fun e => he (hz.1 e))).symm
theorem full_ne {l : List UInt8} (h : full l = true) : l ≠ [] := by
  rintro rfl
  revert h; decide
theorem full_len {l : List UInt8} (h : full l = true) : l.length ≤ 120 := by
  simp only [full, Bool.and_eq_true, decide_eq_true_eq] at h
  exact h.1
end Go.Proofs.YtpgikodjfidkkaaDoor.IdnC
