import Derived.Test.YthjpchnogllliaaGreatDoorNotM
import Derived.Test.YthjpchnogllliaaGreatDoorTkpM
import Derived.Test.YthjpchnogllliaaGreatDoorRtM
/- Stage 8 as plain mathematics: reading annotations from tokens; what was written is read again. -/
set_option linter.unusedSimpArgs false
set_option linter.unusedVariables false
namespace Go.Proofs.YthjpchnogllliaaGreatDoor.NotR
open IdnM IdnC UtfM UtfQ TokM TokD TokS TokT TokU ScaM ScaV ScaN ScaT ScaW ScaY RtM NotM

abbrev Pair := List UInt8 × SV
def isSg (k : TokM.Tok) (b : UInt8) : Bool := k.kind == 4 && k.text == [b]
/-- The number that begins here behind m tokens, and how many tokens the value takes; or the place of the first wrong one, and the error. -/
def numT (k : Int) (m : Nat) (minus : List UInt8) (ts : List TokM.Tok) : Except (Nat × Int) (SV × Nat) := match ts with
  | [] => .error (m, 2)
  | x :: _ => if x.kind = 2 then (if (wholeS k (minus ++ ScaM.dec (uI x.num))).2 = 0 then .ok ((wholeS k (minus ++ ScaM.dec (uI x.num))).1, m + 1) else .error (m, (wholeS k (minus ++ ScaM.dec (uI x.num))).2)) else .error (m, 2)
def trueT : List UInt8 := [116, 114, 117, 101]
def falseT : List UInt8 := [102, 97, 108, 115, 101]
def boolT (x : TokM.Tok) : Except (Nat × Int) (SV × Nat) :=
  if x.kind = 1 ∧ x.text = trueT then .ok (nv 1 1, 1) else if x.kind = 1 ∧ x.text = falseT then .ok (nv 1 0, 1) else .error (0, 2)
def textT (k : Int) (x : TokM.Tok) : Except (Nat × Int) (SV × Nat) :=
  if x.kind ≠ 3 then .error (0, 2) else if 4096 < x.text.length then .error (0, 3) else if fitsB k (sc (ScaT.tv k x.text)) = true then .ok (ScaT.tv k x.text, 1) else .error (0, 7)
/-- The value of a kind that begins here. -/
def valT (k : Int) (ts : List TokM.Tok) : Except (Nat × Int) (SV × Nat) :=
  if k = 4 ∨ k = 3 then (match ts with
    | [] => .error (0, 2)
    | x :: r => if isSg x 45 = true then numT k 1 [45] r else numT k 0 [] (x :: r))
  else match ts with
    | [] => .error (0, 2)
    | x :: _ => if k = 1 then boolT x else textT k x
/-- One annotation that begins here. -/
def one1 (ts : List TokM.Tok) : Except (Nat × Int) (Pair × Nat) := match ts with
  | [] => .error (0, 2)
  | x :: r => if x.kind ≠ 1 then .error (0, 2) else if kindN x.text = 0 then .error (0, 8) else match r with
    | [] => .error (1, 2)
    | y :: r2 => if isSg y 61 = false then .error (1, 2) else match valT (kindN x.text) r2 with
      | .error q => .error (2 + q.1, q.2)
      | .ok q => .ok ((x.text, q.1), 2 + q.2)
/-- Annotations up to the closing sign. -/
def rd (p : Nat) (ts : List TokM.Tok) : Except (Nat × Int) (List Pair × Nat) := match one1 ts with
  | .error q => .error (p + q.1, q.2)
  | .ok q => match e : ts.drop q.2 with
    | [] => .error (p + q.2, 2)
    | z :: r => if isSg z 93 = true then .ok ([q.1], p + q.2 + 1) else if isSg z 44 = true then (rd (p + q.2 + 1) r).map fun x => (q.1 :: x.1, x.2) else .error (p + q.2, 2)
termination_by ts.length
decreasing_by
  have h1 := congrArg List.length e
  simp only [List.length_drop, List.length_cons] at h1 ⊢
  omega
theorem rd_err {p : Nat} {ts : List TokM.Tok} {q : Nat × Int} (h : one1 ts = .error q) : rd p ts = .error (p + q.1, q.2) := by rw [rd, h]
theorem rd_end {p : Nat} {ts : List TokM.Tok} {q : Pair × Nat} (h : one1 ts = .ok q) (e : ts.drop q.2 = []) : rd p ts = .error (p + q.2, 2) := by
  rw [rd, h]
  simp only
  split
  · rfl
  · rename_i e2; exact absurd (e.symm.trans e2) (by simp)
theorem rd_close {p : Nat} {ts r : List TokM.Tok} {z : TokM.Tok} {q : Pair × Nat} (h : one1 ts = .ok q) (e : ts.drop q.2 = z :: r) (hz : isSg z 93 = true) : rd p ts = .ok ([q.1], p + q.2 + 1) := by
  rw [rd, h]
  simp only
  split
  · rename_i e2; exact absurd (e.symm.trans e2) (by simp)
  · rename_i e2; rw [e] at e2; cases e2; rw [if_pos hz]
theorem rd_more {p : Nat} {ts r : List TokM.Tok} {z : TokM.Tok} {q : Pair × Nat} (h : one1 ts = .ok q) (e : ts.drop q.2 = z :: r) (hz : isSg z 93 = false) (hc : isSg z 44 = true) : rd p ts = (rd (p + q.2 + 1) r).map fun x => (q.1 :: x.1, x.2) := by
  rw [rd, h]
  simp only
  split
  · rename_i e2; exact absurd (e.symm.trans e2) (by simp)
  · rename_i e2; rw [e] at e2; cases e2; rw [if_neg (by rw [hz]; simp), if_pos hc]
theorem rd_other {p : Nat} {ts r : List TokM.Tok} {z : TokM.Tok} {q : Pair × Nat} (h : one1 ts = .ok q) (e : ts.drop q.2 = z :: r) (hz : isSg z 93 = false) (hc : isSg z 44 = false) : rd p ts = .error (p + q.2, 2) := by
  rw [rd, h]
  simp only
  split
  · rename_i e2; exact absurd (e.symm.trans e2) (by simp)
  · rename_i e2; rw [e] at e2; cases e2; rw [if_neg (by rw [hz]; simp), if_neg (by rw [hc]; simp)]
/-- The sign at a place. -/
def sgAt (t : List TokM.Tok) (at_ : Int) (b : UInt8) : Bool := decide (0 ≤ at_) && match t[at_.toNat]? with
  | some x => isSg x b
  | none => false
/-- What reading gives: the annotations, the place behind them or that of the first wrong token, and the error. -/
def readN (t : List TokM.Tok) (at_ : Int) : List Pair × Int × Int :=
  if sgAt t at_ 91 = true then (match rd (at_.toNat + 1) (t.drop (at_.toNat + 1)) with
    | .error q => ([], (q.1 : Int), q.2)
    | .ok q => (q.1, (q.2 : Int), 0))
  else ([], at_, 0)

/-- A token that stands in front of what is apart is read alone. -/
theorem apart_wch {r : List UInt8} (h : apart r) : ∀ c t, r = c :: t → wch c = false ∧ dg c = false := by
  intro c t e
  have h1 := (h c t e).1
  unfold inn at h1
  simp only [Bool.or_eq_false_iff] at h1
  obtain ⟨⟨⟨a, b⟩, d⟩, u⟩ := h1
  refine ⟨?_, d⟩
  unfold wch ltr
  have e2 : us c = decide (c = 95) := by rw [Bool.eq_iff_iff, us_iff, decide_eq_true_eq]
  rw [e2] at u
  rw [a, b, u]
  rfl
theorem dlen_apart {l r : List UInt8} (h : apart r) : dlen (l ++ r) = dlen l := by
  unfold dlen
  induction l with
  | nil =>
    cases r with
    | nil => rfl
    | cons c t =>
      have := (apart_wch h c t rfl).2
      rw [List.nil_append, List.takeWhile_cons_of_neg (by rw [this]; simp)]
      rfl
  | cons b t ih =>
    by_cases hb : dg b = true
    · rw [List.cons_append, List.takeWhile_cons_of_pos hb, List.takeWhile_cons_of_pos hb, List.length_cons, List.length_cons, ih]
    · rw [List.cons_append, List.takeWhile_cons_of_neg hb, List.takeWhile_cons_of_neg hb]
theorem one_apart {l r : List UInt8} {k : TokM.Tok} {n : Nat} (h : one l = .ok (k, n)) (hr : apart r) : one (l ++ r) = .ok (k, n) := by
  cases l with
  | nil => simp [one] at h
  | cons b t =>
    have hnm : nm (b :: (t ++ r)) = nm (b :: t) := nm_local (l := b :: t) (by simp) hr
    have hdl : dlen (b :: (t ++ r)) = dlen (b :: t) := dlen_apart (l := b :: t) hr
    have htk : ∀ m, m ≤ (b :: t).length → (b :: (t ++ r)).take m = (b :: t).take m := fun m hm => List.take_append_of_le_length (l₁ := b :: t) hm
    rw [List.cons_append]
    by_cases h0 : nm (b :: t) = 0
    · have h0' : nm (b :: (t ++ r)) = 0 := by rw [hnm, h0]
      cases hd : dg b with
      | true =>
        have hle := dlen_le (b :: t)
        have hdrop : (b :: (t ++ r)).drop (dlen (b :: (t ++ r))) = (b :: t).drop (dlen (b :: t)) ++ r := by
          rw [hdl]
          exact List.drop_append_of_le_length (l₁ := b :: t) hle
        cases e : (b :: t).drop (dlen (b :: t)) with
        | nil =>
          rw [e, List.nil_append] at hdrop
          rw [one_int h0 hd (fun c q e2 => by rw [e] at e2; cases e2)] at h
          rw [one_int h0' hd (fun c q e2 => (apart_wch hr c q (by rw [← hdrop, e2])).1), hdl, htk _ hle]
          exact h
        | cons c q =>
          rw [e, List.cons_append] at hdrop
          cases hwc : wch c with
          | true => rw [one_int_bad h0 hd e hwc] at h; cases h
          | false =>
            rw [one_int h0 hd (fun c2 r2 e2 => by rw [e] at e2; cases e2; exact hwc)] at h
            rw [one_int h0' hd (fun c2 r2 e2 => by rw [hdrop] at e2; cases e2; exact hwc), hdl, htk _ hle]
            exact h
      | false =>
        by_cases hq : b = 34
        · subst hq
          rw [one_text h0] at h
          rw [one_text h0']
          split at h
          · rename_i hu
            rcases unquote_cases (34 :: t) with h1 | ⟨s, m, h1, h2, h3, h4⟩
            · rw [h1] at hu; simp at hu
            · have hul : unquote (34 :: (t ++ r)) = (s, m, 0) := by
                have e1 : (34 :: (t ++ r) : List UInt8) = quote s ++ ((34 :: t).drop m ++ r) := by
                  rw [h4, ← List.append_assoc, List.take_append_drop]; rfl
                rw [e1, unquote_quote, h4, List.length_take, Nat.min_eq_left h3]
              rw [h1] at h
              rw [hul]
              exact h
          · cases h
        · rw [one_sign h0 hd hq] at h
          rw [one_sign h0' hd hq]
          exact h
    · have h0' : nm (b :: (t ++ r)) ≠ 0 := by rw [hnm]; exact h0
      rw [one_name h0] at h
      rw [one_name h0', hnm, htk _ (nm_le _)]
      exact h
theorem scan_put {k : TokM.Tok} (hw : wrtn k ≠ []) (hi : inI k) (line : Nat) {r : List UInt8} (hr : apart r) : scanT line (wrtn k ++ r) = (scanT line r).map fun x => (k, line) :: x := by
  have h := one_back hw hi.1 hi.2 (r := []) (by intro c t e; cases e)
  rw [List.append_nil] at h
  rw [scan_one (one_apart h hr), List.drop_left]
theorem inI_0 (kd : Int) (x : List UInt8) : inI ⟨kd, x, 0⟩ := ⟨by show (-9223372036854775808 : Int) ≤ 0; decide, by show (0 : Int) ≤ 9223372036854775807; decide⟩

/-- The tokens of a value, of an annotation, of annotations. -/
def tkV (v : Sc) : List TokM.Tok :=
  if v.k = 1 then [⟨1, textV v, 0⟩] else if v.k = 7 then [⟨3, v.t, 0⟩]
  else if v.k = 3 ∧ sgnN ≤ v.b then [⟨4, [45], 0⟩, ⟨2, [], TokS.sI (18446744073709551616 - v.b)⟩] else [⟨2, [], TokS.sI v.b⟩]
def tkN (n : Nt) : List TokM.Tok := ⟨1, n.nm, 0⟩ :: ⟨4, [61], 0⟩ :: tkV n.v
def comma : TokM.Tok := ⟨4, [44], 0⟩
def opening : TokM.Tok := ⟨4, [91], 0⟩
def closing : TokM.Tok := ⟨4, [93], 0⟩
def tkB : List Nt → List TokM.Tok
  | [] => []
  | n :: r => tkN n ++ r.flatMap fun m => comma :: tkN m
def tkT (l : List Nt) : List TokM.Tok := opening :: (tkB l ++ [closing])

theorem known_fit {n : List UInt8} (h : kindN n ≠ 0) : fitN n = true := by
  have hall : (knB ++ (knT ++ (knU ++ knI))).all fitN = true := by decide
  rw [List.all_eq_true] at hall
  refine hall n ?_
  unfold kindN at h
  rw [List.mem_append, List.mem_append, List.mem_append]
  by_cases h1 : knB.contains n = true
  · exact .inl (by simpa using h1)
  · rw [if_neg h1] at h
    by_cases h2 : knT.contains n = true
    · exact .inr (.inl (by simpa using h2))
    · rw [if_neg h2] at h
      by_cases h3 : knU.contains n = true
      · exact .inr (.inr (.inl (by simpa using h3)))
      · rw [if_neg h3] at h
        by_cases h4 : knI.contains n = true
        · exact .inr (.inr (.inr (by simpa using h4)))
        · rw [if_neg h4] at h
          exact absurd rfl h
theorem kind_cases (n : List UInt8) : kindN n = 0 ∨ kindN n = 1 ∨ kindN n = 7 ∨ kindN n = 4 ∨ kindN n = 3 := by
  unfold kindN
  split
  · simp
  · split
    · simp
    · split
      · simp
      · split <;> simp
/-- What is right. -/
theorem right_parts {n : Nt} (h : rightB n = true) : kindN n.nm ≠ 0 ∧ n.v.k = kindN n.nm ∧ fitsB (kindN n.nm) n.v = true := by
  unfold rightB at h
  rw [Bool.and_eq_true, Bool.and_eq_true, bne_iff_ne, beq_iff_eq] at h
  exact ⟨h.1, h.2.1, h.2.2⟩
-- the texts of right values
theorem text_un {v : Sc} (hf : fitsB v.k v = true) : textV v = if v.k = 1 then (if v.b = 1 then [116, 114, 117, 101] else [102, 97, 108, 115, 101])
    else if v.k = 2 ∨ v.k = 3 then (if sgnN ≤ v.b then 45 :: dec (18446744073709551616 - v.b) else dec v.b)
    else if v.k = 6 then (if clsN v.b = 0 then [110, 97, 110] else if clsN v.b = 1 then (if sgnN ≤ v.b then [45, 105, 110, 102] else [105, 110, 102]) else [48, 120] ++ hex16 v.b)
    else if v.k = 7 then quote v.t else if v.k = 8 then 120 :: quote (hexL v.t) else dec v.b := by
  unfold textV
  rw [if_neg (by rw [hf]; simp)]
theorem text_1 {v : Sc} (hk : v.k = 1) (hf : fitsB 1 v = true) : (v.b = 1 ∧ textV v = trueT) ∨ (v.b = 0 ∧ textV v = falseT) := by
  obtain ⟨_, _, _, _, _, _, hr⟩ := fits_one (k := 1) (by decide) hf
  have hb : v.b ≤ 1 := by
    unfold rgB at hr
    rw [if_pos rfl] at hr
    exact of_decide_eq_true hr
  rw [text_un (by rw [hk]; exact hf), if_pos hk]
  by_cases h1 : v.b = 1
  · rw [if_pos h1]; exact .inl ⟨h1, rfl⟩
  · rw [if_neg h1]; exact .inr ⟨by omega, rfl⟩
theorem text_7 {v : Sc} (hk : v.k = 7) (hf : fitsB 7 v = true) : textV v = quote v.t := by
  rw [text_un (by rw [hk]; exact hf), hk]
  rfl
theorem text_4 {v : Sc} (hk : v.k = 4) (hf : fitsB 4 v = true) : textV v = dec v.b := by
  rw [text_un (by rw [hk]; exact hf), hk]
  rfl
theorem text_3 {v : Sc} (hk : v.k = 3) (hf : fitsB 3 v = true) : textV v = if sgnN ≤ v.b then 45 :: dec (18446744073709551616 - v.b) else dec v.b := by
  rw [text_un (by rw [hk]; exact hf), hk, if_neg (by decide), if_pos (.inr rfl)]

/-- The tokens of a text, without their lines. -/
def S (l : List UInt8) : Except (Nat × Nat) (List TokM.Tok) := (scanT 1 l).map fun x => x.map (·.1)
theorem S_put {k : TokM.Tok} (hw : wrtn k ≠ []) (hi : inI k) {r : List UInt8} (hr : apart r) : S (wrtn k ++ r) = (S r).map fun x => k :: x := by
  unfold S
  rw [scan_put hw hi 1 hr]
  cases scanT 1 r <;> rfl
theorem S_sp (r : List UInt8) : S (32 :: r) = S r := by
  unfold S
  rw [scan_ws 1 r (by decide)]
theorem S_nil : S [] = .ok [] := by unfold S; rw [TokS.scan_nil]; rfl
theorem apart_cons {c : UInt8} (t : List UInt8) (h1 : inn c = false) (h2 : c ≠ 46) : apart (c :: t) := by
  intro d r e
  cases e
  exact ⟨h1, h2⟩
theorem S_sg {b : UInt8} (hb : signs.contains b = true) (r : List UInt8) : S (b :: r) = (S r).map fun x => ⟨4, [b], 0⟩ :: x := by
  have hw : wrtn ⟨4, [b], 0⟩ = [b] := by rw [wrtn_sign, if_pos hb]
  have hn := signs_not hb
  unfold S
  have h := one_sign (b := b) (t := r) (nm_zero r hn.1 hn.2.1) hn.2.2.1 hn.2.2.2.1
  rw [if_pos hb] at h
  rw [scan_one h]
  show ((scanT 1 r).map _).map _ = _
  cases scanT 1 r <;> rfl
theorem map_map' {ε α β γ : Type} (f : α → β) (g : β → γ) (x : Except ε α) : (x.map f).map g = x.map fun a => g (f a) := by cases x <;> rfl
theorem dec_ok {b : Nat} (hb : b ≤ 18446744073709551615) : wrtn ⟨2, [], TokS.sI b⟩ = dec b ∧ wrtn ⟨2, [], TokS.sI b⟩ ≠ [] ∧ inI ⟨2, [], TokS.sI b⟩ := by
  have h1 : wrtn ⟨2, [], TokS.sI b⟩ = dec b := by rw [wrtn_int, sI_uI b (by omega)]
  refine ⟨h1, by rw [h1]; exact ScaM.dec_ne b, ?_⟩
  show -9223372036854775808 ≤ TokS.sI b ∧ TokS.sI b ≤ 9223372036854775807
  unfold TokS.sI
  split <;> omega
theorem S_val {n : Nt} (h : rightB n = true) (hb : n.v.b ≤ 18446744073709551615) {r : List UInt8} (hr : apart r) : S (textV n.v ++ r) = (S r).map fun x => tkV n.v ++ x := by
  obtain ⟨h0, hk, hf⟩ := right_parts h
  rcases kind_cases n.nm with e | e | e | e | e
  · exact absurd e h0
  · rw [e] at hk hf
    unfold tkV
    rw [if_pos hk]
    rcases text_1 hk hf with ⟨_, ht⟩ | ⟨_, ht⟩
    · rw [ht]
      have hw : wrtn ⟨1, trueT, 0⟩ = trueT := by rw [TkpM.wrtn_nameP, if_pos (by decide)]
      have := S_put (k := ⟨1, trueT, 0⟩) (by rw [hw]; decide) (inI_0 _ _) hr
      rw [hw] at this
      exact this
    · rw [ht]
      have hw : wrtn ⟨1, falseT, 0⟩ = falseT := by rw [TkpM.wrtn_nameP, if_pos (by decide)]
      have := S_put (k := ⟨1, falseT, 0⟩) (by rw [hw]; decide) (inI_0 _ _) hr
      rw [hw] at this
      exact this
  · rw [e] at hk hf
    unfold tkV
    rw [if_neg (by rw [hk]; decide), if_pos hk, text_7 hk hf]
    have := S_put (k := ⟨3, n.v.t, 0⟩) (by rw [wrtn_text]; unfold quote; simp) (inI_0 _ _) hr
    rw [wrtn_text] at this
    exact this
  · rw [e] at hk hf
    unfold tkV
    rw [if_neg (by rw [hk]; decide), if_neg (by rw [hk]; decide), if_neg (by rw [hk]; rintro ⟨c, _⟩; exact absurd c (by decide)), text_4 hk hf]
    obtain ⟨h1, h2, h3⟩ := dec_ok hb
    rw [← h1]
    exact S_put h2 h3 hr
  · rw [e] at hk hf
    unfold tkV
    rw [if_neg (by rw [hk]; decide), if_neg (by rw [hk]; decide), text_3 hk hf]
    by_cases hs : sgnN ≤ n.v.b
    · rw [if_pos hs, if_pos ⟨hk, hs⟩]
      have hs2 : 9223372036854775808 ≤ n.v.b := hs
      obtain ⟨h1, h2, h3⟩ := dec_ok (b := 18446744073709551616 - n.v.b) (by omega)
      rw [List.cons_append, S_sg (by decide), ← h1, S_put h2 h3 hr, map_map']
      rfl
    · rw [if_neg hs, if_neg (fun c => hs c.2)]
      obtain ⟨h1, h2, h3⟩ := dec_ok hb
      rw [← h1]
      exact S_put h2 h3 hr
theorem S_item {n : Nt} (h : rightB n = true) (hb : n.v.b ≤ 18446744073709551615) {r : List UInt8} (hr : apart r) : S (item n ++ r) = (S r).map fun x => tkN n ++ x := by
  obtain ⟨h0, _, _⟩ := right_parts h
  have hfit := known_fit h0
  have hw : wrtn ⟨1, n.nm, 0⟩ = n.nm := by rw [TkpM.wrtn_nameP, if_pos hfit]
  have hne : n.nm ≠ [] := (TkpM.fit_nm hfit).2
  have e1 : item n ++ r = n.nm ++ (32 :: 61 :: 32 :: (textV n.v ++ r)) := by
    unfold item
    simp
  have e2 := S_put (k := ⟨1, n.nm, 0⟩) (by rw [hw]; exact hne) (inI_0 _ _) (apart_cons (61 :: 32 :: (textV n.v ++ r)) (c := 32) (by decide) (by decide))
  rw [hw] at e2
  rw [e1, e2, S_sp, S_sg (by decide), S_sp, S_val h hb hr, map_map', map_map']
  rfl
theorem S_flat : ∀ l : List Nt, (∀ n ∈ l, rightB n = true ∧ n.v.b ≤ 18446744073709551615) → S ((l.flatMap fun m => [44, 32] ++ item m) ++ [93]) = .ok ((l.flatMap fun m => comma :: tkN m) ++ [closing]) ∧ apart ((l.flatMap fun m => [44, 32] ++ item m) ++ [93])
  | [], _ => by
    refine ⟨?_, apart_cons [] (by decide) (by decide)⟩
    show S [93] = _
    rw [S_sg (by decide), S_nil]
    rfl
  | n :: r, h => by
    obtain ⟨ih, ha⟩ := S_flat r (fun x hx => h x (by simp [hx]))
    obtain ⟨h1, h2⟩ := h n (by simp)
    rw [List.flatMap_cons, List.flatMap_cons]
    refine ⟨?_, apart_cons _ (by decide) (by decide)⟩
    show S (44 :: 32 :: (item n ++ _) ++ [93]) = _
    rw [List.cons_append, List.cons_append, List.append_assoc, S_sg (by decide), S_sp, S_item h1 h2 ha, ih]
    simp [Except.map, comma]
/-- The tokens of the text of annotations. -/
theorem S_text {l : List Nt} (hl : l ≠ []) (h : ∀ n ∈ l, rightB n = true ∧ n.v.b ≤ 18446744073709551615) : S (noteText l) = .ok (tkT l) := by
  rw [text_yes hl (fun n hn => (h n hn).1)]
  cases l with
  | nil => exact absurd rfl hl
  | cons n r =>
    obtain ⟨ih, ha⟩ := S_flat r (fun x hx => h x (by simp [hx]))
    obtain ⟨h1, h2⟩ := h n (by simp)
    rw [S_sg (by decide), NotM.body, List.append_assoc, S_item h1 h2 ha, ih]
    simp [Except.map, tkT, tkB, opening]

-- reading the tokens again
theorem sc_tv {v : Sc} (hk : v.k = 7) (hb : v.b = 0) (h1 : v.n1 = 0) (h2 : v.n2 = 0) (h3 : v.n3 = 0) (h4 : v.n4 = 0) : sc (ScaT.tv 7 v.t) = v := by
  cases v
  simp only at hk hb h1 h2 h3 h4
  subst hk hb h1 h2 h3 h4
  rfl
theorem numT_ok {k : Int} {m : Nat} {minus : List UInt8} {z : Int} {X : SV} (r : List TokM.Tok) (h : wholeS k (minus ++ ScaM.dec (uI z)) = (X, 0)) : numT k m minus (⟨2, [], z⟩ :: r) = .ok (X, m + 1) := by
  show (if (2 : Int) = 2 then (if (wholeS k (minus ++ ScaM.dec (uI z))).2 = 0 then (.ok ((wholeS k (minus ++ ScaM.dec (uI z))).1, m + 1) : Except (Nat × Int) (SV × Nat)) else .error (m, (wholeS k (minus ++ ScaM.dec (uI z))).2)) else .error (m, 2)) = _
  rw [if_pos rfl, h, if_pos rfl]
theorem val_back {n : Nt} (h : rightB n = true) (hb : n.v.b ≤ 18446744073709551615) (r : List TokM.Tok) : ∃ X, valT (kindN n.nm) (tkV n.v ++ r) = .ok (X, (tkV n.v).length) ∧ sc X = n.v := by
  obtain ⟨h0, hk, hf⟩ := right_parts h
  rcases kind_cases n.nm with e | e | e | e | e
  · exact absurd e h0
  · rw [e] at hk hf ⊢
    obtain ⟨_, ht, n1, n2, n3, n4, _⟩ := fits_one (k := 1) (by decide) hf
    refine ⟨nv 1 n.v.b, ?_, sc_nv hk ht n1 n2 n3 n4⟩
    unfold tkV valT
    rw [if_pos hk, if_neg (by decide)]
    show (if (1 : Int) = 1 then boolT ⟨1, textV n.v, 0⟩ else _) = _
    rw [if_pos rfl]
    unfold boolT
    rcases text_1 hk hf with ⟨hb1, ht1⟩ | ⟨hb1, ht1⟩
    · rw [if_pos ⟨rfl, ht1⟩, hb1]; rfl
    · rw [if_neg (fun c => by have := c.2; simp only at this; rw [ht1] at this; exact absurd this (by decide)), if_pos ⟨rfl, ht1⟩, hb1]; rfl
  · rw [e] at hk hf ⊢
    obtain ⟨_, hb0, n1, n2, n3, n4, hlen, hbad⟩ := fits_txt (k := 7) (by decide) hf
    have hft := fits_tv (k := 7) (.inl rfl) hlen hbad
    refine ⟨ScaT.tv 7 n.v.t, ?_, ?_⟩
    · unfold tkV valT
      rw [if_neg (show ¬ n.v.k = 1 by rw [hk]; decide), if_pos hk, if_neg (by decide)]
      show (if (7 : Int) = 1 then _ else textT 7 ⟨3, n.v.t, 0⟩) = _
      rw [if_neg (by decide)]
      unfold textT
      rw [if_neg (by simp), if_neg (by show ¬ 4096 < n.v.t.length; omega), if_pos hft]
      rfl
    · exact sc_tv hk hb0 n1 n2 n3 n4
  · rw [e] at hk hf ⊢
    obtain ⟨_, ht, n1, n2, n3, n4, _⟩ := fits_one (k := 4) (by decide) hf
    have hrt := rt_num (k := 4) (by simp) hb hf
    rw [text_4 hk hf] at hrt
    refine ⟨nv 4 n.v.b, ?_, sc_nv hk ht n1 n2 n3 n4⟩
    unfold tkV valT
    rw [if_neg (show ¬ n.v.k = 1 by rw [hk]; decide), if_neg (show ¬ n.v.k = 7 by rw [hk]; decide), if_neg (show ¬ (n.v.k = 3 ∧ ScaM.sgnN ≤ n.v.b) by rw [hk]; rintro ⟨c, _⟩; exact absurd c (by decide)), if_pos (.inl rfl)]
    show (if isSg ⟨2, [], TokS.sI n.v.b⟩ 45 = true then _ else numT 4 0 [] (⟨2, [], TokS.sI n.v.b⟩ :: r)) = _
    rw [if_neg (by show ¬ (((2 : Int) == 4) && _) = true; simp)]
    exact numT_ok r (by rw [List.nil_append, sI_uI _ (by omega), hrt])
  · rw [e] at hk hf ⊢
    obtain ⟨_, ht, n1, n2, n3, n4, _⟩ := fits_one (k := 3) (by decide) hf
    have hrt := rt_num (k := 3) (by simp) hb hf
    rw [text_3 hk hf] at hrt
    refine ⟨nv 3 n.v.b, ?_, sc_nv hk ht n1 n2 n3 n4⟩
    unfold tkV valT
    rw [if_neg (show ¬ n.v.k = 1 by rw [hk]; decide), if_neg (show ¬ n.v.k = 7 by rw [hk]; decide), if_pos (show (3 : Int) = 4 ∨ (3 : Int) = 3 from .inr rfl)]
    by_cases hs : sgnN ≤ n.v.b
    · rw [if_pos hs] at hrt
      have hs2 : 9223372036854775808 ≤ n.v.b := hs
      rw [if_pos ⟨hk, hs⟩]
      show (if isSg ⟨4, [45], 0⟩ 45 = true then numT 3 1 [45] (⟨2, [], TokS.sI (18446744073709551616 - n.v.b)⟩ :: r) else _) = _
      rw [if_pos (by decide)]
      exact numT_ok r (by rw [sI_uI _ (by omega), List.singleton_append, hrt])
    · rw [if_neg hs] at hrt
      rw [if_neg (fun c => hs c.2)]
      show (if isSg ⟨2, [], TokS.sI n.v.b⟩ 45 = true then _ else numT 3 0 [] (⟨2, [], TokS.sI n.v.b⟩ :: r)) = _
      rw [if_neg (by show ¬ (((2 : Int) == 4) && _) = true; simp)]
      exact numT_ok r (by rw [List.nil_append, sI_uI _ (by omega), hrt])
theorem one1_back {n : Nt} (h : rightB n = true) (hb : n.v.b ≤ 18446744073709551615) (r : List TokM.Tok) : ∃ X, one1 (tkN n ++ r) = .ok ((n.nm, X), (tkN n).length) ∧ sc X = n.v := by
  obtain ⟨X, h1, h2⟩ := val_back h hb r
  refine ⟨X, ?_, h2⟩
  unfold tkN one1
  rw [List.cons_append]
  simp only
  rw [if_neg (by simp), if_neg (right_parts h).1, List.cons_append]
  simp only
  rw [if_neg (by decide), h1]
  simp only [List.length_cons]
  congr 2
  omega
theorem drop_len {α : Type} (a b : List α) : (a ++ b).drop a.length = b := List.drop_left
def ntOf (q : Pair) : Nt := ⟨q.1, sc q.2⟩
theorem rd_back : ∀ (l : List Nt) (n : Nt) (p : Nat) (more : List TokM.Tok), (∀ m ∈ n :: l, rightB m = true ∧ m.v.b ≤ 18446744073709551615) →
    ∃ Q, rd p (tkN n ++ ((l.flatMap fun m => comma :: tkN m) ++ closing :: more)) = .ok (Q, p + (tkN n ++ (l.flatMap fun m => comma :: tkN m)).length + 1) ∧ Q.map ntOf = n :: l
  | [], n, p, more, h => by
    obtain ⟨h1, h2⟩ := h n (by simp)
    rw [List.flatMap_nil, List.nil_append, List.append_nil]
    obtain ⟨X, e1, e2⟩ := one1_back h1 h2 (closing :: more)
    refine ⟨[(n.nm, X)], rd_close e1 (drop_len _ _) (by decide), ?_⟩
    show [ntOf (n.nm, X)] = [n]
    unfold ntOf
    simp only [e2]
  | m :: l, n, p, more, h => by
    obtain ⟨h1, h2⟩ := h n (by simp)
    obtain ⟨X, e1, e2⟩ := one1_back h1 h2 (((m :: l).flatMap fun m => comma :: tkN m) ++ closing :: more)
    obtain ⟨Q, q1, q2⟩ := rd_back l m (p + (tkN n).length + 1) more (fun x hx => h x (by simp only [List.mem_cons] at hx ⊢; exact .inr hx))
    refine ⟨(n.nm, X) :: Q, ?_, ?_⟩
    · rw [rd_more e1 (z := comma) (r := tkN m ++ ((l.flatMap fun m => comma :: tkN m) ++ closing :: more)) (by rw [drop_len, List.flatMap_cons]; simp) (by decide) (by decide), q1]
      simp only [Except.map, Except.ok.injEq, Prod.mk.injEq, true_and]
      simp only [List.flatMap_cons, List.length_append, List.length_cons]
      omega
    · rw [List.map_cons, q2]
      congr 1
      unfold ntOf
      simp only [e2]
/-- What was written is read again, whatever stands before and behind. -/
theorem read_back {l : List Nt} (hl : l ≠ []) (h : ∀ n ∈ l, rightB n = true ∧ n.v.b ≤ 18446744073709551615) (before behind : List TokM.Tok) :
    ∃ Q, readN (before ++ (tkT l ++ behind)) before.length = (Q, ((before.length + (tkT l).length : Nat) : Int), 0) ∧ Q.map ntOf = l := by
  cases l with
  | nil => exact absurd rfl hl
  | cons n r =>
    have e1 : (before ++ (tkT (n :: r) ++ behind))[before.length]? = some opening := by
      rw [List.getElem?_append_right (Nat.le_refl _), Nat.sub_self]
      rfl
    have e2 : (before ++ (tkT (n :: r) ++ behind)).drop (before.length + 1) = tkN n ++ ((r.flatMap fun m => comma :: tkN m) ++ closing :: behind) := by
      rw [← List.drop_drop, List.drop_left]
      unfold tkT tkB
      simp
    obtain ⟨Q, q1, q2⟩ := rd_back r n (before.length + 1) behind h
    refine ⟨Q, ?_, q2⟩
    unfold readN
    have hs : sgAt (before ++ (tkT (n :: r) ++ behind)) before.length 91 = true := by
      unfold sgAt
      rw [Int.toNat_natCast, e1]
      simp [opening, isSg]
    rw [if_pos hs, Int.toNat_natCast, e2, q1]
    simp only [Prod.mk.injEq, true_and, and_true]
    unfold tkT tkB
    simp only [List.length_cons, List.length_append, List.length_nil]
    omega
end Go.Proofs.YthjpchnogllliaaGreatDoor.NotR
