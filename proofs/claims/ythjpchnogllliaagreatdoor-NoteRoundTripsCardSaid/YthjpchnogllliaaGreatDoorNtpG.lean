import Derived.Test.YthjpchnogllliaaGreatDoorNtpW
import Derived.Test.YthjpchnogllliaaGreatDoorNtrI
import Derived.Test.YthjpchnogllliaaGreatDoorOwnN
/- The program of stage 8, reading: what it finds, said plainly. -/
set_option linter.unusedSimpArgs false
set_option linter.unusedVariables false
namespace Go.Proofs.YthjpchnogllliaaGreatDoor.NtpY
open Go.RowKit Nums ScaM ScaV ScaB ScaW ScaX ScaY Val NotM NotR NotK NtrB NtrF NtrG NtrH NtrI TkrF Box NtpQ NtpR NtpU NtpV NtpW

/-- A plain outcome as the program gives it. -/
def pl (z : Int) (x : Except (Nat × Int) (SV × Nat)) : SV × Int × Int := match x with
  | .error q => (zv 0, z + q.1, q.2)
  | .ok q => (q.1, z + q.2, 0)
theorem bo_join (m : Mt) (z : Int) : fin (boV m) z = pl z (boolT m.tok) := by
  unfold boV boolT
  show fin (if m.kd = 1 then _ else _) z = pl z (if m.kd = 1 ∧ m.t.data.toList = trueT then _ else if m.kd = 1 ∧ m.t.data.toList = falseT then _ else _)
  by_cases hk : m.kd = 1
  · rw [if_pos hk]
    unfold PrsP.pbP
    rw [show PrsP.falseL = falseT from rfl, show PrsP.trueL = trueT from rfl]
    by_cases hf : m.t.data.toList = falseT
    · rw [if_pos hf, if_neg (fun h => by rw [hf] at h; exact absurd h.2 (by decide)), if_pos ⟨hk, hf⟩]
      rfl
    · rw [if_neg hf]
      by_cases ht : m.t.data.toList = trueT
      · rw [if_pos ht, if_pos ⟨hk, ht⟩]
        rfl
      · rw [if_neg ht, if_neg (fun h => ht h.2), if_neg (fun h => hf h.2)]
        unfold fin pl
        show (if (2 : Int) ≠ 0 then _ else _) = _
        rw [if_pos (by decide)]
        simp [ScpD.finB]
  · rw [if_neg hk, if_neg (fun h => hk h.1), if_neg (fun h => hk h.1)]
    unfold fin pl
    show (if (2 : Int) ≠ 0 then _ else _) = _
    rw [if_pos (by decide)]
    simp
theorem pl_bad (z : Int) (a : Nat) (e : Int) (he : e ≠ 0) : fin (zv 0, e) z = (zv 0, z, e) := by
  unfold fin
  rw [if_pos he]
theorem tx_join (m : Mt) (z : Int) : fin (txV m) z = pl z (textT 7 m.tok) := by
  have htv : ScaT.tv 7 m.t.data.toList = ⟨7, 0, m.t, none, 0, 0, none, 0, 0, none, 0, 0, none, 0, 0⟩ := rfl
  have hlen : m.t.data.toList.length = m.t.size := rfl
  unfold txV textT
  show fin _ z = pl z (if m.kd ≠ 3 then _ else if 4096 < m.t.data.toList.length then _ else if fitsB 7 (sc (ScaT.tv 7 m.t.data.toList)) = true then .ok (ScaT.tv 7 m.t.data.toList, 1) else _)
  rw [htv, hlen]
  by_cases hk : m.kd ≠ 3
  · rw [if_pos hk, if_pos hk, pl_bad z 0 2 (by decide)]
    simp [pl]
  · rw [if_neg hk, if_neg hk]
    by_cases hs : 4096 < m.t.size
    · rw [if_pos hs, if_pos hs, pl_bad z 0 3 (by decide)]
      simp [pl]
    · rw [if_neg hs, if_neg hs]
      by_cases hf : fitsB 7 (sc ⟨7, 0, m.t, none, 0, 0, none, 0, 0, none, 0, 0, none, 0, 0⟩) = true
      · rw [if_pos hf, if_pos hf]; rfl
      · rw [if_neg hf, if_neg hf, pl_bad z 0 7 (by decide)]
        simp [pl]
theorem in_join {k : Int} (hk : k = 4 ∨ k = 3) (n : Nat) (q : List UInt8) (m : Mt) (r : List TokM.Tok) (z : Int) : fin (inV k q m) (z + n) = pl z (numT k n q (m.tok :: r)) := by
  unfold inV
  rw [par_whole hk, show numT k n q (m.tok :: r) = if m.kd = 2 then (if (wholeS k (q ++ ScaM.dec (TokS.uI m.nu))).2 = 0 then .ok ((wholeS k (q ++ ScaM.dec (TokS.uI m.nu))).1, n + 1) else .error (n, (wholeS k (q ++ ScaM.dec (TokS.uI m.nu))).2)) else .error (n, 2) from rfl]
  by_cases h2 : m.kd = 2
  · rw [if_pos h2, if_pos h2]
    generalize wholeS k (q ++ ScaM.dec (TokS.uI m.nu)) = C
    by_cases he : C.2 = 0
    · rw [if_pos he]
      unfold fin pl
      rw [if_neg (not_not_intro he)]
      have : z + (n : Int) + 1 = z + ((n + 1 : Nat) : Int) := by omega
      rw [this]
    · rw [if_neg he]
      unfold fin pl
      rw [if_pos he]
  · rw [if_neg h2, if_neg h2, pl_bad (z + n) 0 2 (by decide)]
    rfl
theorem at_some {l : List Mt} {j : Nat} {m : Mt} (h : l[j]? = some m) : atT l (j : Int) = m := by
  unfold atT
  rw [if_pos (by omega), Int.toNat_natCast, h]
  rfl
theorem at_none {l : List Mt} {j : Nat} (h : l[j]? = none) : atT l (j : Int) = tk0 := by
  unfold atT
  rw [if_pos (by omega), Int.toNat_natCast, h]
  rfl
theorem map_some {l : List Mt} {j : Nat} {m : Mt} (h : l[j]? = some m) : (l.map Mt.tok)[j]? = some m.tok := by rw [List.getElem?_map, h]; rfl
theorem map_none {l : List Mt} {j : Nat} (h : l[j]? = none) : (l.map Mt.tok).length ≤ j := by
  rw [List.length_map]
  exact List.getElem?_eq_none_iff.1 h
theorem bo_0 : boolT tk0.tok = .error (0, 2) := by
  unfold boolT
  rw [if_neg (fun h => absurd (show (0 : Int) = 1 from h.1) (by decide)), if_neg (fun h => absurd (show (0 : Int) = 1 from h.1) (by decide))]
theorem tx_0 : textT 7 tk0.tok = .error (0, 2) := by
  unfold textT
  exact if_pos (show tk0.tok.kind ≠ 3 by decide)
theorem nu_0 (k : Int) (n : Nat) (q : List UInt8) : numT k n q [tk0.tok] = .error (n, 2) := by
  unfold numT
  exact if_neg (show ¬ tk0.tok.kind = 2 by decide)
theorem num_join {k : Int} (hk : k = 4 ∨ k = 3) (l : List Mt) (n j : Nat) (q : List UInt8) (z : Int) : fin (inV k q (atT l ((j : Nat) : Int))) (z + n) = pl z (numT k n q ((l.map Mt.tok).drop j)) := by
  cases e : l[j]? with
  | some m => rw [at_some e, drop_x (map_some e)]; exact in_join hk n q m _ z
  | none => rw [at_none e, num_end (map_none e), in_join hk n q tk0 [] z, nu_0]
/-- The value that is read. -/
theorem rv_join {k : Int} (hk : k = 1 ∨ k = 7 ∨ k = 4 ∨ k = 3) (l : List Mt) (j : Nat) : rvV k l (j : Int) = pl j (valT k ((l.map Mt.tok).drop j)) := by
  unfold rvV
  by_cases h1 : k = 1
  · subst h1
    rw [if_pos rfl]
    have h43 : ¬ ((1 : Int) = 4 ∨ (1 : Int) = 3) := by omega
    cases e : l[j]? with
    | some m => rw [at_some e, val_at h43 (map_some e), if_pos rfl]; exact bo_join m j
    | none => rw [at_none e, val_end h43 (map_none e), bo_join, bo_0]
  · rw [if_neg h1]
    by_cases h7 : k = 7
    · subst h7
      rw [if_pos rfl]
      have h43 : ¬ ((7 : Int) = 4 ∨ (7 : Int) = 3) := by omega
      cases e : l[j]? with
      | some m => rw [at_some e, val_at h43 (map_some e), if_neg h1]; exact tx_join m j
      | none => rw [at_none e, val_end h43 (map_none e), tx_join, tx_0]
    · rw [if_neg h7]
      have hk2 : k = 4 ∨ k = 3 := by omega
      rw [val_num hk2, at_sg]
      cases hs : sgAt (l.map Mt.tok) (j : Int) 45 with
      | true =>
        rw [if_pos rfl]
        obtain ⟨y, hy, hy2⟩ := sg_some hs
        rw [nv_hit hy hy2]
        exact num_join hk2 l 1 (j + 1) [45] j
      | false =>
        rw [if_neg (by simp), nv_miss hs]
        have := num_join hk2 l 0 j [] j
        rw [show (j : Int) + ((0 : Nat) : Int) = j by simp] at this
        exact this
theorem one_err {ts : Toks} {q : Nat × Int} (h : one1 ts = .error q) : q.2 ≠ 0 := by
  cases ts with
  | nil => cases h; show (2 : Int) ≠ 0; decide
  | cons x r =>
    unfold one1 at h
    simp only at h
    split at h
    · cases h; show (2 : Int) ≠ 0; decide
    · split at h
      · cases h; show (8 : Int) ≠ 0; decide
      · split at h
        · cases h; show (2 : Int) ≠ 0; decide
        · split at h
          · cases h; show (2 : Int) ≠ 0; decide
          · split at h
            · rename_i q1 hv
              have hne : q1.2 ≠ 0 := valT_err hv
              cases h
              exact hne
            · cases h
theorem o_end {ts : Toks} {p : Nat} (h : ts.length ≤ p) : one1 (ts.drop p) = .error (0, 2) := by rw [List.drop_of_length_le h]; rfl
theorem o_kind {ts : Toks} {p : Nat} {x : TokM.Tok} (h : ts[p]? = some x) (hk : x.kind ≠ 1) : one1 (ts.drop p) = .error (0, 2) := by
  rw [drop_x h]; unfold one1; exact if_pos hk
theorem o_name {ts : Toks} {p : Nat} {x : TokM.Tok} (h : ts[p]? = some x) (hk : x.kind = 1) (hn : kindN x.text = 0) : one1 (ts.drop p) = .error (0, 8) := by
  rw [drop_x h]; unfold one1; simp only; rw [if_neg (not_not_intro hk), if_pos hn]
theorem o_eq {ts : Toks} {p : Nat} {x : TokM.Tok} (h : ts[p]? = some x) (hk : x.kind = 1) (hn : kindN x.text ≠ 0) (hs : sgAt ts ((p + 1 : Nat) : Int) 61 = false) : one1 (ts.drop p) = .error (1, 2) := by
  rw [drop_x h]
  unfold one1
  simp only
  rw [if_neg (not_not_intro hk), if_neg hn]
  rcases sg_no hs with e | ⟨y, e, hy⟩
  · rw [e]
  · rw [drop_x e]
    simp only
    rw [if_pos hy]
/-- What readNote gives, said plainly. -/
def Jn (R : Mn × Int × Int) (j : Nat) (x : Except (Nat × Int) (Pair × Nat)) : Prop := match x with
  | .error q => R.2.1 = ((j + q.1 : Nat) : Int) ∧ R.2.2 = q.2 ∧ q.2 ≠ 0
  | .ok q => R = (mkN q.1, ((j + q.2 : Nat) : Int), 0)
theorem rn_join (l : List Mt) (j : Nat) : Jn (rnV l (j : Int)) j (one1 ((l.map Mt.tok).drop j)) := by
  unfold rnV
  cases e : l[j]? with
  | none =>
    rw [at_none e, o_end (map_none e), if_pos (show tk0.kd ≠ 1 by decide)]
    exact ⟨by simp, rfl, by simp⟩
  | some m =>
    rw [at_some e]
    by_cases h1 : m.kd = 1
    · rw [if_neg (not_not_intro h1)]
      by_cases h0 : kindN m.t.data.toList = 0
      · rw [if_pos h0, o_name (map_some e) h1 h0]
        exact ⟨by simp, rfl, by simp⟩
      · rw [if_neg h0, at_sg]
        cases hs : sgAt (l.map Mt.tok) ((j : Int) + 1) 61 with
        | false =>
          rw [if_neg (by simp), o_eq (map_some e) h1 h0 hs]
          exact ⟨by simp, rfl, by simp⟩
        | true =>
          rw [if_pos rfl]
          have hov := o_val (map_some e) h1 h0 hs
          have hc : kindN m.t.data.toList = 1 ∨ kindN m.t.data.toList = 7 ∨ kindN m.t.data.toList = 4 ∨ kindN m.t.data.toList = 3 := by
            rcases kind_cases m.t.data.toList with c | c | c | c | c
            · exact absurd c h0
            all_goals omega
          have hj := rv_join hc l (j + 2)
          rw [show ((j + 2 : Nat) : Int) = (j : Int) + 1 + 1 by omega] at hj
          rw [hj, hov]
          show Jn _ j (match valT (kindN m.t.data.toList) ((l.map Mt.tok).drop (j + 2)) with
            | .error q => .error (2 + q.1, q.2)
            | .ok q => .ok ((m.t.data.toList, q.1), 2 + q.2))
          cases hv : valT (kindN m.t.data.toList) ((l.map Mt.tok).drop (j + 2)) with
          | error q =>
            have hne : q.2 ≠ 0 := valT_err hv
            exact ⟨by simp [pl]; omega, rfl, hne⟩
          | ok q =>
            show ((⟨m.t, q.1⟩, (j : Int) + 1 + 1 + q.2, 0) : Mn × Int × Int) = (⟨⟨m.t.data.toList.toArray⟩, q.1⟩, ((j + (2 + q.2) : Nat) : Int), 0)
            rw [show (j : Int) + 1 + 1 + q.2 = ((j + (2 + q.2) : Nat) : Int) by omega]
    · rw [if_pos h1, o_kind (map_some e) h1]
      exact ⟨by simp, rfl, by simp⟩
end Go.Proofs.YthjpchnogllliaaGreatDoor.NtpY

/- The program of stage 8: Read gives what reading annotations gives. -/
set_option linter.unusedSimpArgs false
set_option linter.unusedVariables false
namespace Go.Proofs.YthjpchnogllliaaGreatDoor.NtpG
open Go.RowKit Nums ScaM ScaV ScaB ScaW ScaX ScaY Val NotM NotR NotK OwnN NtrB NtrF NtrG NtrH NtrI TkrF Box NtpQ NtpV NtpW NtpA NtpB NtpY MapL

theorem val_small {k : Int} {ts : Toks} {q : SV × Nat} (h : valT k ts = .ok q) : q.2 ≤ 2 := by
  have hnum : ∀ (m : Nat) (z : List UInt8) (us : Toks), m ≤ 1 → numT k m z us = .ok q → q.2 ≤ 2 := by
    intro m z us hm hh
    cases us with
    | nil => cases hh
    | cons x r =>
      unfold numT at hh
      simp only at hh
      split at hh
      · split at hh
        · cases hh
          show m + 1 ≤ 2
          omega
        · cases hh
      · cases hh
  by_cases h43 : k = 4 ∨ k = 3
  · rw [val_num h43] at h
    unfold nvT at h
    cases ts with
    | nil => cases h
    | cons x r =>
      simp only at h
      split at h
      · exact hnum _ _ _ (by omega) h
      · exact hnum _ _ _ (by omega) h
  · unfold valT at h
    rw [if_neg h43] at h
    cases ts with
    | nil => cases h
    | cons x r =>
      simp only at h
      split at h
      · unfold boolT at h
        split at h
        · cases h; show 1 ≤ 2; omega
        · split at h
          · cases h; show 1 ≤ 2; omega
          · cases h
      · unfold textT at h
        split at h
        · cases h
        · split at h
          · cases h
          · split at h
            · cases h; show 1 ≤ 2; omega
            · cases h
theorem one_small {ts : Toks} {q : Pair × Nat} (h : one1 ts = .ok q) : q.2 ≤ 4 := by
  cases ts with
  | nil => cases h
  | cons x r =>
    unfold one1 at h
    simp only at h
    split at h
    · cases h
    · split at h
      · cases h
      · split at h
        · cases h
        · split at h
          · cases h
          · split at h
            · cases h
            · rename_i o hv
              have := val_small hv
              cases h
              show 2 + o.2 ≤ 4
              omega

set_option maxHeartbeats 8000000 in
set_option maxRecDepth 100000 in
theorem pread (v : Value) (l : List Mt) (z : Int) (w : World) (hL : Tld.Ld w) (hk : KnT w v l) (hl : l.length ≤ 100000) (hz : -9223372036854775808 ≤ z ∧ z ≤ 9223372036854775807) (hok : ∀ m ∈ l, m.ok) :
    Calls Tryz.prog 6 #[v, .int .i64 z] w fun e w' => RN (l.map Mt.tok) z w e w' := by
  obtain ⟨i0, hi, hz0, hz1, hz2⟩ := info_parts infoN
  have HT : Hid (∀ (W : World) (y : Int), Below w.heap.size w W → (-9223372036854775808 ≤ y ∧ y ≤ 9223372036854775807) → Calls Tryz.prog 15 #[v, .int .i64 y] W fun e w' => e = .returned (tt (atT l y)) ∧ Below W.heap.size W w') := Lib.hid (fun W y hW hy => tokenAt_p v l y W (hk.below hW) hl hy)
  have HI : Hid (∀ (m : Mt) (s : ByteArray) (c : UInt8) (W : World), s.data.toList = [c] → Calls Tryz.prog 14 #[.agg #[.int .i64 m.kd, .string m.t, .int .i64 m.nu, .int .i64 m.ln], .string s] W fun e w' => e = .returned (.bool (isSg m.tok c)) ∧ Below W.heap.size W w') := Lib.hid (fun m s c W hs => isSign_p m s c hs W)
  have HRN : Hid (∀ (W3 : World) (b : Nat), Below w.heap.size w W3 → Rul W3 b → ∀ (W : World) (j : Nat), Below W3.heap.size W3 W → j ≤ 100001 → Calls Tryz.prog 17 #[.map (some b), v, .int .i64 ((j : Int) + 1)] W fun e w' => e = .returned (.tuple #[nn (rnV l ((j : Int) + 1)).1, .int .i64 (rnV l ((j : Int) + 1)).2.1, .int .i64 (rnV l ((j : Int) + 1)).2.2]) ∧ Below W.heap.size W w') :=
    Lib.hid (fun W3 b h3 hR W j hW hj => readNote_p b v l _ W (hR.below hW) ((hk.below h3).below hW) hl (by omega) hok ((hL.below h3).below hW))
  obtain ⟨T, hT⟩ : ∃ T, T = l.map Mt.tok := ⟨_, rfl⟩
  obtain ⟨m0, hm0⟩ : ∃ m, m = atT l z := ⟨_, rfl⟩
  have HT0 := Lib.hid (HT.out w z (Below.refl _ _) hz)
  have hs0 : isSg m0.tok 91 = sgAt T z 91 := by rw [hm0, hT]; exact at_sg l z 91
  rw [← hm0] at HT0
  unfold tt at HT0
  rw [← hT]
  have hTl : T.length = l.length := by rw [hT, List.length_map]
  have HTT := Lib.hid hT
  have HTl := Lib.hid hTl
  clear hT hTl hm0 hL hk hok
  cases hsz : sgAt T z 91 with
  | false =>
    have HE := Lib.hid (show readN T z = ([], z, 0) by unfold readN; rw [if_neg (by rw [hsz]; simp)])
    have HS := Lib.hid (hs0.trans hsz)
    clear hsz hs0
    go_enter Tryz.func6, Tryz.ntmps6
    go_wp2_with fail
    refine (HT0.out).mono ?_
    rintro _ w1 ⟨rfl, hb1⟩
    go_wp2_with fail
    refine (HI.out m0 ⟨#[91]⟩ 91 _ rfl).mono ?_
    rintro _ w2 ⟨rfl, hb2⟩
    rw [HS.out]
    go_wp2_with fail
    go_ret3
    exact ⟨_, _, _, [], rfl, known_nil _, HE.out, hb1.trans (hb2.mono hb1.size)⟩
  | true =>
    obtain ⟨k, rfl⟩ : ∃ k : Nat, z = k := by
      unfold sgAt at hsz
      rw [Bool.and_eq_true, decide_eq_true_eq] at hsz
      exact ⟨z.toNat, by omega⟩
    obtain ⟨y0, hy0, _⟩ := sg_some hsz
    have hk0 : k < l.length := by rw [← HTl.out]; exact (List.getElem?_eq_some_iff.1 hy0).1
    obtain ⟨X, hX⟩ : ∃ X, X = rd (k + 1) (T.drop (k + 1)) := ⟨_, rfl⟩
    have HX := Lib.hid hX
    have HS := Lib.hid (hs0.trans hsz)
    have Hsz := Lib.hid hsz
    clear hsz hs0 hy0 hX
    go_enter Tryz.func6, Tryz.ntmps6
    go_wp2_with fail
    refine (HT0.out).mono ?_
    rintro _ w1 ⟨rfl, hb1⟩
    go_wp2_with fail
    refine (HI.out m0 ⟨#[91]⟩ 91 _ rfl).mono ?_
    rintro _ w2 ⟨rfl, hb2⟩
    rw [HS.out]
    go_wp2_with fail
    refine (rules_any _).mono ?_
    rintro _ w3 ⟨b, rfl, hR, hb3⟩
    have hb02 := hb1.trans (hb2.mono hb1.size)
    have hb03 := hb02.trans (hb3.mono hb02.size)
    have HRN3 := Lib.hid (HRN.out w3 b hb03 hR)
    have HT3 : Hid (∀ (W : World) (y : Int), Below w3.heap.size w3 W → (-9223372036854775808 ≤ y ∧ y ≤ 9223372036854775807) → Calls Tryz.prog 15 #[v, .int .i64 y] W fun e w' => e = .returned (tt (atT l y)) ∧ Below W.heap.size W w') := Lib.hid (fun W y hW hy => HT.out W y (hb03.trans (hW.mono hb03.size)) hy)
    have HB0 := Lib.hid hb03
    clear hb1 hb2 hb3 hb02 hb03 hR HRN HT HT0
    go_wp2_with fail
    go_loopw [1, 8] (fun av ov wr => ∃ (p : Nat) (O : List Pair) (v' : Value), p < l.length ∧ O.length ≤ p ∧ av = .int .i64 p ∧ ov = v' ∧ Hid (OwnN wr w3.heap.size v' (O.map mkN)) ∧ Hid (Below w3.heap.size w3 wr) ∧ Hid (X = preR O (rd (p + 1) (T.drop (p + 1))))) (fun av _ _ => l.length + 1 - (intOf av).toNat)
    case atStart => exact ⟨k, [], _, hk0, by simp, rfl, rfl, Lib.hid (OwnN.nil _ _), Lib.hid (Below.refl _ _), Lib.hid (by
      rw [HX.out]
      cases rd (k + 1) (T.drop (k + 1)) <;> rfl)⟩
    case round =>
      obtain ⟨p, O, v', hp, hO, rfl, rfl, HO, HB, Hx⟩ := hrel
      have HBw := Lib.hid (HB0.out.trans (HB.out.mono HB0.out.size))
      have HF := Lib.hid (HRN3.out wr p HB.out (by omega))
      have hJ : Jn (rnV l ((p : Int) + 1)) (p + 1) (one1 (T.drop (p + 1))) := by rw [HTT.out]; exact rn_join l (p + 1)
      obtain ⟨⟨⟨nt, ⟨xk, xb, xt, xa1, xl1, xc1, xa2, xl2, xc2, xa3, xl3, xc3, xa4, xl4, xc4⟩⟩, zz, er⟩, hC⟩ : ∃ C, C = rnV l ((p : Int) + 1) := ⟨_, rfl⟩
      rw [← hC] at HF hJ
      simp only [nn] at HF
      clear hC
      cases ho : one1 (T.drop (p + 1)) with
      | error q =>
        rw [ho] at hJ
        obtain ⟨hj1, hj2, hne⟩ : zz = ((p + 1 + q.1 : Nat) : Int) ∧ er = q.2 ∧ q.2 ≠ 0 := hJ
        have HE : Hid (X = .error (p + 1 + q.1, q.2)) := Lib.hid (by rw [Hx.out, rd_err ho, preR_err])
        have e1 : (er != 0) = true := by rw [bne_iff_ne, hj2]; exact hne
        have HR : Hid (readN T k = ([], zz, er)) := Lib.hid (by rw [read_err Hsz.out (HX.out.symm.trans HE.out), hj1, hj2])
        clear ho hne hj1 hj2 HE
        go_wp2_with fail
        refine (HF.out).mono ?_
        rintro _ w4 ⟨rfl, hb4⟩
        have HB4 := Lib.hid (HBw.out.trans (hb4.mono HBw.out.size))
        clear hb4
        go_wp2_with fail
        go_ret3
        exact ⟨_, _, _, [], rfl, known_nil _, HR.out, HB4.out.alloc HB4.out.size _⟩
      | ok q =>
        rw [ho] at hJ
        have hq4 := one_small ho
        obtain ⟨o, c⟩ := q
        have hJ2 : ((⟨nt, SV.mk xk xb xt xa1 xl1 xc1 xa2 xl2 xc2 xa3 xl3 xc3 xa4 xl4 xc4⟩, zz, er) : Mn × Int × Int) = (mkN o, ((p + 1 + c : Nat) : Int), 0) := hJ
        simp only [Prod.mk.injEq] at hJ2
        obtain ⟨hq1, hzz, her⟩ := hJ2
        subst hzz her
        simp only at hq4
        have HQ1 := Lib.hid hq1
        have Ho := Lib.hid ho
        obtain ⟨m5, hm5⟩ : ∃ m, m = atT l ((p + 1 + c : Nat) : Int) := ⟨_, rfl⟩
        have HT5 : Hid (∀ W : World, Below w3.heap.size w3 W → Calls Tryz.prog 15 #[v, .int .i64 ((p + 1 + c : Nat) : Int)] W fun e w' => e = .returned (tt (atT l ((p + 1 + c : Nat) : Int))) ∧ Below W.heap.size W w') := Lib.hid (fun W hW => HT3.out W _ hW (by omega))
        have H93 := Lib.hid (show isSg m5.tok 93 = sgAt T ((p + 1 + c : Nat) : Int) 93 by rw [hm5, HTT.out]; exact at_sg l _ 93)
        have H44 := Lib.hid (show isSg m5.tok 44 = sgAt T ((p + 1 + c : Nat) : Int) 44 by rw [hm5, HTT.out]; exact at_sg l _ 44)
        rw [← hm5] at HT5
        unfold tt at HT5
        clear hJ ho hm5 hq1
        have hpc : ((p + 1 + c : Nat) : Int) ≤ 9223372036854775806 := by omega
        have hpc0 : 0 ≤ ((p + 1 + c : Nat) : Int) := by omega
        have Hdd := Lib.hid (show (T.drop (p + 1)).drop c = T.drop (p + 1 + c) by rw [List.drop_drop])
        obtain ⟨r, hr⟩ : ∃ r, r = p + 1 + c := ⟨_, rfl⟩
        have Hr := Lib.hid hr
        rw [← hr] at HT5 H93 H44 HF Hdd hpc hpc0
        clear hr
        go_wp2_with fail
        refine (HF.out).mono ?_
        rintro _ w4 ⟨rfl, hb4⟩
        have HB4 := Lib.hid (HB.out.trans (hb4.mono HB.out.size))
        have HWW : Hid (Below wr.heap.size wr (w4.alloc (.cells #[.string nt, .int .i64 xk, .int .u64 xb, .string xt, .slice xa1 xl1 xc1, .slice xa2 xl2 xc2, .slice xa3 xl3 xc3, .slice xa4 xl4 xc4] 44))) := Lib.hid (hb4.alloc hb4.size _)
        clear hb4
        go_wp2_with (at_builtin; refine wpList_append_own _ rfl _ _ 24 rfl w3.heap.size 44 i0 (.agg #[.string ByteArray.empty, .int .i64 0, .int .u64 0, .string ByteArray.empty, .slice none 0 0, .slice none 0 0, .slice none 0 0, .slice none 0 0]) 8 144 Tryz.underlying24 hi hz0 hz1 hz2 rfl (by decide) _ (O.map mkN).length _ rfl (World.ownsRow.alloc (OwnN.below HO.out ?hbw) _) ⟨w4.heap.size + 1, 0, none⟩ 1 1 (fields ⟨nt, SV.mk xk xb xt xa1 xl1 xc1 xa2 xl2 xc2 xa3 xl3 xc3 xa4 xl4 xc4⟩) rfl rfl ?c1 ?c2 ?c3 ?c4 ?c5 ?_)
        case c1 =>
          intro j u hj
          first | exact hj | (refine new_cells _ ⟨nt, SV.mk xk xb xt xa1 xl1 xc1 xa2 xl2 xc2 xa3 xl3 xc3 xa4 xl4 xc4⟩ _ _ ?_ j u hj; simp)
        case c2 => exact fields_flat ⟨nt, SV.mk xk xb xt xa1 xl1 xc1 xa2 xl2 xc2 xa3 xl3 xc3 xa4 xl4 xc4⟩
        case c3 => rw [List.length_map]; unfold maxLen; omega
        case c4 => rw [List.length_map]; omega
        case c5 => have := HB4.out.size; (try simp); omega
        case hbw => exact HWW.out
        intro v3 w5 hown' hgrow _
        have hB5 : Below w3.heap.size w3 w5 := ((HB.out.trans (HWW.out.mono HB.out.size)).alloc (by have := HB4.out.size; simp; omega) _).grown hgrow (by have := HB4.out.size; simp; omega) (fun g hg => (HO.out.lt g hg).1)
        obtain ⟨O2, ho2⟩ : ∃ O2 : List Pair, O2 = O ++ [o] := ⟨_, rfl⟩
        have hol2 : O2.length ≤ p + 1 := by rw [ho2]; simp; omega
        have HO2 : Hid (OwnN w5 w3.heap.size v3 (O2.map mkN)) := Lib.hid (by
          rw [ho2]
          unfold OwnN
          rw [List.map_append, List.length_append, List.flatMap_append, List.map_singleton, ← HQ1.out]
          first | exact hown' | simpa using hown')
        have HB5 := Lib.hid hB5
        have HE2 := Lib.hid ho2
        clear hown' hB5 hgrow ho2
        go_wp2_with fail
        refine (HT5.out w5 HB5.out).mono ?_
        rintro _ w6 ⟨rfl, hb6⟩
        have HB6 := Lib.hid (HB5.out.trans (hb6.mono HB5.out.size))
        have HB7 := Lib.hid (HB6.out.alloc HB6.out.size (.cells #[.int .i64 m5.kd, .string m5.t, .int .i64 m5.nu, .int .i64 m5.ln] 34))
        have HO7 := Lib.hid ((HO2.out.below hb6).below ((Below.refl _ _).alloc (Nat.le_refl _) (.cells #[.int .i64 m5.kd, .string m5.t, .int .i64 m5.nu, .int .i64 m5.ln] 34)))
        clear hb6
        go_wp2_with fail
        refine (HI.out m5 ⟨#[93]⟩ 93 _ rfl).mono ?_
        rintro _ w8 ⟨rfl, hb8⟩
        have HB8 := Lib.hid (HB7.out.trans (hb8.mono HB7.out.size))
        have HO8 := Lib.hid (HO7.out.below hb8)
        have C8 := (Box4.b4_new w6 (.int .i64 m5.kd) (.string m5.t) (.int .i64 m5.nu) (.int .i64 m5.ln) 34).below hb8
        have ⟨_, x0, x1, x2, x3, xf⟩ := C8
        obtain ⟨B93, hB93⟩ : ∃ B, isSg m5.tok 93 = B := ⟨_, rfl⟩
        rw [hB93]
        have HB93 := Lib.hid (H93.out.symm.trans hB93)
        clear hb8 hB93 C8
        cases B93 with
        | true =>
          have HE : Hid (X = .ok (O2, r + 1)) := Lib.hid (by
            obtain ⟨y, hy1, hy2⟩ := sg_some HB93.out
            rw [Hx.out, rd_close Ho.out (by rw [Hdd.out]; exact drop_x hy1) hy2, HE2.out, Hr.out]
            rfl)
          have HR : Hid (readN T k = (O2, (r : Int) + 1, 0)) := Lib.hid (by rw [read_ok Hsz.out (HX.out.symm.trans HE.out)]; rfl)
          go_wp2_with fail
          go_ret3
          exact ⟨_, _, _, O2, rfl, HO8.out.known, HR.out, HB0.out.trans (HB8.out.mono HB0.out.size)⟩
        | false =>
          go_wp2_with fail
          refine (HI.out m5 ⟨#[44]⟩ 44 _ rfl).mono ?_
          rintro _ w9 ⟨rfl, hb9⟩
          have HB9 := Lib.hid (HB8.out.trans (hb9.mono HB8.out.size))
          have HO9 := Lib.hid (HO8.out.below hb9)
          obtain ⟨B44, hB44⟩ : ∃ B, isSg m5.tok 44 = B := ⟨_, rfl⟩
          rw [hB44]
          have HB44 := Lib.hid (H44.out.symm.trans hB44)
          clear hb9 hB44 x0 x1 x2 x3 xf
          cases B44 with
          | false =>
            have HE : Hid (X = .error (r, 2)) := Lib.hid (by
              have h9 := HB93.out
              have h4 := HB44.out
              rw [Hx.out, Hr.out]
              rw [Hr.out] at h9 h4
              have hdd := Hdd.out
              rw [Hr.out] at hdd
              rcases sg_no h9 with e | ⟨y, e, hy⟩
              · rw [rd_end Ho.out (by rw [hdd]; exact e)]; rfl
              · rcases sg_no h4 with e5 | ⟨y5, e5, hy5⟩
                · rw [rd_end Ho.out (by rw [hdd]; exact e5)]; rfl
                · rw [e] at e5
                  cases e5
                  rw [rd_other Ho.out (by rw [hdd]; exact drop_x e) hy hy5]; rfl)
            have HR : Hid (readN T k = ([], (r : Int), 2)) := Lib.hid (by rw [read_err Hsz.out (HX.out.symm.trans HE.out)])
            go_wp2_with fail
            go_ret3
            exact ⟨_, _, _, [], rfl, known_nil _, HR.out, HB0.out.trans (HB9.out.mono HB0.out.size)⟩
          | true =>
            obtain ⟨y, hy1, hy2⟩ := sg_some HB44.out
            have hlt2 : r < l.length := by rw [← HTl.out]; exact (List.getElem?_eq_some_iff.1 hy1).1
            have hy9 : isSg y 93 = false := by
              rcases sg_no HB93.out with e | ⟨y5, e5, hy5⟩
              · rw [drop_x hy1] at e; cases e
              · rw [hy1] at e5; cases e5; exact hy5
            have HE : Hid (X = preR O2 (rd (r + 1) (T.drop (r + 1)))) := Lib.hid (by
              rw [Hx.out, rd_more Ho.out (by rw [Hdd.out]; exact drop_x hy1) hy9 hy2, preR_cons, HE2.out, Hr.out])
            have hrp : p < r := by have := Hr.out; omega
            clear hy1 hy2 hy9
            go_wp2_with fail
            exact ⟨⟨r, O2, _, hlt2, by omega, rfl, rfl, HO9, HB9, HE⟩, by simp [intOf]; omega⟩
end Go.Proofs.YthjpchnogllliaaGreatDoor.NtpG
