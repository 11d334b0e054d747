import Derived.Test.YtoinfjdhbopefaaGreatDoorTkpC
import Derived.Test.YtoinfjdhbopefaaGreatDoorTkrG
import Derived.Test.YtoinfjdhbopefaaGreatDoorUtfP
import Derived.Test.YtoinfjdhbopefaaGreatDoorFmtU
import Derived.Test.YtoinfjdhbopefaaGreatDoorBldP
/- Package token of the program: a token as it is written, what ends a line, Print. -/
set_option linter.unusedSimpArgs false
set_option linter.unusedVariables false
namespace Go.Proofs.YtoinfjdhbopefaaGreatDoor.TkpE
open Go.RowKit Nums IdnM IdnC TokM TokD TokS TokU TkrD TkrE TkrF TkrG TkpM TkpA TkpB TkpC Box4 BldP

theorem dec_digits (n : Nat) : Lib.decDigits n = ScaM.dec n := by
  induction n using Nat.strongRecOn with
  | _ n ih =>
    by_cases h : n < 10
    · rw [Lib.decDigits, dif_pos h, ScaM.dec_small h]
    · rw [Lib.decDigits, dif_neg h, ScaM.dec_large h, ih (n / 10) (by omega)]
/-- A token as the program writes it: a text that is too long alone is nothing. -/
def wrtP (k : Tok) : List UInt8 := if k.kind = 3 ∧ k.num = 0 ∧ 16384 ≤ k.text.length then [] else wrtn k
theorem wrtP_not {k : Tok} (h : ¬ (k.kind = 3 ∧ k.num = 0 ∧ 16384 ≤ k.text.length)) : wrtP k = wrtn k := if_neg h
theorem wrtP_long {k : Tok} (h : k.kind = 3 ∧ k.num = 0 ∧ 16384 ≤ k.text.length) : wrtP k = [] := if_pos h
theorem wrtP_eq {k : Tok} (h : wrtP k ≠ []) : wrtP k = wrtn k := by
  by_cases hc : k.kind = 3 ∧ k.num = 0 ∧ 16384 ≤ k.text.length
  · exact absurd (wrtP_long hc) h
  · exact wrtP_not hc
theorem pr_mem {k : Tok} : ∀ {l : List Tok}, k ∈ l → (wrtn k).length ≤ (pr l).length
  | [], h => by cases h
  | x :: l, h => by
    rw [pr, List.length_append, List.length_append]
    rcases List.mem_cons.1 h with rfl | h
    · omega
    · have := pr_mem h
      omega
theorem wrtP_no {l : List Tok} {k : Tok} (hm : k ∈ l) (h : wrtP k = []) : TokU.print l = [] := by
  by_cases hc : k.kind = 3 ∧ k.num = 0 ∧ 16384 ≤ k.text.length
  · apply long_no
    have h1 := pr_mem hm
    obtain ⟨kd, x, nu⟩ := k
    obtain ⟨h2, h3, h4⟩ := hc
    simp only at h2 h3 h4
    subst h2
    subst h3
    rw [wrtn_text, UtfQ.quote_len] at h1
    have := (UtfQ.body_le x).1
    omega
  · rw [wrtP_not hc] at h
    exact all_no hm h
def endP (k : Tok) : Bool := decide (k.kind = 4) && Lib.contains [59, 123, 125] k.text
theorem endP_eq {k : Tok} (h : wrtn k ≠ []) : endP k = endsLine k := by
  obtain ⟨kd, x, nu⟩ := k
  unfold endP endsLine
  by_cases h4 : kd = 4
  · subst h4
    by_cases h0 : nu = 0
    · subst h0
      rw [w_sign] at h ⊢
      match x with
      | [] => exact absurd rfl h
      | [b] =>
        have hs : TkrA.signB [b] = true := by
          cases e : TkrA.signB [b] with
          | true => rfl
          | false => rw [e] at h; exact absurd rfl h
        rw [hs, if_pos rfl]
        show (decide ((4 : Int) = 4) && Lib.contains [59, 123, 125] [b]) = _
        rw [contains_one]
        rw [Bool.eq_iff_iff]
        simp [or_assoc]
      | _ :: _ :: _ => exact absurd rfl h
    · exact absurd (w_num (by decide) h0) h
  · show (decide (kd = 4) && _) = (decide (kd = 4) && _)
    rw [decide_eq_false h4]
    rfl

set_option maxHeartbeats 2000000 in
set_option maxRecDepth 100000 in
theorem written_any (kd nu ln : Int) (t : ByteArray) (ht : t.size ≤ 1000000) (h1 : -9223372036854775808 ≤ nu) (h2 : nu ≤ 9223372036854775807) (w : World) (hL : Tld.Ld w) :
    Calls Tryz.prog 19 #[.agg #[.int .i64 kd, .string t, .int .i64 nu, .int .i64 ln]] w fun e w' => e = .returned (.string ⟨(wrtP ⟨kd, t.data.toList, nu⟩).toArray⟩) ∧ Below w.heap.size w w' := by
  obtain ⟨W, hW⟩ : ∃ W, W = wrtP ⟨kd, t.data.toList, nu⟩ := ⟨_, rfl⟩
  rw [← hW]
  have htl : t.data.toList.length = t.size := rfl
  by_cases k2 : kd = 2
  · subst k2
    rw [wrtP_not (by intro h; exact absurd h.1 (by show ¬ ((2 : Int) = 3); decide))] at hW
    by_cases hz : t.size = 0
    · have he : t.toList.isEmpty = true := empty_yes hz
      have hwu := wrap_uI nu h1 h2
      have hul := uI_le nu h1 h2
      have hW2 : W = Lib.decDigits (uI nu) := by rw [hW, data_nil hz, dec_digits]; rfl
      have HW := Lib.hid hW2
      clear hW hW2 h1 h2
      generalize uI nu = u at *
      go_enter Tryz.func19, Tryz.ntmps19
      go_wp2_with fail
      refine (FmtU.fmtU_any u hul _ (hL.alloc _).v.tab).mono ?_
      rintro _ w1 ⟨rfl, hb⟩
      rw [← HW.out]
      go_wp2_with fail
      go_ret
      exact ⟨rfl, ((Below.refl _ _).alloc (Nat.le_refl _) _).trans (hb.mono (by simp))⟩
    · have he : t.toList.isEmpty = false := empty_no hz
      have HW := Lib.hid (hW.trans (w_intx (data_ne hz)))
      clear hW
      cases en : (nu != 0) with
      | true =>
        go_enter Tryz.func19, Tryz.ntmps19
        go_wp2_with fail
        go_ret
        exact ⟨by rw [HW.out]; rfl, (Below.refl _ _).alloc (Nat.le_refl _) _⟩
      | false =>
        go_enter Tryz.func19, Tryz.ntmps19
        go_wp2_with fail
        go_ret
        exact ⟨by rw [HW.out]; rfl, (Below.refl _ _).alloc (Nat.le_refl _) _⟩
  · have e2 : (kd == 2) = false := by rw [beq_eq_false_iff_ne]; exact k2
    by_cases hn : nu = 0
    · have en : (nu != 0) = false := by rw [hn]; rfl
      rw [hn] at hW
      by_cases k1 : kd = 1
      · have e1 : (kd == 1) = true := by rw [k1]; rfl
        rw [wrtP_not (by intro h; exact absurd (k1.symm.trans h.1) (by decide)), k1, wrtn_nameP] at hW
        obtain ⟨ft, hft⟩ : ∃ ft, fitN t.data.toList = ft := ⟨_, rfl⟩
        rw [hft] at hW
        have Hft := Lib.hid hft
        have HW := Lib.hid hW
        clear hW k1 k2 hn hft
        go_enter Tryz.func19, Tryz.ntmps19
        go_wp2_with fail
        refine (isName_any t _ (hL.alloc _)).mono ?_
        rintro _ w1 ⟨rfl, hb⟩
        rw [Hft.out]
        have B := (b4_new w (.int .i64 kd) (.string t) (.int .i64 nu) (.int .i64 ln) 35).below hb
        obtain ⟨_, p0, p1, p2, p3, pf⟩ := B
        have hb1 := ((Below.refl _ _).alloc (Nat.le_refl _) _).trans (hb.mono (by simp))
        clear hb
        cases ft with
        | true =>
          go_wp2_with fail
          go_ret
          exact ⟨by rw [HW.out]; rfl, hb1⟩
        | false =>
          go_wp2_with fail
          go_ret
          exact ⟨by rw [HW.out]; rfl, hb1⟩
      · have e1 : (kd == 1) = false := by rw [beq_eq_false_iff_ne]; exact k1
        by_cases k3 : kd = 3
        · have e3 : (kd == 3) = true := by rw [k3]; rfl
          rw [k3] at hW
          by_cases h16 : 16384 ≤ t.size
          · have d16 : decide ((t.size : Int) < 16384) = false := decide_eq_false (by omega)
            rw [wrtP_long ⟨rfl, rfl, by show 16384 ≤ t.data.toList.length; omega⟩] at hW
            have HW := Lib.hid hW
            clear hW k1 k2 k3 hn
            go_enter Tryz.func19, Tryz.ntmps19
            go_wp2_with fail
            go_ret
            exact ⟨by rw [HW.out]; rfl, (Below.refl _ _).alloc (Nat.le_refl _) _⟩
          · have d16 : decide ((t.size : Int) < 16384) = true := decide_eq_true (by omega)
            rw [wrtP_not (by intro h; have := h.2.2; simp only at this; omega), wrtn_text] at hW
            have HW := Lib.hid hW
            clear hW k1 k2 k3 hn
            go_enter Tryz.func19, Tryz.ntmps19
            go_wp2_with fail
            refine (UtfP.quote_any t (by omega) _).mono ?_
            rintro _ w1 ⟨rfl, hb⟩
            go_wp2_with fail
            go_ret
            exact ⟨by rw [HW.out]; rfl, ((Below.refl _ _).alloc (Nat.le_refl _) _).trans (hb.mono (by simp))⟩
        · have e3 : (kd == 3) = false := by rw [beq_eq_false_iff_ne]; exact k3
          rw [wrtP_not (by intro h; exact k3 h.1)] at hW
          by_cases k4 : kd = 4
          · have e4 : (kd == 4) = true := by rw [k4]; rfl
            rw [k4, w_sign] at hW
            obtain ⟨sg, hsg⟩ : ∃ sg, TkrA.signB t.data.toList = sg := ⟨_, rfl⟩
            rw [hsg] at hW
            have Hsg := Lib.hid hsg
            have HW := Lib.hid hW
            clear hW k1 k2 k3 k4 hn hsg
            go_enter Tryz.func19, Tryz.ntmps19
            go_wp2_with fail
            refine (isSign_any t _ (hL.alloc _)).mono ?_
            rintro _ wz ⟨rfl, rfl⟩
            rw [Hsg.out]
            cases sg with
            | true =>
              go_wp2_with fail
              go_ret
              exact ⟨by rw [HW.out]; rfl, (Below.refl _ _).alloc (Nat.le_refl _) _⟩
            | false =>
              go_wp2_with fail
              go_ret
              exact ⟨by rw [HW.out]; rfl, (Below.refl _ _).alloc (Nat.le_refl _) _⟩
          · have e4 : (kd == 4) = false := by rw [beq_eq_false_iff_ne]; exact k4
            rw [w_other k2 k3 k4 k1] at hW
            have HW := Lib.hid hW
            clear hW k1 k2 k3 k4 hn
            go_enter Tryz.func19, Tryz.ntmps19
            go_wp2_with fail
            go_ret
            exact ⟨by rw [HW.out]; rfl, (Below.refl _ _).alloc (Nat.le_refl _) _⟩
    · have en : (nu != 0) = true := by rw [bne_iff_ne]; exact hn
      have HW := Lib.hid (show W = [] by
        rw [hW]
        by_cases hc : kd = 3 ∧ nu = 0 ∧ 16384 ≤ t.data.toList.length
        · exact wrtP_long hc
        · rw [wrtP_not hc, w_num k2 hn])
      clear hW k2 hn
      go_enter Tryz.func19, Tryz.ntmps19
      go_wp2_with fail
      go_ret
      exact ⟨by rw [HW.out]; rfl, (Below.refl _ _).alloc (Nat.le_refl _) _⟩

set_option maxHeartbeats 2000000 in
set_option maxRecDepth 100000 in
theorem endsLine_any (kd nu ln : Int) (t : ByteArray) (w : World) (hL : Tld.Ld w) :
    Calls Tryz.prog 21 #[.agg #[.int .i64 kd, .string t, .int .i64 nu, .int .i64 ln]] w fun e w' => e = .returned (.bool (endP ⟨kd, t.data.toList, nu⟩)) ∧ Below w.heap.size w w' := by
  obtain ⟨W, hW⟩ : ∃ W, W = endP ⟨kd, t.data.toList, nu⟩ := ⟨_, rfl⟩
  rw [← hW]
  by_cases k4 : kd = 4
  · have e4 : (kd == 4) = true := by rw [k4]; rfl
    have HW := Lib.hid (show Lib.contains (⟨#[59, 123, 125]⟩ : ByteArray).data.toList t.data.toList = W by
      rw [hW, endP, decide_eq_true k4]; rfl)
    obtain ⟨m, hm⟩ := (hL.alloc (.cells #[.int .i64 kd, .string t, .int .i64 nu, .int .i64 ln] 35)).u.mx
    clear hW k4
    go_enter Tryz.func21, Tryz.ntmps21
    go_wp2_with fail
    refine (Tryz.strings_Contains ⟨#[59, 123, 125]⟩ t m _ (by decide) hm).mono ?_
    rintro _ w1 ⟨rfl, rfl⟩
    rw [HW.out]
    go_wp2_with fail
    go_ret
    exact ⟨rfl, (Below.refl _ _).alloc (Nat.le_refl _) _⟩
  · have e4 : (kd == 4) = false := by rw [beq_eq_false_iff_ne]; exact k4
    have HW := Lib.hid (show W = false by rw [hW, endP, decide_eq_false k4]; rfl)
    clear hW k4
    go_enter Tryz.func21, Tryz.ntmps21
    go_wp2_with fail
    go_ret
    exact ⟨by rw [HW.out]; rfl, (Below.refl _ _).alloc (Nat.le_refl _) _⟩

theorem bytes_app (a b : List UInt8) : Lib.byteCells (a ++ b) = Lib.byteCells a ++ Lib.byteCells b := by simp [Lib.byteCells]
theorem bytes_len (l : List UInt8) : (Lib.byteCells l).length = l.length := by simp [Lib.byteCells]
theorem bytes_str (s : ByteArray) : Lib.byteCells s.data.toList = Lib.strCells s := rfl
theorem kept_tok {w w1 : World} {b g : Nat} {cs : Array Value} (h : Kept b w w1) (hg : w.heap[g]? = some (.cells cs 35 (0, 0))) (hb : b < g) : w1.heap[g]? = some (.cells cs 35 (0, 0)) :=
  h g _ hg (fun e => by have := Option.some.inj e; omega) (fun c fz e => by injection e with _ e2; revert e2; decide)
theorem is_lt {w : World} {B b : Nat} {bs : List Value} (h : Is B b bs w) : b < w.heap.size := by
  rcases h with h | h <;> exact (Array.getElem?_eq_some_iff.1 h.2.choose_spec.1).1
set_option maxHeartbeats 2000000 in
set_option maxRecDepth 100000 in
theorem pprint (v : Value) (l : List Mt) (w : World) (hL : Tld.Ld w) (hk : KnT w v l) (hl : l.length ≤ 100000) (hok : ∀ m ∈ l, m.t.size ≤ 1000000 ∧ m.ok) :
    Calls Tryz.prog 12 #[v] w fun e w' => e = .returned (.string ⟨(TokU.print (l.map Mt.tok)).toArray⟩) ∧ Below w.heap.size w w' := by
  obtain ⟨a1, cap1, rfl, hcap1, hcells1⟩ := hk
  have H1 := Lib.hid hcells1
  have Hok := Lib.hid hok
  have HLw := Lib.hid hL
  clear hcells1 hok
  obtain ⟨X, hX⟩ : ∃ X, X = TokU.print (l.map Mt.tok) := ⟨_, rfl⟩
  rw [← hX]
  have HX := Lib.hid hX
  clear hX
  have HIs0 := Lib.hid (is_new w)
  go_enter Tryz.func12, Tryz.ntmps12
  go_wp2_with fail
  go_loopw [9] (fun iv wr => ∃ (k : Nat) (O : List UInt8), k ≤ l.length ∧ iv = .int .i64 k ∧ O.length ≤ 16384 ∧ w.heap.size < wr.heap.size ∧ Hid (Is w.heap.size w.heap.size (Lib.byteCells O) wr) ∧ Hid (Below w.heap.size w wr) ∧ Hid (O ++ pr ((l.map Mt.tok).drop k) = pr (l.map Mt.tok)) ∧ Hid (∀ (j : Nat) m, l[j]? = some m → j < k → wrtn m.tok ≠ [])) (fun iv _ => l.length - (intOf iv).toNat)
  case atStart => exact ⟨0, [], by omega, rfl, by simp, by simp, HIs0, Lib.hid ((Below.refl _ _).alloc (Nat.le_refl _) _), Lib.hid rfl, Lib.hid (fun j m _ hj => by omega)⟩
  case round =>
    obtain ⟨k, O, hkl, rfl, hO, hwlt, HIs, HB, Hpr, Hw⟩ := hrel
    have HLr := Lib.hid (HLw.out.below HB.out)
    by_cases hlt : k < l.length
    · obtain ⟨m, hm⟩ : ∃ m, l[k]? = some m := ⟨_, List.getElem?_eq_getElem hlt⟩
      obtain ⟨kb, ko, rfl, hb1, c0, c1, c2, c3⟩ := H1.out k m hm
      obtain ⟨ht, hok1⟩ := Hok.out m (List.mem_of_getElem? hm)
      have hi : inI m.tok := hok1.2.2.1
      have cc : ∀ q, wr.cell? ⟨kb, q, none⟩ = w.cell? ⟨kb, q, none⟩ := fun q => HB.out.cell (p := ⟨kb, q, none⟩) hb1
      replace c0 := (cc _).trans c0
      replace c1 := (cc _).trans c1
      replace c2 := (cc _).trans c2
      replace c3 := (cc _).trans c3
      clear cc hok1
      have hdr : (l.map Mt.tok).drop k = m.tok :: (l.map Mt.tok).drop (k + 1) := by
        have h1 : (l.map Mt.tok)[k]? = some m.tok := by rw [List.getElem?_map, hm]; rfl
        obtain ⟨h2, h3⟩ := List.getElem?_eq_some_iff.1 h1
        rw [List.drop_eq_getElem_cons h2, h3]
      have hp := Hpr.out
      rw [hdr, pr] at hp
      have hwl := wrtn_len2 m.tok hi
      obtain ⟨S, hS⟩ : ∃ S : ByteArray, S = ⟨(wrtP m.tok).toArray⟩ := ⟨_, rfl⟩
      have hSd : S.data.toList = wrtP m.tok := by rw [hS]
      have hSl : S.size = (wrtP m.tok).length := by rw [← hSd]; rfl
      have htl : m.tok.text.length = m.t.size := rfl
      have hmem : m.tok ∈ l.map Mt.tok := List.mem_map.2 ⟨m, List.mem_of_getElem? hm, rfl⟩
      have hrest : (!((l.map Mt.tok).drop (k + 1)).isEmpty) = decide (k + 1 < l.length) := by
        by_cases h : k + 1 < l.length
        · have h2 : (l.map Mt.tok).drop (k + 1) ≠ [] := by
            intro e
            have h3 := congrArg List.length e
            simp at h3
            omega
          rw [decide_eq_true h]
          cases hd : (l.map Mt.tok).drop (k + 1) with
          | nil => exact absurd hd h2
          | cons _ _ => rfl
        · rw [List.drop_of_length_le (by simp; omega), decide_eq_false h]; rfl
      have Hm := Lib.hid hm
      have HS := Lib.hid hS
      by_cases hne : wrtP m.tok = []
      · have he : S.toList.isEmpty = true := empty_yes (by rw [hSl, hne]; rfl)
        have HXe := Lib.hid (show X = [] by rw [HX.out]; exact wrtP_no hmem hne)
        clear HX hp hdr hrest hSl hSd hS hm hmem hne hwl htl
        go_wp2_with fail
        refine (written_any m.kd m.nu m.ln m.t ht hi.1 hi.2 _ (HLr.out.alloc _)).mono ?_
        rintro _ w2 ⟨rfl, hb2⟩
        rw [show (⟨(wrtP ⟨m.kd, m.t.data.toList, m.nu⟩).toArray⟩ : ByteArray) = S from HS.out.symm]
        have Hb2 := Lib.hid ((HB.out.alloc HB.out.size _).trans (hb2.mono (Nat.le_trans HB.out.size (by simp))))
        clear hb2 c0 c1 c2 c3
        go_wp2_with fail
        go_ret
        exact ⟨by rw [HXe.out]; rfl, Hb2.out⟩
      · have he : S.toList.isEmpty = false := empty_no (by rw [hSl]; intro e; exact hne (List.length_eq_zero_iff.1 e))
        have hweq := wrtP_eq hne
        rw [hweq] at hSd hSl
        have hne2 : wrtn m.tok ≠ [] := by rw [← hweq]; exact hne
        have Hwn : Hid (∀ (j : Nat) m2, l[j]? = some m2 → j < k + 1 → wrtn m2.tok ≠ []) := Lib.hid (fun j m2 hm2 hj => by
          rcases Nat.lt_or_ge j k with h5 | h5
          · exact Hw.out j m2 hm2 h5
          · obtain rfl : j = k := by omega
            rw [Hm.out] at hm2
            cases hm2
            exact hne2)
        have hSsz : S.size ≤ 4000022 := by omega
        have hee := endP_eq hne2
        unfold sepOf at hp
        rw [hrest] at hp
        cases hends : endsLine m.tok with
        | true =>
          rw [hends] at hp
          rw [if_pos rfl, ← hSd, ← List.append_assoc, ← List.append_assoc] at hp
          have Hend := Lib.hid (hee.trans hends)
          obtain ⟨Q, hQ⟩ : ∃ Q, Q = O ++ S.data.toList ++ [10] := ⟨_, rfl⟩
          rw [← hQ] at hp
          have Hnx := Lib.hid hp
          have HQ := Lib.hid hQ
          clear hp hdr hrest hSl hSd hS hm hmem hne hwl htl hweq hne2 hee hends hQ
          go_wp2_with fail
          refine (written_any m.kd m.nu m.ln m.t ht hi.1 hi.2 _ (HLr.out.alloc _)).mono ?_
          rintro _ w2 ⟨rfl, hb2⟩
          rw [show (⟨(wrtP ⟨m.kd, m.t.data.toList, m.nu⟩).toArray⟩ : ByteArray) = S from HS.out.symm]
          have HIs2 := Lib.hid (is_below (is_below HIs.out ((Below.refl _ _).alloc (Nat.le_refl _) _)) hb2)
          have Hbox2 := Lib.hid ((hb2.block wr.heap.size (by simp)).trans (heap_alloc_new wr _))
          have Hb2 := Lib.hid ((HB.out.alloc HB.out.size _).trans (hb2.mono (Nat.le_trans HB.out.size (by simp))))
          have HL2 := Lib.hid ((HLr.out.alloc (.cells #[.int .i64 m.kd, .string m.t, .int .i64 m.nu, .int .i64 m.ln] 35)).below hb2)
          have hs2 : w.heap.size ≤ w2.heap.size := Hb2.out.size
          clear hb2 c0 c1 c2 c3
          go_wp2_with fail
          refine (writeString w.heap.size w.heap.size (Lib.byteCells O) S _ HIs2.out (by rw [bytes_len]; omega) hs2).mono ?_
          rintro _ w3 ⟨rfl, hat3, hb3, hk3⟩
          have Hbox3 := Lib.hid (kept_tok hk3 Hbox2.out hwlt)
          have Hat3 := Lib.hid hat3
          have HL3 := Lib.hid (HLw.out.below (Hb2.out.trans hb3))
          have Hb3 := Lib.hid (Hb2.out.trans hb3)
          have c0 := (Lib.cell_of_heap Hbox3.out 0).trans (show _ = some (Value.int .i64 m.kd) from rfl)
          have c1 := (Lib.cell_of_heap Hbox3.out 1).trans (show _ = some (Value.string m.t) from rfl)
          have c2 := (Lib.cell_of_heap Hbox3.out 2).trans (show _ = some (Value.int .i64 m.nu) from rfl)
          have c3 := (Lib.cell_of_heap Hbox3.out 3).trans (show _ = some (Value.int .i64 m.ln) from rfl)
          clear hat3 hb3 hk3
          go_wp2_with fail
          refine (endsLine_any m.kd m.nu m.ln m.t _ HL3.out).mono ?_
          rintro _ w4 ⟨rfl, hb4⟩
          rw [show endP ⟨m.kd, m.t.data.toList, m.nu⟩ = true from Hend.out]
          have Hat4 := Lib.hid (at_below Hat3.out hb4)
          have Hb4 := Lib.hid (Hb3.out.trans (hb4.mono Hb3.out.size))
          have hs4 : w.heap.size ≤ w4.heap.size := Hb4.out.size
          clear hb4 c0 c1 c2 c3
          go_wp2_with fail
          refine (writeByte w.heap.size w.heap.size _ 10 _ (.inr Hat4.out) (by rw [List.length_append, Lib.strCells_length, bytes_len]; omega) hs4).mono ?_
          rintro _ w5 ⟨rfl, hat5, hb5, hk5⟩
          have HIs5 : Hid (Is w.heap.size w.heap.size (Lib.byteCells Q) w5) := Lib.hid (by
            rw [HQ.out, bytes_app, bytes_app, bytes_str]
            exact .inr hat5)
          have Hb5 := Lib.hid (Hb4.out.trans hb5)
          clear hat5 hb5 hk5
          go_wp2_with fail
          refine (Tryz.Builder_Len w.heap.size w.heap.size _ _ HIs5.out).mono ?_
          rintro _ w6 ⟨rfl, rfl⟩
          rw [bytes_len]
          by_cases hbig : 16384 < Q.length
          · have dbig : decide ((16384 : Int) < Q.length) = true := decide_eq_true (by omega)
            have HXe := Lib.hid (show X = [] by
              rw [HX.out]
              refine long_no ?_
              rw [← Hnx.out, List.length_append]
              omega)
            go_wp2_with fail
            go_ret
            exact ⟨by rw [HXe.out]; rfl, Hb5.out⟩
          · have dbig : decide ((16384 : Int) < Q.length) = false := decide_eq_false (by omega)
            have Hsz5 := Hb5.out.size
            have Hlt5 : w.heap.size < w6.heap.size := is_lt HIs5.out
            go_wp2_with fail
            exact ⟨⟨k + 1, Q, by omega, by go_num, by omega, Hlt5, HIs5, Hb5, Hnx, Hwn⟩, by simp [intOf]; omega⟩
        | false =>
          rw [hends] at hp
          rw [if_neg (by simp)] at hp
          have Hend := Lib.hid (hee.trans hends)
          by_cases hmore : k + 1 < l.length
          · have dm : decide ((k : Int) < (l.length : Int) - 1) = true := decide_eq_true (by omega)
            rw [if_pos (by simpa using hmore), ← hSd, ← List.append_assoc, ← List.append_assoc] at hp
            obtain ⟨Q, hQ⟩ : ∃ Q, Q = O ++ S.data.toList ++ [32] := ⟨_, rfl⟩
            rw [← hQ] at hp
            have Hnx := Lib.hid hp
            have HQ := Lib.hid hQ
            clear hp hdr hrest hSl hSd hS hm hmem hne hwl htl hweq hne2 hee hends hQ
            go_wp2_with fail
            refine (written_any m.kd m.nu m.ln m.t ht hi.1 hi.2 _ (HLr.out.alloc _)).mono ?_
            rintro _ w2 ⟨rfl, hb2⟩
            rw [show (⟨(wrtP ⟨m.kd, m.t.data.toList, m.nu⟩).toArray⟩ : ByteArray) = S from HS.out.symm]
            have HIs2 := Lib.hid (is_below (is_below HIs.out ((Below.refl _ _).alloc (Nat.le_refl _) _)) hb2)
            have Hbox2 := Lib.hid ((hb2.block wr.heap.size (by simp)).trans (heap_alloc_new wr _))
            have Hb2 := Lib.hid ((HB.out.alloc HB.out.size _).trans (hb2.mono (Nat.le_trans HB.out.size (by simp))))
            have HL2 := Lib.hid ((HLr.out.alloc (.cells #[.int .i64 m.kd, .string m.t, .int .i64 m.nu, .int .i64 m.ln] 35)).below hb2)
            have hs2 : w.heap.size ≤ w2.heap.size := Hb2.out.size
            clear hb2 c0 c1 c2 c3
            go_wp2_with fail
            refine (writeString w.heap.size w.heap.size (Lib.byteCells O) S _ HIs2.out (by rw [bytes_len]; omega) hs2).mono ?_
            rintro _ w3 ⟨rfl, hat3, hb3, hk3⟩
            have Hbox3 := Lib.hid (kept_tok hk3 Hbox2.out hwlt)
            have Hat3 := Lib.hid hat3
            have HL3 := Lib.hid (HLw.out.below (Hb2.out.trans hb3))
            have Hb3 := Lib.hid (Hb2.out.trans hb3)
            have c0 := (Lib.cell_of_heap Hbox3.out 0).trans (show _ = some (Value.int .i64 m.kd) from rfl)
            have c1 := (Lib.cell_of_heap Hbox3.out 1).trans (show _ = some (Value.string m.t) from rfl)
            have c2 := (Lib.cell_of_heap Hbox3.out 2).trans (show _ = some (Value.int .i64 m.nu) from rfl)
            have c3 := (Lib.cell_of_heap Hbox3.out 3).trans (show _ = some (Value.int .i64 m.ln) from rfl)
            clear hat3 hb3 hk3
            go_wp2_with fail
            refine (endsLine_any m.kd m.nu m.ln m.t _ HL3.out).mono ?_
            rintro _ w4 ⟨rfl, hb4⟩
            rw [show endP ⟨m.kd, m.t.data.toList, m.nu⟩ = false from Hend.out]
            have Hat4 := Lib.hid (at_below Hat3.out hb4)
            have Hb4 := Lib.hid (Hb3.out.trans (hb4.mono Hb3.out.size))
            have hs4 : w.heap.size ≤ w4.heap.size := Hb4.out.size
            clear hb4 c0 c1 c2 c3
            go_wp2_with fail
            refine (writeByte w.heap.size w.heap.size _ 32 _ (.inr Hat4.out) (by rw [List.length_append, Lib.strCells_length, bytes_len]; omega) hs4).mono ?_
            rintro _ w5 ⟨rfl, hat5, hb5, hk5⟩
            have HIs5 : Hid (Is w.heap.size w.heap.size (Lib.byteCells Q) w5) := Lib.hid (by
              rw [HQ.out, bytes_app, bytes_app, bytes_str]
              exact .inr hat5)
            have Hb5 := Lib.hid (Hb4.out.trans hb5)
            clear hat5 hb5 hk5
            go_wp2_with fail
            refine (Tryz.Builder_Len w.heap.size w.heap.size _ _ HIs5.out).mono ?_
            rintro _ w6 ⟨rfl, rfl⟩
            rw [bytes_len]
            by_cases hbig : 16384 < Q.length
            · have dbig : decide ((16384 : Int) < Q.length) = true := decide_eq_true (by omega)
              have HXe := Lib.hid (show X = [] by
                rw [HX.out]
                refine long_no ?_
                rw [← Hnx.out, List.length_append]
                omega)
              go_wp2_with fail
              go_ret
              exact ⟨by rw [HXe.out]; rfl, Hb5.out⟩
            · have dbig : decide ((16384 : Int) < Q.length) = false := decide_eq_false (by omega)
              have Hsz5 := Hb5.out.size
              have Hlt5 : w.heap.size < w6.heap.size := is_lt HIs5.out
              go_wp2_with fail
              exact ⟨⟨k + 1, Q, by omega, by go_num, by omega, Hlt5, HIs5, Hb5, Hnx, Hwn⟩, by simp [intOf]; omega⟩
          · have dm : decide ((k : Int) < (l.length : Int) - 1) = false := decide_eq_false (by omega)
            rw [if_neg (by simpa using hmore), ← hSd, List.nil_append, ← List.append_assoc] at hp
            obtain ⟨Q, hQ⟩ : ∃ Q, Q = O ++ S.data.toList := ⟨_, rfl⟩
            rw [← hQ] at hp
            have Hnx := Lib.hid hp
            have HQ := Lib.hid hQ
            clear hp hdr hrest hSl hSd hS hm hmem hne hwl htl hweq hne2 hee hends hQ
            go_wp2_with fail
            refine (written_any m.kd m.nu m.ln m.t ht hi.1 hi.2 _ (HLr.out.alloc _)).mono ?_
            rintro _ w2 ⟨rfl, hb2⟩
            rw [show (⟨(wrtP ⟨m.kd, m.t.data.toList, m.nu⟩).toArray⟩ : ByteArray) = S from HS.out.symm]
            have HIs2 := Lib.hid (is_below (is_below HIs.out ((Below.refl _ _).alloc (Nat.le_refl _) _)) hb2)
            have Hbox2 := Lib.hid ((hb2.block wr.heap.size (by simp)).trans (heap_alloc_new wr _))
            have Hb2 := Lib.hid ((HB.out.alloc HB.out.size _).trans (hb2.mono (Nat.le_trans HB.out.size (by simp))))
            have HL2 := Lib.hid ((HLr.out.alloc (.cells #[.int .i64 m.kd, .string m.t, .int .i64 m.nu, .int .i64 m.ln] 35)).below hb2)
            have hs2 : w.heap.size ≤ w2.heap.size := Hb2.out.size
            clear hb2 c0 c1 c2 c3
            go_wp2_with fail
            refine (writeString w.heap.size w.heap.size (Lib.byteCells O) S _ HIs2.out (by rw [bytes_len]; omega) hs2).mono ?_
            rintro _ w3 ⟨rfl, hat3, hb3, hk3⟩
            have Hbox3 := Lib.hid (kept_tok hk3 Hbox2.out hwlt)
            have Hat3 := Lib.hid hat3
            have HL3 := Lib.hid (HLw.out.below (Hb2.out.trans hb3))
            have Hb3 := Lib.hid (Hb2.out.trans hb3)
            have c0 := (Lib.cell_of_heap Hbox3.out 0).trans (show _ = some (Value.int .i64 m.kd) from rfl)
            have c1 := (Lib.cell_of_heap Hbox3.out 1).trans (show _ = some (Value.string m.t) from rfl)
            have c2 := (Lib.cell_of_heap Hbox3.out 2).trans (show _ = some (Value.int .i64 m.nu) from rfl)
            have c3 := (Lib.cell_of_heap Hbox3.out 3).trans (show _ = some (Value.int .i64 m.ln) from rfl)
            clear hat3 hb3 hk3
            go_wp2_with fail
            refine (endsLine_any m.kd m.nu m.ln m.t _ HL3.out).mono ?_
            rintro _ w4 ⟨rfl, hb4⟩
            rw [show endP ⟨m.kd, m.t.data.toList, m.nu⟩ = false from Hend.out]
            have Hat4 := Lib.hid (at_below Hat3.out hb4)
            have Hb4 := Lib.hid (Hb3.out.trans (hb4.mono Hb3.out.size))
            have hs4 : w.heap.size ≤ w4.heap.size := Hb4.out.size
            clear hb4 c0 c1 c2 c3
            go_wp2_with fail
            have HIs5 : Hid (Is w.heap.size w.heap.size (Lib.byteCells Q) w4) := Lib.hid (by
              rw [HQ.out, bytes_app, bytes_str]
              exact .inr Hat4.out)
            have Hb5 := Hb4
            refine (Tryz.Builder_Len w.heap.size w.heap.size _ _ HIs5.out).mono ?_
            rintro _ w6 ⟨rfl, rfl⟩
            rw [bytes_len]
            by_cases hbig : 16384 < Q.length
            · have dbig : decide ((16384 : Int) < Q.length) = true := decide_eq_true (by omega)
              have HXe := Lib.hid (show X = [] by
                rw [HX.out]
                refine long_no ?_
                rw [← Hnx.out, List.length_append]
                omega)
              go_wp2_with fail
              go_ret
              exact ⟨by rw [HXe.out]; rfl, Hb5.out⟩
            · have dbig : decide ((16384 : Int) < Q.length) = false := decide_eq_false (by omega)
              have Hsz5 := Hb5.out.size
              have Hlt5 : w.heap.size < w6.heap.size := is_lt HIs5.out
              go_wp2_with fail
              exact ⟨⟨k + 1, Q, by omega, by go_num, by omega, Hlt5, HIs5, Hb5, Hnx, Hwn⟩, by simp [intOf]; omega⟩
    · obtain rfl : k = l.length := by omega
      have hXe : X = O := by
        have hp := Hpr.out
        rw [List.drop_of_length_le (by simp), pr, List.append_nil] at hp
        rw [HX.out, print_fine (by rw [← hp]; exact hO) (by
          intro x hx
          obtain ⟨m, hm, rfl⟩ := List.mem_map.1 hx
          obtain ⟨j, hj⟩ := List.getElem?_of_mem hm
          exact Hw.out j m hj (List.getElem?_eq_some_iff.1 hj).1), hp]
      have HXe := Lib.hid hXe
      have hsz := HB.out.size
      clear hXe HX
      go_wp2_with fail
      refine (Tryz.Builder_String_any w.heap.size w.heap.size O _ HIs.out hsz).mono ?_
      rintro _ w2 ⟨rfl, hb2⟩
      go_wp2_with fail
      go_ret
      exact ⟨by rw [HXe.out]; rfl, HB.out.trans hb2⟩
end Go.Proofs.YtoinfjdhbopefaaGreatDoor.TkpE
