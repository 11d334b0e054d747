/- Package ident of the program: what a name means. -/
import Derived.Test.YtpgikodjfidkkaaDoorKnS
set_option linter.unusedSimpArgs false
set_option linter.unusedVariables false
namespace Go.Proofs.YtpgikodjfidkkaaDoor.IdpR
open Go.RowKit Nums IdnM IdnC Uld IdpA OwnS KnS IdpB

theorem hasP {s p : List UInt8} (h : Lib.hasPrefix s p = true) : s = p ++ Lib.trimPrefix s p := by
  unfold Lib.trimPrefix
  rw [if_pos h]
  obtain ⟨t, ht⟩ := List.isPrefixOf_iff_prefix.1 h
  rw [← ht]
  simp
theorem hasP_no {s p : List UInt8} (h : Lib.hasPrefix s p = false) (t : List UInt8) : s ≠ p ++ t := by
  intro e
  have : Lib.hasPrefix s p = true := List.isPrefixOf_iff_prefix.2 ⟨t, e.symm⟩
  rw [h] at this; cases this
theorem hasS {s p : List UInt8} (h : Lib.hasSuffix s p = true) : s = Lib.trimSuffix s p ++ p := by
  unfold Lib.trimSuffix
  rw [if_pos h]
  obtain ⟨t, ht⟩ := List.isSuffixOf_iff_suffix.1 h
  rw [← ht]
  simp
theorem hasS_no {s p : List UInt8} (h : Lib.hasSuffix s p = false) (t : List UInt8) : s ≠ t ++ p := by
  intro e
  have : Lib.hasSuffix s p = true := List.isSuffixOf_iff_suffix.2 ⟨t, e.symm⟩
  rw [h] at this; cases this
/-- The one scope is the other, or encloses it. -/
def Outer (o s : ByteArray) : Prop := o = s ∨ ∃ r, s.data.toList = o.data.toList ++ 46 :: r

set_option maxHeartbeats 1000000 in
set_option maxRecDepth 100000 in
theorem isOuter_any (o s : ByteArray) (w : World) :
    Calls Tryd.prog 45 #[.string o, .string s] w fun e w' => ∃ b, e = .returned (.bool b) ∧ (b = true ↔ Outer o s) ∧ w = w' := by
  obtain ⟨T, hT⟩ : ∃ T : ByteArray, (⟨(Lib.trimPrefix s.data.toList o.data.toList).toArray⟩ : ByteArray) = T := ⟨_, rfl⟩
  have hTd : T.data.toList = Lib.trimPrefix s.data.toList o.data.toList := by rw [← hT]
  have hTl : T.data.toList.length = T.size := rfl
  have HT := Lib.hid hT
  clear hT
  cases hh : Lib.hasPrefix s.data.toList o.data.toList with
  | false =>
    have hno : ¬ Outer o s := by
      rintro (rfl | ⟨r, hr⟩)
      · exact hasP_no hh [] (by simp)
      · exact hasP_no hh _ hr
    have Hno := Lib.hid hno
    have Hh := Lib.hid hh
    clear hh hno hTd
    go_enter Tryd.func45, Tryd.ntmps45
    go_wp2_with fail
    refine (Tryd.strings_CutPrefix s o _).mono ?_
    rintro _ w1 ⟨rfl, rfl⟩
    rw [HT.out, Hh.out]
    go_wp2_with fail
    go_ret
    exact ⟨_, rfl, ⟨(fun h => by cases h), fun h => absurd h Hno.out⟩, rfl⟩
  | true =>
    have hs := hasP hh
    rw [← hTd] at hs
    have Hh := Lib.hid hh
    have Hs := Lib.hid hs
    clear hh hs hTd
    by_cases hz : T.size = 0
    · have he : T.toList.isEmpty = true := empty_yes hz
      have hyes : Outer o s := by
        left
        apply data_inj
        rw [Hs.out, List.length_eq_zero_iff.1 (hTl.trans hz)]
        simp
      have Hyes := Lib.hid hyes
      clear hyes
      go_enter Tryd.func45, Tryd.ntmps45
      go_wp2_with fail
      refine (Tryd.strings_CutPrefix s o _).mono ?_
      rintro _ w1 ⟨rfl, rfl⟩
      rw [HT.out, Hh.out]
      go_wp2_with fail
      go_ret
      exact ⟨_, rfl, ⟨fun _ => Hyes.out, fun _ => rfl⟩, rfl⟩
    · have he : T.toList.isEmpty = false := empty_no hz
      have hpos : 0 < T.size := by omega
      obtain ⟨b, t, ht⟩ : ∃ b t, T.data.toList = b :: t := List.exists_cons_of_length_pos (by omega)
      have hb : T[0] = b := by
        have h1 : T.data.toList[0]? = some T[0] := List.getElem?_eq_getElem (show 0 < T.data.toList.length from by omega)
        rw [ht] at h1
        exact (Option.some.inj h1).symm
      cases ht0 : ((T[0].toNat : Int) == 46) with
      | true =>
        have hyes : Outer o s := by
          right
          refine ⟨t, ?_⟩
          have h46 : b = 46 := by
            rw [← hb]
            have := beq_iff_eq.1 ht0
            exact UInt8.toNat_inj.1 (show T[0].toNat = 46 by omega)
          rw [Hs.out, ht, h46]
        have Hyes := Lib.hid hyes
        clear hyes ht hb
        go_enter Tryd.func45, Tryd.ntmps45
        go_wp2_with fail
        refine (Tryd.strings_CutPrefix s o _).mono ?_
        rintro _ w1 ⟨rfl, rfl⟩
        rw [HT.out, Hh.out]
        go_wp2_with fail
        go_ret
        exact ⟨_, rfl, ⟨fun _ => Hyes.out, fun _ => rfl⟩, rfl⟩
      | false =>
        have hno : ¬ Outer o s := by
          have h46 : b ≠ 46 := by
            rintro e
            rw [hb, e] at ht0
            cases ht0
          rintro (e | ⟨r, hr⟩)
          · have h1 := Hs.out
            rw [e, ht] at h1
            have h2 := congrArg List.length h1
            simp at h2
          · have h1 := Hs.out
            rw [hr, ht] at h1
            have := List.append_cancel_left h1
            cases this
            exact h46 rfl
        have Hno := Lib.hid hno
        clear hno ht hb
        go_enter Tryd.func45, Tryd.ntmps45
        go_wp2_with fail
        refine (Tryd.strings_CutPrefix s o _).mono ?_
        rintro _ w1 ⟨rfl, rfl⟩
        rw [HT.out, Hh.out]
        go_wp2_with fail
        go_ret
        exact ⟨_, rfl, ⟨(fun h => by cases h), fun h => absurd h Hno.out⟩, rfl⟩

theorem cand_at {scope name k t : ByteArray} (hk : k.data.toList = t.data.toList ++ 46 :: name.data.toList) (ht : t.size ≠ 0) (hne : k ≠ name) : Cand scope name k ↔ Outer t scope := by
  rw [cand_iff]
  constructor
  · rintro (rfl | ⟨u, hu, ho, hku⟩)
    · exact absurd rfl hne
    · rw [hk] at hku
      have h1 : t.data.toList ++ [46] = u.data.toList ++ [46] := by
        have : (t.data.toList ++ [46]) ++ name.data.toList = (u.data.toList ++ [46]) ++ name.data.toList := by simpa using hku
        exact List.append_cancel_right this
      have h2 : t = u := data_inj (List.append_cancel_right h1)
      subst h2
      exact ho
  · intro ho
    exact .inr ⟨t, ht, ho, hk⟩

set_option maxHeartbeats 1000000 in
set_option maxRecDepth 100000 in
theorem isCandidate_any (scope name k : ByteArray) (hk : k.size ≤ 9223372036854775807) (w : World) :
    Calls Tryd.prog 37 #[.string scope, .string name, .string k] w fun e w' => ∃ b, e = .returned (.bool b) ∧ (b = true ↔ Cand scope name k) ∧ w = w' := by
  by_cases hkn : k = name
  · have hb : (k.toList == name.toList) = true := by rw [hkn]; simp
    have hyes : Cand scope name k := (cand_iff _ _ _).2 (.inl hkn)
    have Hyes := Lib.hid hyes
    clear hyes hkn
    go_enter Tryd.func37, Tryd.ntmps37
    go_wp2_with fail
    go_ret
    exact ⟨_, rfl, ⟨fun _ => Hyes.out, fun _ => rfl⟩, rfl⟩
  · have hb : (k.toList == name.toList) = false := by
      rw [beq_eq_false_iff_ne]
      intro e
      exact hkn (toList_inj e)
    obtain ⟨T, hT⟩ : ∃ T : ByteArray, (⟨(Lib.trimSuffix k.data.toList name.data.toList).toArray⟩ : ByteArray) = T := ⟨_, rfl⟩
    have hTd : T.data.toList = Lib.trimSuffix k.data.toList name.data.toList := by rw [← hT]
    have HT := Lib.hid hT
    clear hT
    cases hh : Lib.hasSuffix k.data.toList name.data.toList with
    | false =>
      have hno : ¬ Cand scope name k := by
        rw [cand_iff]
        rintro (e | ⟨u, hu, ho, hku⟩)
        · exact hkn e
        · exact hasS_no hh (u.data.toList ++ [46]) (by rw [hku]; simp)
      have Hno := Lib.hid hno
      have Hh := Lib.hid hh
      clear hh hno hTd hkn
      go_enter Tryd.func37, Tryd.ntmps37
      go_wp2_with fail
      refine (Tryd.strings_CutSuffix k name _ hk).mono ?_
      rintro _ w1 ⟨rfl, rfl⟩
      rw [HT.out, Hh.out]
      go_wp2_with fail
      go_ret
      exact ⟨_, rfl, ⟨(fun h => by cases h), fun h => absurd h Hno.out⟩, rfl⟩
    | true =>
      have hs := hasS hh
      rw [← hTd] at hs
      have hTs : T.size ≤ 9223372036854775807 := by
        have h1 := congrArg List.length hs
        have h2 : T.data.toList.length = T.size := rfl
        have h3 : k.data.toList.length = k.size := rfl
        simp only [List.length_append] at h1
        omega
      have Hh := Lib.hid hh
      clear hh hTd
      obtain ⟨U, hU⟩ : ∃ U : ByteArray, (⟨(Lib.trimSuffix T.data.toList [46]).toArray⟩ : ByteArray) = U := ⟨_, rfl⟩
      have hUd : U.data.toList = Lib.trimSuffix T.data.toList [46] := by rw [← hU]
      have HU := Lib.hid hU
      clear hU
      cases hg : Lib.hasSuffix T.data.toList [46] with
      | false =>
        have hno : ¬ Cand scope name k := by
          rw [cand_iff]
          rintro (e | ⟨u, hu, ho, hku⟩)
          · exact hkn e
          · rw [hs] at hku
            have : T.data.toList = u.data.toList ++ [46] := by
              have h1 : T.data.toList ++ name.data.toList = (u.data.toList ++ [46]) ++ name.data.toList := by simpa using hku
              exact List.append_cancel_right h1
            exact hasS_no hg _ this
        have Hno := Lib.hid hno
        have Hg := Lib.hid hg
        clear hg hno hUd hkn hs
        go_enter Tryd.func37, Tryd.ntmps37
        go_wp2_with fail
        refine (Tryd.strings_CutSuffix k name _ hk).mono ?_
        rintro _ w1 ⟨rfl, rfl⟩
        rw [HT.out, Hh.out]
        go_wp2_with fail
        refine (Tryd.strings_CutSuffix T ⟨#[46]⟩ _ hTs).mono ?_
        rintro _ w1 ⟨rfl, rfl⟩
        rw [show (⟨#[46]⟩ : ByteArray).data.toList = [46] from rfl, HU.out, Hg.out]
        go_wp2_with fail
        go_ret
        exact ⟨_, rfl, ⟨(fun h => by cases h), fun h => absurd h Hno.out⟩, rfl⟩
      | true =>
        have hs2 := hasS hg
        rw [← hUd] at hs2
        have hkd : k.data.toList = U.data.toList ++ 46 :: name.data.toList := by rw [hs, hs2]; simp
        have Hg := Lib.hid hg
        clear hg hUd hs hs2
        by_cases hz : U.size = 0
        · have he : U.toList.isEmpty = true := empty_yes hz
          have hno : ¬ Cand scope name k := by
            rw [cand_iff]
            rintro (e | ⟨u, hu, ho, hku⟩)
            · exact hkn e
            · rw [hkd, List.length_eq_zero_iff.1 (show U.data.toList.length = 0 from hz)] at hku
              have h1 : [46] ++ name.data.toList = (u.data.toList ++ [46]) ++ name.data.toList := by simpa using hku
              have h2 := congrArg List.length (List.append_cancel_right h1)
              have h3 : u.data.toList.length = u.size := rfl
              simp only [List.length_append, List.length_cons, List.length_nil] at h2
              omega
          have Hno := Lib.hid hno
          clear hno hkd hkn
          go_enter Tryd.func37, Tryd.ntmps37
          go_wp2_with fail
          refine (Tryd.strings_CutSuffix k name _ hk).mono ?_
          rintro _ w1 ⟨rfl, rfl⟩
          rw [HT.out, Hh.out]
          go_wp2_with fail
          refine (Tryd.strings_CutSuffix T ⟨#[46]⟩ _ hTs).mono ?_
          rintro _ w1 ⟨rfl, rfl⟩
          rw [show (⟨#[46]⟩ : ByteArray).data.toList = [46] from rfl, HU.out, Hg.out]
          go_wp2_with fail
          go_ret
          exact ⟨_, rfl, ⟨(fun h => by cases h), fun h => absurd h Hno.out⟩, rfl⟩
        · have he : U.toList.isEmpty = false := empty_no hz
          have hc := cand_at (scope := scope) hkd hz hkn
          have Hc := Lib.hid hc
          clear hc hkd hkn
          go_enter Tryd.func37, Tryd.ntmps37
          go_wp2_with fail
          refine (Tryd.strings_CutSuffix k name _ hk).mono ?_
          rintro _ w1 ⟨rfl, rfl⟩
          rw [HT.out, Hh.out]
          go_wp2_with fail
          refine (Tryd.strings_CutSuffix T ⟨#[46]⟩ _ hTs).mono ?_
          rintro _ w1 ⟨rfl, rfl⟩
          rw [show (⟨#[46]⟩ : ByteArray).data.toList = [46] from rfl, HU.out, Hg.out]
          go_wp2_with fail
          refine (isOuter_any U scope _).mono ?_
          rintro _ w1 ⟨b, rfl, hb3, rfl⟩
          have Hb := Lib.hid hb3
          clear hb3
          cases b
          · go_wp2_with fail
            go_ret
            exact ⟨_, rfl, by rw [Hc.out]; simpa using Hb.out, rfl⟩
          · go_wp2_with fail
            go_ret
            exact ⟨_, rfl, by rw [Hc.out]; simpa using Hb.out, rfl⟩

theorem dot_yes {name : ByteArray} (h : dotted name = true) : Lib.hasPrefix name.data.toList [46] = true ∧ (⟨(Lib.trimPrefix name.data.toList [46]).toArray⟩ : ByteArray) = name.extract 1 name.size := by
  unfold dotted at h
  cases hn : name.data.toList with
  | nil => rw [hn] at h; cases h
  | cons b t =>
    rw [hn] at h
    have hb : b = 46 := by simpa using h
    have hp : Lib.hasPrefix (b :: t) [46] = true := by rw [hb]; simp [Lib.hasPrefix, List.isPrefixOf]
    refine ⟨hp, ?_⟩
    apply data_inj
    unfold Lib.trimPrefix
    rw [if_pos hp]
    have h2 : (name.extract 1 name.size).data.toList = name.data.toList.drop 1 := by
      simp
      rw [List.take_of_length_le (by simp)]
    rw [h2, hn]
    rfl
theorem dot_no {name : ByteArray} (h : dotted name = false) : Lib.hasPrefix name.data.toList [46] = false ∧ (⟨(Lib.trimPrefix name.data.toList [46]).toArray⟩ : ByteArray) = name := by
  have hp : Lib.hasPrefix name.data.toList [46] = false := by
    unfold dotted at h
    cases hn : name.data.toList with
    | nil => rfl
    | cons b t =>
      rw [hn] at h
      have hb : ¬ b = 46 := by simpa using h
      simp [Lib.hasPrefix, List.isPrefixOf, Ne.symm hb]
  refine ⟨hp, ?_⟩
  unfold Lib.trimPrefix
  rw [hp]
  rfl

set_option maxHeartbeats 2000000 in
set_option maxRecDepth 100000 in
theorem resolve_any (scope name : ByteArray) (v : Value) (ks : List ByteArray) (w : World) (hkn : Kn w v ks) (hks : ∀ x ∈ ks, x.size ≤ 9223372036854775807) (hl : ks.length ≤ 9223372036854775000) :
    Calls Tryd.prog 24 #[.string scope, .string name, v] w fun e w' => e = .returned (.tuple #[.string ((means scope name ks).getD ⟨#[]⟩), .bool (means scope name ks).isSome]) ∧ w = w' := by
  obtain ⟨a, cap, rfl, hcap, hcells⟩ := hkn
  have Hkn := Lib.hid hcells
  have Hks := Lib.hid hks
  clear hcells hks
  obtain ⟨M, hM⟩ : ∃ M, M = means scope name ks := ⟨_, rfl⟩
  rw [← hM]
  cases hd : dotted name with
  | true =>
    obtain ⟨hp, ht⟩ := dot_yes hd
    have hM2 : M = IdnM.look ⟨#[]⟩ (name.extract 1 name.size) ks := by rw [hM, means, if_pos hd, look_empty]
    have HM := Lib.hid hM2
    generalize name.extract 1 name.size = rest at *
    have Hp := Lib.hid hp
    have Ht := Lib.hid ht
    clear hM hM2 hp ht hd
    go_enter Tryd.func24, Tryd.ntmps24
    go_wp2_with fail
    refine (Tryd.strings_CutPrefix name ⟨#[46]⟩ _).mono ?_
    rintro _ w1 ⟨rfl, rfl⟩
    rw [show (⟨#[46]⟩ : ByteArray).data.toList = [46] from rfl, Hp.out, Ht.out]
    go_wp2_with fail
    go_loop [10, 11, 23] (fun bv fv iv => ∃ (k : Nat) (best : ByteArray) (found : Bool), k ≤ ks.length ∧ bv = .string best ∧ fv = .bool found ∧ iv = .int .i64 k ∧ Hid (Best (⟨#[]⟩ : ByteArray) rest (ks.take k) best found)) (fun _ _ iv => ks.length - (intOf iv).toNat)
    case atStart => exact ⟨0, ⟨#[]⟩, false, by omega, rfl, rfl, rfl, Lib.hid (by simpa using Best.nil (⟨#[]⟩ : ByteArray) rest)⟩
    case round =>
      obtain ⟨k, best, found, hk, rfl, rfl, rfl, HB⟩ := hrel
      by_cases hlt : k < ks.length
      · obtain ⟨x, hx⟩ : ∃ x, ks[k]? = some x := ⟨_, List.getElem?_eq_getElem hlt⟩
        obtain ⟨kb, ko, rfl, hadlt, hcell⟩ := Hkn.out k x hx
        have hxs := Hks.out x (List.mem_of_getElem? hx)
        have htk : ks.take (k + 1) = ks.take k ++ [x] := by rw [List.take_add_one, hx]; rfl
        have Htk := Lib.hid htk
        clear hx htk
        have hskip : (¬ Cand (⟨#[]⟩ : ByteArray) rest x ∨ (found = true ∧ x.size ≤ best.size)) → Best (⟨#[]⟩ : ByteArray) rest (ks.take (k + 1)) best found := fun h => by rw [Htk.out]; exact HB.out.skip h
        have Hskip := Lib.hid hskip
        have htake : Cand (⟨#[]⟩ : ByteArray) rest x → (found = false ∨ best.size < x.size) → Best (⟨#[]⟩ : ByteArray) rest (ks.take (k + 1)) x true := fun h h2 => by rw [Htk.out]; exact HB.out.take h h2
        have Htake := Lib.hid htake
        clear hskip htake
        cases found with
        | false =>
          go_wp2_with fail
          refine (isCandidate_any (⟨#[]⟩ : ByteArray) rest x hxs _).mono ?_
          rintro _ w1 ⟨b, rfl, hb3, rfl⟩
          have Hb := Lib.hid hb3
          clear hb3
          cases b
          · go_wp2_with fail
            exact ⟨⟨k + 1, best, false, by omega, rfl, rfl, by go_num, Lib.hid (Hskip.out (.inl fun h => by have := Hb.out.2 h; simp at this))⟩, by simp [intOf]; omega⟩
          · go_wp2_with fail
            exact ⟨⟨k + 1, x, true, by omega, rfl, rfl, by go_num, Lib.hid (Htake.out (Hb.out.1 (by simp)) (.inl (by simp)))⟩, by simp [intOf]; omega⟩
        | true =>
          by_cases hsz : best.size < x.size
          · have hd : decide ((best.size : Int) < x.size) = true := by simp; omega
            go_wp2_with fail
            refine (isCandidate_any (⟨#[]⟩ : ByteArray) rest x hxs _).mono ?_
            rintro _ w1 ⟨b, rfl, hb3, rfl⟩
            have Hb := Lib.hid hb3
            clear hb3
            cases b
            · go_wp2_with fail
              exact ⟨⟨k + 1, best, true, by omega, rfl, rfl, by go_num, Lib.hid (Hskip.out (.inl fun h => by have := Hb.out.2 h; simp at this))⟩, by simp [intOf]; omega⟩
            · go_wp2_with fail
              exact ⟨⟨k + 1, x, true, by omega, rfl, rfl, by go_num, Lib.hid (Htake.out (Hb.out.1 (by simp)) (.inr hsz))⟩, by simp [intOf]; omega⟩
          · have hd : decide ((best.size : Int) < x.size) = false := by simp; omega
            go_wp2_with fail
            exact ⟨⟨k + 1, best, true, by omega, rfl, rfl, by go_num, Lib.hid (Hskip.out (.inr ⟨by simp, by omega⟩))⟩, by simp [intOf]; omega⟩
      · obtain rfl : k = ks.length := by omega
        have hl := HB.out
        rw [List.take_length] at hl
        have hfin := hl.look
        have hbe : found = false → best = ⟨#[]⟩ := by
          rcases hl with ⟨_, h, _⟩ | ⟨h, _⟩
          · exact fun _ => h
          · intro h2; rw [h] at h2; cases h2
        rw [← HM.out] at hfin
        have Hfin := Lib.hid hfin
        have Hbe := Lib.hid hbe
        clear hl hfin hbe HB
        go_wp2_with fail
        go_ret2
        refine ⟨?_, rfl⟩
        rw [Hfin.out]
        cases found
        · rw [Hbe.out rfl]; rfl
        · rfl
  | false =>
    obtain ⟨hp, ht⟩ := dot_no hd
    have hM2 : M = IdnM.look scope name ks := by rw [hM, means, if_neg (by rw [hd]; simp)]
    have HM := Lib.hid hM2
    have Hp := Lib.hid hp
    have Ht := Lib.hid ht
    clear hM hM2 hp ht hd
    go_enter Tryd.func24, Tryd.ntmps24
    go_wp2_with fail
    refine (Tryd.strings_CutPrefix name ⟨#[46]⟩ _).mono ?_
    rintro _ w1 ⟨rfl, rfl⟩
    rw [show (⟨#[46]⟩ : ByteArray).data.toList = [46] from rfl, Hp.out, Ht.out]
    go_wp2_with fail
    go_loop [10, 11, 23] (fun bv fv iv => ∃ (k : Nat) (best : ByteArray) (found : Bool), k ≤ ks.length ∧ bv = .string best ∧ fv = .bool found ∧ iv = .int .i64 k ∧ Hid (Best scope name (ks.take k) best found)) (fun _ _ iv => ks.length - (intOf iv).toNat)
    case atStart => exact ⟨0, ⟨#[]⟩, false, by omega, rfl, rfl, rfl, Lib.hid (by simpa using Best.nil scope name)⟩
    case round =>
      obtain ⟨k, best, found, hk, rfl, rfl, rfl, HB⟩ := hrel
      by_cases hlt : k < ks.length
      · obtain ⟨x, hx⟩ : ∃ x, ks[k]? = some x := ⟨_, List.getElem?_eq_getElem hlt⟩
        obtain ⟨kb, ko, rfl, hadlt, hcell⟩ := Hkn.out k x hx
        have hxs := Hks.out x (List.mem_of_getElem? hx)
        have htk : ks.take (k + 1) = ks.take k ++ [x] := by rw [List.take_add_one, hx]; rfl
        have Htk := Lib.hid htk
        clear hx htk
        have hskip : (¬ Cand scope name x ∨ (found = true ∧ x.size ≤ best.size)) → Best scope name (ks.take (k + 1)) best found := fun h => by rw [Htk.out]; exact HB.out.skip h
        have Hskip := Lib.hid hskip
        have htake : Cand scope name x → (found = false ∨ best.size < x.size) → Best scope name (ks.take (k + 1)) x true := fun h h2 => by rw [Htk.out]; exact HB.out.take h h2
        have Htake := Lib.hid htake
        clear hskip htake
        cases found with
        | false =>
          go_wp2_with fail
          refine (isCandidate_any scope name x hxs _).mono ?_
          rintro _ w1 ⟨b, rfl, hb3, rfl⟩
          have Hb := Lib.hid hb3
          clear hb3
          cases b
          · go_wp2_with fail
            exact ⟨⟨k + 1, best, false, by omega, rfl, rfl, by go_num, Lib.hid (Hskip.out (.inl fun h => by have := Hb.out.2 h; simp at this))⟩, by simp [intOf]; omega⟩
          · go_wp2_with fail
            exact ⟨⟨k + 1, x, true, by omega, rfl, rfl, by go_num, Lib.hid (Htake.out (Hb.out.1 (by simp)) (.inl (by simp)))⟩, by simp [intOf]; omega⟩
        | true =>
          by_cases hsz : best.size < x.size
          · have hd : decide ((best.size : Int) < x.size) = true := by simp; omega
            go_wp2_with fail
            refine (isCandidate_any scope name x hxs _).mono ?_
            rintro _ w1 ⟨b, rfl, hb3, rfl⟩
            have Hb := Lib.hid hb3
            clear hb3
            cases b
            · go_wp2_with fail
              exact ⟨⟨k + 1, best, true, by omega, rfl, rfl, by go_num, Lib.hid (Hskip.out (.inl fun h => by have := Hb.out.2 h; simp at this))⟩, by simp [intOf]; omega⟩
            · go_wp2_with fail
              exact ⟨⟨k + 1, x, true, by omega, rfl, rfl, by go_num, Lib.hid (Htake.out (Hb.out.1 (by simp)) (.inr hsz))⟩, by simp [intOf]; omega⟩
          · have hd : decide ((best.size : Int) < x.size) = false := by simp; omega
            go_wp2_with fail
            exact ⟨⟨k + 1, best, true, by omega, rfl, rfl, by go_num, Lib.hid (Hskip.out (.inr ⟨by simp, by omega⟩))⟩, by simp [intOf]; omega⟩
      · obtain rfl : k = ks.length := by omega
        have hl := HB.out
        rw [List.take_length] at hl
        have hfin := hl.look
        have hbe : found = false → best = ⟨#[]⟩ := by
          rcases hl with ⟨_, h, _⟩ | ⟨h, _⟩
          · exact fun _ => h
          · intro h2; rw [h] at h2; cases h2
        rw [← HM.out] at hfin
        have Hfin := Lib.hid hfin
        have Hbe := Lib.hid hbe
        clear hl hfin hbe HB
        go_wp2_with fail
        go_ret2
        refine ⟨?_, rfl⟩
        rw [Hfin.out]
        cases found
        · rw [Hbe.out rfl]; rfl
        · rfl
end Go.Proofs.YtpgikodjfidkkaaDoor.IdpR
