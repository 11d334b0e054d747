/- The reference of stage 6: keywords, joining, splitting, the scopes of a name. -/
import Derived.Test.YtpgikodjfidkkaaDoorIdpB
import Derived.Test.YtpgikodjfidkkaaDoorOwnS
import Derived.Laws.AppendOwn
set_option linter.unusedSimpArgs false
set_option linter.unusedVariables false
namespace Go.Proofs.YtpgikodjfidkkaaDoor.IdrB
open Go.RowKit Nums IdnM IdnC Uld IdpA OwnS IdpB

set_option maxHeartbeats 1000000 in
set_option maxRecDepth 100000 in
theorem split_def (s : ByteArray) (hs : s.size ≤ 4294967000) (w : World) :
    Calls Tryd.prog 18 #[.string s] w fun e w' => e = .returned (.tuple #[.string (scB s), .string (laB s)]) ∧ Below w.heap.size w w' := by
  have hc : scB s = match ldot s.data.toList with | none => ⟨#[]⟩ | some i => s.extract 0 i := rfl
  have hd : laB s = match ldot s.data.toList with | none => s | some i => s.extract (i + 1) s.size := rfl
  have Hc := Lib.hid hc
  have Hd := Lib.hid hd
  clear hc hd
  go_enter Tryd.func18, Tryd.ntmps18
  go_wp2_with fail
  go_loop [4] (fun i => ∃ k : Nat, k ≤ s.size ∧ i = .int .i64 ((k : Int) - 1) ∧ Hid (∀ j, k ≤ j → s.data.toList[j]? ≠ some 46)) (fun i => (intOf i + 1).toNat)
  case atStart => exact ⟨s.size, Nat.le_refl _, rfl, Lib.hid (fun j hj => by rw [List.getElem?_eq_none (show s.data.toList.length ≤ j from hj)]; simp)⟩
  case round =>
    obtain ⟨k, hk, rfl, Hk⟩ := hrel
    rcases Nat.eq_zero_or_pos k with rfl | hk0
    · have hl : ldot s.data.toList = none := ldot_none fun j => Hk.out j (Nat.zero_le _)
      have hc := Hc.out
      have hd := Hd.out
      rw [hl] at hc hd
      simp only at hc hd
      have Hc2 := Lib.hid hc
      have Hd2 := Lib.hid hd
      clear Hc Hd hl hc hd
      go_wp2_with fail
      go_ret2
      refine ⟨?_, Below.refl _ _⟩
      rw [Hc2.out, Hd2.out]
      rfl
    · obtain ⟨i, rfl⟩ : ∃ i, k = i + 1 := ⟨k - 1, by omega⟩
      have hi : i < s.size := by omega
      have e1 : (((i + 1 : Nat) : Int) - 1) = (i : Int) := by omega
      rw [e1]
      by_cases hb : s[i] = 46
      · have hbn : ((s[i].toNat : Int) == 46) = true := by rw [hb]; rfl
        have hl : ldot s.data.toList = some i := ldot_some (by rw [List.getElem?_eq_getElem (show i < s.data.toList.length from hi)]; exact congrArg some hb) (fun j hj => Hk.out j hj)
        have hc := Hc.out
        have hd := Hd.out
        rw [hl] at hc hd
        simp only at hc hd
        have Hc2 := Lib.hid hc
        have Hd2 := Lib.hid hd
        have hi1 : i ≤ s.size := by omega
        have hi2 : i + 1 ≤ s.size := by omega
        clear Hc Hd hl hc hd hb
        go_wp2_with fail
        go_region
        all_goals
          go_wp2_with fail
          go_ret2
          refine ⟨?_, (Below.refl _ _).drew⟩
          rw [Hc2.out, Hd2.out]
          rfl
      · have hbn : ((s[i].toNat : Int) == 46) = false := by
          rw [beq_eq_false_iff_ne]
          intro e
          exact hb (UInt8.toNat_inj.1 (show s[i].toNat = 46 by omega))
        have Hn : Hid (∀ j, i ≤ j → s.data.toList[j]? ≠ some 46) := Lib.hid (fun j hj => by
          rcases Nat.lt_or_ge i j with h | h
          · exact Hk.out j h
          · obtain rfl : j = i := by omega
            rw [List.getElem?_eq_getElem (show j < s.data.toList.length from hi)]
            intro e
            exact hb (Option.some.inj e))
        clear hb
        go_wp2_with fail
        exact ⟨⟨i, by omega, by go_num, Hn⟩, by simp [intOf]⟩

set_option maxHeartbeats 1000000 in
set_option maxRecDepth 100000 in
theorem isWord_any (s : ByteArray) (w : World) :
    Calls Tryd.prog 16 #[.string s] w fun e w' => e = .returned (.bool (word s.toList)) ∧ w = w' := by
  obtain ⟨l, hl⟩ : ∃ l, l = word s.toList := ⟨_, rfl⟩
  rw [← hl]
  have Hl := Lib.hid hl
  clear hl
  go_enter Tryd.func16, Tryd.ntmps16
  go_wp2_with fail
  all_goals go_ret
  all_goals
    refine ⟨ret_bool ?_, rfl⟩
    rw [Hl.out]
    clear Hl
    simp_all [word, words]

set_option maxHeartbeats 1000000 in
set_option maxRecDepth 100000 in
theorem join_any (u n : ByteArray) (hu : u.size ≤ 4294967296) (hn : n.size ≤ 4294967296) (w : World) :
    Calls Tryd.prog 20 #[.string u, .string n] w fun e w' => e = .returned (.string (joinB u n)) ∧ w = w' := by
  by_cases hz : u.size = 0
  · have he : u.toList.isEmpty = true := empty_yes hz
    have hj := Lib.hid (joinB_nil n hz)
    go_enter Tryd.func20, Tryd.ntmps20
    go_wp2_with fail
    go_ret
    exact ⟨by rw [hj.out]; rfl, rfl⟩
  · have he : u.toList.isEmpty = false := empty_no hz
    have hj := Lib.hid (joinB_cons n hz)
    have h1 : u.size + (⟨#[46]⟩ : ByteArray).size ≤ 9223372036854775807 := by
      show u.size + 1 ≤ _; omega
    have h2 : (u ++ (⟨#[46]⟩ : ByteArray)).size + n.size ≤ 9223372036854775807 := by
      rw [ByteArray.size_append]; show u.size + 1 + _ ≤ _; omega
    go_enter Tryd.func20, Tryd.ntmps20
    go_wp2_with fail
    go_ret
    exact ⟨by rw [hj.out]; rfl, rfl⟩

set_option maxHeartbeats 1000000 in
set_option maxRecDepth 100000 in
theorem up_any (s : ByteArray) (hs : s.size ≤ 4294967000) (w : World) :
    Calls Tryd.prog 23 #[.string s] w fun e w' => ∃ v, e = .returned v ∧ OwnS w' w.heap.size v (upsB s) ∧ Below w.heap.size w w' := by
  obtain ⟨i0, hi, hz0, hz1, hz2⟩ := info_parts infoS
  have hlen := upsB_len s
  obtain ⟨U, hU⟩ : ∃ U, U = upsB s := ⟨_, rfl⟩
  rw [← hU] at hlen ⊢
  have HU := Lib.hid hU
  clear hU
  go_enter Tryd.func23, Tryd.ntmps23
  go_wp2_with fail
  go_loopw [0, 3] (fun f v wr => ∃ (x : ByteArray) (done : List ByteArray), f = .string x ∧ OwnS wr w.heap.size v (done ++ [x]) ∧ Below w.heap.size w wr ∧ x.size ≤ 4294967000 ∧ done.length + 1 ≤ s.size + 1 ∧ Hid (U = done ++ upsB x)) (fun f _ _ => strSz f)
  case atStart =>
    exact ⟨s, [], rfl, OwnS.one w s (Nat.le_refl _), (Below.refl _ _).alloc (Nat.le_refl _) _, hs, by simp, Lib.hid HU.out⟩
  case round =>
    obtain ⟨x, done, rfl, hown, hb, hx, hdl, Hk⟩ := hrel
    have Hown := Lib.hid hown
    clear hown
    by_cases hz : x.size = 0
    · have he : x.toList.isEmpty = true := empty_yes hz
      have hU2 : U = done ++ [x] := by rw [Hk.out, upsB_nil hz]
      have HU2 := Lib.hid hU2
      clear hU2
      go_wp2_with fail
      go_ret
      refine ⟨_, rfl, ?_, hb⟩
      rw [HU2.out]
      exact Hown.out
    · have he : x.toList.isEmpty = false := empty_no hz
      have hU2 : U = (done ++ [x]) ++ upsB (scB x) := by rw [Hk.out, upsB_cons hz]; simp
      have hdl2 : done.length + 1 + 1 ≤ s.size + 1 := by
        have h1 := congrArg List.length hU2
        have h2 := upsB_pos (scB x)
        simp only [List.length_append, List.length_cons, List.length_nil] at h1
        omega
      have hlt := scB_lt hz
      have HU2 := Lib.hid hU2
      clear hU2
      go_wp2_with fail
      refine (split_def x hx _).mono ?_
      rintro _ w1 ⟨rfl, hb1⟩
      generalize scB x = y at *
      have Hown1 := Lib.hid (Hown.out.below hb1)
      have hb01 := hb.trans (hb1.mono hb.size)
      have hsz := hb01.size
      go_wp2_with (at_builtin; refine wpList_append_own _ rfl _ _ 28 rfl w.heap.size 9 i0 (.string ByteArray.empty) 1 16 Tryd.underlying28 hi hz0 hz1 hz2 rfl (by decide) _ (done ++ [x]).length _ rfl (World.ownsRow.alloc Hown1.out _) ⟨w1.heap.size, 0, none⟩ 1 1 [.string y] rfl rfl ?c1 ?c2 ?c3 ?c4 ?c5 ?_)
      case c1 =>
        intro j u hj
        match j, hj with
        | 0, hj => simp at hj; subst hj; simp [Addr.add]
      case c2 => intro u hu; simp at hu; subst hu; rfl
      case c3 => unfold maxLen; simp only [List.length_append, List.length_cons, List.length_nil]; omega
      case c4 => simp only [List.length_append, List.length_cons, List.length_nil]; omega
      case c5 => simp; omega
      intro v' w2 hown' hgrow _
      have hb2 : Below w.heap.size w w2 := (hb01.alloc (by omega) _).grown hgrow (by simp; omega) (fun k hk => Hown1.out.lt k hk)
      have Hown2 : Hid (OwnS w2 w.heap.size v' ((done ++ [x]) ++ [y])) := Lib.hid (by
        unfold OwnS
        simpa using hown')
      clear hown'
      go_wp2_with fail
      exact ⟨⟨y, done ++ [x], rfl, Hown2.out, hb2, by omega, by simp only [List.length_append, List.length_cons, List.length_nil]; omega, HU2⟩, by simp [strSz]; omega⟩
end Go.Proofs.YtpgikodjfidkkaaDoor.IdrB
