/- The reference of stage 6: what a name means. -/
import Derived.Test.YtpgikodjfidkkaaDoorKnS
import Derived.Test.YtpgikodjfidkkaaDoorIdrB
import Derived.Test.YtpgikodjfidkkaaDoorIdpR
set_option linter.unusedSimpArgs false
set_option linter.unusedVariables false
namespace Go.Proofs.YtpgikodjfidkkaaDoor.IdrR
open Go.RowKit Nums IdnM IdnC Uld IdpA OwnS KnS

theorem find_at {p : ByteArray → Bool} : ∀ {L : List ByteArray} {k : Nat} {x : ByteArray}, L[k]? = some x → p x = true → (∀ (j : Nat) y, L[j]? = some y → j < k → p y = false) → L.find? p = some x
  | [], k, x, h, _, _ => by simp at h
  | y :: t, 0, x, h, hp, _ => by
    simp at h
    subst h
    simp [hp]
  | y :: t, k + 1, x, h, hp, hall => by
    have h0 := hall 0 y rfl (by omega)
    rw [List.find?_cons_of_neg (by rw [h0]; simp)]
    exact find_at (by simpa using h) hp (fun j z hz hj => hall (j + 1) z (by simpa using hz) (by omega))
theorem find_no {p : ByteArray → Bool} {L : List ByteArray} (h : ∀ (j : Nat) y, L[j]? = some y → p y = false) : L.find? p = none := by
  rw [List.find?_eq_none]
  intro x hx
  obtain ⟨j, hj⟩ := List.getElem?_of_mem hx
  rw [h j x hj]; simp
theorem look_hit {scope name u : ByteArray} {ks : List ByteArray} {k : Nat} (hu : (upsB scope)[k]? = some u) (hh : has ks (joinB u name) = true) (hall : ∀ (j : Nat) v, (upsB scope)[j]? = some v → j < k → has ks (joinB v name) = false) :
    IdnM.look scope name ks = some (joinB u name) := by
  unfold IdnM.look
  refine find_at (k := k) (by rw [List.getElem?_map, hu]; rfl) hh ?_
  intro j y hy hj
  rw [List.getElem?_map] at hy
  cases hv : (upsB scope)[j]? with
  | none => rw [hv] at hy; cases hy
  | some v =>
    rw [hv] at hy
    cases hy
    exact hall j v hv hj
theorem look_miss {scope name : ByteArray} {ks : List ByteArray} (hall : ∀ (j : Nat) v, (upsB scope)[j]? = some v → has ks (joinB v name) = false) : IdnM.look scope name ks = none := by
  unfold IdnM.look
  refine find_no ?_
  intro j y hy
  rw [List.getElem?_map] at hy
  cases hv : (upsB scope)[j]? with
  | none => rw [hv] at hy; cases hy
  | some v =>
    rw [hv] at hy
    cases hy
    exact hall j v hv
theorem has_yes {ks : List ByteArray} {x y : ByteArray} {k : Nat} (h : ks[k]? = some x) (he : (x.toList == y.toList) = true) : has ks y = true := by
  unfold has
  rw [List.any_eq_true]
  exact ⟨x, List.mem_of_getElem? h, he⟩
theorem has_no {ks : List ByteArray} {y : ByteArray} (h : ∀ (j : Nat) x, ks[j]? = some x → (x.toList == y.toList) = false) : has ks y = false := by
  unfold has
  rw [List.any_eq_false]
  intro x hx
  obtain ⟨j, hj⟩ := List.getElem?_of_mem hx
  rw [h j x hj]; simp

set_option maxHeartbeats 1000000 in
set_option maxRecDepth 100000 in
theorem has_any (v : Value) (ks : List ByteArray) (s : ByteArray) (w : World) (hkn : Kn w v ks) (hl : ks.length ≤ 9223372036854775000) :
    Calls Tryd.prog 30 #[v, .string s] w fun e w' => e = .returned (.bool (has ks s)) ∧ w = w' := by
  obtain ⟨a, cap, rfl, hcap, hcells⟩ := hkn
  have Hkn := Lib.hid hcells
  clear hcells
  obtain ⟨B, hB⟩ : ∃ B, B = has ks s := ⟨_, rfl⟩
  rw [← hB]
  have HB := Lib.hid hB
  clear hB
  go_enter Tryd.func30, Tryd.ntmps30
  go_wp2_with fail
  go_loop [5] (fun iv => ∃ k : Nat, k ≤ ks.length ∧ iv = .int .i64 k ∧ Hid (∀ (j : Nat) x, ks[j]? = some x → j < k → (x.toList == s.toList) = false)) (fun iv => ks.length - (intOf iv).toNat)
  case atStart => exact ⟨0, by omega, rfl, Lib.hid (fun j x _ hj => by omega)⟩
  case round =>
    obtain ⟨k, hk, rfl, Hk⟩ := hrel
    by_cases hlt : k < ks.length
    · obtain ⟨x, hx⟩ : ∃ x, ks[k]? = some x := ⟨_, List.getElem?_eq_getElem hlt⟩
      obtain ⟨kb, ko, rfl, hadlt, hcell⟩ := Hkn.out k x hx
      cases hb : (x.toList == s.toList) with
      | true =>
        have hBt : B = true := by rw [HB.out]; exact has_yes hx hb
        clear HB hx
        subst hBt
        go_wp2_with fail
        go_ret
        exact ⟨rfl, rfl⟩
      | false =>
        have Hn : Hid (∀ (j : Nat) y, ks[j]? = some y → j < k + 1 → (y.toList == s.toList) = false) := Lib.hid (fun j y hy hj => by
          rcases Nat.lt_or_ge j k with h5 | h5
          · exact Hk.out j y hy h5
          · obtain rfl : j = k := by omega
            rw [hx] at hy
            cases hy
            exact hb)
        clear hx
        go_wp2_with fail
        exact ⟨⟨k + 1, by omega, by go_num, Hn⟩, by simp [intOf]; omega⟩
    · obtain rfl : k = ks.length := by omega
      have hBf : B = false := by
        rw [HB.out]
        exact has_no (fun j x hx => Hk.out j x hx (List.getElem?_eq_some_iff.1 hx).1)
      clear HB
      subst hBf
      go_wp2_with fail
      go_ret
      exact ⟨rfl, rfl⟩

set_option maxHeartbeats 1000000 in
set_option maxRecDepth 100000 in
theorem sameTexts_any (v1 v2 : Value) (l : List ByteArray) (w : World) (h1 : Kn w v1 l) (h2 : Kn w v2 l) (hl : l.length ≤ 9223372036854775000) :
    Calls Tryd.prog 21 #[v1, v2] w fun e w' => e = .returned (.bool true) ∧ Below w.heap.size w w' := by
  obtain ⟨a1, cap1, rfl, hcap1, hcells1⟩ := h1
  obtain ⟨a2, cap2, rfl, hcap2, hcells2⟩ := h2
  have H1 := Lib.hid hcells1
  have H2 := Lib.hid hcells2
  clear hcells1 hcells2
  go_enter Tryd.func21, Tryd.ntmps21
  go_wp2_with fail
  go_loopw [5] (fun iv wr => ∃ k : Nat, k ≤ l.length ∧ iv = .int .i64 k ∧ Below w.heap.size w wr) (fun iv _ => l.length - (intOf iv).toNat)
  case atStart => exact ⟨0, by omega, rfl, Below.refl _ _⟩
  case round =>
    obtain ⟨k, hk, rfl, hb0⟩ := hrel
    by_cases hlt : k < l.length
    · obtain ⟨x, hx⟩ : ∃ x, l[k]? = some x := ⟨_, List.getElem?_eq_getElem hlt⟩
      obtain ⟨kb1, ko1, rfl, hadlt1, hcell1⟩ := H1.out k x hx
      obtain ⟨kb2, ko2, rfl, hadlt2, hcell2⟩ := H2.out k x hx
      have hc1 := (hb0.cell (p := ⟨kb1, ko1 + k, none⟩) hadlt1).trans hcell1
      have hc2 := (hb0.cell (p := ⟨kb2, ko2 + k, none⟩) hadlt2).trans hcell2
      have hb : (x.toList == x.toList) = true := by simp
      clear hx hcell1 hcell2
      go_wp2_with fail
      go_region
      all_goals
        go_wp2_with fail
        exact ⟨⟨k + 1, by omega, by go_num, hb0.drew⟩, by simp [intOf]; omega⟩
    · obtain rfl : k = l.length := by omega
      go_wp2_with fail
      go_ret
      exact ⟨rfl, hb0⟩

theorem dotted_at {name : ByteArray} (h : 0 < name.size) : dotted name = ((name[0].toNat : Int) == 46) := by
  obtain ⟨b, t, ht⟩ : ∃ b t, name.data.toList = b :: t := List.exists_cons_of_length_pos (show 0 < name.data.toList.length from h)
  have hb : name[0] = b := by
    have h1 : name.data.toList[0]? = some name[0] := List.getElem?_eq_getElem (show 0 < name.data.toList.length from h)
    rw [ht] at h1
    exact (Option.some.inj h1).symm
  unfold dotted
  rw [ht, hb]
  rw [Bool.eq_iff_iff]
  simp only [decide_eq_true_eq, beq_iff_eq]
  constructor
  · rintro rfl; rfl
  · intro e
    exact UInt8.toNat_inj.1 (show b.toNat = 46 by omega)
theorem dotted_zero {name : ByteArray} (h : name.size = 0) : dotted name = false := by
  unfold dotted
  rw [List.length_eq_zero_iff.1 (show name.data.toList.length = 0 from h)]

set_option maxHeartbeats 2000000 in
set_option maxRecDepth 100000 in
theorem resolve_def (scope name : ByteArray) (v : Value) (ks : List ByteArray) (w : World) (hkn : Kn w v ks) (hl : ks.length ≤ 9223372036854775000) (hs : scope.size ≤ 4294967000) (hn : name.size ≤ 4294967000) :
    Calls Tryd.prog 25 #[.string scope, .string name, v] w fun e w' => e = .returned (.tuple #[.string ((means scope name ks).getD ⟨#[]⟩), .bool (means scope name ks).isSome]) ∧ Below w.heap.size w w' := by
  obtain ⟨M, hM⟩ : ∃ M, M = means scope name ks := ⟨_, rfl⟩
  rw [← hM]
  cases hd : dotted name with
  | true =>
    have hpos : 0 < name.size := by
      rcases Nat.eq_zero_or_pos name.size with h | h
      · rw [dotted_zero h] at hd; cases hd
      · exact h
    have hb0 : ((name[0].toNat : Int) == 46) = true := by rw [← dotted_at hpos]; exact hd
    have hp0 : decide ((0 : Int) < name.size) = true := decide_eq_true (by omega)
    have h1n : (1 : Int) ≤ name.size := by omega
    cases hh : has ks (name.extract 1 name.size) with
    | true =>
      have hM2 : M = some (name.extract 1 name.size) := by rw [hM, means, if_pos hd, if_pos hh]
      have HM := Lib.hid hM2
      have Hh := Lib.hid hh
      clear hM hM2 hh hd
      go_enter Tryd.func25, Tryd.ntmps25
      go_wp2_with fail
      refine (has_any v ks _ _ hkn hl).mono ?_
      rintro _ w1 ⟨rfl, rfl⟩
      rw [Hh.out]
      go_wp2_with fail
      go_ret2
      exact ⟨by rw [HM.out]; rfl, Below.refl _ _⟩
    | false =>
      have hM2 : M = none := by rw [hM, means, if_pos hd, if_neg (by rw [hh]; simp)]
      have HM := Lib.hid hM2
      have Hh := Lib.hid hh
      clear hM hM2 hh hd
      go_enter Tryd.func25, Tryd.ntmps25
      go_wp2_with fail
      refine (has_any v ks _ _ hkn hl).mono ?_
      rintro _ w1 ⟨rfl, rfl⟩
      rw [Hh.out]
      go_wp2_with fail
      go_ret2
      exact ⟨by rw [HM.out]; rfl, Below.refl _ _⟩
  | false =>
    have hM2 : M = IdnM.look scope name ks := by rw [hM, means, if_neg (by rw [hd]; simp)]
    have HM := Lib.hid hM2
    have Hsz := Lib.hid (upsB_mem_size scope)
    have hne := ups_ne scope
    have hul := upsB_len scope
    have Hhit := Lib.hid (fun k u => look_hit (scope := scope) (name := name) (u := u) (ks := ks) (k := k))
    have Hmiss := Lib.hid (look_miss (scope := scope) (name := name) (ks := ks))
    obtain ⟨U, hU⟩ : ∃ U, U = upsB scope := ⟨_, rfl⟩
    rw [← hU] at hul hne
    have Hne := Lib.hid hne
    have HU := Lib.hid hU
    have Hkn := Lib.hid hkn
    clear hM hM2 hne hU hkn
    rcases Nat.eq_zero_or_pos name.size with hz | hpos
    · have hp0 : decide ((0 : Int) < name.size) = false := decide_eq_false (by omega)
      clear hd
      go_enter Tryd.func25, Tryd.ntmps25
      go_wp2_with fail
      refine (IdrB.up_any scope hs _).mono ?_
      rintro _ w1 ⟨v1, rfl, hown, hb⟩
      rw [← HU.out] at hown
      obtain ⟨g, cap, rfl, _, hglt, hcap, hcell⟩ := hown.at Hne.out
      have Hcell := Lib.hid hcell
      have hkn1 := Lib.hid (Hkn.out.below hb)
      clear hown hcell
      go_wp2_with fail
      go_loop [9] (fun iv => ∃ k : Nat, k ≤ U.length ∧ iv = .int .i64 k ∧ Hid (∀ (j : Nat) u, U[j]? = some u → j < k → has ks (joinB u name) = false)) (fun iv => U.length - (intOf iv).toNat)
      case atStart => exact ⟨0, by omega, rfl, Lib.hid (fun j u _ hj => by omega)⟩
      case round =>
        obtain ⟨k, hk, rfl, Hk⟩ := hrel
        by_cases hlt : k < U.length
        · obtain ⟨u, hu⟩ : ∃ u, U[k]? = some u := ⟨_, List.getElem?_eq_getElem hlt⟩
          have hc := Hcell.out k u hu
          have hus : u.size ≤ 4294967296 := by
            have := Hsz.out u (by rw [← HU.out]; exact List.mem_of_getElem? hu)
            omega
          cases hh : has ks (joinB u name) with
          | true =>
            have hM3 : M = some (joinB u name) := by
              rw [HM.out]
              exact Hhit.out k u (by rw [← HU.out]; exact hu) hh (fun j x hx hj => Hk.out j x (by rw [HU.out]; exact hx) hj)
            have HM3 := Lib.hid hM3
            have Hh := Lib.hid hh
            clear hM3 hh hu
            go_wp2_with fail
            refine (IdrB.join_any u name hus (by omega) _).mono ?_
            rintro _ w2 ⟨rfl, rfl⟩
            go_wp2_with fail
            refine (has_any v ks _ _ hkn1.out hl).mono ?_
            rintro _ w2 ⟨rfl, rfl⟩
            rw [Hh.out]
            go_wp2_with fail
            refine (IdrB.join_any u name hus (by omega) _).mono ?_
            rintro _ w2 ⟨rfl, rfl⟩
            go_wp2_with fail
            go_ret2
            exact ⟨by rw [HM3.out]; rfl, hb⟩
          | false =>
            have Hn : Hid (∀ (j : Nat) y, U[j]? = some y → j < k + 1 → has ks (joinB y name) = false) := Lib.hid (fun j y hy hj => by
              rcases Nat.lt_or_ge j k with h5 | h5
              · exact Hk.out j y hy h5
              · obtain rfl : j = k := by omega
                rw [hu] at hy
                cases hy
                exact hh)
            have Hh := Lib.hid hh
            clear hh hu
            go_wp2_with fail
            refine (IdrB.join_any u name hus (by omega) _).mono ?_
            rintro _ w2 ⟨rfl, rfl⟩
            go_wp2_with fail
            refine (has_any v ks _ _ hkn1.out hl).mono ?_
            rintro _ w2 ⟨rfl, rfl⟩
            rw [Hh.out]
            go_wp2_with fail
            exact ⟨⟨k + 1, by omega, by go_num, Hn⟩, by simp [intOf]; omega⟩
        · obtain rfl : k = U.length := by omega
          have hM3 : M = none := by
            rw [HM.out]
            refine Hmiss.out (fun j x hx => ?_)
            rw [← HU.out] at hx
            exact Hk.out j x hx (List.getElem?_eq_some_iff.1 hx).1
          have HM3 := Lib.hid hM3
          clear hM3
          go_wp2_with fail
          go_ret2
          exact ⟨by rw [HM3.out]; rfl, hb⟩
    · have hp0 : decide ((0 : Int) < name.size) = true := decide_eq_true (by omega)
      have hb0 : ((name[0].toNat : Int) == 46) = false := by rw [← dotted_at hpos]; exact hd
      clear hd
      go_enter Tryd.func25, Tryd.ntmps25
      go_wp2_with fail
      refine (IdrB.up_any scope hs _).mono ?_
      rintro _ w1 ⟨v1, rfl, hown, hb⟩
      rw [← HU.out] at hown
      obtain ⟨g, cap, rfl, _, hglt, hcap, hcell⟩ := hown.at Hne.out
      have Hcell := Lib.hid hcell
      have hkn1 := Lib.hid (Hkn.out.below hb)
      clear hown hcell
      go_wp2_with fail
      go_loop [9] (fun iv => ∃ k : Nat, k ≤ U.length ∧ iv = .int .i64 k ∧ Hid (∀ (j : Nat) u, U[j]? = some u → j < k → has ks (joinB u name) = false)) (fun iv => U.length - (intOf iv).toNat)
      case atStart => exact ⟨0, by omega, rfl, Lib.hid (fun j u _ hj => by omega)⟩
      case round =>
        obtain ⟨k, hk, rfl, Hk⟩ := hrel
        by_cases hlt : k < U.length
        · obtain ⟨u, hu⟩ : ∃ u, U[k]? = some u := ⟨_, List.getElem?_eq_getElem hlt⟩
          have hc := Hcell.out k u hu
          have hus : u.size ≤ 4294967296 := by
            have := Hsz.out u (by rw [← HU.out]; exact List.mem_of_getElem? hu)
            omega
          cases hh : has ks (joinB u name) with
          | true =>
            have hM3 : M = some (joinB u name) := by
              rw [HM.out]
              exact Hhit.out k u (by rw [← HU.out]; exact hu) hh (fun j x hx hj => Hk.out j x (by rw [HU.out]; exact hx) hj)
            have HM3 := Lib.hid hM3
            have Hh := Lib.hid hh
            clear hM3 hh hu
            go_wp2_with fail
            refine (IdrB.join_any u name hus (by omega) _).mono ?_
            rintro _ w2 ⟨rfl, rfl⟩
            go_wp2_with fail
            refine (has_any v ks _ _ hkn1.out hl).mono ?_
            rintro _ w2 ⟨rfl, rfl⟩
            rw [Hh.out]
            go_wp2_with fail
            refine (IdrB.join_any u name hus (by omega) _).mono ?_
            rintro _ w2 ⟨rfl, rfl⟩
            go_wp2_with fail
            go_ret2
            exact ⟨by rw [HM3.out]; rfl, hb⟩
          | false =>
            have Hn : Hid (∀ (j : Nat) y, U[j]? = some y → j < k + 1 → has ks (joinB y name) = false) := Lib.hid (fun j y hy hj => by
              rcases Nat.lt_or_ge j k with h5 | h5
              · exact Hk.out j y hy h5
              · obtain rfl : j = k := by omega
                rw [hu] at hy
                cases hy
                exact hh)
            have Hh := Lib.hid hh
            clear hh hu
            go_wp2_with fail
            refine (IdrB.join_any u name hus (by omega) _).mono ?_
            rintro _ w2 ⟨rfl, rfl⟩
            go_wp2_with fail
            refine (has_any v ks _ _ hkn1.out hl).mono ?_
            rintro _ w2 ⟨rfl, rfl⟩
            rw [Hh.out]
            go_wp2_with fail
            exact ⟨⟨k + 1, by omega, by go_num, Hn⟩, by simp [intOf]; omega⟩
        · obtain rfl : k = U.length := by omega
          have hM3 : M = none := by
            rw [HM.out]
            refine Hmiss.out (fun j x hx => ?_)
            rw [← HU.out] at hx
            exact Hk.out j x hx (List.getElem?_eq_some_iff.1 hx).1
          have HM3 := Lib.hid hM3
          clear hM3
          go_wp2_with fail
          go_ret2
          exact ⟨by rw [HM3.out]; rfl, hb⟩
end Go.Proofs.YtpgikodjfidkkaaDoor.IdrR
