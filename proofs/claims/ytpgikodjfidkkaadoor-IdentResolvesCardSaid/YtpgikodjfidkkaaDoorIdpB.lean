/- Package ident of the program: keywords, joining, splitting, the scopes of a name. -/
import Derived.Test.YtpgikodjfidkkaaDoorIdpA
import Derived.Test.YtpgikodjfidkkaaDoorOwnS
import Derived.Laws.AppendOwn
set_option linter.unusedSimpArgs false
set_option linter.unusedVariables false
namespace Go.Proofs.YtpgikodjfidkkaaDoor.IdpB
open Go.RowKit Nums IdnM IdnC Uld IdpA OwnS

def words : List (List UInt8) := [[109, 101, 115, 115, 97, 103, 101], [101, 110, 117, 109], [115, 101, 114, 118, 105, 99, 101], [117, 110, 105, 111, 110], [109, 97, 112], [108, 105, 115, 116], [114, 101, 113, 117, 105, 114, 101, 100], [111, 112, 116, 105, 111, 110, 97, 108], [112, 108, 97, 105, 110], [100, 101, 102, 97, 117, 108, 116], [114, 101, 115, 101, 114, 118, 101, 100], [105, 109, 112, 111, 114, 116], [115, 112, 97, 99, 101], [114, 112, 99], [115, 116, 114, 101, 97, 109], [114, 101, 116, 117, 114, 110, 115], [111, 112, 101, 110], [116, 114, 117, 101], [102, 97, 108, 115, 101], [110, 97, 110], [105, 110, 102]]
def word (l : List UInt8) : Bool := words.any fun x => l == x
def strSz : Value → Nat
  | .string s => s.size
  | _ => 0
theorem lix (s : ByteArray) : Lib.lastIndexByte s 46 = match ldot s.data.toList with | none => -1 | some i => (i : Int) := by
  have hget : ∀ j, j < s.size → s.data.toList[j]? = some s.data[j]! := by
    intro j hj
    have h1 : j < s.data.size := hj
    rw [List.getElem?_eq_getElem (show j < s.data.toList.length from hj), getElem!_pos s.data j h1]
    rfl
  rcases Lib.lastIndexByte_spec s 46 with ⟨e, hn⟩ | ⟨i, hi, e, hc, hn⟩
  · have hl : ldot s.data.toList = none := by
      refine ldot_none fun j => ?_
      rcases Nat.lt_or_ge j s.size with hj | hj
      · rw [hget j hj]
        intro h
        have h2 := hn j hj
        rw [Option.some.inj h] at h2
        exact h2 rfl
      · rw [List.getElem?_eq_none (show s.data.toList.length ≤ j from hj)]; simp
    rw [hl, e]
  · have hl : ldot s.data.toList = some i := by
      refine ldot_some ?_ ?_
      · rw [hget i hi]
        have h2 : s.data[i]!.toNat = 46 := by omega
        exact congrArg some (UInt8.toNat_inj.1 h2)
      · intro j hj
        rcases Nat.lt_or_ge j s.size with h | h
        · rw [hget j h]
          intro h3
          have h2 := hn j hj h
          rw [Option.some.inj h3] at h2
          exact h2 rfl
        · rw [List.getElem?_eq_none (show s.data.toList.length ≤ j from h)]; simp
    rw [hl, e]

set_option maxHeartbeats 1000000 in
set_option maxRecDepth 100000 in
theorem split_def (s : ByteArray) (hs : s.size ≤ 4294967000) (w : World) :
    Calls Tryd.prog 17 #[.string s] w fun e w' => e = .returned (.tuple #[.string (scB s), .string (laB s)]) ∧ Below w.heap.size w w' := by
  have hx := lix s
  have hc : scB s = match ldot s.data.toList with | none => ⟨#[]⟩ | some i => s.extract 0 i := rfl
  have hd : laB s = match ldot s.data.toList with | none => s | some i => s.extract (i + 1) s.size := rfl
  generalize scB s = c at *
  generalize laB s = d at *
  cases hl : ldot s.data.toList with
  | none =>
    rw [hl] at hx hc hd
    simp only at hx hc hd
    have Hc := Lib.hid hc
    have Hd := Lib.hid hd
    have Hx := Lib.hid hx
    clear hx hl hc hd
    go_enter Tryd.func17, Tryd.ntmps17
    go_wp2_with fail
    refine (Tryd.strings_LastIndexByte s 46 (by omega) _).mono ?_
    rintro _ w1 ⟨rfl, rfl⟩
    rw [Hx.out]
    go_wp2_with fail
    go_ret2
    refine ⟨?_, Below.refl _ _⟩
    rw [Hc.out, Hd.out]
    rfl
  | some i =>
    rw [hl] at hx hc hd
    simp only at hx hc hd
    have hi : i < s.size := ldot_lt hl
    have hi1 : i ≤ s.size := by omega
    have hi2 : i + 1 ≤ s.size := by omega
    have Hc := Lib.hid hc
    have Hd := Lib.hid hd
    have Hx := Lib.hid hx
    clear hx hl hc hd
    go_enter Tryd.func17, Tryd.ntmps17
    go_wp2_with fail
    refine (Tryd.strings_LastIndexByte s 46 (by omega) _).mono ?_
    rintro _ w1 ⟨rfl, rfl⟩
    rw [Hx.out]
    go_wp2_with fail
    go_region
    all_goals
      go_wp2_with fail
      go_ret2
      refine ⟨?_, (Below.refl _ _).drew⟩
      rw [Hc.out, Hd.out]
      rfl

set_option maxHeartbeats 1000000 in
set_option maxRecDepth 100000 in
theorem isWord_any (s : ByteArray) (w : World) :
    Calls Tryd.prog 15 #[.string s] w fun e w' => e = .returned (.bool (word s.toList)) ∧ w = w' := by
  obtain ⟨l, hl⟩ : ∃ l, l = word s.toList := ⟨_, rfl⟩
  rw [← hl]
  have Hl := Lib.hid hl
  clear hl
  go_enter Tryd.func15, Tryd.ntmps15
  go_wp2_with fail
  all_goals go_ret
  all_goals
    refine ⟨ret_bool ?_, rfl⟩
    rw [Hl.out]
    clear Hl
    simp_all [word, words]

set_option maxHeartbeats 1000000 in
set_option maxRecDepth 100000 in
theorem join_any (u n : ByteArray) (hu : u.size ≤ 4294967296) (hn : n.size ≤ 4294967296) (w : World) :
    Calls Tryd.prog 19 #[.string u, .string n] w fun e w' => e = .returned (.string (joinB u n)) ∧ w = w' := by
  by_cases hz : u.size = 0
  · have he : u.toList.isEmpty = true := empty_yes hz
    have hj := Lib.hid (joinB_nil n hz)
    go_enter Tryd.func19, Tryd.ntmps19
    go_wp2_with fail
    go_ret
    exact ⟨by rw [hj.out]; rfl, rfl⟩
  · have he : u.toList.isEmpty = false := empty_no hz
    have hj := Lib.hid (joinB_cons n hz)
    have h1 : u.size + (⟨#[46]⟩ : ByteArray).size ≤ 9223372036854775807 := by
      show u.size + 1 ≤ _; omega
    have h2 : (u ++ (⟨#[46]⟩ : ByteArray)).size + n.size ≤ 9223372036854775807 := by
      rw [ByteArray.size_append]; show u.size + 1 + _ ≤ _; omega
    go_enter Tryd.func19, Tryd.ntmps19
    go_wp2_with fail
    go_ret
    exact ⟨by rw [hj.out]; rfl, rfl⟩

set_option maxHeartbeats 1000000 in
set_option maxRecDepth 100000 in
theorem up_any (s : ByteArray) (hs : s.size ≤ 4294967000) (w : World) :
    Calls Tryd.prog 22 #[.string s] w fun e w' => ∃ v, e = .returned v ∧ OwnS w' w.heap.size v (upsB s) ∧ Below w.heap.size w w' := by
  obtain ⟨i0, hi, hz0, hz1, hz2⟩ := info_parts infoS
  have hlen := upsB_len s
  obtain ⟨U, hU⟩ : ∃ U, U = upsB s := ⟨_, rfl⟩
  rw [← hU] at hlen ⊢
  have HU := Lib.hid hU
  clear hU
  go_enter Tryd.func22, Tryd.ntmps22
  go_wp2_with fail
  go_loopw [0, 3] (fun f v wr => ∃ (x : ByteArray) (done : List ByteArray), f = .string x ∧ OwnS wr w.heap.size v (done ++ [x]) ∧ Below w.heap.size w wr ∧ x.size ≤ 4294967000 ∧ done.length + 1 ≤ s.size + 1 ∧ Hid (U = done ++ upsB x)) (fun f _ _ => strSz f)
  case atStart =>
    exact ⟨s, [], rfl, OwnS.one w s (Nat.le_refl _), (Below.refl _ _).alloc (Nat.le_refl _) _, hs, by simp, Lib.hid HU.out⟩
  case round =>
    obtain ⟨x, done, rfl, hown, hb, hx, hdl, Hk⟩ := hrel
    have Hown := Lib.hid hown
    clear hown
    by_cases hz : x.size = 0
    · have he : x.toList.isEmpty = true := empty_yes hz
      have hU2 : U = done ++ [x] := by rw [Hk.out, upsB_nil hz]
      have HU2 := Lib.hid hU2
      clear hU2
      go_wp2_with fail
      go_ret
      refine ⟨_, rfl, ?_, hb⟩
      rw [HU2.out]
      exact Hown.out
    · have he : x.toList.isEmpty = false := empty_no hz
      have hU2 : U = (done ++ [x]) ++ upsB (scB x) := by rw [Hk.out, upsB_cons hz]; simp
      have hdl2 : done.length + 1 + 1 ≤ s.size + 1 := by
        have h1 := congrArg List.length hU2
        have h2 := upsB_pos (scB x)
        simp only [List.length_append, List.length_cons, List.length_nil] at h1
        omega
      have hlt := scB_lt hz
      have HU2 := Lib.hid hU2
      clear hU2
      go_wp2_with fail
      refine (split_def x hx _).mono ?_
      rintro _ w1 ⟨rfl, hb1⟩
      generalize scB x = y at *
      have Hown1 := Lib.hid (Hown.out.below hb1)
      have hb01 := hb.trans (hb1.mono hb.size)
      have hsz := hb01.size
      go_wp2_with (at_builtin; refine wpList_append_own _ rfl _ _ 28 rfl w.heap.size 9 i0 (.string ByteArray.empty) 1 16 Tryd.underlying28 hi hz0 hz1 hz2 rfl (by decide) _ (done ++ [x]).length _ rfl (World.ownsRow.alloc Hown1.out _) ⟨w1.heap.size, 0, none⟩ 1 1 [.string y] rfl rfl ?c1 ?c2 ?c3 ?c4 ?c5 ?_)
      case c1 =>
        intro j u hj
        match j, hj with
        | 0, hj => simp at hj; subst hj; simp [Addr.add]
      case c2 => intro u hu; simp at hu; subst hu; rfl
      case c3 => unfold maxLen; simp only [List.length_append, List.length_cons, List.length_nil]; omega
      case c4 => simp only [List.length_append, List.length_cons, List.length_nil]; omega
      case c5 => simp; omega
      intro v' w2 hown' hgrow _
      have hb2 : Below w.heap.size w w2 := (hb01.alloc (by omega) _).grown hgrow (by simp; omega) (fun k hk => Hown1.out.lt k hk)
      have Hown2 : Hid (OwnS w2 w.heap.size v' ((done ++ [x]) ++ [y])) := Lib.hid (by
        unfold OwnS
        simpa using hown')
      clear hown'
      go_wp2_with fail
      exact ⟨⟨y, done ++ [x], rfl, Hown2.out, hb2, by omega, by simp only [List.length_append, List.length_cons, List.length_nil]; omega, HU2⟩, by simp [strSz]; omega⟩
end Go.Proofs.YtpgikodjfidkkaaDoor.IdpB
