/- The program's decimal: only one form of a number. -/
import Derived.Test.YtgjbpadhdnclnaaGreatDoorScpA
import Derived.Shelf.Strings.SlTrimAscii
set_option linter.unusedSimpArgs false
set_option linter.unusedVariables false
namespace Go.Proofs.YtgjbpadhdnclnaaGreatDoor.ScpB
open Go.RowKit Nums Byt UtfM UtfS ScaM ScaV ScaA ScaB ScaC ScpM ScpA

def digitsL : List UInt8 := [48, 49, 50, 51, 52, 53, 54, 55, 56, 57]
def decB (l : List UInt8) : Bool :=
  !(Lib.trimPrefix l [45]).isEmpty && (Lib.trimS (Lib.trimPrefix l [45]) digitsL).isEmpty && (!((Lib.trimPrefix l [45]).head? == some 48) || l == [48])

theorem head48 (d : ByteArray) (h0 : 0 < d.size) : (d.data.toList.head? == some 48) = decide (((d[0]).toNat : Int) = 48) := by
  have e : d.data.toList.head? = some d[0] := by
    have h1 : 0 < d.data.toList.length := h0
    rw [List.head?_eq_getElem?, List.getElem?_eq_getElem h1]
    rfl
  rw [e, Bool.eq_iff_iff]
  simp only [beq_iff_eq, Option.some.injEq, decide_eq_true_eq]
  constructor
  · intro h; rw [h]; rfl
  · intro h
    have h2 : (d[0]).toNat = 48 := by omega
    exact UInt8.toNat_inj.1 (by rw [h2]; rfl)
theorem trim_digits (d : ByteArray) (hd : d.size ≤ 9223372036854775807) (w : World) : Calls Tryz.prog 97 #[.string d, .string ⟨#[48, 49, 50, 51, 52, 53, 54, 55, 56, 57]⟩] w fun e w' => e = .returned (.string ⟨(Lib.trimS d.data.toList digitsL).toArray⟩) ∧ Below w.heap.size w w' :=
  Any.strings_Trim_laid Tryz.lays160 (by kernel_rfl) d ⟨#[48, 49, 50, 51, 52, 53, 54, 55, 56, 57]⟩ w hd (by decide) (fun j b h => (by decide : ∀ b ∈ digitsL, b.toNat < 128) b (List.mem_of_getElem? h))

set_option maxHeartbeats 1000000 in
set_option maxRecDepth 100000 in
theorem decimal_any (s : ByteArray) (hs : s.size ≤ 9223372036854775807) (w : World) : Calls Tryz.prog 63 #[.string s] w fun e w' => e = .returned (.bool (decB s.data.toList)) ∧ Below w.heap.size w w' := by
  obtain ⟨d, hd⟩ : ∃ d : ByteArray, d = ⟨(Lib.trimPrefix s.data.toList [45]).toArray⟩ := ⟨_, rfl⟩
  obtain ⟨t, ht⟩ : ∃ t : ByteArray, t = ⟨(Lib.trimS d.data.toList digitsL).toArray⟩ := ⟨_, rfl⟩
  have hl : d.data.toList = Lib.trimPrefix s.data.toList [45] := by rw [hd]
  have hds : d.size ≤ 9223372036854775807 := by
    have e1 : d.data.toList.length = d.size := rfl
    have e2 : s.data.toList.length = s.size := rfl
    have e3 : (Lib.trimPrefix s.data.toList [45]).length ≤ s.data.toList.length := by
      unfold Lib.trimPrefix
      split
      · rw [List.length_drop]; omega
      · exact Nat.le_refl _
    rw [hl] at e1
    omega
  have c1 : ∀ w, Calls Tryz.prog 96 #[.string s, .string ⟨#[45]⟩] w fun e w' => e = .returned (.string d) ∧ w = w' := fun w => by
    rw [hd]
    exact (Tryz.strings_TrimPrefix s ⟨#[45]⟩ w).mono fun _ _ ⟨h1, h2⟩ => ⟨h1, h2.symm⟩
  have c2 : ∀ w, Calls Tryz.prog 97 #[.string d, .string ⟨#[48, 49, 50, 51, 52, 53, 54, 55, 56, 57]⟩] w fun e w' => e = .returned (.string t) ∧ Below w.heap.size w w' := fun w => by
    rw [ht]
    exact trim_digits d hds w
  have hr : decB s.data.toList = (!d.data.toList.isEmpty && t.data.toList.isEmpty && (!(d.data.toList.head? == some 48) || s.data.toList == [48])) := by
    rw [ht, hl]; rfl
  have C1 := Lib.hid c1
  have C2 := Lib.hid c2
  have HR := Lib.hid hr
  clear c1 c2 hr hd ht hl hs hds
  cases e1 : d.toList.isEmpty with
  | true =>
    go_enter Tryz.func63, Tryz.ntmps63
    go_wp2_with (first | (refine (C1.out _).mono ?_; rintro _ w1 ⟨rfl, rfl⟩))
    go_ret
    refine ⟨ret_bool ?_, Below.refl _ _⟩
    have e := (isE d).symm.trans e1
    rw [HR.out, e]
    rfl
  | false =>
    cases e2 : t.toList.isEmpty with
    | false =>
      go_enter Tryz.func63, Tryz.ntmps63
      go_wp2_with (first | (refine (C1.out _).mono ?_; rintro _ w1 ⟨rfl, rfl⟩) | (refine (C2.out _).mono ?_; rintro _ w2 ⟨rfl, hb⟩))
      go_ret
      refine ⟨ret_bool ?_, hb⟩
      have e := (isE t).symm.trans e2
      rw [HR.out, e]
      simp
    | true =>
      have h0 : 0 < d.size := by
        by_cases h : d.size = 0
        · rw [empty_yes h] at e1; cases e1
        · omega
      go_enter Tryz.func63, Tryz.ntmps63
      go_wp2_with (first | (refine (C1.out _).mono ?_; rintro _ w1 ⟨rfl, rfl⟩) | (refine (C2.out _).mono ?_; rintro _ w2 ⟨rfl, hb⟩))
      all_goals go_ret
      all_goals refine ⟨ret_bool ?_, hb⟩
      all_goals
        have e := (isE t).symm.trans e2
        have e' := (isE d).symm.trans e1
        rw [HR.out, e, e', head48 d h0]
        (try rw [ByteArray.toList_eq])
        rename_i h
        simp [h]
end Go.Proofs.YtgjbpadhdnclnaaGreatDoor.ScpB
