/- The program's parsers of bools, doubles, texts and bytes. -/
import Derived.Test.YtgjbpadhdnclnaaGreatDoorScpD
import Derived.Test.YtgjbpadhdnclnaaGreatDoorScaX
import Derived.Test.YtgjbpadhdnclnaaGreatDoorNumQ
import Derived.Test.YtgjbpadhdnclnaaGreatDoorUtfE
import Derived.Test.YtgjbpadhdnclnaaGreatDoorUtfA
import Derived.Test.YtgjbpadhdnclnaaGreatDoorFixM
import Derived.Laws.BitsAllLaws
set_option linter.unusedSimpArgs false
set_option linter.unusedVariables false
namespace Go.Proofs.YtgjbpadhdnclnaaGreatDoor.PrsP
open Go.RowKit Nums Byt UtfM UtfS UtfQ UtfH ScaM ScaV ScaA ScaB ScaC ScaT ScaW ScaX ScpM ScpA ScpB ScpC ScpD Ld Box

def falseL : List UInt8 := [102, 97, 108, 115, 101]
def trueL : List UInt8 := [116, 114, 117, 101]
theorem ret_up {a b : Int} {x y : Int} (h : a = b) (k : x = y) : Ending.returned (.tuple #[.int .u64 a, .int .i64 x]) = .returned (.tuple #[.int .u64 b, .int .i64 y]) := by rw [h, k]
theorem ret_sp {a b : ByteArray} {x y : Int} (h : a = b) (k : x = y) : Ending.returned (.tuple #[.string a, .int .i64 x]) = .returned (.tuple #[.string b, .int .i64 y]) := by rw [h, k]
theorem eq_yes {s : ByteArray} {l : List UInt8} (h : s.data.toList = l) : (s.toList == l) = true := by rw [ByteArray.toList_eq, h]; exact beq_self_eq_true _
theorem eq_no {s : ByteArray} {l : List UInt8} (h : ¬ s.data.toList = l) : (s.toList == l) = false := by rw [ByteArray.toList_eq]; exact beq_eq_false_iff_ne.2 h

def pbP (l : List UInt8) : Nat × Int := if l = falseL then (0, 0) else if l = trueL then (1, 0) else (0, 2)
set_option maxHeartbeats 2000000 in
set_option maxRecDepth 100000 in
theorem pb_any (s : ByteArray) (w : World) : Calls Tryz.prog 30 #[.string s] w fun e w' => e = .returned (.tuple #[.int .u64 (pbP s.data.toList).1, .int .i64 (pbP s.data.toList).2]) ∧ Below w.heap.size w w' := by
  by_cases h1 : s.data.toList = falseL
  · have hp : Hid (pbP s.data.toList = (0, 0)) := Lib.hid (by unfold pbP; rw [if_pos h1])
    have t1 : (s.toList == [102, 97, 108, 115, 101]) = true := eq_yes h1
    clear h1
    go_enter Tryz.func30, Tryz.ntmps30
    go_wp2
    go_ret2
    exact ⟨ret_up (by rw [hp.out]; rfl) (by rw [hp.out]), Below.refl _ _⟩
  · have t1 : (s.toList == [102, 97, 108, 115, 101]) = false := eq_no h1
    by_cases h2 : s.data.toList = trueL
    · have hp : Hid (pbP s.data.toList = (1, 0)) := Lib.hid (by unfold pbP; rw [if_neg h1, if_pos h2])
      have t2 : (s.toList == [116, 114, 117, 101]) = true := eq_yes h2
      clear h1 h2
      go_enter Tryz.func30, Tryz.ntmps30
      go_wp2
      go_ret2
      exact ⟨ret_up (by rw [hp.out]; rfl) (by rw [hp.out]), Below.refl _ _⟩
    · have hp : Hid (pbP s.data.toList = (0, 2)) := Lib.hid (by unfold pbP; rw [if_neg h1, if_neg h2])
      have t2 : (s.toList == [116, 114, 117, 101]) = false := eq_no h2
      clear h1 h2
      go_enter Tryz.func30, Tryz.ntmps30
      go_wp2
      go_ret2
      exact ⟨ret_up (by rw [hp.out]; rfl) (by rw [hp.out]), Below.refl _ _⟩

def ptP (l : List UInt8) : ByteArray × Int :=
  if (unquote l).2.2 ≠ 0 ∨ (unquote l).2.1 ≠ l.length then (⟨#[]⟩, 2) else if 0 ≤ bad (unquote l).1 then (⟨#[]⟩, 7) else if 4096 < (unquote l).1.length then (⟨#[]⟩, 3) else (⟨(unquote l).1.toArray⟩, 0)
set_option maxHeartbeats 2000000 in
set_option maxRecDepth 100000 in
theorem pt_any (s : ByteArray) (hs : s.size ≤ 35184372088000) (w : World) : Calls Tryz.prog 33 #[.string s] w fun e w' => e = .returned (.tuple #[.string (ptP s.data.toList).1, .int .i64 (ptP s.data.toList).2]) ∧ Below w.heap.size w w' := by
  have HU := fun w => UtfE.unquote_any s hs w
  have hlen := unquote_len s.data.toList
  have hl : s.data.toList.length = s.size := rfl
  have hp : ∀ r, ptP s.data.toList = r ↔ (if (unquote s.data.toList).2.2 ≠ 0 ∨ (unquote s.data.toList).2.1 ≠ s.size then ((⟨#[]⟩, 2) : ByteArray × Int) else if 0 ≤ bad (unquote s.data.toList).1 then (⟨#[]⟩, 7) else if 4096 < (unquote s.data.toList).1.length then (⟨#[]⟩, 3) else (⟨(unquote s.data.toList).1.toArray⟩, 0)) = r := by intro r; unfold ptP; rw [hl]
  generalize unquote s.data.toList = U at *
  obtain ⟨T, n, e⟩ := U
  simp only at HU hp hlen
  have HU := Lib.hid HU
  obtain ⟨t, ht⟩ : ∃ t : ByteArray, t = ⟨T.toArray⟩ := ⟨_, rfl⟩
  rw [← ht] at HU hp
  have htl : t.data.toList = T := by rw [ht]
  have hts : t.size = T.length := by rw [ht, size_mk]
  have HV := fun w => UtfA.valid_any t (by omega) w
  rw [htl] at HV
  have HV := Lib.hid HV
  clear ht htl
  generalize ptP s.data.toList = R at *
  cases e1 : (e != 0) with
  | true =>
    have he : e ≠ 0 := by simpa using e1
    have hr := Lib.hid ((hp R).1 rfl)
    rw [if_pos (.inl he)] at hr
    clear hp he
    go_enter Tryz.func33, Tryz.ntmps33
    go_wp2_with (first | (go_at_call 67; refine (HU.out _).mono ?_; rintro _ w1 ⟨rfl, hb1⟩))
    go_ret2
    exact ⟨ret_sp (by rw [← hr.out]) (by rw [← hr.out]), hb1⟩
  | false =>
    have he : e = 0 := by simpa using e1
    by_cases h2 : n = s.size
    · have n1 : ((n : Int) != (s.size : Int)) = false := by simp [h2]
      cases h3 : decide (bad T < 0) with
      | false =>
        have hb : 0 ≤ bad T := by have := of_decide_eq_false h3; omega
        have hr := Lib.hid ((hp R).1 rfl)
        rw [if_neg (by simp [he, h2]), if_pos hb] at hr
        rw [h3] at HV
        clear hp he h2 h3 hb
        go_enter Tryz.func33, Tryz.ntmps33
        go_wp2_with (first | (go_at_call 67; refine (HU.out _).mono ?_; rintro _ w1 ⟨rfl, hb1⟩) | (go_at_call 46; refine (HV.out _).mono ?_; rintro _ w2 ⟨rfl, hb2⟩))
        go_ret2
        exact ⟨ret_sp (by rw [← hr.out]) (by rw [← hr.out]), bt hb1 hb2⟩
      | true =>
        have hb : ¬ 0 ≤ bad T := by have := of_decide_eq_true h3; omega
        have hr := Lib.hid ((hp R).1 rfl)
        rw [if_neg (by simp [he, h2]), if_neg hb] at hr
        rw [h3] at HV
        by_cases h4 : 4096 < T.length
        · rw [if_pos h4] at hr
          have h4' : 4096 < (t.size : Int) := by omega
          clear hp he h2 h3 hb h4
          go_enter Tryz.func33, Tryz.ntmps33
          go_wp2_with (first | (go_at_call 67; refine (HU.out _).mono ?_; rintro _ w1 ⟨rfl, hb1⟩) | (go_at_call 46; refine (HV.out _).mono ?_; rintro _ w2 ⟨rfl, hb2⟩))
          go_ret2
          exact ⟨ret_sp (by rw [← hr.out]) (by rw [← hr.out]), bt hb1 hb2⟩
        · rw [if_neg h4] at hr
          have h4' : ¬ 4096 < (t.size : Int) := by omega
          clear hp he h2 h3 hb h4
          go_enter Tryz.func33, Tryz.ntmps33
          go_wp2_with (first | (go_at_call 67; refine (HU.out _).mono ?_; rintro _ w1 ⟨rfl, hb1⟩) | (go_at_call 46; refine (HV.out _).mono ?_; rintro _ w2 ⟨rfl, hb2⟩))
          go_ret2
          exact ⟨ret_sp (by rw [← hr.out]) (by rw [← hr.out]), bt hb1 hb2⟩
    · have n1 : ((n : Int) != (s.size : Int)) = true := by simp; omega
      have hr := Lib.hid ((hp R).1 rfl)
      rw [if_pos (.inr h2)] at hr
      clear hp he h2
      go_enter Tryz.func33, Tryz.ntmps33
      go_wp2_with (first | (go_at_call 67; refine (HU.out _).mono ?_; rintro _ w1 ⟨rfl, hb1⟩))
      go_ret2
      exact ⟨ret_sp (by rw [← hr.out]) (by rw [← hr.out]), hb1⟩
def pyP (l : List UInt8) : ByteArray × Int :=
  if Lib.hasPrefix l [120] = false ∨ (unquote (Lib.trimPrefix l [120])).2.2 ≠ 0 ∨ (unquote (Lib.trimPrefix l [120])).2.1 ≠ (Lib.trimPrefix l [120]).length then (⟨#[]⟩, 2)
  else if uhE (unquote (Lib.trimPrefix l [120])).1 ≠ 0 then (⟨#[]⟩, 2) else if 4096 < (uhT (unquote (Lib.trimPrefix l [120])).1).length then (⟨#[]⟩, 3) else (⟨(uhT (unquote (Lib.trimPrefix l [120])).1).toArray⟩, 0)
theorem trim_le (l p : List UInt8) : (Lib.trimPrefix l p).length ≤ l.length := by
  unfold Lib.trimPrefix
  split
  · rw [List.length_drop]; omega
  · exact Nat.le_refl _
set_option maxHeartbeats 2000000 in
set_option maxRecDepth 100000 in
theorem py_any (s : ByteArray) (hs : s.size ≤ 35184372088000) (w : World) : Calls Tryz.prog 34 #[.string s] w fun e w' => e = .returned (.tuple #[.string (pyP s.data.toList).1, .int .i64 (pyP s.data.toList).2]) ∧ Below w.heap.size w w' := by
  have hl : s.data.toList.length = s.size := rfl
  have hC := fun w => (Tryz.strings_CutPrefix s ⟨#[120]⟩ w).mono fun _ _ ⟨h1, h2⟩ => And.intro h1 h2.symm
  have hp : ∀ r, pyP s.data.toList = r → pyP s.data.toList = r := fun r h => h
  have htr := trim_le s.data.toList [120]
  unfold pyP at hp ⊢
  simp only [show (⟨#[120]⟩ : ByteArray).data.toList = [120] from rfl] at hC
  obtain ⟨q, hq⟩ : ∃ q : ByteArray, q = ⟨(Lib.trimPrefix s.data.toList [120]).toArray⟩ := ⟨_, rfl⟩
  have hql : Lib.trimPrefix s.data.toList [120] = q.data.toList := by rw [hq]
  have hqs : q.data.toList.length = q.size := rfl
  rw [← hq] at hC
  rw [hql] at htr ⊢
  rw [hqs] at htr ⊢
  have HC := Lib.hid hC
  have HU := fun w => UtfE.unquote_any q (by omega) w
  have hlen := unquote_len q.data.toList
  generalize unquote q.data.toList = U at *
  obtain ⟨T, n, e⟩ := U
  simp only at HU hlen ⊢
  have HU := Lib.hid HU
  obtain ⟨t, ht⟩ : ∃ t : ByteArray, t = ⟨T.toArray⟩ := ⟨_, rfl⟩
  rw [← ht] at HU
  have htl : t.data.toList = T := by rw [ht]
  have hts : t.size = T.length := by rw [ht, size_mk]
  have hX := fun w => UtfH.unhex_any t (by omega) w
  rw [htl] at hX
  obtain ⟨z, hz⟩ : ∃ z : ByteArray, z = ⟨(uhT T).toArray⟩ := ⟨_, rfl⟩
  have hzs : z.size = (uhT T).length := by rw [hz, size_mk]
  rw [← hz] at hX ⊢
  rw [← hzs]
  have HX := Lib.hid hX
  generalize Lib.hasPrefix s.data.toList [120] = fd at *
  generalize uhE T = ue at *
  obtain ⟨R, hR⟩ : ∃ R : ByteArray × Int, (if fd = false ∨ e ≠ 0 ∨ n ≠ q.size then ((⟨#[]⟩, 2) : ByteArray × Int) else if ue ≠ 0 then (⟨#[]⟩, 2) else if 4096 < z.size then (⟨#[]⟩, 3) else (z, 0)) = R := ⟨_, rfl⟩
  rw [hR]
  clear hp hq hql ht htl hz hX hC htr hl
  cases fd with
  | false =>
    have hr := Lib.hid ((if_pos (.inl rfl)).symm.trans hR)
    clear hR
    go_enter Tryz.func34, Tryz.ntmps34
    go_wp2_with (first | (go_at_call 65; refine (HC.out _).mono ?_; rintro _ w0 ⟨rfl, rfl⟩) | (go_at_call 67; refine (HU.out _).mono ?_; rintro _ w1 ⟨rfl, hb1⟩))
    go_ret2
    exact ⟨ret_sp (by rw [← hr.out]) (by rw [← hr.out]), hb1⟩
  | true =>
    cases e1 : (e != 0) with
    | true =>
      have he : e ≠ 0 := by simpa using e1
      have hr := Lib.hid ((if_pos (.inr (.inl he))).symm.trans hR)
      clear he
      clear hR
      go_enter Tryz.func34, Tryz.ntmps34
      go_wp2_with (first | (go_at_call 65; refine (HC.out _).mono ?_; rintro _ w0 ⟨rfl, rfl⟩) | (go_at_call 67; refine (HU.out _).mono ?_; rintro _ w1 ⟨rfl, hb1⟩))
      go_ret2
      exact ⟨ret_sp (by rw [← hr.out]) (by rw [← hr.out]), hb1⟩
    | false =>
      have he : e = 0 := by simpa using e1
      by_cases h2 : n = q.size
      · have n1 : ((n : Int) != (q.size : Int)) = false := by simp [h2]
        have hR2 := (if_neg (show ¬ (true = false ∨ e ≠ 0 ∨ n ≠ q.size) by simp [he, h2])).symm.trans hR
        cases e3 : (ue != 0) with
        | true =>
          have hu : ue ≠ 0 := by simpa using e3
          have hr := Lib.hid ((if_pos hu).symm.trans hR2)
          clear hR hR2 hu h2 he
          go_enter Tryz.func34, Tryz.ntmps34
          go_wp2_with (first | (go_at_call 65; refine (HC.out _).mono ?_; rintro _ w0 ⟨rfl, rfl⟩) | (go_at_call 67; refine (HU.out _).mono ?_; rintro _ w1 ⟨rfl, hb1⟩) | (go_at_call 66; refine (HX.out _).mono ?_; rintro _ w2 ⟨rfl, hb2⟩))
          go_ret2
          exact ⟨ret_sp (by rw [← hr.out]) (by rw [← hr.out]), bt hb1 hb2⟩
        | false =>
          have hu : ue = 0 := by simpa using e3
          have hR3 := (if_neg (show ¬ ue ≠ 0 by simp [hu])).symm.trans hR2
          by_cases h4 : 4096 < z.size
          · have hr := Lib.hid ((if_pos h4).symm.trans hR3)
            have h4' : 4096 < (z.size : Int) := by omega
            clear hR hR2 hR3 hu h2 he h4
            go_enter Tryz.func34, Tryz.ntmps34
            go_wp2_with (first | (go_at_call 65; refine (HC.out _).mono ?_; rintro _ w0 ⟨rfl, rfl⟩) | (go_at_call 67; refine (HU.out _).mono ?_; rintro _ w1 ⟨rfl, hb1⟩) | (go_at_call 66; refine (HX.out _).mono ?_; rintro _ w2 ⟨rfl, hb2⟩))
            go_ret2
            exact ⟨ret_sp (by rw [← hr.out]) (by rw [← hr.out]), bt hb1 hb2⟩
          · have hr := Lib.hid ((if_neg h4).symm.trans hR3)
            have h4' : ¬ 4096 < (z.size : Int) := by omega
            clear hR hR2 hR3 hu h2 he h4
            go_enter Tryz.func34, Tryz.ntmps34
            go_wp2_with (first | (go_at_call 65; refine (HC.out _).mono ?_; rintro _ w0 ⟨rfl, rfl⟩) | (go_at_call 67; refine (HU.out _).mono ?_; rintro _ w1 ⟨rfl, hb1⟩) | (go_at_call 66; refine (HX.out _).mono ?_; rintro _ w2 ⟨rfl, hb2⟩))
            go_ret2
            exact ⟨ret_sp (by rw [← hr.out]) (by rw [← hr.out]), bt hb1 hb2⟩
      · have n1 : ((n : Int) != (q.size : Int)) = true := by simp; omega
        have hr := Lib.hid ((if_pos (.inr (.inr h2))).symm.trans hR)
        clear hR h2 he
        go_enter Tryz.func34, Tryz.ntmps34
        go_wp2_with (first | (go_at_call 65; refine (HC.out _).mono ?_; rintro _ w0 ⟨rfl, rfl⟩) | (go_at_call 67; refine (HU.out _).mono ?_; rintro _ w1 ⟨rfl, hb1⟩))
        go_ret2
        exact ⟨ret_sp (by rw [← hr.out]) (by rw [← hr.out]), hb1⟩
def pdP (l : List UInt8) : Nat × Int :=
  if l = nanL then (nanN, 0) else if l = infL then (infN, 0) else if l = ninL then (infN + sgnN, 0)
  else if Lib.hasPrefix l [48, 120] = false ∨ uhE (Lib.trimPrefix l [48, 120]) ≠ 0 ∨ (uhT (Lib.trimPrefix l [48, 120])).length ≠ 8 then (0, 2)
  else if clsN (numW (uhT (Lib.trimPrefix l [48, 120]))) ≤ 1 then (0, 2) else (numW (uhT (Lib.trimPrefix l [48, 120])), 0)
theorem numW_le (l : List UInt8) : numW l ≤ 18446744073709551615 := by
  unfold numW
  suffices h : ∀ (l : List UInt8) (a : Nat), a ≤ 18446744073709551615 → l.foldl (fun a c => (256 * a + c.toNat) % 18446744073709551616) a ≤ 18446744073709551615 from h l 0 (by omega)
  intro l
  induction l with
  | nil => intro a h; exact h
  | cons c l ih => intro a h; rw [List.foldl_cons]; exact ih _ (by omega)
/-- A byte pushed in from below. -/
theorem push8 (a : Nat) (c : UInt8) : bits BinOp.or .u64 (IntKind.u64.wrap ((a : Int) * 256)) (c.toNat : Int) = (((256 * a + c.toNat) % 18446744073709551616 : Nat) : Int) := by
  have hc := c.toNat_lt
  have e : IntKind.u64.wrap ((a : Int) * 256) = ((256 * (a % 72057594037927936) : Nat) : Int) := by rw [IntKind.wrap_u64]; omega
  rw [e, u64_or_nat _ _ (by omega) (by omega)]
  have h := Nat.two_pow_add_eq_or_of_lt (i := 8) (b := c.toNat) hc (a % 72057594037927936)
  rw [show (2 : Nat) ^ 8 = 256 from rfl] at h
  rw [← h]
  congr 1
  omega
theorem num_step (z : ByteArray) (k : Nat) (h : k < z.size) : numW (z.data.toList.take (k + 1)) = (256 * numW (z.data.toList.take k) + z[k].toNat) % 18446744073709551616 := by
  rw [FixM.take_snoc z k h, numW_snoc]
set_option maxHeartbeats 2000000 in
set_option maxRecDepth 100000 in
theorem pd_any (s : ByteArray) (hs : s.size ≤ 35184372088000) (w : World) : Calls Tryz.prog 32 #[.string s] w fun e w' => e = .returned (.tuple #[.int .u64 (pdP s.data.toList).1, .int .i64 (pdP s.data.toList).2]) ∧ Below w.heap.size w w' := by
  by_cases h1 : s.data.toList = nanL
  · have hp : Hid (pdP s.data.toList = (nanN, 0)) := Lib.hid (by unfold pdP; rw [if_pos h1])
    have t1 : (s.toList == [110, 97, 110]) = true := eq_yes h1
    clear h1
    go_enter Tryz.func32, Tryz.ntmps32
    go_wp2
    go_ret2
    exact ⟨ret_up (by rw [hp.out]; rfl) (by rw [hp.out]), Below.refl _ _⟩
  have t1 : (s.toList == [110, 97, 110]) = false := eq_no h1
  by_cases h2 : s.data.toList = infL
  · have hp : Hid (pdP s.data.toList = (infN, 0)) := Lib.hid (by unfold pdP; rw [if_neg h1, if_pos h2])
    have t2 : (s.toList == [105, 110, 102]) = true := eq_yes h2
    clear h1 h2
    go_enter Tryz.func32, Tryz.ntmps32
    go_wp2
    go_ret2
    exact ⟨ret_up (by rw [hp.out]; rfl) (by rw [hp.out]), Below.refl _ _⟩
  have t2 : (s.toList == [105, 110, 102]) = false := eq_no h2
  by_cases h3 : s.data.toList = ninL
  · have hp : Hid (pdP s.data.toList = (infN + sgnN, 0)) := Lib.hid (by unfold pdP; rw [if_neg h1, if_neg h2, if_pos h3])
    have t3 : (s.toList == [45, 105, 110, 102]) = true := eq_yes h3
    clear h1 h2 h3
    go_enter Tryz.func32, Tryz.ntmps32
    go_wp2
    go_ret2
    exact ⟨ret_up (by rw [hp.out]; rfl) (by rw [hp.out]), Below.refl _ _⟩
  have t3 : (s.toList == [45, 105, 110, 102]) = false := eq_no h3
  have hC := fun w => (Tryz.strings_CutPrefix s ⟨#[48, 120]⟩ w).mono fun _ _ ⟨h1, h2⟩ => And.intro h1 h2.symm
  have htr := trim_le s.data.toList [48, 120]
  have hl : s.data.toList.length = s.size := rfl
  unfold pdP
  rw [if_neg h1, if_neg h2, if_neg h3]
  simp only [show (⟨#[48, 120]⟩ : ByteArray).data.toList = [48, 120] from rfl] at hC
  clear h1 h2 h3
  obtain ⟨q, hq⟩ : ∃ q : ByteArray, q = ⟨(Lib.trimPrefix s.data.toList [48, 120]).toArray⟩ := ⟨_, rfl⟩
  have hql : Lib.trimPrefix s.data.toList [48, 120] = q.data.toList := by rw [hq]
  have hqs : q.data.toList.length = q.size := rfl
  rw [← hq] at hC
  rw [hql] at htr ⊢
  rw [hqs] at htr
  have HC := Lib.hid hC
  have hX := fun w => UtfH.unhex_any q (by omega) w
  obtain ⟨z, hz⟩ : ∃ z : ByteArray, z = ⟨(uhT q.data.toList).toArray⟩ := ⟨_, rfl⟩
  have hzl : uhT q.data.toList = z.data.toList := by rw [hz]
  have hzs : z.data.toList.length = z.size := rfl
  rw [← hz] at hX
  rw [hzl, hzs]
  have HX := Lib.hid hX
  generalize Lib.hasPrefix s.data.toList [48, 120] = fd at *
  generalize uhE q.data.toList = ue at *
  obtain ⟨R, hR⟩ : ∃ R : Nat × Int, (if fd = false ∨ ue ≠ 0 ∨ z.size ≠ 8 then ((0, 2) : Nat × Int) else if clsN (numW z.data.toList) ≤ 1 then (0, 2) else (numW z.data.toList, 0)) = R := ⟨_, rfl⟩
  rw [hR]
  clear hq hql hz hzl hX hC htr hl hqs
  cases fd with
  | false =>
    have hr := Lib.hid ((if_pos (.inl rfl)).symm.trans hR)
    clear hR
    go_enter Tryz.func32, Tryz.ntmps32
    go_wp2_with (first | (go_at_call 65; refine (HC.out _).mono ?_; rintro _ w0 ⟨rfl, rfl⟩) | (go_at_call 66; refine (HX.out _).mono ?_; rintro _ w1 ⟨rfl, hb1⟩))
    go_ret2
    exact ⟨ret_up (by rw [← hr.out]; rfl) (by rw [← hr.out]), hb1⟩
  | true =>
    cases e1 : (ue != 0) with
    | true =>
      have he : ue ≠ 0 := by simpa using e1
      have hr := Lib.hid ((if_pos (.inr (.inl he))).symm.trans hR)
      clear hR he
      go_enter Tryz.func32, Tryz.ntmps32
      go_wp2_with (first | (go_at_call 65; refine (HC.out _).mono ?_; rintro _ w0 ⟨rfl, rfl⟩) | (go_at_call 66; refine (HX.out _).mono ?_; rintro _ w1 ⟨rfl, hb1⟩))
      go_ret2
      exact ⟨ret_up (by rw [← hr.out]; rfl) (by rw [← hr.out]), hb1⟩
    | false =>
      have he : ue = 0 := by simpa using e1
      by_cases h8 : z.size = 8
      · have hR2 := (if_neg (show ¬ (true = false ∨ ue ≠ 0 ∨ z.size ≠ 8) by simp [he, h8])).symm.trans hR
        have hz8 : ((z.size : Int) != 8) = false := by simp [h8]
        have hz8i : (z.size : Int) = 8 := by omega
        obtain ⟨M, hM⟩ : ∃ M, numW z.data.toList = M := ⟨_, rfl⟩
        have hMle : M ≤ 18446744073709551615 := by rw [← hM]; exact numW_le _
        have HK := Lib.hid fun w => class_p M hMle w
        have HS : Hid (∀ k (h : k < z.size), numW (z.data.toList.take (k + 1)) = (256 * numW (z.data.toList.take k) + z[k].toNat) % 18446744073709551616) := Lib.hid (num_step z)
        have HE : Hid (numW (z.data.toList.take 8) = M) := Lib.hid (by rw [← hM, List.take_of_length_le (by rw [hzs]; omega)])
        rw [hM] at hR2
        have HR := Lib.hid hR2
        clear hR hR2 he hM hzs
        go_enter Tryz.func32, Tryz.ntmps32
        go_wp2_with (first | (go_at_call 65; refine (HC.out _).mono ?_; rintro _ w0 ⟨rfl, rfl⟩) | (go_at_call 66; refine (HX.out _).mono ?_; rintro _ w1 ⟨rfl, hb1⟩))
        go_loop [8, 41] (fun u i => ∃ k m : Nat, k ≤ 8 ∧ i = .int .i64 k ∧ u = .int .u64 m ∧ Hid (m = numW (z.data.toList.take k))) (fun _ i => 8 - (intOf i).toNat)
        case atStart => exact ⟨0, 0, by omega, rfl, rfl, Lib.hid rfl⟩
        case round =>
          obtain ⟨k, m, hk, rfl, rfl, hm⟩ := hrel
          by_cases hlt : k < 8
          · have hkz : k < z.size := by omega
            have hop := push8 m z[k]
            have hn : Hid ((256 * m + z[k].toNat) % 18446744073709551616 = numW (z.data.toList.take (k + 1))) := Lib.hid (by rw [HS.out k hkz, hm.out])
            have hc1 : (z[k].toNat : Int) < 256 := by have := z[k].toNat_lt; omega
            have hkzi : (k : Int) < z.size := by omega
            generalize (256 * m + z[k].toNat) % 18446744073709551616 = m' at *
            clear hm HS HE HR HK
            go_wp2_with (simp only [hop])
            go_round
            case rel => exact ⟨k + 1, m', by omega, by go_num, rfl, hn⟩
            case measure => simp [intOf]; omega
          · obtain rfl : k = 8 := by omega
            obtain rfl : m = M := by rw [hm.out, HE.out]
            clear hm HS HE
            have hcl : clsN m = 0 ∨ clsN m = 1 ∨ 2 ≤ clsN m := by
              unfold clsN
              repeat' split
              all_goals omega
            rcases hcl with hc | hc | hc
            · have hr := Lib.hid ((if_pos (show clsN m ≤ 1 by omega)).symm.trans HR.out)
              rw [hc] at HK
              clear HR hc
              go_wp2_with (first | (go_at_call 40; refine (HK.out _).mono ?_; rintro _ w2 ⟨rfl, rfl⟩))
              go_ret2
              exact ⟨ret_up (by rw [← hr.out]; rfl) (by rw [← hr.out]), hb1⟩
            · have hr := Lib.hid ((if_pos (show clsN m ≤ 1 by omega)).symm.trans HR.out)
              rw [hc] at HK
              clear HR hc
              go_wp2_with (first | (go_at_call 40; refine (HK.out _).mono ?_; rintro _ w2 ⟨rfl, rfl⟩))
              go_ret2
              exact ⟨ret_up (by rw [← hr.out]; rfl) (by rw [← hr.out]), hb1⟩
            · have hr := Lib.hid ((if_neg (show ¬ clsN m ≤ 1 by omega)).symm.trans HR.out)
              obtain ⟨c, hcc⟩ : ∃ c, clsN m = c := ⟨_, rfl⟩
              rw [hcc] at HK hc
              have c0 : (c == 0) = false := by rw [beq_eq_false_iff_ne]; omega
              have c1 : (c == 1) = false := by rw [beq_eq_false_iff_ne]; omega
              clear HR hcc
              go_wp2_with (first | (go_at_call 40; refine (HK.out _).mono ?_; rintro _ w2 ⟨rfl, rfl⟩))
              go_ret2
              exact ⟨ret_up (by rw [← hr.out]) (by rw [← hr.out]), hb1⟩
      · have hz8 : ((z.size : Int) != 8) = true := by simp; omega
        have hr := Lib.hid ((if_pos (.inr (.inr h8))).symm.trans hR)
        clear hR he h8
        go_enter Tryz.func32, Tryz.ntmps32
        go_wp2_with (first | (go_at_call 65; refine (HC.out _).mono ?_; rintro _ w0 ⟨rfl, rfl⟩) | (go_at_call 66; refine (HX.out _).mono ?_; rintro _ w1 ⟨rfl, hb1⟩))
        go_ret2
        exact ⟨ret_up (by rw [← hr.out]; rfl) (by rw [← hr.out]), hb1⟩

def tvB (k : Int) (b : ByteArray) : SV := ⟨k, 0, b, none, 0, 0, none, 0, 0, none, 0, 0, none, 0, 0⟩
def finT (k : Int) (r : ByteArray × Int) : SV × Int := if r.2 = 0 then (tvB k r.1, 0) else (zv 0, r.2)

set_option maxHeartbeats 2000000 in
set_option maxRecDepth 100000 in
theorem parse_1 (s : ByteArray) (hs : s.size ≤ 35184372088000) (w : World) (hL : Ld w) : Calls Tryz.prog 10 #[.int .i64 1, .string s] w fun e w' => e = .returned (.tuple #[vv (finB 1 (pbP s.data.toList)).1, .int .i64 (finB 1 (pbP s.data.toList)).2]) ∧ Below w.heap.size w w' := by
  have D := Lib.hid fun w (_ : Ld w) => pb_any s w
  clear hs
  generalize pbP s.data.toList = r at *
  obtain ⟨b, e⟩ := r
  simp only [] at D
  cases he : (e != 0) with
  | true =>
    have hf : finB 1 (b, e) = (zv 0, e) := by unfold finB; rw [if_neg (by simpa using he)]
    rw [hf]
    clear hf
    go_enter Tryz.func10, Tryz.ntmps10
    go_wp2_with fail
    refine (zero_p 1 _).mono ?_
    rintro _ w1 ⟨rfl, hb1⟩
    have B1 := (b7_new w (.int .i64 0) (.int .u64 0) (.string ⟨#[]⟩) (.slice none 0 0) (.slice none 0 0) (.slice none 0 0) (.slice none 0 0) 28).below hb1
    have hL1 := (hL.below (below_box w _)).below hb1
    have hbw := bt (below_box w _) hb1
    have hlt := Nat.lt_of_lt_of_le (show w.heap.size < (w.alloc (.cells #[.int .i64 0, .int .u64 0, .string ⟨#[]⟩, .slice none 0 0, .slice none 0 0, .slice none 0 0, .slice none 0 0] 28)).heap.size by simp) hb1.size
    have hne : w.heap.size ≠ w1.heap.size := by omega
    have hne' : w1.heap.size ≠ w.heap.size := by omega
    clear hb1
    rw [show vv (zeroS 1) = .agg #[.int .i64 1, .int .u64 0, .string ⟨#[]⟩, .slice none 0 0, .slice none 0 0, .slice none 0 0, .slice none 0 0] from rfl]
    go_wp2_with fail
    refine (D.out _ (hL1.below (below_box _ _))).mono ?_
    rintro _ w2 ⟨rfl, hb2⟩
    obtain ⟨lt0, p0, p1, p2, p3, p4, p5, p6, pf⟩ := (B1.alloc _).below hb2
    obtain ⟨lt1, q0, q1, q2, q3, q4, q5, q6, qf⟩ := (b7_new w1 (.int .i64 1) (.int .u64 0) (.string ⟨#[]⟩) (.slice none 0 0) (.slice none 0 0) (.slice none 0 0) (.slice none 0 0) 28).below hb2
    have hbz := bt (bt hbw (below_box _ _)) hb2
    have hle := hbw.size
    clear hb2 hL1 hL D B1 hbw
    go_wp2_with fail
    exact bodyPost_ret (v := .tuple #[.agg #[.int .i64 0, .int .u64 0, .string ⟨#[]⟩, .slice none 0 0, .slice none 0 0, .slice none 0 0, .slice none 0 0], .int .i64 e]) (by simp [results, Tryz.results10, go_sem, p0, p1, p2, p3, p4, p5, p6, hne, hne']) rfl ⟨rfl, below7 (hbz.setCell hle _) (Nat.le_refl _) _ _ _ _ _ _ _⟩
  | false =>
    have h0 : e = 0 := by simpa using he
    subst h0
    have hf : finB 1 (b, 0) = (nv 1 b, 0) := by unfold finB; rw [if_pos rfl]
    rw [hf]
    clear hf he
    go_enter Tryz.func10, Tryz.ntmps10
    go_wp2_with fail
    refine (zero_p 1 _).mono ?_
    rintro _ w1 ⟨rfl, hb1⟩
    have B1 := (b7_new w (.int .i64 0) (.int .u64 0) (.string ⟨#[]⟩) (.slice none 0 0) (.slice none 0 0) (.slice none 0 0) (.slice none 0 0) 28).below hb1
    have hL1 := (hL.below (below_box w _)).below hb1
    have hbw := bt (below_box w _) hb1
    have hlt := Nat.lt_of_lt_of_le (show w.heap.size < (w.alloc (.cells #[.int .i64 0, .int .u64 0, .string ⟨#[]⟩, .slice none 0 0, .slice none 0 0, .slice none 0 0, .slice none 0 0] 28)).heap.size by simp) hb1.size
    have hne : w.heap.size ≠ w1.heap.size := by omega
    have hne' : w1.heap.size ≠ w.heap.size := by omega
    clear hb1
    rw [show vv (zeroS 1) = .agg #[.int .i64 1, .int .u64 0, .string ⟨#[]⟩, .slice none 0 0, .slice none 0 0, .slice none 0 0, .slice none 0 0] from rfl]
    go_wp2_with fail
    refine (D.out _ (hL1.below (below_box _ _))).mono ?_
    rintro _ w2 ⟨rfl, hb2⟩
    obtain ⟨lt0, p0, p1, p2, p3, p4, p5, p6, pf⟩ := (B1.alloc _).below hb2
    obtain ⟨lt1, q0, q1, q2, q3, q4, q5, q6, qf⟩ := (b7_new w1 (.int .i64 1) (.int .u64 0) (.string ⟨#[]⟩) (.slice none 0 0) (.slice none 0 0) (.slice none 0 0) (.slice none 0 0) 28).below hb2
    have hbz := bt (bt hbw (below_box _ _)) hb2
    have hle := hbw.size
    clear hb2 hL1 hL D B1 hbw
    go_wp2_with fail
    exact bodyPost_ret (v := .tuple #[.agg #[.int .i64 1, .int .u64 b, .string ⟨#[]⟩, .slice none 0 0, .slice none 0 0, .slice none 0 0, .slice none 0 0], .int .i64 0]) (by simp [results, Tryz.results10, go_sem, p0, p1, p2, p3, p4, p5, p6, q0, q1, q2, q3, q4, q5, q6, hne, hne']) rfl ⟨rfl, below7 (hbz.setCell hle _) (Nat.le_refl _) _ _ _ _ _ _ _⟩

set_option maxHeartbeats 2000000 in
set_option maxRecDepth 100000 in
theorem parse_6 (s : ByteArray) (hs : s.size ≤ 35184372088000) (w : World) (hL : Ld w) : Calls Tryz.prog 10 #[.int .i64 6, .string s] w fun e w' => e = .returned (.tuple #[vv (finB 6 (pdP s.data.toList)).1, .int .i64 (finB 6 (pdP s.data.toList)).2]) ∧ Below w.heap.size w w' := by
  have D := Lib.hid fun w (_ : Ld w) => pd_any s (by omega) w
  clear hs
  generalize pdP s.data.toList = r at *
  obtain ⟨b, e⟩ := r
  simp only [] at D
  cases he : (e != 0) with
  | true =>
    have hf : finB 6 (b, e) = (zv 0, e) := by unfold finB; rw [if_neg (by simpa using he)]
    rw [hf]
    clear hf
    go_enter Tryz.func10, Tryz.ntmps10
    go_wp2_with fail
    refine (zero_p 6 _).mono ?_
    rintro _ w1 ⟨rfl, hb1⟩
    have B1 := (b7_new w (.int .i64 0) (.int .u64 0) (.string ⟨#[]⟩) (.slice none 0 0) (.slice none 0 0) (.slice none 0 0) (.slice none 0 0) 28).below hb1
    have hL1 := (hL.below (below_box w _)).below hb1
    have hbw := bt (below_box w _) hb1
    have hlt := Nat.lt_of_lt_of_le (show w.heap.size < (w.alloc (.cells #[.int .i64 0, .int .u64 0, .string ⟨#[]⟩, .slice none 0 0, .slice none 0 0, .slice none 0 0, .slice none 0 0] 28)).heap.size by simp) hb1.size
    have hne : w.heap.size ≠ w1.heap.size := by omega
    have hne' : w1.heap.size ≠ w.heap.size := by omega
    clear hb1
    rw [show vv (zeroS 6) = .agg #[.int .i64 6, .int .u64 0, .string ⟨#[]⟩, .slice none 0 0, .slice none 0 0, .slice none 0 0, .slice none 0 0] from rfl]
    go_wp2_with fail
    refine (D.out _ (hL1.below (below_box _ _))).mono ?_
    rintro _ w2 ⟨rfl, hb2⟩
    obtain ⟨lt0, p0, p1, p2, p3, p4, p5, p6, pf⟩ := (B1.alloc _).below hb2
    obtain ⟨lt1, q0, q1, q2, q3, q4, q5, q6, qf⟩ := (b7_new w1 (.int .i64 6) (.int .u64 0) (.string ⟨#[]⟩) (.slice none 0 0) (.slice none 0 0) (.slice none 0 0) (.slice none 0 0) 28).below hb2
    have hbz := bt (bt hbw (below_box _ _)) hb2
    have hle := hbw.size
    clear hb2 hL1 hL D B1 hbw
    go_wp2_with fail
    exact bodyPost_ret (v := .tuple #[.agg #[.int .i64 0, .int .u64 0, .string ⟨#[]⟩, .slice none 0 0, .slice none 0 0, .slice none 0 0, .slice none 0 0], .int .i64 e]) (by simp [results, Tryz.results10, go_sem, p0, p1, p2, p3, p4, p5, p6, hne, hne']) rfl ⟨rfl, below7 (hbz.setCell hle _) (Nat.le_refl _) _ _ _ _ _ _ _⟩
  | false =>
    have h0 : e = 0 := by simpa using he
    subst h0
    have hf : finB 6 (b, 0) = (nv 6 b, 0) := by unfold finB; rw [if_pos rfl]
    rw [hf]
    clear hf he
    go_enter Tryz.func10, Tryz.ntmps10
    go_wp2_with fail
    refine (zero_p 6 _).mono ?_
    rintro _ w1 ⟨rfl, hb1⟩
    have B1 := (b7_new w (.int .i64 0) (.int .u64 0) (.string ⟨#[]⟩) (.slice none 0 0) (.slice none 0 0) (.slice none 0 0) (.slice none 0 0) 28).below hb1
    have hL1 := (hL.below (below_box w _)).below hb1
    have hbw := bt (below_box w _) hb1
    have hlt := Nat.lt_of_lt_of_le (show w.heap.size < (w.alloc (.cells #[.int .i64 0, .int .u64 0, .string ⟨#[]⟩, .slice none 0 0, .slice none 0 0, .slice none 0 0, .slice none 0 0] 28)).heap.size by simp) hb1.size
    have hne : w.heap.size ≠ w1.heap.size := by omega
    have hne' : w1.heap.size ≠ w.heap.size := by omega
    clear hb1
    rw [show vv (zeroS 6) = .agg #[.int .i64 6, .int .u64 0, .string ⟨#[]⟩, .slice none 0 0, .slice none 0 0, .slice none 0 0, .slice none 0 0] from rfl]
    go_wp2_with fail
    refine (D.out _ (hL1.below (below_box _ _))).mono ?_
    rintro _ w2 ⟨rfl, hb2⟩
    obtain ⟨lt0, p0, p1, p2, p3, p4, p5, p6, pf⟩ := (B1.alloc _).below hb2
    obtain ⟨lt1, q0, q1, q2, q3, q4, q5, q6, qf⟩ := (b7_new w1 (.int .i64 6) (.int .u64 0) (.string ⟨#[]⟩) (.slice none 0 0) (.slice none 0 0) (.slice none 0 0) (.slice none 0 0) 28).below hb2
    have hbz := bt (bt hbw (below_box _ _)) hb2
    have hle := hbw.size
    clear hb2 hL1 hL D B1 hbw
    go_wp2_with fail
    exact bodyPost_ret (v := .tuple #[.agg #[.int .i64 6, .int .u64 b, .string ⟨#[]⟩, .slice none 0 0, .slice none 0 0, .slice none 0 0, .slice none 0 0], .int .i64 0]) (by simp [results, Tryz.results10, go_sem, p0, p1, p2, p3, p4, p5, p6, q0, q1, q2, q3, q4, q5, q6, hne, hne']) rfl ⟨rfl, below7 (hbz.setCell hle _) (Nat.le_refl _) _ _ _ _ _ _ _⟩

set_option maxHeartbeats 2000000 in
set_option maxRecDepth 100000 in
theorem parse_7 (s : ByteArray) (hs : s.size ≤ 35184372088000) (w : World) (hL : Ld w) : Calls Tryz.prog 10 #[.int .i64 7, .string s] w fun e w' => e = .returned (.tuple #[vv (finT 7 (ptP s.data.toList)).1, .int .i64 (finT 7 (ptP s.data.toList)).2]) ∧ Below w.heap.size w w' := by
  have D := Lib.hid fun w (_ : Ld w) => pt_any s (by omega) w
  clear hs
  generalize ptP s.data.toList = r at *
  obtain ⟨b, e⟩ := r
  simp only [] at D
  cases he : (e != 0) with
  | true =>
    have hf : finT 7 (b, e) = (zv 0, e) := by unfold finT; rw [if_neg (by simpa using he)]
    rw [hf]
    clear hf
    go_enter Tryz.func10, Tryz.ntmps10
    go_wp2_with fail
    refine (zero_p 7 _).mono ?_
    rintro _ w1 ⟨rfl, hb1⟩
    have B1 := (b7_new w (.int .i64 0) (.int .u64 0) (.string ⟨#[]⟩) (.slice none 0 0) (.slice none 0 0) (.slice none 0 0) (.slice none 0 0) 28).below hb1
    have hL1 := (hL.below (below_box w _)).below hb1
    have hbw := bt (below_box w _) hb1
    have hlt := Nat.lt_of_lt_of_le (show w.heap.size < (w.alloc (.cells #[.int .i64 0, .int .u64 0, .string ⟨#[]⟩, .slice none 0 0, .slice none 0 0, .slice none 0 0, .slice none 0 0] 28)).heap.size by simp) hb1.size
    have hne : w.heap.size ≠ w1.heap.size := by omega
    have hne' : w1.heap.size ≠ w.heap.size := by omega
    clear hb1
    rw [show vv (zeroS 7) = .agg #[.int .i64 7, .int .u64 0, .string ⟨#[]⟩, .slice none 0 0, .slice none 0 0, .slice none 0 0, .slice none 0 0] from rfl]
    go_wp2_with fail
    refine (D.out _ (hL1.below (below_box _ _))).mono ?_
    rintro _ w2 ⟨rfl, hb2⟩
    obtain ⟨lt0, p0, p1, p2, p3, p4, p5, p6, pf⟩ := (B1.alloc _).below hb2
    obtain ⟨lt1, q0, q1, q2, q3, q4, q5, q6, qf⟩ := (b7_new w1 (.int .i64 7) (.int .u64 0) (.string ⟨#[]⟩) (.slice none 0 0) (.slice none 0 0) (.slice none 0 0) (.slice none 0 0) 28).below hb2
    have hbz := bt (bt hbw (below_box _ _)) hb2
    have hle := hbw.size
    clear hb2 hL1 hL D B1 hbw
    go_wp2_with fail
    exact bodyPost_ret (v := .tuple #[.agg #[.int .i64 0, .int .u64 0, .string ⟨#[]⟩, .slice none 0 0, .slice none 0 0, .slice none 0 0, .slice none 0 0], .int .i64 e]) (by simp [results, Tryz.results10, go_sem, p0, p1, p2, p3, p4, p5, p6, hne, hne']) rfl ⟨rfl, below7 (hbz.setCell hle _) (Nat.le_refl _) _ _ _ _ _ _ _⟩
  | false =>
    have h0 : e = 0 := by simpa using he
    subst h0
    have hf : finT 7 (b, 0) = (tvB 7 b, 0) := by unfold finT; rw [if_pos rfl]
    rw [hf]
    clear hf he
    go_enter Tryz.func10, Tryz.ntmps10
    go_wp2_with fail
    refine (zero_p 7 _).mono ?_
    rintro _ w1 ⟨rfl, hb1⟩
    have B1 := (b7_new w (.int .i64 0) (.int .u64 0) (.string ⟨#[]⟩) (.slice none 0 0) (.slice none 0 0) (.slice none 0 0) (.slice none 0 0) 28).below hb1
    have hL1 := (hL.below (below_box w _)).below hb1
    have hbw := bt (below_box w _) hb1
    have hlt := Nat.lt_of_lt_of_le (show w.heap.size < (w.alloc (.cells #[.int .i64 0, .int .u64 0, .string ⟨#[]⟩, .slice none 0 0, .slice none 0 0, .slice none 0 0, .slice none 0 0] 28)).heap.size by simp) hb1.size
    have hne : w.heap.size ≠ w1.heap.size := by omega
    have hne' : w1.heap.size ≠ w.heap.size := by omega
    clear hb1
    rw [show vv (zeroS 7) = .agg #[.int .i64 7, .int .u64 0, .string ⟨#[]⟩, .slice none 0 0, .slice none 0 0, .slice none 0 0, .slice none 0 0] from rfl]
    go_wp2_with fail
    refine (D.out _ (hL1.below (below_box _ _))).mono ?_
    rintro _ w2 ⟨rfl, hb2⟩
    obtain ⟨lt0, p0, p1, p2, p3, p4, p5, p6, pf⟩ := (B1.alloc _).below hb2
    obtain ⟨lt1, q0, q1, q2, q3, q4, q5, q6, qf⟩ := (b7_new w1 (.int .i64 7) (.int .u64 0) (.string ⟨#[]⟩) (.slice none 0 0) (.slice none 0 0) (.slice none 0 0) (.slice none 0 0) 28).below hb2
    have hbz := bt (bt hbw (below_box _ _)) hb2
    have hle := hbw.size
    clear hb2 hL1 hL D B1 hbw
    go_wp2_with fail
    exact bodyPost_ret (v := .tuple #[.agg #[.int .i64 7, .int .u64 0, .string b, .slice none 0 0, .slice none 0 0, .slice none 0 0, .slice none 0 0], .int .i64 0]) (by simp [results, Tryz.results10, go_sem, p0, p1, p2, p3, p4, p5, p6, q0, q1, q2, q3, q4, q5, q6, hne, hne']) rfl ⟨rfl, below7 (hbz.setCell hle _) (Nat.le_refl _) _ _ _ _ _ _ _⟩

set_option maxHeartbeats 2000000 in
set_option maxRecDepth 100000 in
theorem parse_8 (s : ByteArray) (hs : s.size ≤ 35184372088000) (w : World) (hL : Ld w) : Calls Tryz.prog 10 #[.int .i64 8, .string s] w fun e w' => e = .returned (.tuple #[vv (finT 8 (pyP s.data.toList)).1, .int .i64 (finT 8 (pyP s.data.toList)).2]) ∧ Below w.heap.size w w' := by
  have D := Lib.hid fun w (_ : Ld w) => py_any s (by omega) w
  clear hs
  generalize pyP s.data.toList = r at *
  obtain ⟨b, e⟩ := r
  simp only [] at D
  cases he : (e != 0) with
  | true =>
    have hf : finT 8 (b, e) = (zv 0, e) := by unfold finT; rw [if_neg (by simpa using he)]
    rw [hf]
    clear hf
    go_enter Tryz.func10, Tryz.ntmps10
    go_wp2_with fail
    refine (zero_p 8 _).mono ?_
    rintro _ w1 ⟨rfl, hb1⟩
    have B1 := (b7_new w (.int .i64 0) (.int .u64 0) (.string ⟨#[]⟩) (.slice none 0 0) (.slice none 0 0) (.slice none 0 0) (.slice none 0 0) 28).below hb1
    have hL1 := (hL.below (below_box w _)).below hb1
    have hbw := bt (below_box w _) hb1
    have hlt := Nat.lt_of_lt_of_le (show w.heap.size < (w.alloc (.cells #[.int .i64 0, .int .u64 0, .string ⟨#[]⟩, .slice none 0 0, .slice none 0 0, .slice none 0 0, .slice none 0 0] 28)).heap.size by simp) hb1.size
    have hne : w.heap.size ≠ w1.heap.size := by omega
    have hne' : w1.heap.size ≠ w.heap.size := by omega
    clear hb1
    rw [show vv (zeroS 8) = .agg #[.int .i64 8, .int .u64 0, .string ⟨#[]⟩, .slice none 0 0, .slice none 0 0, .slice none 0 0, .slice none 0 0] from rfl]
    go_wp2_with fail
    refine (D.out _ (hL1.below (below_box _ _))).mono ?_
    rintro _ w2 ⟨rfl, hb2⟩
    obtain ⟨lt0, p0, p1, p2, p3, p4, p5, p6, pf⟩ := (B1.alloc _).below hb2
    obtain ⟨lt1, q0, q1, q2, q3, q4, q5, q6, qf⟩ := (b7_new w1 (.int .i64 8) (.int .u64 0) (.string ⟨#[]⟩) (.slice none 0 0) (.slice none 0 0) (.slice none 0 0) (.slice none 0 0) 28).below hb2
    have hbz := bt (bt hbw (below_box _ _)) hb2
    have hle := hbw.size
    clear hb2 hL1 hL D B1 hbw
    go_wp2_with fail
    exact bodyPost_ret (v := .tuple #[.agg #[.int .i64 0, .int .u64 0, .string ⟨#[]⟩, .slice none 0 0, .slice none 0 0, .slice none 0 0, .slice none 0 0], .int .i64 e]) (by simp [results, Tryz.results10, go_sem, p0, p1, p2, p3, p4, p5, p6, hne, hne']) rfl ⟨rfl, below7 (hbz.setCell hle _) (Nat.le_refl _) _ _ _ _ _ _ _⟩
  | false =>
    have h0 : e = 0 := by simpa using he
    subst h0
    have hf : finT 8 (b, 0) = (tvB 8 b, 0) := by unfold finT; rw [if_pos rfl]
    rw [hf]
    clear hf he
    go_enter Tryz.func10, Tryz.ntmps10
    go_wp2_with fail
    refine (zero_p 8 _).mono ?_
    rintro _ w1 ⟨rfl, hb1⟩
    have B1 := (b7_new w (.int .i64 0) (.int .u64 0) (.string ⟨#[]⟩) (.slice none 0 0) (.slice none 0 0) (.slice none 0 0) (.slice none 0 0) 28).below hb1
    have hL1 := (hL.below (below_box w _)).below hb1
    have hbw := bt (below_box w _) hb1
    have hlt := Nat.lt_of_lt_of_le (show w.heap.size < (w.alloc (.cells #[.int .i64 0, .int .u64 0, .string ⟨#[]⟩, .slice none 0 0, .slice none 0 0, .slice none 0 0, .slice none 0 0] 28)).heap.size by simp) hb1.size
    have hne : w.heap.size ≠ w1.heap.size := by omega
    have hne' : w1.heap.size ≠ w.heap.size := by omega
    clear hb1
    rw [show vv (zeroS 8) = .agg #[.int .i64 8, .int .u64 0, .string ⟨#[]⟩, .slice none 0 0, .slice none 0 0, .slice none 0 0, .slice none 0 0] from rfl]
    go_wp2_with fail
    refine (D.out _ (hL1.below (below_box _ _))).mono ?_
    rintro _ w2 ⟨rfl, hb2⟩
    obtain ⟨lt0, p0, p1, p2, p3, p4, p5, p6, pf⟩ := (B1.alloc _).below hb2
    obtain ⟨lt1, q0, q1, q2, q3, q4, q5, q6, qf⟩ := (b7_new w1 (.int .i64 8) (.int .u64 0) (.string ⟨#[]⟩) (.slice none 0 0) (.slice none 0 0) (.slice none 0 0) (.slice none 0 0) 28).below hb2
    have hbz := bt (bt hbw (below_box _ _)) hb2
    have hle := hbw.size
    clear hb2 hL1 hL D B1 hbw
    go_wp2_with fail
    exact bodyPost_ret (v := .tuple #[.agg #[.int .i64 8, .int .u64 0, .string b, .slice none 0 0, .slice none 0 0, .slice none 0 0, .slice none 0 0], .int .i64 0]) (by simp [results, Tryz.results10, go_sem, p0, p1, p2, p3, p4, p5, p6, q0, q1, q2, q3, q4, q5, q6, hne, hne']) rfl ⟨rfl, below7 (hbz.setCell hle _) (Nat.le_refl _) _ _ _ _ _ _ _⟩
end Go.Proofs.YtgjbpadhdnclnaaGreatDoor.PrsP
