/- The public ParseUint at base 16, and the program's Parse. -/
import Derived.Test.YtkkbapgpjfehhaaDoorDigP
import Derived.Test.YtkkbapgpjfehhaaDoorDigE
import Derived.Shelf.Pu.ErrVarParseUint
set_option linter.unusedSimpArgs false
set_option linter.unusedVariables false
namespace Go.Proofs.YtkkbapgpjfehhaaDoor.DigQ
open Go.RowKit Dld Nums DigH DigP DigE

/-- ParseUint at base 16. -/
def puE (l : List UInt8) : Pu := if l = [] then .syn else pu 0 l
theorem puE_any (t : ByteArray) (hmax : t.size ≤ 140737488355328) (w : World) :
    Calls Tryd.prog 30 #[.string t, .int .i64 16, .int .i64 64] w fun e w' => e = .returned (puT (puE t.data.toList)) ∧ Below w.heap.size w w' := by
  by_cases h : t.size = 0
  · have ht : t = ⟨#[]⟩ := ByteArray.ext (Array.eq_empty_of_size_eq_zero h)
    subst ht
    exact (Tryd.internal_strconv_ParseUint_empty 16 64 w).mono fun e w' ⟨he, hw⟩ => ⟨he, by rw [hw]; exact Below.refl _ _⟩
  · have hl : ¬ t.data.toList = [] := fun e => h (by have : t.data.toList.length = t.size := rfl; rw [e] at this; exact this.symm)
    refine (puI_any t h (by omega) w).mono fun e w' ⟨he, hw⟩ => ⟨?_, ?_⟩
    · rw [he]; unfold puE; rw [if_neg hl]
    · rw [hw]
      exact ⟨rfl, rfl, rfl, by rw [Lib.bytesWorld_size]; omega, fun k hk => Lib.bytesWorld_at_old w _ t k hk⟩

theorem toErr_syn (fn s : ByteArray) (base bits : Int) (tp : TypeId) (p : Value) (w : World) (hlim : s.size ≤ 281474976710656) (hvar : w.var? Tryd.prog "strconv.ErrSyntax" = some #[.iface tp p]) :
    Calls Tryd.prog 31 #[.string fn, .string s, .int .i64 base, .int .i64 bits, .iface 64 (.int .i64 2)] w fun e w' => (∃ tp p, e = .returned (.iface tp p)) ∧ Below w.heap.size w w' :=
  (AnyPu.strconv_toError_syntax { Tryd.laysPu14 with } fn s base bits (.iface tp p) w hlim (by have h0 := World.var?_cell Tryd.laysPu14.m0 hvar 0; simpa using h0) (Or.inr ⟨tp, p, rfl⟩)).mono fun e w' ⟨N, he, _, _, hb⟩ => ⟨⟨_, _, he⟩, hb⟩

set_option maxRecDepth 100000 in
set_option maxHeartbeats 1000000 in
theorem pu_syn (s : ByteArray) (hs : s.size ≤ 140737488355328) (w : World) (hL : Ld w) (h : puE s.data.toList = .syn) : Calls Tryd.prog 27 #[.string s, .int .i64 16, .int .i64 64] w fun e w' => (∃ tp p, e = .returned (.tuple #[.int .u64 0, .iface tp p])) ∧ Below w.heap.size w w' := by
  have h1 := fun w => puE_any s hs w
  rw [h] at h1
  simp only [puT] at h1
  have H1 := Lib.hid h1
  have H2 := Lib.hid fun fn base bits tp p w => toErr_syn fn s base bits tp p w (by omega)
  clear h hs h1
  go_enter Tryd.func27, Tryd.ntmps27
  go_wp2_with fail
  refine (H1.out _).mono ?_
  rintro _ w1 ⟨rfl, hb1⟩
  obtain ⟨tp, p, hv⟩ := (hL.below hb1).es
  go_wp2_with (refine (H2.out _ _ _ tp p _ hv).mono ?_; rintro _ w2 ⟨⟨tp2, p2, rfl⟩, hb2⟩)
  go_ret2
  exact ⟨⟨tp2, p2, rfl⟩, below_trans hb1 hb2⟩

theorem toErr_rng (fn s : ByteArray) (base bits : Int) (tp : TypeId) (p : Value) (w : World) (hlim : s.size ≤ 281474976710656) (hvar : w.var? Tryd.prog "strconv.ErrRange" = some #[.iface tp p]) :
    Calls Tryd.prog 31 #[.string fn, .string s, .int .i64 base, .int .i64 bits, .iface 64 (.int .i64 1)] w fun e w' => (∃ tp p, e = .returned (.iface tp p)) ∧ Below w.heap.size w w' :=
  (AnyPu.strconv_toError_range { Tryd.laysPu14 with } fn s base bits (.iface tp p) w hlim (by have h0 := World.var?_cell Tryd.laysPu14.m1 hvar 0; simpa using h0) (Or.inr ⟨tp, p, rfl⟩)).mono fun e w' ⟨N, he, _, _, hb⟩ => ⟨⟨_, _, he⟩, hb⟩

set_option maxRecDepth 100000 in
set_option maxHeartbeats 1000000 in
theorem pu_rng (s : ByteArray) (hs : s.size ≤ 140737488355328) (w : World) (hL : Ld w) (h : puE s.data.toList = .rng) : Calls Tryd.prog 27 #[.string s, .int .i64 16, .int .i64 64] w fun e w' => (∃ tp p, e = .returned (.tuple #[.int .u64 18446744073709551615, .iface tp p])) ∧ Below w.heap.size w w' := by
  have h1 := fun w => puE_any s hs w
  rw [h] at h1
  simp only [puT] at h1
  have H1 := Lib.hid h1
  have H2 := Lib.hid fun fn base bits tp p w => toErr_rng fn s base bits tp p w (by omega)
  clear h hs h1
  go_enter Tryd.func27, Tryd.ntmps27
  go_wp2_with fail
  refine (H1.out _).mono ?_
  rintro _ w1 ⟨rfl, hb1⟩
  obtain ⟨tp, p, hv⟩ := (hL.below hb1).er
  go_wp2_with (refine (H2.out _ _ _ tp p _ hv).mono ?_; rintro _ w2 ⟨⟨tp2, p2, rfl⟩, hb2⟩)
  go_ret2
  exact ⟨⟨tp2, p2, rfl⟩, below_trans hb1 hb2⟩

set_option maxRecDepth 100000 in
set_option maxHeartbeats 1000000 in
theorem pu_ok (s : ByteArray) (hs : s.size ≤ 140737488355328) (w : World) (n : Nat) (h : puE s.data.toList = .ok n) : Calls Tryd.prog 27 #[.string s, .int .i64 16, .int .i64 64] w fun e w' => e = .returned (.tuple #[.int .u64 n, .nilIface]) ∧ Below w.heap.size w w' := by
  have h1 := fun w => puE_any s hs w
  rw [h] at h1
  simp only [puT] at h1
  have H1 := Lib.hid h1
  clear h hs h1
  go_enter Tryd.func27, Tryd.ntmps27
  go_wp2_with fail
  refine (H1.out _).mono ?_
  rintro _ w1 ⟨rfl, hb1⟩
  go_wp2_with fail
  go_ret2
  exact ⟨rfl, hb1⟩

theorem parP_ok {l : List UInt8} {n : Nat} (h : puE l = .ok n) : n ≤ 18446744073709551615 ∧ parP l = if hex16 n = l then (n, 0) else (0, 2) := by
  unfold puE at h
  split at h
  · cases h
  · exact ⟨pu_lt l 0 n (by omega) h, parP_of_pu h⟩
theorem parP_no {l : List UInt8} (h : ∀ n, puE l ≠ .ok n) : parP l = (0, 2) := by
  by_cases e : l = []
  · subst e; rfl
  · refine parP_not fun v hv => h v ?_
    unfold puE; rw [if_neg e]; exact hv
theorem same_yes {a b : ByteArray} (h : a.data.toList = b.data.toList) : (a.toList == b.toList) = true := by
  rw [ByteArray.toList_eq, ByteArray.toList_eq, h]; exact beq_self_eq_true _
theorem same_no {a b : ByteArray} (h : ¬ a.data.toList = b.data.toList) : (a.toList == b.toList) = false := by
  rw [ByteArray.toList_eq, ByteArray.toList_eq]; exact beq_eq_false_iff_ne.2 h
theorem ret_up {a b : Nat} {x y : Int} (h : a = b) (k : x = y) : Ending.returned (.tuple #[.int .u64 (a : Int), .int .i64 x]) = .returned (.tuple #[.int .u64 (b : Int), .int .i64 y]) := by rw [h, k]

set_option maxRecDepth 100000 in
set_option maxHeartbeats 1000000 in
/-- Parse. -/
theorem parse_any (s : ByteArray) (hs : s.size ≤ 140737488355328) (w : World) (hL : Ld w) : Calls Tryd.prog 20 #[.string s] w fun e w' => e = .returned (.tuple #[.int .u64 (parP s.data.toList).1, .int .i64 (parP s.data.toList).2]) ∧ Below w.heap.size w w' := by
  cases h : puE s.data.toList with
  | ok n =>
    have H1 := Lib.hid fun w => pu_ok s hs w n h
    obtain ⟨hn, hp⟩ := parP_ok h
    have H2 := Lib.hid fun w hL => text_any n hn w hL
    obtain ⟨q, hq⟩ : ∃ q : ByteArray, q = ⟨(hex16 n).toArray⟩ := ⟨_, rfl⟩
    have hql : q.data.toList = hex16 n := by rw [hq]
    rw [← hq] at H2
    rw [← hql] at hp
    clear hq hql h
    by_cases he : q.data.toList = s.data.toList
    · have hc := same_yes he
      have hr := Lib.hid (hp.trans (if_pos he))
      clear he hp
      go_enter Tryd.func20, Tryd.ntmps20
      go_wp2_with fail
      refine (H1.out _).mono ?_
      rintro _ w1 ⟨rfl, hb1⟩
      have hL1 := hL.below hb1
      go_wp2_with (refine (H2.out _ hL1).mono ?_; rintro _ w2 ⟨rfl, hb2⟩)
      go_ret2
      exact ⟨ret_up (by rw [hr.out]) (by rw [hr.out]), below_trans hb1 hb2⟩
    · have hc := same_no he
      have hr := Lib.hid (hp.trans (if_neg he))
      clear he hp
      go_enter Tryd.func20, Tryd.ntmps20
      go_wp2_with fail
      refine (H1.out _).mono ?_
      rintro _ w1 ⟨rfl, hb1⟩
      have hL1 := hL.below hb1
      go_wp2_with (refine (H2.out _ hL1).mono ?_; rintro _ w2 ⟨rfl, hb2⟩)
      go_ret2
      exact ⟨ret_up (by rw [hr.out]) (by rw [hr.out]), below_trans hb1 hb2⟩
  | syn =>
    have H1 := Lib.hid fun w hL => pu_syn s hs w hL h
    have hr := Lib.hid (parP_no (l := s.data.toList) fun n hn => by rw [h] at hn; cases hn)
    clear h
    go_enter Tryd.func20, Tryd.ntmps20
    go_wp2_with fail
    refine (H1.out _ hL).mono ?_
    rintro _ w1 ⟨⟨tp, p, rfl⟩, hb1⟩
    go_wp2_with fail
    go_ret2
    exact ⟨ret_up (by rw [hr.out]) (by rw [hr.out]), hb1⟩
  | rng =>
    have H1 := Lib.hid fun w hL => pu_rng s hs w hL h
    have hr := Lib.hid (parP_no (l := s.data.toList) fun n hn => by rw [h] at hn; cases hn)
    clear h
    go_enter Tryd.func20, Tryd.ntmps20
    go_wp2_with fail
    refine (H1.out _ hL).mono ?_
    rintro _ w1 ⟨⟨tp, p, rfl⟩, hb1⟩
    go_wp2_with fail
    go_ret2
    exact ⟨ret_up (by rw [hr.out]) (by rw [hr.out]), hb1⟩
end Go.Proofs.YtkkbapgpjfehhaaDoor.DigQ
