/- Contracts of appendHex, Hex, twoDigits and Unhex of package utf. -/
import Derived.Test.YtoinfjdhbopefaaGreatDoorUtfS
import Derived.Test.YtoinfjdhbopefaaGreatDoorRoom
import Derived.BigGuardPart
import Derived.RegionTactic
import Derived.Deep.RegionLaw
set_option linter.unusedSimpArgs false
set_option linter.unusedVariables false
namespace Go.Proofs.YtoinfjdhbopefaaGreatDoor.UtfH
open Go.RowKit Nums Byt UtfM UtfS UtfQ Room

theorem and15 (c : UInt8) : bits BinOp.and IntKind.u8 (c.toNat : Int) 15 = (c.toNat : Int) % 16 := by
  have : ∀ k : Fin 256, bits BinOp.and IntKind.u8 (k.val : Int) 15 = (k.val : Int) % 16 := by decide +kernel
  exact this ⟨c.toNat, c.toNat_lt⟩
theorem digit_get (n : Nat) (h : n < ByteArray.size ⟨#[48, 49, 50, 51, 52, 53, 54, 55, 56, 57, 97, 98, 99, 100, 101, 102]⟩) : (⟨#[48, 49, 50, 51, 52, 53, 54, 55, 56, 57, 97, 98, 99, 100, 101, 102]⟩ : ByteArray)[n] = hx n := by
  have : ∀ k : Fin 16, (⟨#[48, 49, 50, 51, 52, 53, 54, 55, 56, 57, 97, 98, 99, 100, 101, 102]⟩ : ByteArray)[k.val]'(k.isLt) = hx k.val := by decide
  exact this ⟨n, h⟩
theorem grown_alloc {w w' : World} {o : Obj} {row : Option Nat} (h : (w.alloc o).grownBy w' row) : w.grownBy w' row := by
  refine ⟨h.os, h.tape, h.output, Nat.le_trans (by simp) h.size, fun k hk hr => ?_⟩
  rw [h.block k (by simp; omega) hr]
  exact heap_alloc_old w o hk
theorem grown_drew {w w' : World} {row : Option Nat} (h : w.drew.grownBy w' row) : w.grownBy w' row := ⟨h.os, h.tape, h.output, h.size, h.block⟩
/-- What a call leaves that appends to bytes of the call's own. -/
def Appended (base : Nat) (v : Value) (l bs : List UInt8) (w : World) (e : Ending) (w' : World) : Prop :=
  ∃ v', e = .returned v' ∧ OwnB w' base 5 v' (l ++ bs) ∧ w.grownBy w' v.ownBlock ∧ (∀ k, Room v l.length (bs.length + k) → Room v' (l ++ bs).length k)

set_option maxHeartbeats 1000000 in
set_option maxRecDepth 100000 in
theorem appendHex_any (base : Nat) (v : Value) (l : List UInt8) (c : UInt8) (w : World) (hown : OwnB w base 5 v l) (hr : Room v l.length 2) (hb : base ≤ w.heap.size) :
    Calls Tryz.prog 61 #[v, .int .u8 c.toNat] w (Appended base v l [hx (c.toNat / 16), hx (c.toNat % 16)] w) := by
  have c256 := c.toNat_lt
  have hc256 : (c.toNat : Int) < 256 := by omega
  have a1 : 0 ≤ (c.toNat : Int) / 16 := by omega
  have a2 : (c.toNat : Int) / 16 < 16 := by omega
  have a3 : 0 ≤ (c.toNat : Int) % 16 := by omega
  have a4 : (c.toNat : Int) % 16 < 16 := by omega
  have hb15 := and15 c
  have q1 : ∀ h, (⟨#[48, 49, 50, 51, 52, 53, 54, 55, 56, 57, 97, 98, 99, 100, 101, 102]⟩ : ByteArray)[((c.toNat : Int) / 16).toNat]'h = hx (c.toNat / 16) := fun h => digit_get _ h
  have q2 : ∀ h, (⟨#[48, 49, 50, 51, 52, 53, 54, 55, 56, 57, 97, 98, 99, 100, 101, 102]⟩ : ByteArray)[((c.toNat : Int) % 16).toNat]'h = hx (c.toNat % 16) := fun h => digit_get _ h
  go_enter Tryz.func61, Tryz.ntmps61
  go_wp2_with fail
  go_region_law (refine step_append_bytes rfl (.tmp 5) (.tmp 12) BytT.bytesT rfl base v l (by simp [Act.eval, Act.put]) ((show OwnB w.drew base 5 v l from hown).alloc _) ⟨w.heap.size, 0, none⟩ 2 2 [hx (c.toNat / 16), hx (c.toNat % 16)] (by simp [Act.eval, Act.put]) rfl (cell_two w.drew _ _ _ _ _ rfl rfl) hr (Nat.le_trans hb (by simp)) ?_; intro v' w1 hown1 hg1 hr1)
  all_goals
    go_wp2_with fail
    go_ret
    exact ⟨v', rfl, hown1, grown_drew (grown_alloc (w := w.drew) hg1), hr1⟩

theorem indexDigits (b : UInt8) (w : World) : Calls Tryz.prog 31 #[.string ⟨#[48, 49, 50, 51, 52, 53, 54, 55, 56, 57, 97, 98, 99, 100, 101, 102]⟩, .int .u8 b.toNat] w fun e w' => e = .returned (.int .i64 (dig b)) ∧ w = w' :=
  (indexByte ⟨#[48, 49, 50, 51, 52, 53, 54, 55, 56, 57, 97, 98, 99, 100, 101, 102]⟩ b _ rfl w).mono fun _ _ ⟨h1, h2⟩ => ⟨h1.trans (by rw [← index_digits]; rfl), h2⟩

theorem two_short {l : List UInt8} (h : l.length < 2) : two l = none := by
  match l, h with
  | [], _ => rfl
  | [_], _ => rfl
theorem two_long {l : List UInt8} {a b : UInt8} (h0 : l[0]? = some a) (h1 : l[1]? = some b) : two l = if dig a < 0 ∨ dig b < 0 then none else some (UInt8.ofNat ((dig a).toNat * 16 + (dig b).toNat)) := by
  match l, h0, h1 with
  | x :: y :: t, h0, h1 => simp at h0 h1; simp [two, h0, h1]
theorem or_low {a b : Int} (a0 : 0 ≤ a) (a1 : a < 16) (b0 : 0 ≤ b) (b1 : b < 16) : bits BinOp.or IntKind.i64 (a * 16) b % 256 = ((UInt8.ofNat (a.toNat * 16 + b.toNat)).toNat : Int) := by
  have : ∀ x y : Fin 16, bits BinOp.or IntKind.i64 ((x.val : Int) * 16) (y.val : Int) % 256 = ((UInt8.ofNat (x.val * 16 + y.val)).toNat : Int) := by decide +kernel
  have h := this ⟨a.toNat, by omega⟩ ⟨b.toNat, by omega⟩
  have e1 : ((a.toNat : Nat) : Int) = a := by omega
  have e2 : ((b.toNat : Nat) : Int) = b := by omega
  simp only [e1, e2] at h
  exact h
theorem get0 {s : ByteArray} (h : 0 < s.size) : s.data.toList[0]? = some s[0] := by rw [List.getElem?_eq_getElem h]; rfl
theorem get1 {s : ByteArray} (h : 1 < s.size) : s.data.toList[1]? = some s[1] := by rw [List.getElem?_eq_getElem h]; rfl
theorem ret_ub {a b : Int} {c d : Bool} (h : a = b) (k : c = d) : Ending.returned (.tuple #[.int .u8 a, .bool c]) = .returned (.tuple #[.int .u8 b, .bool d]) := by rw [h, k]

set_option maxHeartbeats 1000000 in
set_option maxRecDepth 100000 in
theorem two_yes (s : ByteArray) (c : UInt8) (hc : two s.data.toList = some c) (hs : s.size ≤ 4611686018427387904) (w : World) :
    Calls Tryz.prog 106 #[.string s] w fun e w' => e = .returned (.tuple #[.int .u8 c.toNat, .bool true]) ∧ w = w' := by
  by_cases hlt : s.size < 2
  · rw [two_short (show s.data.toList.length < 2 from hlt)] at hc; cases hc
  · have l0 : 0 < s.size := by omega
    have l1 : 1 < s.size := by omega
    rw [two_long (get0 l0) (get1 l1)] at hc
    by_cases hd : dig s[0] < 0 ∨ dig s[1] < 0
    · rw [if_pos hd] at hc; cases hc
    · rw [if_neg hd] at hc
      injection hc with hc
      have Hc := Lib.hid hc
      have r0 := dig_range s[0]
      have r1 := dig_range s[1]
      have d0 : 0 ≤ dig s[0] := by omega
      have d0' : dig s[0] < 16 := by omega
      have d1 : 0 ≤ dig s[1] := by omega
      have d1' : dig s[1] < 16 := by omega
      have l1' : (1 : Int) < s.size := by omega
      have hsi : (s.size : Int) ≤ 4611686018427387904 := by omega
      clear hc hd r0 r1
      go_enter Tryz.func106, Tryz.ntmps106
      go_wp2_with fail
      refine (indexDigits _ _).mono ?_
      rintro _ w1 ⟨rfl, rfl⟩
      go_wp2_with fail
      refine (indexDigits _ _).mono ?_
      rintro _ w1 ⟨rfl, rfl⟩
      go_wp2_with fail
      go_ret2
      exact ⟨ret_ub (by rw [or_low d0 d0' d1 d1', Hc.out]) rfl, rfl⟩
set_option maxHeartbeats 1000000 in
set_option maxRecDepth 100000 in
theorem two_no (s : ByteArray) (hc : two s.data.toList = none) (hs : s.size ≤ 4611686018427387904) (w : World) :
    Calls Tryz.prog 106 #[.string s] w fun e w' => e = .returned (.tuple #[.int .u8 0, .bool false]) ∧ w = w' := by
  have hsi : (s.size : Int) ≤ 4611686018427387904 := by omega
  by_cases hlt : s.size < 2
  · have hlt' : (s.size : Int) < 2 := by omega
    clear hc
    go_enter Tryz.func106, Tryz.ntmps106
    go_wp2_with fail
    go_ret2
    exact ⟨rfl, rfl⟩
  · have l0 : 0 < s.size := by omega
    have l1 : 1 < s.size := by omega
    rw [two_long (get0 l0) (get1 l1)] at hc
    have l1' : (1 : Int) < s.size := by omega
    by_cases hd : dig s[0] < 0
    · clear hc
      go_enter Tryz.func106, Tryz.ntmps106
      go_wp2_with fail
      refine (indexDigits _ _).mono ?_
      rintro _ w1 ⟨rfl, rfl⟩
      go_wp2_with fail
      refine (indexDigits _ _).mono ?_
      rintro _ w1 ⟨rfl, rfl⟩
      go_wp2_with fail
      go_ret2
      exact ⟨rfl, rfl⟩
    · by_cases hd1 : dig s[1] < 0
      · clear hc
        have hd' : 0 ≤ dig s[0] := by omega
        go_enter Tryz.func106, Tryz.ntmps106
        go_wp2_with fail
        refine (indexDigits _ _).mono ?_
        rintro _ w1 ⟨rfl, rfl⟩
        go_wp2_with fail
        refine (indexDigits _ _).mono ?_
        rintro _ w1 ⟨rfl, rfl⟩
        go_wp2_with fail
        go_ret2
        exact ⟨rfl, rfl⟩
      · rw [if_neg (by omega)] at hc; cases hc

/-- What Unhex returns. -/
def uhT (l : List UInt8) : List UInt8 := (unhexL l).getD []
def uhE (l : List UInt8) : Int := if (unhexL l).isSome then 0 else 2
def strSize (v : Value) : Nat := match v with
  | .string t => t.size
  | _ => 0
theorem ret_se {a b : ByteArray} {c d : Int} (h : a = b) (k : c = d) : Ending.returned (.tuple #[.string a, .int .i64 c]) = .returned (.tuple #[.string b, .int .i64 d]) := by rw [h, k]

end Go.Proofs.YtoinfjdhbopefaaGreatDoor.UtfH
