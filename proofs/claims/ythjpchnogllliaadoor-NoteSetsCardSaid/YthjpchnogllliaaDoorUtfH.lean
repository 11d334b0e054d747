/- Contracts of appendHex, Hex, twoDigits and Unhex of package utf. -/
import Derived.Test.YthjpchnogllliaaDoorUtfS
import Derived.Test.YthjpchnogllliaaDoorRoom
import Derived.BigGuardPart
import Derived.RegionTactic
import Derived.Deep.RegionLaw
set_option linter.unusedSimpArgs false
set_option linter.unusedVariables false
namespace Go.Proofs.YthjpchnogllliaaDoor.UtfH
open Go.RowKit Nums Byt UtfM UtfS UtfQ Room

theorem and15 (c : UInt8) : bits BinOp.and IntKind.u8 (c.toNat : Int) 15 = (c.toNat : Int) % 16 := by
  have : ∀ k : Fin 256, bits BinOp.and IntKind.u8 (k.val : Int) 15 = (k.val : Int) % 16 := by decide +kernel
  exact this ⟨c.toNat, c.toNat_lt⟩
theorem digit_get (n : Nat) (h : n < ByteArray.size ⟨#[48, 49, 50, 51, 52, 53, 54, 55, 56, 57, 97, 98, 99, 100, 101, 102]⟩) : (⟨#[48, 49, 50, 51, 52, 53, 54, 55, 56, 57, 97, 98, 99, 100, 101, 102]⟩ : ByteArray)[n] = hx n := by
  have : ∀ k : Fin 16, (⟨#[48, 49, 50, 51, 52, 53, 54, 55, 56, 57, 97, 98, 99, 100, 101, 102]⟩ : ByteArray)[k.val]'(k.isLt) = hx k.val := by decide
  exact this ⟨n, h⟩
theorem grown_alloc {w w' : World} {o : Obj} {row : Option Nat} (h : (w.alloc o).grownBy w' row) : w.grownBy w' row := by
  refine ⟨h.os, h.tape, h.output, Nat.le_trans (by simp) h.size, fun k hk hr => ?_⟩
  rw [h.block k (by simp; omega) hr]
  exact heap_alloc_old w o hk
theorem grown_drew {w w' : World} {row : Option Nat} (h : w.drew.grownBy w' row) : w.grownBy w' row := ⟨h.os, h.tape, h.output, h.size, h.block⟩
/-- What a call leaves that appends to bytes of the call's own. -/
def Appended (base : Nat) (v : Value) (l bs : List UInt8) (w : World) (e : Ending) (w' : World) : Prop :=
  ∃ v', e = .returned v' ∧ OwnB w' base 5 v' (l ++ bs) ∧ w.grownBy w' v.ownBlock ∧ (∀ k, Room v l.length (bs.length + k) → Room v' (l ++ bs).length k)

set_option maxHeartbeats 1000000 in
set_option maxRecDepth 100000 in
theorem appendHex_any (base : Nat) (v : Value) (l : List UInt8) (c : UInt8) (w : World) (hown : OwnB w base 5 v l) (hr : Room v l.length 2) (hb : base ≤ w.heap.size) :
    Calls Tryd.prog 79 #[v, .int .u8 c.toNat] w (Appended base v l [hx (c.toNat / 16), hx (c.toNat % 16)] w) := by
  have c256 := c.toNat_lt
  have hc256 : (c.toNat : Int) < 256 := by omega
  have a1 : 0 ≤ (c.toNat : Int) / 16 := by omega
  have a2 : (c.toNat : Int) / 16 < 16 := by omega
  have a3 : 0 ≤ (c.toNat : Int) % 16 := by omega
  have a4 : (c.toNat : Int) % 16 < 16 := by omega
  have hb15 := and15 c
  have q1 : ∀ h, (⟨#[48, 49, 50, 51, 52, 53, 54, 55, 56, 57, 97, 98, 99, 100, 101, 102]⟩ : ByteArray)[((c.toNat : Int) / 16).toNat]'h = hx (c.toNat / 16) := fun h => digit_get _ h
  have q2 : ∀ h, (⟨#[48, 49, 50, 51, 52, 53, 54, 55, 56, 57, 97, 98, 99, 100, 101, 102]⟩ : ByteArray)[((c.toNat : Int) % 16).toNat]'h = hx (c.toNat % 16) := fun h => digit_get _ h
  go_enter Tryd.func79, Tryd.ntmps79
  go_wp2_with fail
  go_region_law (refine step_append_bytes rfl (.tmp 5) (.tmp 12) BytT.bytesT rfl base v l (by simp [Act.eval, Act.put]) ((show OwnB w.drew base 5 v l from hown).alloc _) ⟨w.heap.size, 0, none⟩ 2 2 [hx (c.toNat / 16), hx (c.toNat % 16)] (by simp [Act.eval, Act.put]) rfl (cell_two w.drew _ _ _ _ _ rfl rfl) hr (Nat.le_trans hb (by simp)) ?_; intro v' w1 hown1 hg1 hr1)
  all_goals
    go_wp2_with fail
    go_ret
    exact ⟨v', rfl, hown1, grown_drew (grown_alloc (w := w.drew) hg1), hr1⟩

set_option maxHeartbeats 1000000 in
set_option maxRecDepth 100000 in
theorem hex_any (s : ByteArray) (hs : s.size ≤ 140737488355328) (w : World) :
    Calls Tryd.prog 57 #[.string s] w fun e w' => e = .returned (.string ⟨(hexL s.data.toList).toArray⟩) ∧ Below w.heap.size w w' := by
  obtain ⟨l, hl⟩ : ∃ l, l = s.data.toList := ⟨_, rfl⟩
  rw [← hl]
  have Hl := Lib.hid hl
  have hsz : l.length = s.size := by rw [hl]; rfl
  have Hsz := Lib.hid hsz
  clear hl hsz
  obtain ⟨i, hi, hz, hi1, hi2⟩ := BytT.bytesT.hi
  have Hz := Lib.hid hz
  have Hi1 := Lib.hid hi1
  have Hi2 := Lib.hid hi2
  have Hi := Lib.hid hi
  clear hz hi1 hi2 hi
  go_enter Tryd.func57, Tryd.ntmps57
  go_wp2_with (at_make; refine wpList_make_own _ rfl _ _ 65 rfl w.heap.size 5 i (.int .u8 0) 1 BytT.bytesT.ht Hi.out Hz.out Hi1.out .i64 .i64 _ (2 * s.size) rfl rfl (by omega) (by rw [Hi2.out]; omega) (by unfold maxLen; omega) (Nat.le_refl _) ?_; intro w0 hown0 hgrow0)
  have hb0 : Below w.heap.size w w0 := (Below.refl _ _).grown hgrow0 (Nat.le_refl _) (fun k hk => by cases hk)
  go_loopw [3, 11] (fun v t wr => ∃ k : Nat, k ≤ s.size ∧ t = .int .i64 k ∧ OwnB wr w.heap.size 5 v (hexL (l.take k)) ∧ Room v (hexL (l.take k)).length (2 * (s.size - k)) ∧ Below w.heap.size w wr) (fun _ t _ => s.size - (intOf t).toNat)
  case atStart => exact ⟨0, by omega, rfl, hown0, .inr ⟨w.heap.size, 2 * s.size, rfl, by simp [hexL]⟩, hb0⟩
  case round =>
    obtain ⟨k, hk, rfl, hown, hroom, hbel⟩ := hrel
    clear hown0 hgrow0 hb0
    have hsw := hbel.size
    have Hown := Lib.hid hown
    have Hroom := Lib.hid hroom
    clear hown hroom
    by_cases hlt : k < s.size
    · have ht : hexL (l.take (k + 1)) = hexL (l.take k) ++ [hx ((s[k]).toNat / 16), hx ((s[k]).toNat % 16)] := by
        rw [List.take_succ_eq_append_getElem (by rw [Hsz.out]; exact hlt), hexL_snoc]
        have : l[k]'(by rw [Hsz.out]; exact hlt) = s[k] := by
          simp only [Hl.out]; rfl
        rw [this]
      have Ht := Lib.hid ht
      clear ht
      go_wp2_with fail
      refine (appendHex_any w.heap.size _ (hexL (l.take k)) s[k] _ Hown.out (Hroom.out.le (by omega)) hsw).mono ?_
      rintro _ w1 ⟨v1, rfl, hown1, hg1, hr1⟩
      have Hown1 := Lib.hid hown1
      have Hg1 := Lib.hid hg1
      have Hr1 := Lib.hid hr1
      clear hown1 hg1 hr1
      go_wp2_with fail
      refine ⟨⟨k + 1, by omega, by go_num, ?_, ?_, Hown.out.below hbel Hg1.out hsw⟩, by simp [intOf]; omega⟩
      · rw [Ht.out]; exact Hown1.out
      · rw [Ht.out]
        refine Hr1.out _ (Hroom.out.le ?_)
        simp only [List.length_cons, List.length_nil]
        omega
    · obtain rfl : k = s.size := by omega
      have hf : l.take s.size = l := by rw [← Hsz.out, List.take_length]
      have hcv := Hown.out.conv BytT.bytesT Tryd.underlying9
      rw [hf] at hcv
      go_wp2_with fail
      go_ret
      exact ⟨rfl, hbel⟩

theorem indexDigits (b : UInt8) (w : World) : Calls Tryd.prog 77 #[.string ⟨#[48, 49, 50, 51, 52, 53, 54, 55, 56, 57, 97, 98, 99, 100, 101, 102]⟩, .int .u8 b.toNat] w fun e w' => e = .returned (.int .i64 (dig b)) ∧ w = w' :=
  (indexByte ⟨#[48, 49, 50, 51, 52, 53, 54, 55, 56, 57, 97, 98, 99, 100, 101, 102]⟩ b _ rfl w).mono fun _ _ ⟨h1, h2⟩ => ⟨h1.trans (by rw [← index_digits]; rfl), h2⟩

theorem two_short {l : List UInt8} (h : l.length < 2) : two l = none := by
  match l, h with
  | [], _ => rfl
  | [_], _ => rfl
theorem two_long {l : List UInt8} {a b : UInt8} (h0 : l[0]? = some a) (h1 : l[1]? = some b) : two l = if dig a < 0 ∨ dig b < 0 then none else some (UInt8.ofNat ((dig a).toNat * 16 + (dig b).toNat)) := by
  match l, h0, h1 with
  | x :: y :: t, h0, h1 => simp at h0 h1; simp [two, h0, h1]
theorem or_low {a b : Int} (a0 : 0 ≤ a) (a1 : a < 16) (b0 : 0 ≤ b) (b1 : b < 16) : bits BinOp.or IntKind.i64 (a * 16) b % 256 = ((UInt8.ofNat (a.toNat * 16 + b.toNat)).toNat : Int) := by
  have : ∀ x y : Fin 16, bits BinOp.or IntKind.i64 ((x.val : Int) * 16) (y.val : Int) % 256 = ((UInt8.ofNat (x.val * 16 + y.val)).toNat : Int) := by decide +kernel
  have h := this ⟨a.toNat, by omega⟩ ⟨b.toNat, by omega⟩
  have e1 : ((a.toNat : Nat) : Int) = a := by omega
  have e2 : ((b.toNat : Nat) : Int) = b := by omega
  simp only [e1, e2] at h
  exact h
theorem get0 {s : ByteArray} (h : 0 < s.size) : s.data.toList[0]? = some s[0] := by rw [List.getElem?_eq_getElem h]; rfl
theorem get1 {s : ByteArray} (h : 1 < s.size) : s.data.toList[1]? = some s[1] := by rw [List.getElem?_eq_getElem h]; rfl
theorem ret_ub {a b : Int} {c d : Bool} (h : a = b) (k : c = d) : Ending.returned (.tuple #[.int .u8 a, .bool c]) = .returned (.tuple #[.int .u8 b, .bool d]) := by rw [h, k]

/-- What Unhex returns. -/
def uhT (l : List UInt8) : List UInt8 := (unhexL l).getD []
def uhE (l : List UInt8) : Int := if (unhexL l).isSome then 0 else 2
def strSize (v : Value) : Nat := match v with
  | .string t => t.size
  | _ => 0
theorem ret_se {a b : ByteArray} {c d : Int} (h : a = b) (k : c = d) : Ending.returned (.tuple #[.string a, .int .i64 c]) = .returned (.tuple #[.string b, .int .i64 d]) := by rw [h, k]

end Go.Proofs.YthjpchnogllliaaDoor.UtfH
