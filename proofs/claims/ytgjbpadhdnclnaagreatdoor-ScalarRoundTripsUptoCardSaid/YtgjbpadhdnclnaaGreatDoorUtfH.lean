/- Contracts of appendHex, Hex, twoDigits and Unhex of package utf. -/
import Derived.Test.YtgjbpadhdnclnaaGreatDoorUtfS
import Derived.Test.YtgjbpadhdnclnaaGreatDoorRoom
import Derived.BigGuardPart
import Derived.RegionTactic
import Derived.Deep.RegionLaw
set_option linter.unusedSimpArgs false
set_option linter.unusedVariables false
namespace Go.Proofs.YtgjbpadhdnclnaaGreatDoor.UtfH
open Go.RowKit Nums Byt UtfM UtfS UtfQ Room

theorem and15 (c : UInt8) : bits BinOp.and IntKind.u8 (c.toNat : Int) 15 = (c.toNat : Int) % 16 := by
  have : ∀ k : Fin 256, bits BinOp.and IntKind.u8 (k.val : Int) 15 = (k.val : Int) % 16 := by decide +kernel
  exact this ⟨c.toNat, c.toNat_lt⟩
theorem digit_get (n : Nat) (h : n < ByteArray.size ⟨#[48, 49, 50, 51, 52, 53, 54, 55, 56, 57, 97, 98, 99, 100, 101, 102]⟩) : (⟨#[48, 49, 50, 51, 52, 53, 54, 55, 56, 57, 97, 98, 99, 100, 101, 102]⟩ : ByteArray)[n] = hx n := by
  have : ∀ k : Fin 16, (⟨#[48, 49, 50, 51, 52, 53, 54, 55, 56, 57, 97, 98, 99, 100, 101, 102]⟩ : ByteArray)[k.val]'(k.isLt) = hx k.val := by decide
  exact this ⟨n, h⟩
theorem grown_alloc {w w' : World} {o : Obj} {row : Option Nat} (h : (w.alloc o).grownBy w' row) : w.grownBy w' row := by
  refine ⟨h.os, h.tape, h.output, Nat.le_trans (by simp) h.size, fun k hk hr => ?_⟩
  rw [h.block k (by simp; omega) hr]
  exact heap_alloc_old w o hk
theorem grown_drew {w w' : World} {row : Option Nat} (h : w.drew.grownBy w' row) : w.grownBy w' row := ⟨h.os, h.tape, h.output, h.size, h.block⟩
/-- What a call leaves that appends to bytes of the call's own. -/
def Appended (base : Nat) (v : Value) (l bs : List UInt8) (w : World) (e : Ending) (w' : World) : Prop :=
  ∃ v', e = .returned v' ∧ OwnB w' base 5 v' (l ++ bs) ∧ w.grownBy w' v.ownBlock ∧ (∀ k, Room v l.length (bs.length + k) → Room v' (l ++ bs).length k)

set_option maxHeartbeats 1000000 in
set_option maxRecDepth 100000 in
theorem appendHex_any (base : Nat) (v : Value) (l : List UInt8) (c : UInt8) (w : World) (hown : OwnB w base 5 v l) (hr : Room v l.length 2) (hb : base ≤ w.heap.size) :
    Calls Tryz.prog 57 #[v, .int .u8 c.toNat] w (Appended base v l [hx (c.toNat / 16), hx (c.toNat % 16)] w) := by
  have c256 := c.toNat_lt
  have hc256 : (c.toNat : Int) < 256 := by omega
  have a1 : 0 ≤ (c.toNat : Int) / 16 := by omega
  have a2 : (c.toNat : Int) / 16 < 16 := by omega
  have a3 : 0 ≤ (c.toNat : Int) % 16 := by omega
  have a4 : (c.toNat : Int) % 16 < 16 := by omega
  have hb15 := and15 c
  have q1 : ∀ h, (⟨#[48, 49, 50, 51, 52, 53, 54, 55, 56, 57, 97, 98, 99, 100, 101, 102]⟩ : ByteArray)[((c.toNat : Int) / 16).toNat]'h = hx (c.toNat / 16) := fun h => digit_get _ h
  have q2 : ∀ h, (⟨#[48, 49, 50, 51, 52, 53, 54, 55, 56, 57, 97, 98, 99, 100, 101, 102]⟩ : ByteArray)[((c.toNat : Int) % 16).toNat]'h = hx (c.toNat % 16) := fun h => digit_get _ h
  go_enter Tryz.func57, Tryz.ntmps57
  go_wp2_with fail
  go_region_law (refine step_append_bytes rfl (.tmp 5) (.tmp 12) BytT.bytesT rfl base v l (by simp [Act.eval, Act.put]) ((show OwnB w.drew base 5 v l from hown).alloc _) ⟨w.heap.size, 0, none⟩ 2 2 [hx (c.toNat / 16), hx (c.toNat % 16)] (by simp [Act.eval, Act.put]) rfl (cell_two w.drew _ _ _ _ _ rfl rfl) hr (Nat.le_trans hb (by simp)) ?_; intro v' w1 hown1 hg1 hr1)
  all_goals
    go_wp2_with fail
    go_ret
    exact ⟨v', rfl, hown1, grown_drew (grown_alloc (w := w.drew) hg1), hr1⟩

set_option maxHeartbeats 1000000 in
set_option maxRecDepth 100000 in
theorem hex_any (s : ByteArray) (hs : s.size ≤ 140737488355328) (w : World) :
    Calls Tryz.prog 20 #[.string s] w fun e w' => e = .returned (.string ⟨(hexL s.data.toList).toArray⟩) ∧ Below w.heap.size w w' := by
  obtain ⟨l, hl⟩ : ∃ l, l = s.data.toList := ⟨_, rfl⟩
  rw [← hl]
  have Hl := Lib.hid hl
  have hsz : l.length = s.size := by rw [hl]; rfl
  have Hsz := Lib.hid hsz
  clear hl hsz
  obtain ⟨i, hi, hz, hi1, hi2⟩ := BytT.bytesT.hi
  have Hz := Lib.hid hz
  have Hi1 := Lib.hid hi1
  have Hi2 := Lib.hid hi2
  have Hi := Lib.hid hi
  clear hz hi1 hi2 hi
  go_enter Tryz.func20, Tryz.ntmps20
  go_wp2_with (at_make; refine wpList_make_own _ rfl _ _ 64 rfl w.heap.size 5 i (.int .u8 0) 1 BytT.bytesT.ht Hi.out Hz.out Hi1.out .i64 .i64 _ (2 * s.size) rfl rfl (by omega) (by rw [Hi2.out]; omega) (by unfold maxLen; omega) (Nat.le_refl _) ?_; intro w0 hown0 hgrow0)
  have hb0 : Below w.heap.size w w0 := (Below.refl _ _).grown hgrow0 (Nat.le_refl _) (fun k hk => by cases hk)
  go_loopw [3, 11] (fun v t wr => ∃ k : Nat, k ≤ s.size ∧ t = .int .i64 k ∧ OwnB wr w.heap.size 5 v (hexL (l.take k)) ∧ Room v (hexL (l.take k)).length (2 * (s.size - k)) ∧ Below w.heap.size w wr) (fun _ t _ => s.size - (intOf t).toNat)
  case atStart => exact ⟨0, by omega, rfl, hown0, .inr ⟨w.heap.size, 2 * s.size, rfl, by simp [hexL]⟩, hb0⟩
  case round =>
    obtain ⟨k, hk, rfl, hown, hroom, hbel⟩ := hrel
    clear hown0 hgrow0 hb0
    have hsw := hbel.size
    have Hown := Lib.hid hown
    have Hroom := Lib.hid hroom
    clear hown hroom
    by_cases hlt : k < s.size
    · have ht : hexL (l.take (k + 1)) = hexL (l.take k) ++ [hx ((s[k]).toNat / 16), hx ((s[k]).toNat % 16)] := by
        rw [List.take_succ_eq_append_getElem (by rw [Hsz.out]; exact hlt), hexL_snoc]
        have : l[k]'(by rw [Hsz.out]; exact hlt) = s[k] := by
          simp only [Hl.out]; rfl
        rw [this]
      have Ht := Lib.hid ht
      clear ht
      go_wp2_with fail
      refine (appendHex_any w.heap.size _ (hexL (l.take k)) s[k] _ Hown.out (Hroom.out.le (by omega)) hsw).mono ?_
      rintro _ w1 ⟨v1, rfl, hown1, hg1, hr1⟩
      have Hown1 := Lib.hid hown1
      have Hg1 := Lib.hid hg1
      have Hr1 := Lib.hid hr1
      clear hown1 hg1 hr1
      go_wp2_with fail
      refine ⟨⟨k + 1, by omega, by go_num, ?_, ?_, Hown.out.below hbel Hg1.out hsw⟩, by simp [intOf]; omega⟩
      · rw [Ht.out]; exact Hown1.out
      · rw [Ht.out]
        refine Hr1.out _ (Hroom.out.le ?_)
        simp only [List.length_cons, List.length_nil]
        omega
    · obtain rfl : k = s.size := by omega
      have hf : l.take s.size = l := by rw [← Hsz.out, List.take_length]
      have hcv := Hown.out.conv BytT.bytesT Tryz.underlying9
      rw [hf] at hcv
      go_wp2_with fail
      go_ret
      exact ⟨rfl, hbel⟩

theorem indexDigits (b : UInt8) (w : World) : Calls Tryz.prog 55 #[.string ⟨#[48, 49, 50, 51, 52, 53, 54, 55, 56, 57, 97, 98, 99, 100, 101, 102]⟩, .int .u8 b.toNat] w fun e w' => e = .returned (.int .i64 (dig b)) ∧ w = w' :=
  (indexByte ⟨#[48, 49, 50, 51, 52, 53, 54, 55, 56, 57, 97, 98, 99, 100, 101, 102]⟩ b _ rfl w).mono fun _ _ ⟨h1, h2⟩ => ⟨h1.trans (by rw [← index_digits]; rfl), h2⟩

theorem two_short {l : List UInt8} (h : l.length < 2) : two l = none := by
  match l, h with
  | [], _ => rfl
  | [_], _ => rfl
theorem two_long {l : List UInt8} {a b : UInt8} (h0 : l[0]? = some a) (h1 : l[1]? = some b) : two l = if dig a < 0 ∨ dig b < 0 then none else some (UInt8.ofNat ((dig a).toNat * 16 + (dig b).toNat)) := by
  match l, h0, h1 with
  | x :: y :: t, h0, h1 => simp at h0 h1; simp [two, h0, h1]
theorem or_low {a b : Int} (a0 : 0 ≤ a) (a1 : a < 16) (b0 : 0 ≤ b) (b1 : b < 16) : bits BinOp.or IntKind.i64 (a * 16) b % 256 = ((UInt8.ofNat (a.toNat * 16 + b.toNat)).toNat : Int) := by
  have : ∀ x y : Fin 16, bits BinOp.or IntKind.i64 ((x.val : Int) * 16) (y.val : Int) % 256 = ((UInt8.ofNat (x.val * 16 + y.val)).toNat : Int) := by decide +kernel
  have h := this ⟨a.toNat, by omega⟩ ⟨b.toNat, by omega⟩
  have e1 : ((a.toNat : Nat) : Int) = a := by omega
  have e2 : ((b.toNat : Nat) : Int) = b := by omega
  simp only [e1, e2] at h
  exact h
theorem get0 {s : ByteArray} (h : 0 < s.size) : s.data.toList[0]? = some s[0] := by rw [List.getElem?_eq_getElem h]; rfl
theorem get1 {s : ByteArray} (h : 1 < s.size) : s.data.toList[1]? = some s[1] := by rw [List.getElem?_eq_getElem h]; rfl
theorem ret_ub {a b : Int} {c d : Bool} (h : a = b) (k : c = d) : Ending.returned (.tuple #[.int .u8 a, .bool c]) = .returned (.tuple #[.int .u8 b, .bool d]) := by rw [h, k]

set_option maxHeartbeats 1000000 in
set_option maxRecDepth 100000 in
theorem two_yes (s : ByteArray) (c : UInt8) (hc : two s.data.toList = some c) (hs : s.size ≤ 4611686018427387904) (w : World) :
    Calls Tryz.prog 101 #[.string s] w fun e w' => e = .returned (.tuple #[.int .u8 c.toNat, .bool true]) ∧ w = w' := by
  by_cases hlt : s.size < 2
  · rw [two_short (show s.data.toList.length < 2 from hlt)] at hc; cases hc
  · have l0 : 0 < s.size := by omega
    have l1 : 1 < s.size := by omega
    rw [two_long (get0 l0) (get1 l1)] at hc
    by_cases hd : dig s[0] < 0 ∨ dig s[1] < 0
    · rw [if_pos hd] at hc; cases hc
    · rw [if_neg hd] at hc
      injection hc with hc
      have Hc := Lib.hid hc
      have r0 := dig_range s[0]
      have r1 := dig_range s[1]
      have d0 : 0 ≤ dig s[0] := by omega
      have d0' : dig s[0] < 16 := by omega
      have d1 : 0 ≤ dig s[1] := by omega
      have d1' : dig s[1] < 16 := by omega
      have l1' : (1 : Int) < s.size := by omega
      have hsi : (s.size : Int) ≤ 4611686018427387904 := by omega
      clear hc hd r0 r1
      go_enter Tryz.func101, Tryz.ntmps101
      go_wp2_with fail
      refine (indexDigits _ _).mono ?_
      rintro _ w1 ⟨rfl, rfl⟩
      go_wp2_with fail
      refine (indexDigits _ _).mono ?_
      rintro _ w1 ⟨rfl, rfl⟩
      go_wp2_with fail
      go_ret2
      exact ⟨ret_ub (by rw [or_low d0 d0' d1 d1', Hc.out]) rfl, rfl⟩
set_option maxHeartbeats 1000000 in
set_option maxRecDepth 100000 in
theorem two_no (s : ByteArray) (hc : two s.data.toList = none) (hs : s.size ≤ 4611686018427387904) (w : World) :
    Calls Tryz.prog 101 #[.string s] w fun e w' => e = .returned (.tuple #[.int .u8 0, .bool false]) ∧ w = w' := by
  have hsi : (s.size : Int) ≤ 4611686018427387904 := by omega
  by_cases hlt : s.size < 2
  · have hlt' : (s.size : Int) < 2 := by omega
    clear hc
    go_enter Tryz.func101, Tryz.ntmps101
    go_wp2_with fail
    go_ret2
    exact ⟨rfl, rfl⟩
  · have l0 : 0 < s.size := by omega
    have l1 : 1 < s.size := by omega
    rw [two_long (get0 l0) (get1 l1)] at hc
    have l1' : (1 : Int) < s.size := by omega
    by_cases hd : dig s[0] < 0
    · clear hc
      go_enter Tryz.func101, Tryz.ntmps101
      go_wp2_with fail
      refine (indexDigits _ _).mono ?_
      rintro _ w1 ⟨rfl, rfl⟩
      go_wp2_with fail
      refine (indexDigits _ _).mono ?_
      rintro _ w1 ⟨rfl, rfl⟩
      go_wp2_with fail
      go_ret2
      exact ⟨rfl, rfl⟩
    · by_cases hd1 : dig s[1] < 0
      · clear hc
        have hd' : 0 ≤ dig s[0] := by omega
        go_enter Tryz.func101, Tryz.ntmps101
        go_wp2_with fail
        refine (indexDigits _ _).mono ?_
        rintro _ w1 ⟨rfl, rfl⟩
        go_wp2_with fail
        refine (indexDigits _ _).mono ?_
        rintro _ w1 ⟨rfl, rfl⟩
        go_wp2_with fail
        go_ret2
        exact ⟨rfl, rfl⟩
      · rw [if_neg (by omega)] at hc; cases hc

/-- What Unhex returns. -/
def uhT (l : List UInt8) : List UInt8 := (unhexL l).getD []
def uhE (l : List UInt8) : Int := if (unhexL l).isSome then 0 else 2
def strSize (v : Value) : Nat := match v with
  | .string t => t.size
  | _ => 0
theorem ret_se {a b : ByteArray} {c d : Int} (h : a = b) (k : c = d) : Ending.returned (.tuple #[.string a, .int .i64 c]) = .returned (.tuple #[.string b, .int .i64 d]) := by rw [h, k]

set_option maxHeartbeats 1000000 in
set_option maxRecDepth 100000 in
theorem unhex_any (s : ByteArray) (hs : s.size ≤ 281474976710656) (w : World) :
    Calls Tryz.prog 66 #[.string s] w fun e w' => e = .returned (.tuple #[.string ⟨(uhT s.data.toList).toArray⟩, .int .i64 (uhE s.data.toList)]) ∧ Below w.heap.size w w' := by
  obtain ⟨l, hl⟩ : ∃ l, l = s.data.toList := ⟨_, rfl⟩
  rw [← hl]
  have hsz : l.length = s.size := by rw [hl]; rfl
  have Hl := Lib.hid hl
  have Hsz := Lib.hid hsz
  clear hl hsz
  obtain ⟨i, hi, hz, hi1, hi2⟩ := BytT.bytesT.hi
  have Hz := Lib.hid hz
  have Hi1 := Lib.hid hi1
  have Hi2 := Lib.hid hi2
  have Hi := Lib.hid hi
  clear hz hi1 hi2 hi
  have hq : (s.size : Int) / 2 = ((s.size / 2 : Nat) : Int) := by omega
  have Hq := Lib.hid hq
  clear hq
  go_enter Tryz.func66, Tryz.ntmps66
  go_wp2_with (at_make; refine wpList_make_own _ rfl _ _ 64 rfl w.heap.size 5 i (.int .u8 0) 1 BytT.bytesT.ht Hi.out Hz.out Hi1.out .i64 .i64 _ (s.size / 2) rfl rfl Hq.out (by rw [Hi2.out]; omega) (by unfold maxLen; omega) (Nat.le_refl _) ?_; intro w0 hown0 hgrow0)
  have hb0 : Below w.heap.size w w0 := (Below.refl _ _).grown hgrow0 (Nat.le_refl _) (fun k hk => by cases hk)
  have Hown0 := Lib.hid hown0
  clear hown0 hgrow0
  go_loopw [0, 4] (fun x v wr => ∃ (t : ByteArray) (acc : List UInt8), x = .string t ∧ t.size + 2 * acc.length ≤ s.size ∧ OwnB wr w.heap.size 5 v acc ∧ Below w.heap.size w wr ∧ Hid (unhexL l = (unhexL t.data.toList).map fun r => acc ++ r)) (fun x _ _ => strSize x)
  case atStart =>
    refine ⟨s, [], rfl, by simp, Hown0.out, hb0, Lib.hid ?_⟩
    rw [Hl.out]
    cases unhexL s.data.toList <;> simp
  case round =>
    obtain ⟨t, acc, rfl, hta, hown, hbel, Hu⟩ := hrel
    clear hb0
    have hsw := hbel.size
    have Hown := Lib.hid hown
    clear hown
    by_cases ht : t.size = 0
    · have he := empty_yes ht
      have hcv := Hown.out.conv BytT.bytesT Tryz.underlying9
      have htl : t.data.toList = [] := List.eq_nil_of_length_eq_zero ht
      have Htl := Lib.hid htl
      clear ht htl
      go_wp2_with fail
      go_ret2
      have hf : unhexL l = some acc := by rw [Hu.out, Htl.out]; simp [unhexL]
      refine ⟨ret_se ?_ ?_, hbel⟩
      · simp [uhT, hf]
      · simp [uhE, hf]
    · have he := empty_no ht
      have hne : t.data.toList ≠ [] := fun e => ht (by show t.data.toList.length = 0; rw [e]; rfl)
      have hu2 := unhex_two _ hne
      cases hx : two t.data.toList with
      | none =>
        rw [hx] at hu2
        have Hx := Lib.hid hx
        have Hu2 := Lib.hid hu2
        clear hx hu2 hne
        go_wp2_with fail
        refine (two_no t Hx.out (by omega) _).mono ?_
        rintro _ w1 ⟨rfl, rfl⟩
        go_wp2_with fail
        go_ret2
        have hf : unhexL l = none := by rw [Hu.out, Hu2.out]; rfl
        refine ⟨ret_se ?_ ?_, hbel⟩
        · simp [uhT, hf]
        · simp [uhE, hf]
      | some c =>
        rw [hx] at hu2
        have Hx := Lib.hid hx
        have Hu2 := Lib.hid hu2
        have ht2 : ¬ t.size < 2 := fun h => by rw [two_short (show t.data.toList.length < 2 from h)] at hx; cases hx
        have ht2' : (2 : Int) ≤ t.size := by omega
        clear hx hu2 hne ht
        go_wp2_with fail
        refine (two_yes t c Hx.out (by omega) _).mono ?_
        rintro _ w1 ⟨rfl, rfl⟩
        go_wp2_with (at_builtin; refine wpList_append_bytes rfl (.tmp 22) (.tmp 24) BytT.bytesT rfl w.heap.size _ acc rfl (Hown.out.alloc _) ⟨wr.heap.size, 0, none⟩ 1 1 [c] rfl rfl ?_ ?c1 ?c2 ?c3; intro v' w1 hown1 hg1 _; have Hown1 := Lib.hid hown1; have Hg1 := Lib.hid hg1; clear hown1 hg1)
        case c1 => exact cell_one _ _ _ _ rfl
        case c2 => exact .low (by omega)
        case c3 => exact size_alloc hsw
        refine ⟨⟨t.extract 2 t.size, acc ++ [c], rfl, ?_, Hown1.out, ?_, Lib.hid ?_⟩, ?_⟩
        · rw [ByteArray.size_extract, List.length_append, List.length_singleton]; omega
        · exact (Hown.out.alloc _).below (hbel.alloc hsw _) Hg1.out (size_alloc hsw)
        · rw [Hu.out, Hu2.out, drop_data]
          cases unhexL (t.data.toList.drop 2) <;> simp
        · show (t.extract 2 t.size).size < t.size
          rw [ByteArray.size_extract]; omega
end Go.Proofs.YtgjbpadhdnclnaaGreatDoor.UtfH
