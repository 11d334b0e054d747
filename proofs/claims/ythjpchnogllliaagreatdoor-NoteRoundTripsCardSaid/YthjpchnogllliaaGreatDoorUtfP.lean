import Derived.Test.YthjpchnogllliaaGreatDoorUtfS
import Derived.Test.YthjpchnogllliaaGreatDoorRoom
import Derived.BigGuardPart
import Derived.RegionTactic
import Derived.Deep.RegionLaw
import Derived.Test.YthjpchnogllliaaGreatDoorUtfA
/- Contracts of appendHex, Hex, twoDigits and Unhex of package utf. -/
set_option linter.unusedSimpArgs false
set_option linter.unusedVariables false
namespace Go.Proofs.YthjpchnogllliaaGreatDoor.UtfH
open Go.RowKit Nums Byt UtfM UtfS UtfQ Room

theorem and15 (c : UInt8) : bits BinOp.and IntKind.u8 (c.toNat : Int) 15 = (c.toNat : Int) % 16 := by
  have : ∀ k : Fin 256, bits BinOp.and IntKind.u8 (k.val : Int) 15 = (k.val : Int) % 16 := by decide +kernel
  exact this ⟨c.toNat, c.toNat_lt⟩
theorem digit_get (n : Nat) (h : n < ByteArray.size ⟨#[48, 49, 50, 51, 52, 53, 54, 55, 56, 57, 97, 98, 99, 100, 101, 102]⟩) : (⟨#[48, 49, 50, 51, 52, 53, 54, 55, 56, 57, 97, 98, 99, 100, 101, 102]⟩ : ByteArray)[n] = hx n := by
  have : ∀ k : Fin 16, (⟨#[48, 49, 50, 51, 52, 53, 54, 55, 56, 57, 97, 98, 99, 100, 101, 102]⟩ : ByteArray)[k.val]'(k.isLt) = hx k.val := by decide
  exact this ⟨n, h⟩
theorem grown_alloc {w w' : World} {o : Obj} {row : Option Nat} (h : (w.alloc o).grownBy w' row) : w.grownBy w' row := by
  refine ⟨h.os, h.tape, h.output, Nat.le_trans (by simp) h.size, fun k hk hr => ?_⟩
  rw [h.block k (by simp; omega) hr]
  exact heap_alloc_old w o hk
theorem grown_drew {w w' : World} {row : Option Nat} (h : w.drew.grownBy w' row) : w.grownBy w' row := ⟨h.os, h.tape, h.output, h.size, h.block⟩
/-- What a call leaves that appends to bytes of the call's own. -/
def Appended (base : Nat) (v : Value) (l bs : List UInt8) (w : World) (e : Ending) (w' : World) : Prop :=
  ∃ v', e = .returned v' ∧ OwnB w' base 5 v' (l ++ bs) ∧ w.grownBy w' v.ownBlock ∧ (∀ k, Room v l.length (bs.length + k) → Room v' (l ++ bs).length k)

set_option maxHeartbeats 1000000 in
set_option maxRecDepth 100000 in
theorem appendHex_any (base : Nat) (v : Value) (l : List UInt8) (c : UInt8) (w : World) (hown : OwnB w base 5 v l) (hr : Room v l.length 2) (hb : base ≤ w.heap.size) :
    Calls Tryz.prog 76 #[v, .int .u8 c.toNat] w (Appended base v l [hx (c.toNat / 16), hx (c.toNat % 16)] w) := by
  have c256 := c.toNat_lt
  have hc256 : (c.toNat : Int) < 256 := by omega
  have a1 : 0 ≤ (c.toNat : Int) / 16 := by omega
  have a2 : (c.toNat : Int) / 16 < 16 := by omega
  have a3 : 0 ≤ (c.toNat : Int) % 16 := by omega
  have a4 : (c.toNat : Int) % 16 < 16 := by omega
  have hb15 := and15 c
  have q1 : ∀ h, (⟨#[48, 49, 50, 51, 52, 53, 54, 55, 56, 57, 97, 98, 99, 100, 101, 102]⟩ : ByteArray)[((c.toNat : Int) / 16).toNat]'h = hx (c.toNat / 16) := fun h => digit_get _ h
  have q2 : ∀ h, (⟨#[48, 49, 50, 51, 52, 53, 54, 55, 56, 57, 97, 98, 99, 100, 101, 102]⟩ : ByteArray)[((c.toNat : Int) % 16).toNat]'h = hx (c.toNat % 16) := fun h => digit_get _ h
  go_enter Tryz.func76, Tryz.ntmps76
  go_wp2_with fail
  go_region_law (refine step_append_bytes rfl (.tmp 5) (.tmp 12) BytT.bytesT rfl base v l (by simp [Act.eval, Act.put]) ((show OwnB w.drew base 5 v l from hown).alloc _) ⟨w.heap.size, 0, none⟩ 2 2 [hx (c.toNat / 16), hx (c.toNat % 16)] (by simp [Act.eval, Act.put]) rfl (cell_two w.drew _ _ _ _ _ rfl rfl) hr (Nat.le_trans hb (by simp)) ?_; intro v' w1 hown1 hg1 hr1)
  all_goals
    go_wp2_with fail
    go_ret
    exact ⟨v', rfl, hown1, grown_drew (grown_alloc (w := w.drew) hg1), hr1⟩

set_option maxHeartbeats 1000000 in
set_option maxRecDepth 100000 in
theorem hex_any (s : ByteArray) (hs : s.size ≤ 140737488355328) (w : World) :
    Calls Tryz.prog 42 #[.string s] w fun e w' => e = .returned (.string ⟨(hexL s.data.toList).toArray⟩) ∧ Below w.heap.size w w' := by
  obtain ⟨l, hl⟩ : ∃ l, l = s.data.toList := ⟨_, rfl⟩
  rw [← hl]
  have Hl := Lib.hid hl
  have hsz : l.length = s.size := by rw [hl]; rfl
  have Hsz := Lib.hid hsz
  clear hl hsz
  obtain ⟨i, hi, hz, hi1, hi2⟩ := BytT.bytesT.hi
  have Hz := Lib.hid hz
  have Hi1 := Lib.hid hi1
  have Hi2 := Lib.hid hi2
  have Hi := Lib.hid hi
  clear hz hi1 hi2 hi
  go_enter Tryz.func42, Tryz.ntmps42
  go_wp2_with (at_make; refine wpList_make_own _ rfl _ _ 57 rfl w.heap.size 5 i (.int .u8 0) 1 BytT.bytesT.ht Hi.out Hz.out Hi1.out .i64 .i64 _ (2 * s.size) rfl rfl (by omega) (by rw [Hi2.out]; omega) (by unfold maxLen; omega) (Nat.le_refl _) ?_; intro w0 hown0 hgrow0)
  have hb0 : Below w.heap.size w w0 := (Below.refl _ _).grown hgrow0 (Nat.le_refl _) (fun k hk => by cases hk)
  go_loopw [3, 11] (fun v t wr => ∃ k : Nat, k ≤ s.size ∧ t = .int .i64 k ∧ OwnB wr w.heap.size 5 v (hexL (l.take k)) ∧ Room v (hexL (l.take k)).length (2 * (s.size - k)) ∧ Below w.heap.size w wr) (fun _ t _ => s.size - (intOf t).toNat)
  case atStart => exact ⟨0, by omega, rfl, hown0, .inr ⟨w.heap.size, 2 * s.size, rfl, by simp [hexL]⟩, hb0⟩
  case round =>
    obtain ⟨k, hk, rfl, hown, hroom, hbel⟩ := hrel
    clear hown0 hgrow0 hb0
    have hsw := hbel.size
    have Hown := Lib.hid hown
    have Hroom := Lib.hid hroom
    clear hown hroom
    by_cases hlt : k < s.size
    · have ht : hexL (l.take (k + 1)) = hexL (l.take k) ++ [hx ((s[k]).toNat / 16), hx ((s[k]).toNat % 16)] := by
        rw [List.take_succ_eq_append_getElem (by rw [Hsz.out]; exact hlt), hexL_snoc]
        have : l[k]'(by rw [Hsz.out]; exact hlt) = s[k] := by
          simp only [Hl.out]; rfl
        rw [this]
      have Ht := Lib.hid ht
      clear ht
      go_wp2_with fail
      refine (appendHex_any w.heap.size _ (hexL (l.take k)) s[k] _ Hown.out (Hroom.out.le (by omega)) hsw).mono ?_
      rintro _ w1 ⟨v1, rfl, hown1, hg1, hr1⟩
      have Hown1 := Lib.hid hown1
      have Hg1 := Lib.hid hg1
      have Hr1 := Lib.hid hr1
      clear hown1 hg1 hr1
      go_wp2_with fail
      refine ⟨⟨k + 1, by omega, by go_num, ?_, ?_, Hown.out.below hbel Hg1.out hsw⟩, by simp [intOf]; omega⟩
      · rw [Ht.out]; exact Hown1.out
      · rw [Ht.out]
        refine Hr1.out _ (Hroom.out.le ?_)
        simp only [List.length_cons, List.length_nil]
        omega
    · obtain rfl : k = s.size := by omega
      have hf : l.take s.size = l := by rw [← Hsz.out, List.take_length]
      have hcv := Hown.out.conv BytT.bytesT Tryz.underlying9
      rw [hf] at hcv
      go_wp2_with fail
      go_ret
      exact ⟨rfl, hbel⟩

theorem indexDigits (b : UInt8) (w : World) : Calls Tryz.prog 56 #[.string ⟨#[48, 49, 50, 51, 52, 53, 54, 55, 56, 57, 97, 98, 99, 100, 101, 102]⟩, .int .u8 b.toNat] w fun e w' => e = .returned (.int .i64 (dig b)) ∧ w = w' :=
  (indexByte ⟨#[48, 49, 50, 51, 52, 53, 54, 55, 56, 57, 97, 98, 99, 100, 101, 102]⟩ b _ rfl w).mono fun _ _ ⟨h1, h2⟩ => ⟨h1.trans (by rw [← index_digits]; rfl), h2⟩

theorem two_short {l : List UInt8} (h : l.length < 2) : two l = none := by
  match l, h with
  | [], _ => rfl
  | [_], _ => rfl
theorem two_long {l : List UInt8} {a b : UInt8} (h0 : l[0]? = some a) (h1 : l[1]? = some b) : two l = if dig a < 0 ∨ dig b < 0 then none else some (UInt8.ofNat ((dig a).toNat * 16 + (dig b).toNat)) := by
  match l, h0, h1 with
  | x :: y :: t, h0, h1 => simp at h0 h1; simp [two, h0, h1]
theorem or_low {a b : Int} (a0 : 0 ≤ a) (a1 : a < 16) (b0 : 0 ≤ b) (b1 : b < 16) : bits BinOp.or IntKind.i64 (a * 16) b % 256 = ((UInt8.ofNat (a.toNat * 16 + b.toNat)).toNat : Int) := by
  have : ∀ x y : Fin 16, bits BinOp.or IntKind.i64 ((x.val : Int) * 16) (y.val : Int) % 256 = ((UInt8.ofNat (x.val * 16 + y.val)).toNat : Int) := by decide +kernel
  have h := this ⟨a.toNat, by omega⟩ ⟨b.toNat, by omega⟩
  have e1 : ((a.toNat : Nat) : Int) = a := by omega
  have e2 : ((b.toNat : Nat) : Int) = b := by omega
  simp only [e1, e2] at h
  exact h
theorem get0 {s : ByteArray} (h : 0 < s.size) : s.data.toList[0]? = some s[0] := by rw [List.getElem?_eq_getElem h]; rfl
theorem get1 {s : ByteArray} (h : 1 < s.size) : s.data.toList[1]? = some s[1] := by rw [List.getElem?_eq_getElem h]; rfl
theorem ret_ub {a b : Int} {c d : Bool} (h : a = b) (k : c = d) : Ending.returned (.tuple #[.int .u8 a, .bool c]) = .returned (.tuple #[.int .u8 b, .bool d]) := by rw [h, k]

set_option maxHeartbeats 1000000 in
set_option maxRecDepth 100000 in
theorem two_yes (s : ByteArray) (c : UInt8) (hc : two s.data.toList = some c) (hs : s.size ≤ 4611686018427387904) (w : World) :
    Calls Tryz.prog 157 #[.string s] w fun e w' => e = .returned (.tuple #[.int .u8 c.toNat, .bool true]) ∧ w = w' := by
  by_cases hlt : s.size < 2
  · rw [two_short (show s.data.toList.length < 2 from hlt)] at hc; cases hc
  · have l0 : 0 < s.size := by omega
    have l1 : 1 < s.size := by omega
    rw [two_long (get0 l0) (get1 l1)] at hc
    by_cases hd : dig s[0] < 0 ∨ dig s[1] < 0
    · rw [if_pos hd] at hc; cases hc
    · rw [if_neg hd] at hc
      injection hc with hc
      have Hc := Lib.hid hc
      have r0 := dig_range s[0]
      have r1 := dig_range s[1]
      have d0 : 0 ≤ dig s[0] := by omega
      have d0' : dig s[0] < 16 := by omega
      have d1 : 0 ≤ dig s[1] := by omega
      have d1' : dig s[1] < 16 := by omega
      have l1' : (1 : Int) < s.size := by omega
      have hsi : (s.size : Int) ≤ 4611686018427387904 := by omega
      clear hc hd r0 r1
      go_enter Tryz.func157, Tryz.ntmps157
      go_wp2_with fail
      refine (indexDigits _ _).mono ?_
      rintro _ w1 ⟨rfl, rfl⟩
      go_wp2_with fail
      refine (indexDigits _ _).mono ?_
      rintro _ w1 ⟨rfl, rfl⟩
      go_wp2_with fail
      go_ret2
      exact ⟨ret_ub (by rw [or_low d0 d0' d1 d1', Hc.out]) rfl, rfl⟩
set_option maxHeartbeats 1000000 in
set_option maxRecDepth 100000 in
theorem two_no (s : ByteArray) (hc : two s.data.toList = none) (hs : s.size ≤ 4611686018427387904) (w : World) :
    Calls Tryz.prog 157 #[.string s] w fun e w' => e = .returned (.tuple #[.int .u8 0, .bool false]) ∧ w = w' := by
  have hsi : (s.size : Int) ≤ 4611686018427387904 := by omega
  by_cases hlt : s.size < 2
  · have hlt' : (s.size : Int) < 2 := by omega
    clear hc
    go_enter Tryz.func157, Tryz.ntmps157
    go_wp2_with fail
    go_ret2
    exact ⟨rfl, rfl⟩
  · have l0 : 0 < s.size := by omega
    have l1 : 1 < s.size := by omega
    rw [two_long (get0 l0) (get1 l1)] at hc
    have l1' : (1 : Int) < s.size := by omega
    by_cases hd : dig s[0] < 0
    · clear hc
      go_enter Tryz.func157, Tryz.ntmps157
      go_wp2_with fail
      refine (indexDigits _ _).mono ?_
      rintro _ w1 ⟨rfl, rfl⟩
      go_wp2_with fail
      refine (indexDigits _ _).mono ?_
      rintro _ w1 ⟨rfl, rfl⟩
      go_wp2_with fail
      go_ret2
      exact ⟨rfl, rfl⟩
    · by_cases hd1 : dig s[1] < 0
      · clear hc
        have hd' : 0 ≤ dig s[0] := by omega
        go_enter Tryz.func157, Tryz.ntmps157
        go_wp2_with fail
        refine (indexDigits _ _).mono ?_
        rintro _ w1 ⟨rfl, rfl⟩
        go_wp2_with fail
        refine (indexDigits _ _).mono ?_
        rintro _ w1 ⟨rfl, rfl⟩
        go_wp2_with fail
        go_ret2
        exact ⟨rfl, rfl⟩
      · rw [if_neg (by omega)] at hc; cases hc

/-- What Unhex returns. -/
def uhT (l : List UInt8) : List UInt8 := (unhexL l).getD []
def uhE (l : List UInt8) : Int := if (unhexL l).isSome then 0 else 2
def strSize (v : Value) : Nat := match v with
  | .string t => t.size
  | _ => 0
theorem ret_se {a b : ByteArray} {c d : Int} (h : a = b) (k : c = d) : Ending.returned (.tuple #[.string a, .int .i64 c]) = .returned (.tuple #[.string b, .int .i64 d]) := by rw [h, k]

set_option maxHeartbeats 1000000 in
set_option maxRecDepth 100000 in
theorem unhex_any (s : ByteArray) (hs : s.size ≤ 281474976710656) (w : World) :
    Calls Tryz.prog 143 #[.string s] w fun e w' => e = .returned (.tuple #[.string ⟨(uhT s.data.toList).toArray⟩, .int .i64 (uhE s.data.toList)]) ∧ Below w.heap.size w w' := by
  obtain ⟨l, hl⟩ : ∃ l, l = s.data.toList := ⟨_, rfl⟩
  rw [← hl]
  have hsz : l.length = s.size := by rw [hl]; rfl
  have Hl := Lib.hid hl
  have Hsz := Lib.hid hsz
  clear hl hsz
  obtain ⟨i, hi, hz, hi1, hi2⟩ := BytT.bytesT.hi
  have Hz := Lib.hid hz
  have Hi1 := Lib.hid hi1
  have Hi2 := Lib.hid hi2
  have Hi := Lib.hid hi
  clear hz hi1 hi2 hi
  have hq : (s.size : Int) / 2 = ((s.size / 2 : Nat) : Int) := by omega
  have Hq := Lib.hid hq
  clear hq
  go_enter Tryz.func143, Tryz.ntmps143
  go_wp2_with (at_make; refine wpList_make_own _ rfl _ _ 57 rfl w.heap.size 5 i (.int .u8 0) 1 BytT.bytesT.ht Hi.out Hz.out Hi1.out .i64 .i64 _ (s.size / 2) rfl rfl Hq.out (by rw [Hi2.out]; omega) (by unfold maxLen; omega) (Nat.le_refl _) ?_; intro w0 hown0 hgrow0)
  have hb0 : Below w.heap.size w w0 := (Below.refl _ _).grown hgrow0 (Nat.le_refl _) (fun k hk => by cases hk)
  have Hown0 := Lib.hid hown0
  clear hown0 hgrow0
  go_loopw [0, 4] (fun x v wr => ∃ (t : ByteArray) (acc : List UInt8), x = .string t ∧ t.size + 2 * acc.length ≤ s.size ∧ OwnB wr w.heap.size 5 v acc ∧ Below w.heap.size w wr ∧ Hid (unhexL l = (unhexL t.data.toList).map fun r => acc ++ r)) (fun x _ _ => strSize x)
  case atStart =>
    refine ⟨s, [], rfl, by simp, Hown0.out, hb0, Lib.hid ?_⟩
    rw [Hl.out]
    cases unhexL s.data.toList <;> simp
  case round =>
    obtain ⟨t, acc, rfl, hta, hown, hbel, Hu⟩ := hrel
    clear hb0
    have hsw := hbel.size
    have Hown := Lib.hid hown
    clear hown
    by_cases ht : t.size = 0
    · have he := empty_yes ht
      have hcv := Hown.out.conv BytT.bytesT Tryz.underlying9
      have htl : t.data.toList = [] := List.eq_nil_of_length_eq_zero ht
      have Htl := Lib.hid htl
      clear ht htl
      go_wp2_with fail
      go_ret2
      have hf : unhexL l = some acc := by rw [Hu.out, Htl.out]; simp [unhexL]
      refine ⟨ret_se ?_ ?_, hbel⟩
      · simp [uhT, hf]
      · simp [uhE, hf]
    · have he := empty_no ht
      have hne : t.data.toList ≠ [] := fun e => ht (by show t.data.toList.length = 0; rw [e]; rfl)
      have hu2 := unhex_two _ hne
      cases hx : two t.data.toList with
      | none =>
        rw [hx] at hu2
        have Hx := Lib.hid hx
        have Hu2 := Lib.hid hu2
        clear hx hu2 hne
        go_wp2_with fail
        refine (two_no t Hx.out (by omega) _).mono ?_
        rintro _ w1 ⟨rfl, rfl⟩
        go_wp2_with fail
        go_ret2
        have hf : unhexL l = none := by rw [Hu.out, Hu2.out]; rfl
        refine ⟨ret_se ?_ ?_, hbel⟩
        · simp [uhT, hf]
        · simp [uhE, hf]
      | some c =>
        rw [hx] at hu2
        have Hx := Lib.hid hx
        have Hu2 := Lib.hid hu2
        have ht2 : ¬ t.size < 2 := fun h => by rw [two_short (show t.data.toList.length < 2 from h)] at hx; cases hx
        have ht2' : (2 : Int) ≤ t.size := by omega
        clear hx hu2 hne ht
        go_wp2_with fail
        refine (two_yes t c Hx.out (by omega) _).mono ?_
        rintro _ w1 ⟨rfl, rfl⟩
        go_wp2_with (at_builtin; refine wpList_append_bytes rfl (.tmp 22) (.tmp 24) BytT.bytesT rfl w.heap.size _ acc rfl (Hown.out.alloc _) ⟨wr.heap.size, 0, none⟩ 1 1 [c] rfl rfl ?_ ?c1 ?c2 ?c3; intro v' w1 hown1 hg1 _; have Hown1 := Lib.hid hown1; have Hg1 := Lib.hid hg1; clear hown1 hg1)
        case c1 => exact cell_one _ _ _ _ rfl
        case c2 => exact .low (by omega)
        case c3 => exact size_alloc hsw
        refine ⟨⟨t.extract 2 t.size, acc ++ [c], rfl, ?_, Hown1.out, ?_, Lib.hid ?_⟩, ?_⟩
        · rw [ByteArray.size_extract, List.length_append, List.length_singleton]; omega
        · exact (Hown.out.alloc _).below (hbel.alloc hsw _) Hg1.out (size_alloc hsw)
        · rw [Hu.out, Hu2.out, drop_data]
          cases unhexL (t.data.toList.drop 2) <;> simp
        · show (t.extract 2 t.size).size < t.size
          rw [ByteArray.size_extract]; omega
end Go.Proofs.YthjpchnogllliaaGreatDoor.UtfH

/- The contract of Quote of package utf. -/
set_option linter.unusedSimpArgs false
set_option linter.unusedVariables false
namespace Go.Proofs.YthjpchnogllliaaGreatDoor.UtfP
open Go.RowKit Nums Byt UtfM UtfS UtfQ UtfD UtfA Room UtfH

/-- What is known in a round: the bytes so far, the string's iterator, and that nothing older has changed. -/
structure St (w0 : World) (s : ByteArray) (K : Nat) (w : World) (pos : Nat) (v : Value) (out : List UInt8) : Prop where
  own : OwnB w w0.heap.size 5 v out
  it : w.heap[K]? = some (.stringIter s pos)
  bel : Below w0.heap.size w0 w
theorem St.grow {w0 w w' : World} {s : ByteArray} {K pos : Nat} {v v' : Value} {out out' : List UInt8} (h : St w0 s K w pos v out) (hg : w.grownBy w' v.ownBlock) (ho : OwnB w' w0.heap.size 5 v' out') : St w0 s K w' pos v' out' :=
  ⟨ho, iter_grown h.own h.it hg, h.own.below h.bel hg h.bel.size⟩
theorem St.alloc {w0 w : World} {s : ByteArray} {K pos : Nat} {v : Value} {out : List UInt8} (h : St w0 s K w pos v out) (o : Obj) : St w0 s K (w.alloc o) pos v out :=
  ⟨h.own.alloc o, iter_alloc h.it o, h.bel.alloc h.bel.size o⟩
theorem St.drew {w0 w : World} {s : ByteArray} {K pos : Nat} {v : Value} {out : List UInt8} (h : St w0 s K w pos v out) : St w0 s K w.drew pos v out :=
  ⟨h.own, h.it, h.bel.drew⟩
theorem St.next {w0 w : World} {s : ByteArray} {K pos : Nat} {v : Value} {out : List UInt8} (h : St w0 s K w pos v out) (hK : w0.heap.size ≤ K) (p : Nat) : St w0 s K (w.iterAt K s p) p v out :=
  ⟨ownB_iter h.own h.it p, Lib.iterAt_heap w K s pos p h.it, Lib.below_iterAt h.bel hK s p⟩
theorem St.size {w0 w : World} {s : ByteArray} {K pos : Nat} {v : Value} {out : List UInt8} (h : St w0 s K w pos v out) : w0.heap.size ≤ w.heap.size := h.bel.size

theorem indexMarked (b : UInt8) (w : World) : Calls Tryz.prog 56 #[.string ⟨#[34, 92, 10, 9, 13]⟩, .int .u8 b.toNat] w fun e w' => e = .returned (.int .i64 (mkI b)) ∧ w = w' :=
  (indexByte ⟨#[34, 92, 10, 9, 13]⟩ b _ rfl w).mono fun _ _ ⟨h1, h2⟩ => ⟨h1.trans (by rw [← index_marked]), h2⟩

theorem mkI_cases (b : UInt8) (t : List UInt8) (ht : b.toNat < 128 → t = []) : (mkI b = -1 ∧ b ≠ 34 ∧ b ≠ 92 ∧ b ≠ 10 ∧ b ≠ 9 ∧ b ≠ 13) ∨ ∃ (k : Nat) (c : UInt8), mkI b = k ∧ k < 5 ∧ form (b :: t) = [92, c] ∧ (∀ h, (⟨#[34, 92, 110, 116, 114]⟩ : ByteArray)[k]'h = c) ∧ b.toNat < 128 := by
  by_cases h1 : b = 34
  · subst h1; obtain rfl := ht (by decide); exact .inr ⟨0, 34, rfl, by omega, rfl, fun _ => rfl, by decide⟩
  by_cases h2 : b = 92
  · subst h2; obtain rfl := ht (by decide); exact .inr ⟨1, 92, rfl, by omega, rfl, fun _ => rfl, by decide⟩
  by_cases h3 : b = 10
  · subst h3; obtain rfl := ht (by decide); exact .inr ⟨2, 110, rfl, by omega, rfl, fun _ => rfl, by decide⟩
  by_cases h4 : b = 9
  · subst h4; obtain rfl := ht (by decide); exact .inr ⟨3, 116, rfl, by omega, rfl, fun _ => rfl, by decide⟩
  by_cases h5 : b = 13
  · subst h5; obtain rfl := ht (by decide); exact .inr ⟨4, 114, rfl, by omega, rfl, fun _ => rfl, by decide⟩
  exact .inl ⟨by simp [mkI, h1, h2, h3, h4, h5], h1, h2, h3, h4, h5⟩

/-- The part at an index, its form, and the rune that the model reads there. -/
theorem part_at (s : ByteArray) (pos : Nat) (hp : pos < s.size) : ∃ (n : Nat) (r : Nat) (t : List UInt8),
    Utf8.decode s pos = (r, n) ∧ 1 ≤ n ∧ n ≤ 4 ∧ pos + n ≤ s.size ∧ body (s.data.toList.drop pos) = form (s[pos] :: t) ++ body (s.data.toList.drop (pos + n)) ∧ r ≤ 2147483647 ∧ (s[pos] :: t).length = n ∧ (s[pos].toNat < 128 → t = []) ∧
    (decide (sz (s.data.toList.drop pos) = 0) = decide (sz (s[pos] :: t) = 0)) ∧
    (sz (s[pos] :: t) ≠ 0 → Lib.encodeRune r = s[pos] :: t) ∧ (s[pos].toNat < 128 → r = s[pos].toNat) ∧ (128 ≤ s[pos].toNat → 128 ≤ r) := by
  have hl : pos < s.data.toList.length := hp
  have hne := drop_ne hl
  have hst := decode_step hp
  have h1 := step_pos (s.data.toList.drop pos)
  have h4 := step_le4 (s.data.toList.drop pos)
  have hle := step_le hne
  rw [List.length_drop] at hle
  have hb := body_next hl
  have hsp := sz_part hne
  have hd : s.data.toList.drop pos = s[pos] :: s.data.toList.drop (pos + 1) := by rw [List.drop_eq_getElem_cons hl]; rfl
  obtain ⟨t, ht⟩ : ∃ t, (s.data.toList.drop pos).take (stp (s.data.toList.drop pos)) = s[pos] :: t := by
    obtain ⟨m, hm⟩ : ∃ m, stp (s.data.toList.drop pos) = m + 1 := ⟨stp (s.data.toList.drop pos) - 1, by omega⟩
    rw [hm, hd]
    exact ⟨_, rfl⟩
  have hlen := congrArg List.length ht
  rw [List.length_take, List.length_drop] at hlen
  have hlow : s[pos].toNat < 128 → stp (s.data.toList.drop pos) = 1 := by
    intro h
    have : sz (s.data.toList.drop pos) = 1 := szF_mk1 (a := s[pos]) (by rw [hd]; rfl) h
    unfold stp; rw [this]; rfl
  rw [ht] at hb hsp
  refine ⟨stp (s.data.toList.drop pos), (Utf8.decode s pos).1, t, by rw [← hst], h1, h4, ?_, hb, decode_le s pos, ?_, ?_, ?_, ?_, ?_, ?_⟩
  · have : s.data.toList.length = s.size := rfl
    omega
  · have : s.data.toList.length = s.size := rfl
    omega
  · intro h
    have := hlow h
    have : t.length = 0 := by simp only [List.length_cons] at hlen; omega
    exact List.eq_nil_of_length_eq_zero this
  · rw [hsp]
  · intro hz
    rw [hsp] at hz
    have h := (decode_well hz).2
    have e : stp (s.data.toList.drop pos) = sz (s.data.toList.drop pos) := by unfold stp; rw [if_neg hz]
    rw [h, ← e, ht]
  · intro h
    rw [decode_ascii s pos hp h]
  · intro h
    exact (decode_high s pos hp h).1
theorem form_hex {b : UInt8} {t : List UInt8} (h1 : b ≠ 34) (h2 : b ≠ 92) (h3 : b ≠ 10) (h4 : b ≠ 9) (h5 : b ≠ 13) (h6 : b.toNat < 32 ∨ b.toNat = 127 ∨ sz (b :: t) = 0) : form (b :: t) = [92, 120] ++ [hx (b.toNat / 16), hx (b.toNat % 16)] := by
  unfold form
  simp only [if_neg h1, if_neg h2, if_neg h3, if_neg h4, if_neg h5, if_pos h6]
  rfl
theorem form_self {b : UInt8} {t : List UInt8} (h1 : b ≠ 34) (h2 : b ≠ 92) (h3 : b ≠ 10) (h4 : b ≠ 9) (h5 : b ≠ 13) (h6 : ¬ (b.toNat < 32 ∨ b.toNat = 127 ∨ sz (b :: t) = 0)) : form (b :: t) = b :: t := by
  unfold form
  simp only [if_neg h1, if_neg h2, if_neg h3, if_neg h4, if_neg h5, if_neg h6]

theorem form_le4 {p : List UInt8} (h : p.length ≤ 4) : (form p).length ≤ 4 := by
  unfold form
  repeat' split
  all_goals simp_all
theorem iterPos_at {w : World} {k : Nat} {s : ByteArray} {p : Nat} (h : w.heap[k]? = some (.stringIter s p)) : w.iterPos k = p := by simp [World.iterPos, h]

set_option maxHeartbeats 2000000 in
set_option maxRecDepth 100000 in
theorem quote_any (s : ByteArray) (hs : s.size ≤ 35184372088000) (w : World) :
    Calls Tryz.prog 41 #[.string s] w fun e w' => e = .returned (.string ⟨(quote s.data.toList).toArray⟩) ∧ Below w.heap.size w w' := by
  obtain ⟨l, hl⟩ : ∃ l, l = s.data.toList := ⟨_, rfl⟩
  rw [← hl]
  have hsz : l.length = s.size := by rw [hl]; rfl
  have Hl := Lib.hid hl
  have Hsz := Lib.hid hsz
  clear hl hsz
  obtain ⟨i, hi, hz, hi1, hi2⟩ := BytT.bytesT.hi
  have Hz := Lib.hid hz
  have Hi1 := Lib.hid hi1
  have Hi2 := Lib.hid hi2
  have Hi := Lib.hid hi
  clear hz hi1 hi2 hi
  go_enter Tryz.func41, Tryz.ntmps41
  go_wp2_with (first
    | (at_make; refine wpList_make_own _ rfl _ _ 57 rfl w.heap.size 5 i (.int .u8 0) 1 BytT.bytesT.ht Hi.out Hz.out Hi1.out .i64 .i64 _ (s.size + 2) rfl rfl (by omega) (by rw [Hi2.out]; omega) (by unfold maxLen; omega) (Nat.le_refl _) ?_; intro w0 hown0 hgrow0; have hb0 : Below w.heap.size w w0 := (Below.refl _ _).grown hgrow0 (Nat.le_refl _) (fun k hk => by cases hk); have Hown0 := Lib.hid hown0; have hs0 := hb0.size; clear hown0 hgrow0)
    | (at_builtin; refine wpList_append_bytes rfl (.tmp 11) (.tmp 12) BytT.bytesT rfl w.heap.size (.slice (some ⟨w.heap.size, 0, none⟩) 0 (s.size + 2)) [] rfl (show OwnB _ w.heap.size 5 _ [] from World.ownsRow.alloc Hown0.out _) ⟨w0.heap.size, 0, none⟩ 1 1 [34] rfl rfl ?_ ?c1 ?c2 ?c3; intro v1 w1 hown1 hg1 _; have Hown1 := Lib.hid hown1; have Hg1 := Lib.hid hg1; clear hown1 hg1))
  case c1 => exact cell_one _ _ _ _ rfl
  case c2 => exact .low (by simp)
  case c3 => exact size_alloc hs0
  have hb1 : Below w.heap.size w w1 := (show OwnB _ w.heap.size 5 _ [] from World.ownsRow.alloc Hown0.out _).below (hb0.alloc hs0 _) Hg1.out (size_alloc hs0)
  have hs1 := hb1.size
  obtain ⟨K, hK⟩ : ∃ K, K = w1.heap.size := ⟨_, rfl⟩
  have st0 : St w s K (w1.iter s 0) 0 v1 [34] := ⟨Hown1.out.alloc _, by rw [hK]; exact World.iter_heap w1 s 0, hb1.alloc hs1 _⟩
  have hKw : w.heap.size ≤ K := by omega
  have St0 := Lib.hid st0
  clear st0 hb1 hb0 hs0 Hown0 Hown1 Hg1
  rw [← hK]
  clear hs1 hK
  go_loopw [3] (fun v wr => ∃ (pos : Nat) (out : List UInt8), pos ≤ s.size ∧ Hid (St w s K wr pos v out) ∧ out.length ≤ 1 + 4 * pos ∧ Hid (34 :: body l = out ++ body (l.drop pos))) (fun _ wr => s.size - wr.iterPos K)
  case atStart => exact ⟨0, [34], by omega, St0, by simp, Lib.hid (by simp)⟩
  case round =>
    obtain ⟨pos, out, hpos, Hst, hlen, Hb⟩ := hrel
    clear St0
    by_cases hp : pos < s.size
    · obtain ⟨n, r, t, hd, hn1, hn4, hpn, hbody, hr, htn, htl, hz, henc, hlow, hhigh⟩ := part_at s pos hp
      rw [← Hl.out] at hbody hz
      have hnx : ∀ ty, (Instr.next (.pointer (some ⟨K, 0, none⟩)) true ty).run Tryz.prog wr = .ok (.tuple #[.bool true, .int .i64 pos, .int .i32 (r : Int)]) (wr.iterAt K s (pos + n)) := fun ty => by
        rw [Lib.run_next_any_at wr K s pos ty Hst.out.it hp, hd]
      have Hd : Hid ((r : Int) = ((Utf8.decode s pos).1 : Int)) := Lib.hid (by rw [hd])
      have Hnew := Lib.hid (Hst.out.next hKw (pos + n))
      have hsw := Hnew.out.size
      have Hbody := Lib.hid hbody
      have Hm : Hid (s.size - (pos + n) < s.size - wr.iterPos K) := Lib.hid (by rw [iterPos_at Hst.out.it]; omega)
      have hfl : (form (s[pos] :: t)).length ≤ 4 := form_le4 (by rw [htn]; exact hn4)
      have Hfl := Lib.hid hfl
      have Hz := Lib.hid hz
      clear hd hbody hz hfl
      have hri : (r : Int) ≤ 2147483647 := by omega
      have hend : ∀ (w2 : World) (v2 : Value), St w s K w2 (pos + n) v2 (out ++ form (s[pos] :: t)) → (∃ (pos : Nat) (out : List UInt8), pos ≤ s.size ∧ Hid (St w s K w2 pos v2 out) ∧ out.length ≤ 1 + 4 * pos ∧ Hid (34 :: body l = out ++ body (l.drop pos))) ∧ s.size - w2.iterPos K < s.size - wr.iterPos K := by
        intro w2 v2 h2
        refine ⟨⟨pos + n, _, hpn, Lib.hid h2, ?_, Lib.hid ?_⟩, ?_⟩
        · rw [List.length_append]; have := Hfl.out; omega
        · rw [Hb.out, Hbody.out, List.append_assoc]
        · rw [iterPos_at h2.it]; exact Hm.out
      have Hend := Lib.hid hend
      clear hend
      rcases mkI_cases s[pos] t htl with ⟨hmk, h1, h2, h3, h4, h5⟩ | ⟨k, c, hmk, hk5, hform, hq, hb128⟩
      · have Hmk := Lib.hid hmk
        clear hmk
        by_cases hx : s[pos].toNat < 32 ∨ s[pos].toNat = 127 ∨ sz (s[pos] :: t) = 0
        · have Hform := Lib.hid (form_hex h1 h2 h3 h4 h5 hx)
          by_cases hA : s[pos].toNat < 32
          · have d1 : decide ((r : Int) < 32) = true := by simp; rw [hlow (by omega)]; omega
            clear hx henc hlow hhigh htl htn h1 h2 h3 h4 h5
            go_wp2_with fail
            refine (indexMarked _ _).mono ?_
            rintro _ w2 ⟨rfl, rfl⟩
            rw [Hmk.out]
            go_wp2_with fail
            go_region_law (first
              | (refine step_append_bytes rfl (.tmp 48) (.tmp 49) BytT.bytesT rfl w.heap.size _ out (by simp [Act.eval, Act.put]) ((show OwnB (wr.iterAt K s (pos + n)).drew w.heap.size 5 _ out from Hnew.out.own).alloc _) ⟨(wr.iterAt K s (pos + n)).heap.size, 0, none⟩ 2 2 [92, 120] (by simp [Act.eval, Act.put]) rfl (cell_two _ _ _ _ _ _ rfl rfl) (.low (by omega)) (size_alloc hsw) ?_; intro v2 w2 hown2 hg2 _; have St2 := Lib.hid ((Hnew.out.alloc _).drew.grow hg2 hown2); clear hown2 hg2)
              | (go_simp; go_at_call 76; refine (appendHex_any w.heap.size _ (out ++ [92, 120]) s[pos] _ St2.out.own (.low (by simp; omega)) St2.out.size).mono ?_; rintro _ w3 ⟨v3, rfl, hown3, hg3, _⟩; have St3 := Lib.hid (St2.out.grow hg3 hown3); clear hown3 hg3))
            all_goals
              go_wp2_with fail
              have St4 := Hend.out _ _ (by rw [Hform.out, ← List.append_assoc]; exact St3.out)
              refine ⟨?_, St4.2⟩
              (repeat apply Exists.intro)
              exact ⟨St4.1, rfl⟩
          · by_cases hB : s[pos].toNat = 127
            · have d1 : decide ((r : Int) < 32) = false := by simp; rw [hlow (by omega)]; omega
              have d2 : ((r : Int) == 127) = true := by rw [beq_iff_eq, hlow (by omega)]; omega
              have HB := Lib.hid hB
              clear hx henc hlow hhigh htl htn h1 h2 h3 h4 h5 hB
              go_wp2_with fail
              refine (indexMarked _ _).mono ?_
              rintro _ w2 ⟨rfl, rfl⟩
              rw [Hmk.out]
              go_wp2_with fail
              go_region_law (first
                | (refine step_append_bytes rfl (.tmp 48) (.tmp 49) BytT.bytesT rfl w.heap.size _ out (by simp [Act.eval, Act.put]) ((show OwnB (wr.iterAt K s (pos + n)).drew w.heap.size 5 _ out from Hnew.out.own).alloc _) ⟨(wr.iterAt K s (pos + n)).heap.size, 0, none⟩ 2 2 [92, 120] (by simp [Act.eval, Act.put]) rfl (cell_two _ _ _ _ _ _ rfl rfl) (.low (by omega)) (size_alloc hsw) ?_; intro v2 w2 hown2 hg2 _; have St2 := Lib.hid ((Hnew.out.alloc _).drew.grow hg2 hown2); clear hown2 hg2)
                | (go_simp; go_at_call 76; refine (appendHex_any w.heap.size _ (out ++ [92, 120]) s[pos] _ St2.out.own (.low (by simp; omega)) St2.out.size).mono ?_; rintro _ w3 ⟨v3, rfl, hown3, hg3, _⟩; have St3 := Lib.hid (St2.out.grow hg3 hown3); clear hown3 hg3))
              all_goals
                go_wp2_with fail
                have St4 := Hend.out _ _ (by rw [Hform.out, ← List.append_assoc]; exact St3.out)
                refine ⟨?_, St4.2⟩
                (repeat apply Exists.intro)
                exact ⟨St4.1, rfl⟩
            · have hzz : sz (s[pos] :: t) = 0 := by omega
              have hge : 128 ≤ s[pos].toNat := Nat.le_of_not_lt fun h => by
                have := szF_mk1 (f := fun k => (s[pos] :: t)[k]?) (a := s[pos]) (by simp) h
                unfold sz at hzz
                omega
              have hr128 := hhigh hge
              have d1 : decide ((r : Int) < 32) = false := by simp; omega
              have d2 : ((r : Int) == 127) = false := by rw [beq_eq_false_iff_ne]; omega
              have Hzz : Hid (decide (sz (l.drop pos) = 0) = true) := Lib.hid (by rw [Hz.out]; simp [hzz])
              clear hx henc hlow hhigh htl htn h1 h2 h3 h4 h5 hB hzz
              go_wp2_with fail
              refine (indexMarked _ _).mono ?_
              rintro _ w2 ⟨rfl, rfl⟩
              rw [Hmk.out]
              go_wp2_with fail
              refine (wrong_any s pos _ Hd.out hp (by omega) _).mono ?_
              rintro _ w3 ⟨rfl, rfl⟩
              rw [← Hl.out, Hzz.out]
              go_wp2_with fail
              go_region_law (first
                | (refine step_append_bytes rfl (.tmp 48) (.tmp 49) BytT.bytesT rfl w.heap.size _ out (by simp [Act.eval, Act.put]) ((show OwnB (wr.iterAt K s (pos + n)).drew w.heap.size 5 _ out from Hnew.out.own).alloc _) ⟨(wr.iterAt K s (pos + n)).heap.size, 0, none⟩ 2 2 [92, 120] (by simp [Act.eval, Act.put]) rfl (cell_two _ _ _ _ _ _ rfl rfl) (.low (by omega)) (size_alloc hsw) ?_; intro v2 w2 hown2 hg2 _; have St2 := Lib.hid ((Hnew.out.alloc _).drew.grow hg2 hown2); clear hown2 hg2)
                | (go_simp; go_at_call 76; refine (appendHex_any w.heap.size _ (out ++ [92, 120]) s[pos] _ St2.out.own (.low (by simp; omega)) St2.out.size).mono ?_; rintro _ w3 ⟨v3, rfl, hown3, hg3, _⟩; have St3 := Lib.hid (St2.out.grow hg3 hown3); clear hown3 hg3))
              all_goals
                go_wp2_with fail
                have St4 := Hend.out _ _ (by rw [Hform.out, ← List.append_assoc]; exact St3.out)
                refine ⟨?_, St4.2⟩
                (repeat apply Exists.intro)
                exact ⟨St4.1, rfl⟩
        · have Hform := Lib.hid (form_self h1 h2 h3 h4 h5 hx)
          have hr32 : 32 ≤ r ∧ r ≠ 127 := by
            by_cases hb : s[pos].toNat < 128
            · rw [hlow hb]; omega
            · have := hhigh (by omega); omega
          obtain ⟨hr32, hr127⟩ := hr32
          have d1 : decide ((r : Int) < 32) = false := by simp; omega
          have d2 : ((r : Int) == 127) = false := by rw [beq_eq_false_iff_ne]; omega
          have hzz : sz (s[pos] :: t) ≠ 0 := by omega
          have Hzz : Hid (decide (sz (l.drop pos) = 0) = false) := Lib.hid (by rw [Hz.out]; simp [hzz])
          have Henc := Lib.hid (henc hzz)
          have hr0 : (0 : Int) ≤ r := by omega
          clear hx henc hlow hhigh htl htn h1 h2 h3 h4 h5 hzz hr127
          go_wp2_with fail
          refine (indexMarked _ _).mono ?_
          rintro _ w2 ⟨rfl, rfl⟩
          rw [Hmk.out]
          go_wp2_with fail
          refine (wrong_any s pos _ Hd.out hp (by omega) _).mono ?_
          rintro _ w3 ⟨rfl, rfl⟩
          rw [← Hl.out, Hzz.out]
          go_wp2_with fail
          refine (appendRune w.heap.size _ out r hr0 hri _ Hnew.out.own (by omega) hsw).mono ?_
          rintro _ w2 ⟨v2, rfl, hown2, o, hg2⟩
          have St2 := Lib.hid ((Hnew.out.alloc o).grow hg2 hown2)
          clear hown2 hg2
          go_wp2_with fail
          refine Hend.out _ _ ?_
          rw [Hform.out, ← Henc.out]
          exact St2.out
      · have Hmk := Lib.hid hmk
        have Hform := Lib.hid hform
        have hk0 : (0 : Int) ≤ k := by omega
        have hk5' : (k : Int) < 5 := by omega
        clear hmk hform henc hlow hhigh htl htn
        go_wp2_with fail
        refine (indexMarked _ _).mono ?_
        rintro _ w2 ⟨rfl, rfl⟩
        rw [Hmk.out]
        go_wp2_with (at_builtin; refine wpList_append_bytes rfl (.tmp 30) (.tmp 33) BytT.bytesT rfl w.heap.size _ out rfl (Hnew.out.own.alloc _) ⟨(wr.iterAt K s (pos + n)).heap.size, 0, none⟩ 2 2 [92, c] rfl rfl ?_ ?c1 ?c2 ?c3; intro v2 w2 hown2 hg2 _; have Hown2 := Lib.hid hown2; have Hg2 := Lib.hid hg2; clear hown2 hg2)
        case c1 => exact cell_two _ _ _ _ _ _ rfl rfl
        case c2 => exact .low (by omega)
        case c3 => exact size_alloc hsw
        refine Hend.out _ _ ?_
        rw [Hform.out]
        exact (Hnew.out.alloc _).grow Hg2.out Hown2.out
    · have hnx : ∀ ty, (Instr.next (.pointer (some ⟨K, 0, none⟩)) true ty).run Tryz.prog wr = .ok (.tuple #[.bool false]) wr := fun ty => Lib.run_next_end_at wr K s pos ty Hst.out.it hp
      have hsw := Hst.out.size
      go_wp2_with (at_builtin; go_loud (refine wpList_append_bytes rfl (.tmp 55) (.tmp 56) BytT.bytesT rfl w.heap.size _ out rfl (Hst.out.own.alloc _) ⟨wr.heap.size, 0, none⟩ 1 1 [34] rfl rfl ?_ ?c1 ?c2 ?c3; intro v2 w2 hown2 hg2 _; have Hown2 := Lib.hid hown2; have Hg2 := Lib.hid hg2; clear hown2 hg2; have hcv := Hown2.out.conv BytT.bytesT Tryz.underlying9))
      case c1 => exact cell_one _ _ _ _ rfl
      case c2 => exact .low (by omega)
      case c3 => exact size_alloc hsw
      go_ret
      have hfin := Hb.out
      rw [body_end (by rw [Hsz.out]; omega), List.append_nil] at hfin
      refine ⟨BytT.ret_str ?_, ((Hst.out.alloc _).grow Hg2.out Hown2.out).bel⟩
      rw [← hfin]; rfl
end Go.Proofs.YthjpchnogllliaaGreatDoor.UtfP
