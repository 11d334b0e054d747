import Derived.Test.YthjpchnogllliaaGreatDoorScaC
import Derived.Test.YthjpchnogllliaaGreatDoorUtfL
import Derived.Test.YthjpchnogllliaaGreatDoorRoom
import Derived.Laws.AppendOwnNone
/- Contracts of decimal and rank of the reference of package scalar. -/
set_option linter.unusedSimpArgs false
set_option linter.unusedVariables false
namespace Go.Proofs.YthjpchnogllliaaGreatDoor.ScaD
open Go.RowKit Nums Byt UtfM UtfS ScaM ScaV ScaA ScaB

theorem conv_int (W : World) (x : Int) (c : UInt8) (h : x = (c.toNat : Int)) : (convert 57 9 (.slice (some ⟨W.heap.size, 0, none⟩) 1 1)).run Tryz.prog (W.alloc (.cells #[.int .u8 x] 5)) = .ok (.string ⟨#[c]⟩) (W.alloc (.cells #[.int .u8 x] 5)) := by
  subst h
  exact UtfK.conv_new W c
theorem dig_nat (k : Nat) : (48 : Int) + (k : Int) % 10 = ((UInt8.ofNat (48 + k % 10)).toNat : Int) := by
  rw [UInt8.toNat_ofNat']; omega
theorem dec_len20 {u : Nat} (hu : u ≤ 18446744073709551615) : (dec u).length ≤ 20 := dec_len 19 u (by omega)
/-- The digits before the last one. -/
def decI (k : Nat) : List UInt8 := if k < 10 then [] else dec (k / 10)
theorem dec_split (k : Nat) : dec k = decI k ++ [UInt8.ofNat (48 + k % 10)] := by
  unfold decI
  by_cases h : k < 10
  · rw [if_pos h, dec_small h, Nat.mod_eq_of_lt h]; rfl
  · rw [if_neg h, dec_large h]

set_option maxHeartbeats 1000000 in
set_option maxRecDepth 100000 in
theorem decimal_any (u : Nat) (hu : u ≤ 18446744073709551615) (w : World) :
    Calls Tryz.prog 46 #[.int .u64 u] w fun e w' => e = .returned (.string ⟨(dec u).toArray⟩) ∧ Below w.heap.size w w' := by
  have hlen := dec_len20 hu
  have Hlen := Lib.hid hlen
  obtain ⟨c0, hc0⟩ : ∃ c, c = UInt8.ofNat (48 + u % 10) := ⟨_, rfl⟩
  have hx0 : (48 : Int) + (u : Int) % 10 = (c0.toNat : Int) := by rw [hc0]; exact dig_nat u
  have hs0 : dec u = decI u ++ [c0] := by rw [hc0]; exact dec_split u
  have Hs0 := Lib.hid hs0
  have hcv0 := fun W => conv_int W _ c0 hx0
  clear hc0 hs0 hlen
  have Hx0 := Lib.hid hx0
  clear hx0
  go_enter Tryz.func46, Tryz.ntmps46
  go_wp2_with fail
  go_loopw [0, 3] (fun x v wr => ∃ (k : Nat) (T : ByteArray), k ≤ 18446744073709551615 ∧ x = .int .u64 k ∧ v = .string T ∧ Below w.heap.size w wr ∧ Hid (dec u = decI k ++ T.data.toList)) (fun x _ _ => (intOf x).toNat)
  case atStart => exact ⟨u, ⟨#[c0]⟩, hu, rfl, rfl, below_box _ _, Hs0⟩
  case round =>
    obtain ⟨k, T, hk, rfl, rfl, hbel, Hd⟩ := hrel
    have hT : T.size + 1 ≤ 9223372036854775807 := by
      have h1 := congrArg List.length Hd.out
      have h2 := Hlen.out
      rw [List.length_append] at h1
      have h3 : T.data.toList.length = T.size := rfl
      omega
    clear hcv0
    by_cases hlt : 10 ≤ k
    · have d1 : decide ((10 : Int) ≤ k) = true := by simp; omega
      obtain ⟨c, hc⟩ : ∃ c, c = UInt8.ofNat (48 + k / 10 % 10) := ⟨_, rfl⟩
      have hx : (48 : Int) + (k : Int) / 10 % 10 = (c.toNat : Int) := by
        rw [hc]
        have := dig_nat (k / 10)
        rw [← this]
        simp
      have hn : dec u = decI (k / 10) ++ (c :: T.data.toList) := by
        rw [Hd.out, hc]
        have h1 : decI k = dec (k / 10) := by unfold decI; rw [if_neg (by omega)]
        rw [h1, dec_split (k / 10), List.append_assoc]
        rfl
      have Hn := Lib.hid hn
      have hcv := fun W => conv_int W _ c hx
      have Hx := Lib.hid hx
      have hT2 : (⟨#[c]⟩ : ByteArray).size + T.size ≤ 9223372036854775807 := by show 1 + T.size ≤ _; omega
      clear hc hn hx
      go_wp2_with fail
      refine ⟨⟨k / 10, _, by omega, by go_num, rfl, hbel.alloc hbel.size _, Lib.hid ?_⟩, by simp [intOf]; omega⟩
      rw [Hn.out, append_toList]
      rfl
    · have d1 : decide ((10 : Int) ≤ k) = false := by simp; omega
      go_wp2_with fail
      go_ret
      refine ⟨BytT.ret_str ?_, hbel⟩
      have h1 := Hd.out
      unfold decI at h1
      rw [if_pos (by omega), List.nil_append] at h1
      rw [← mk_toList T, h1]

theorem u64_mod (x : Int) : IntKind.u64.wrap x = x % 18446744073709551616 := by
  rw [IntKind.wrap_u64]
theorem wrap_up (b : Nat) : IntKind.u64.wrap ((b : Int) + 9223372036854775808) = (((b + sgnN) % 18446744073709551616 : Nat) : Int) := by
  rw [u64_mod]; unfold sgnN; omega
theorem wrap_down {b : Nat} (hb : b ≤ 18446744073709551615) : IntKind.u64.wrap (18446744073709551615 - (b : Int)) = ((18446744073709551615 - b : Nat) : Int) := by
  rw [u64_mod]; omega
theorem ret_u64 {a b : Int} (h : a = b) : Ending.returned (.int .u64 a) = .returned (.int .u64 b) := by rw [h]
end Go.Proofs.YthjpchnogllliaaGreatDoor.ScaD

/- The contract of hex of the reference of package scalar; bytes of the call's own appended to bytes of the call's own. -/
set_option linter.unusedSimpArgs false
set_option linter.unusedVariables false
namespace Go.Proofs.YthjpchnogllliaaGreatDoor.ScaE
open Go.RowKit Nums Byt UtfM UtfS UtfQ ScaM ScaV ScaA ScaB ScaD

section
variable {P : Program}
theorem wpList_append_own2 {w : World} {ops : Array Oper} {rest : List Oper} {o : Oper} {a : Act} {Q : Exit → Act → World → Prop} (hgd : o.guard = none) (s x : Operand) {t e : TypeId} (T : ByteTy P t e)
    (ho : o.op = .call { callee := .builtin .append, args := #[s, x], argTypes := #[t, t] })
    (base : Nat) (v v2 : Value) (l l2 : List UInt8) (hs : a.eval s = v) (hown : OwnB w base e v l) (hx : a.eval x = v2) (hown2 : OwnB w base e v2 l2)
    (h : ∀ v' w', OwnB w' base e v' (l ++ l2) → w.grownBy w' v.ownBlock → wpList P ops Q rest (a.put o.dst v') w')
    (hlen : l.length + l2.length ≤ 140737488355328) (hbase : base ≤ w.heap.size) : wpList P ops Q (o :: rest) a w := by
  obtain ⟨i, hi, hz, h1, h2⟩ := T.hi
  rcases hown2.2 with ⟨rfl, hn⟩ | ⟨g, cap, cur, rfl, hb, hg, hc, hm, hsz, htk⟩
  · have hl2 : l2 = [] := List.eq_nil_of_length_eq_zero hn
    subst hl2
    refine wpList_append_own_none hgd s x t ho base e i 1 T.ht hi v l.length (l.map bv) hs hown hx ?_
    refine h v w ?_ ⟨rfl, rfl, rfl, Nat.le_refl _, fun _ _ _ => rfl⟩
    rw [List.append_nil]; exact hown
  · refine wpList_append_own w hgd s x t ho base e i (.int .u8 0) 1 1 T.ht hi hz h1 h2 rfl (by omega) v l.length (l.map bv) hs hown ⟨g, 0, none⟩ l2.length cap (l2.map bv) hx (by simp) (hown2.cells (g := g) rfl) (fun u hu => by
        obtain ⟨b, _, rfl⟩ := List.mem_map.1 hu
        rfl) (by unfold maxLen; omega) (by omega) hbase ?_
    intro v' w' ho' hg' _
    refine h v' w' ?_ hg'
    unfold OwnB
    rw [List.length_append, List.map_append]
    exact ho'
end
/-- A byte in a new block is of the call's own. -/
theorem own_new (w : World) (base : Nat) (hb : base ≤ w.heap.size) (x : Int) (c : UInt8) (h : x = (c.toNat : Int)) : OwnB (w.alloc (.cells #[.int .u8 x] 5)) base 5 (.slice (some ⟨w.heap.size, 0, none⟩) 1 1) [c] := by
  subst h
  unfold OwnB
  refine ⟨by simp, .inr ⟨w.heap.size, 1, _, rfl, hb, heap_alloc_new w _, Nat.le_refl _, by unfold maxLen; omega, rfl, rfl⟩⟩

theorem be8_step (k n : Nat) : be8 (k + 1) n = be8 k (n / 256) ++ [UInt8.ofNat (n % 256)] := rfl
set_option maxHeartbeats 1000000 in
set_option maxRecDepth 100000 in
theorem hex_any (u : Nat) (hu : u ≤ 18446744073709551615) (w : World) :
    Calls Tryz.prog 48 #[.int .u64 u] w fun e w' => e = .returned (.string ⟨(hex16 u).toArray⟩) ∧ Below w.heap.size w w' := by
  go_enter Tryz.func48, Tryz.ntmps48
  go_wp2_with fail
  go_loopw [0, 3, 4] (fun x v i wr => ∃ (k n : Nat) (l : List UInt8), n ≤ 8 ∧ k ≤ 18446744073709551615 ∧ x = .int .u64 k ∧ i = .int .i64 n ∧ l.length = n ∧ OwnB wr w.heap.size 5 v l ∧ Below w.heap.size w wr ∧ Hid (be8 8 u = be8 (8 - n) k ++ l)) (fun _ _ i _ => 8 - (intOf i).toNat)
  case atStart => exact ⟨u, 0, [], by omega, hu, rfl, rfl, rfl, OwnB.nil _ _ _, Below.refl _ _, Lib.hid (by simp)⟩
  case round =>
    obtain ⟨k, n, l, hn, hk, rfl, rfl, hl, hown, hbel, Hb⟩ := hrel
    have Hl := Lib.hid hl
    have Hown := Lib.hid hown
    have hsw := hbel.size
    clear hl hown
    by_cases hlt : n < 8
    · obtain ⟨c, hc⟩ : ∃ c, c = UInt8.ofNat (k % 256) := ⟨_, rfl⟩
      have hx : (k : Int) % 256 = (c.toNat : Int) := by rw [hc, UInt8.toNat_ofNat']; omega
      have hb : be8 8 u = be8 (8 - (n + 1)) (k / 256) ++ (c :: l) := by
        rw [Hb.out, show 8 - n = (8 - (n + 1)) + 1 from by omega, be8_step, hc, List.append_assoc]; rfl
      have HB := Lib.hid hb
      have Hx := Lib.hid hx
      clear hc hx hb
      go_wp2_with (at_builtin; refine wpList_append_own2 rfl (.tmp 12) (.tmp 13) BytT.bytesT rfl w.heap.size _ _ [c] l rfl (own_new wr w.heap.size hsw _ c Hx.out) rfl (Hown.out.alloc _) ?_ ?c1 ?c2; intro v' w1 hown1 hg1; have Hown1 := Lib.hid hown1; have Hg1 := Lib.hid hg1; clear hown1 hg1)
      case c1 => have := Hl.out; simp; omega
      case c2 => exact size_alloc hsw
      refine ⟨⟨k / 256, n + 1, c :: l, by omega, by omega, by go_num, by go_num, by have := Hl.out; simp; omega, Hown1.out, ?_, HB⟩, by simp [intOf]; omega⟩
      exact (own_new wr w.heap.size hsw _ c Hx.out).below (hbel.alloc hsw _) Hg1.out (size_alloc hsw)
    · obtain rfl : n = 8 := by omega
      have hf : l = be8 8 u := by rw [Hb.out]; rfl
      have hcv := Hown.out.conv BytT.bytesT Tryz.underlying9
      have Hf := Lib.hid hf
      have hs : (⟨l.toArray⟩ : ByteArray).size ≤ 35184372088000 := by rw [size_mk, Hl.out]; omega
      clear hf
      go_wp2_with fail
      refine (UtfK.rHex_any _ hs _).mono ?_
      rintro _ w2 ⟨rfl, hb2⟩
      go_wp2_with fail
      go_ret
      exact ⟨BytT.ret_str (by rw [Hf.out]; rfl), hbel.trans (hb2.mono hbel.size)⟩
end Go.Proofs.YthjpchnogllliaaGreatDoor.ScaE

/- The contract of Text of the reference of package scalar. -/
set_option linter.unusedSimpArgs false
set_option linter.unusedVariables false
namespace Go.Proofs.YthjpchnogllliaaGreatDoor.ScaF
open Go.RowKit Nums Byt UtfM UtfS UtfQ ScaM ScaV ScaA ScaB ScaC ScaD ScaE

theorem fits_kind {k : Int} {v : Sc} (h : fitsB k v = true) : 1 ≤ k ∧ k ≤ 9 := by
  unfold fitsB isB at h
  simp only [Bool.and_eq_true, decide_eq_true_eq] at h
  omega
theorem fits_len {k : Int} {v : Sc} (h : fitsB k v = true) (ht : txB k = true) : v.t.length ≤ 4096 := by
  unfold fitsB at h
  rw [if_pos ht] at h
  simp only [Bool.and_eq_true, decide_eq_true_eq] at h
  exact h.2.1.2
theorem neg_up {b : Nat} (h : sgnN ≤ b) (hb : b ≤ 18446744073709551615) : IntKind.u64.wrap (-(b : Int)) = ((18446744073709551616 - b : Nat) : Int) := by
  rw [u64_mod]; unfold sgnN at h; omega
theorem put1 (c : UInt8) (l : List UInt8) : (⟨#[c]⟩ : ByteArray) ++ ⟨l.toArray⟩ = ⟨(c :: l).toArray⟩ := by
  rw [← mk_toList ((⟨#[c]⟩ : ByteArray) ++ ⟨l.toArray⟩), append_toList]; rfl
theorem put2 (c d : UInt8) (l : List UInt8) : (⟨#[c, d]⟩ : ByteArray) ++ ⟨l.toArray⟩ = ⟨(c :: d :: l).toArray⟩ := by
  rw [← mk_toList ((⟨#[c, d]⟩ : ByteArray) ++ ⟨l.toArray⟩), append_toList]; rfl

set_option maxHeartbeats 2000000 in
set_option maxRecDepth 100000 in
theorem text_any (v : SV) (hb : v.b ≤ 18446744073709551615) (w : World) : Calls Tryz.prog 26 #[vv v] w fun e w' => e = .returned (.string ⟨(textV (sc v)).toArray⟩) ∧ Below w.heap.size w w' := by
  obtain ⟨k, b, t, a1, l1, c1, a2, l2, c2, a3, l3, c3, a4, l4, c4⟩ := v
  simp only [vv]
  simp only at hb
  cases hfit : fitsB k (sc ⟨k, b, t, a1, l1, c1, a2, l2, c2, a3, l3, c3, a4, l4, c4⟩) with
  | false =>
    have ht : textV (sc ⟨k, b, t, a1, l1, c1, a2, l2, c2, a3, l3, c3, a4, l4, c4⟩) = [] := by unfold textV; rw [show (sc ⟨k, b, t, a1, l1, c1, a2, l2, c2, a3, l3, c3, a4, l4, c4⟩).k = k from rfl, hfit]; rfl
    rw [ht]
    have Hfit := Lib.hid hfit
    clear hfit ht
    go_enter Tryz.func26, Tryz.ntmps26
    go_wp2_with fail
    refine (fits_any _ ⟨k, b, t, a1, l1, c1, a2, l2, c2, a3, l3, c3, a4, l4, c4⟩ hb _).mono ?_
    rintro _ w1 ⟨rfl, hb1⟩
    rw [Hfit.out]
    obtain ⟨lc, lf⟩ := bcell hb1
    go_wp2_with fail
    go_ret
    exact ⟨rfl, bt (below_box _ _) hb1⟩
  | true =>
    have hk := fits_kind hfit
    rcases (by omega : k = 1 ∨ k = 2 ∨ k = 3 ∨ k = 4 ∨ k = 5 ∨ k = 6 ∨ k = 7 ∨ k = 8 ∨ k = 9) with rfl | rfl | rfl | rfl | rfl | rfl | rfl | rfl | rfl
    · by_cases h1 : b = 1
      · have e1 : ((b : Int) == 1) = true := by simp [h1]
        have ht : textV (sc ⟨1, b, t, a1, l1, c1, a2, l2, c2, a3, l3, c3, a4, l4, c4⟩) = [116, 114, 117, 101] := by unfold textV; rw [show (sc ⟨1, b, t, a1, l1, c1, a2, l2, c2, a3, l3, c3, a4, l4, c4⟩).k = 1 from rfl, hfit]; simp [sc, *]
        rw [ht]
        clear ht
        have Hfit := Lib.hid hfit
        clear hfit hk
        clear h1
        go_enter Tryz.func26, Tryz.ntmps26
        go_wp2_with fail
        refine (fits_any _ ⟨1, b, t, a1, l1, c1, a2, l2, c2, a3, l3, c3, a4, l4, c4⟩ hb _).mono ?_
        rintro _ w1 ⟨rfl, hb1⟩
        rw [Hfit.out]
        obtain ⟨lc, lf⟩ := bcell hb1
        go_wp2_with fail
        go_ret
        exact ⟨rfl, bt (below_box _ _) hb1⟩
      · have e1 : ((b : Int) == 1) = false := by rw [beq_eq_false_iff_ne]; omega
        have ht : textV (sc ⟨1, b, t, a1, l1, c1, a2, l2, c2, a3, l3, c3, a4, l4, c4⟩) = [102, 97, 108, 115, 101] := by unfold textV; rw [show (sc ⟨1, b, t, a1, l1, c1, a2, l2, c2, a3, l3, c3, a4, l4, c4⟩).k = 1 from rfl, hfit]; simp [sc, *]
        rw [ht]
        clear ht
        have Hfit := Lib.hid hfit
        clear hfit hk
        clear h1
        go_enter Tryz.func26, Tryz.ntmps26
        go_wp2_with fail
        refine (fits_any _ ⟨1, b, t, a1, l1, c1, a2, l2, c2, a3, l3, c3, a4, l4, c4⟩ hb _).mono ?_
        rintro _ w1 ⟨rfl, hb1⟩
        rw [Hfit.out]
        obtain ⟨lc, lf⟩ := bcell hb1
        go_wp2_with fail
        go_ret
        exact ⟨rfl, bt (below_box _ _) hb1⟩
    · by_cases h1 : sgnN ≤ b
      · have d1 : decide ((9223372036854775808 : Int) ≤ b) = true := by simp only [decide_eq_true_eq]; unfold sgnN at h1; omega
        have hneg := neg_up h1 hb
        have Hneg := Lib.hid hneg
        clear hneg
        have hbb : 0 < b := by unfold sgnN at h1; omega
        have ht : textV (sc ⟨2, b, t, a1, l1, c1, a2, l2, c2, a3, l3, c3, a4, l4, c4⟩) = 45 :: ScaM.dec (18446744073709551616 - b) := by unfold textV; rw [show (sc ⟨2, b, t, a1, l1, c1, a2, l2, c2, a3, l3, c3, a4, l4, c4⟩).k = 2 from rfl, hfit]; simp [sc, *]
        rw [ht]
        clear ht
        have Hfit := Lib.hid hfit
        clear hfit hk
        clear h1
        obtain ⟨D, hD⟩ : ∃ D : ByteArray, D = ⟨(ScaM.dec (18446744073709551616 - b)).toArray⟩ := ⟨_, rfl⟩
        have hDs : 1 + D.size ≤ 9223372036854775807 := by rw [hD, size_mk]; have := dec_len20 (u := 18446744073709551616 - b) (by omega); omega
        have HD := Lib.hid hD
        clear hD
        go_enter Tryz.func26, Tryz.ntmps26
        go_wp2_with fail
        refine (fits_any _ ⟨2, b, t, a1, l1, c1, a2, l2, c2, a3, l3, c3, a4, l4, c4⟩ hb _).mono ?_
        rintro _ w1 ⟨rfl, hb1⟩
        rw [Hfit.out]
        obtain ⟨lc, lf⟩ := bcell hb1
        go_wp2_with fail
        rw [Hneg.out]
        refine (decimal_any (18446744073709551616 - b) (by omega) _).mono ?_
        rintro _ w2 ⟨rfl, hb2⟩
        rw [← HD.out]
        go_wp2_with fail
        go_ret
        exact ⟨BytT.ret_str (by rw [HD.out, put1]), bt (bt (below_box _ _) hb1) hb2⟩
      · have d1 : decide ((9223372036854775808 : Int) ≤ b) = false := by simp only [decide_eq_false_iff_not]; unfold sgnN at h1; omega
        have ht : textV (sc ⟨2, b, t, a1, l1, c1, a2, l2, c2, a3, l3, c3, a4, l4, c4⟩) = ScaM.dec b := by unfold textV; rw [show (sc ⟨2, b, t, a1, l1, c1, a2, l2, c2, a3, l3, c3, a4, l4, c4⟩).k = 2 from rfl, hfit]; simp [sc, *]
        rw [ht]
        clear ht
        have Hfit := Lib.hid hfit
        clear hfit hk
        clear h1
        obtain ⟨D, hD⟩ : ∃ D : ByteArray, D = ⟨(ScaM.dec (b)).toArray⟩ := ⟨_, rfl⟩
        have hDs : 1 + D.size ≤ 9223372036854775807 := by rw [hD, size_mk]; have := dec_len20 (u := b) (by omega); omega
        have HD := Lib.hid hD
        clear hD
        go_enter Tryz.func26, Tryz.ntmps26
        go_wp2_with fail
        refine (fits_any _ ⟨2, b, t, a1, l1, c1, a2, l2, c2, a3, l3, c3, a4, l4, c4⟩ hb _).mono ?_
        rintro _ w1 ⟨rfl, hb1⟩
        rw [Hfit.out]
        obtain ⟨lc, lf⟩ := bcell hb1
        go_wp2_with fail
        refine (decimal_any (b) (by omega) _).mono ?_
        rintro _ w2 ⟨rfl, hb2⟩
        rw [← HD.out]
        go_wp2_with fail
        go_ret
        exact ⟨BytT.ret_str HD.out, bt (bt (below_box _ _) hb1) hb2⟩
    · by_cases h1 : sgnN ≤ b
      · have d1 : decide ((9223372036854775808 : Int) ≤ b) = true := by simp only [decide_eq_true_eq]; unfold sgnN at h1; omega
        have hneg := neg_up h1 hb
        have Hneg := Lib.hid hneg
        clear hneg
        have hbb : 0 < b := by unfold sgnN at h1; omega
        have ht : textV (sc ⟨3, b, t, a1, l1, c1, a2, l2, c2, a3, l3, c3, a4, l4, c4⟩) = 45 :: ScaM.dec (18446744073709551616 - b) := by unfold textV; rw [show (sc ⟨3, b, t, a1, l1, c1, a2, l2, c2, a3, l3, c3, a4, l4, c4⟩).k = 3 from rfl, hfit]; simp [sc, *]
        rw [ht]
        clear ht
        have Hfit := Lib.hid hfit
        clear hfit hk
        clear h1
        obtain ⟨D, hD⟩ : ∃ D : ByteArray, D = ⟨(ScaM.dec (18446744073709551616 - b)).toArray⟩ := ⟨_, rfl⟩
        have hDs : 1 + D.size ≤ 9223372036854775807 := by rw [hD, size_mk]; have := dec_len20 (u := 18446744073709551616 - b) (by omega); omega
        have HD := Lib.hid hD
        clear hD
        go_enter Tryz.func26, Tryz.ntmps26
        go_wp2_with fail
        refine (fits_any _ ⟨3, b, t, a1, l1, c1, a2, l2, c2, a3, l3, c3, a4, l4, c4⟩ hb _).mono ?_
        rintro _ w1 ⟨rfl, hb1⟩
        rw [Hfit.out]
        obtain ⟨lc, lf⟩ := bcell hb1
        go_wp2_with fail
        rw [Hneg.out]
        refine (decimal_any (18446744073709551616 - b) (by omega) _).mono ?_
        rintro _ w2 ⟨rfl, hb2⟩
        rw [← HD.out]
        go_wp2_with fail
        go_ret
        exact ⟨BytT.ret_str (by rw [HD.out, put1]), bt (bt (below_box _ _) hb1) hb2⟩
      · have d1 : decide ((9223372036854775808 : Int) ≤ b) = false := by simp only [decide_eq_false_iff_not]; unfold sgnN at h1; omega
        have ht : textV (sc ⟨3, b, t, a1, l1, c1, a2, l2, c2, a3, l3, c3, a4, l4, c4⟩) = ScaM.dec b := by unfold textV; rw [show (sc ⟨3, b, t, a1, l1, c1, a2, l2, c2, a3, l3, c3, a4, l4, c4⟩).k = 3 from rfl, hfit]; simp [sc, *]
        rw [ht]
        clear ht
        have Hfit := Lib.hid hfit
        clear hfit hk
        clear h1
        obtain ⟨D, hD⟩ : ∃ D : ByteArray, D = ⟨(ScaM.dec (b)).toArray⟩ := ⟨_, rfl⟩
        have hDs : 1 + D.size ≤ 9223372036854775807 := by rw [hD, size_mk]; have := dec_len20 (u := b) (by omega); omega
        have HD := Lib.hid hD
        clear hD
        go_enter Tryz.func26, Tryz.ntmps26
        go_wp2_with fail
        refine (fits_any _ ⟨3, b, t, a1, l1, c1, a2, l2, c2, a3, l3, c3, a4, l4, c4⟩ hb _).mono ?_
        rintro _ w1 ⟨rfl, hb1⟩
        rw [Hfit.out]
        obtain ⟨lc, lf⟩ := bcell hb1
        go_wp2_with fail
        refine (decimal_any (b) (by omega) _).mono ?_
        rintro _ w2 ⟨rfl, hb2⟩
        rw [← HD.out]
        go_wp2_with fail
        go_ret
        exact ⟨BytT.ret_str HD.out, bt (bt (below_box _ _) hb1) hb2⟩
    · skip
      have ht : textV (sc ⟨4, b, t, a1, l1, c1, a2, l2, c2, a3, l3, c3, a4, l4, c4⟩) = ScaM.dec b := by unfold textV; rw [show (sc ⟨4, b, t, a1, l1, c1, a2, l2, c2, a3, l3, c3, a4, l4, c4⟩).k = 4 from rfl, hfit]; simp [sc, *]
      rw [ht]
      clear ht
      have Hfit := Lib.hid hfit
      clear hfit hk
      obtain ⟨D, hD⟩ : ∃ D : ByteArray, D = ⟨(ScaM.dec (b)).toArray⟩ := ⟨_, rfl⟩
      have hDs : 1 + D.size ≤ 9223372036854775807 := by rw [hD, size_mk]; have := dec_len20 (u := b) (by omega); omega
      have HD := Lib.hid hD
      clear hD
      go_enter Tryz.func26, Tryz.ntmps26
      go_wp2_with fail
      refine (fits_any _ ⟨4, b, t, a1, l1, c1, a2, l2, c2, a3, l3, c3, a4, l4, c4⟩ hb _).mono ?_
      rintro _ w1 ⟨rfl, hb1⟩
      rw [Hfit.out]
      obtain ⟨lc, lf⟩ := bcell hb1
      go_wp2_with fail
      refine (decimal_any (b) (by omega) _).mono ?_
      rintro _ w2 ⟨rfl, hb2⟩
      rw [← HD.out]
      go_wp2_with fail
      go_ret
      exact ⟨BytT.ret_str HD.out, bt (bt (below_box _ _) hb1) hb2⟩
    · skip
      have ht : textV (sc ⟨5, b, t, a1, l1, c1, a2, l2, c2, a3, l3, c3, a4, l4, c4⟩) = ScaM.dec b := by unfold textV; rw [show (sc ⟨5, b, t, a1, l1, c1, a2, l2, c2, a3, l3, c3, a4, l4, c4⟩).k = 5 from rfl, hfit]; simp [sc, *]
      rw [ht]
      clear ht
      have Hfit := Lib.hid hfit
      clear hfit hk
      obtain ⟨D, hD⟩ : ∃ D : ByteArray, D = ⟨(ScaM.dec (b)).toArray⟩ := ⟨_, rfl⟩
      have hDs : 1 + D.size ≤ 9223372036854775807 := by rw [hD, size_mk]; have := dec_len20 (u := b) (by omega); omega
      have HD := Lib.hid hD
      clear hD
      go_enter Tryz.func26, Tryz.ntmps26
      go_wp2_with fail
      refine (fits_any _ ⟨5, b, t, a1, l1, c1, a2, l2, c2, a3, l3, c3, a4, l4, c4⟩ hb _).mono ?_
      rintro _ w1 ⟨rfl, hb1⟩
      rw [Hfit.out]
      obtain ⟨lc, lf⟩ := bcell hb1
      go_wp2_with fail
      refine (decimal_any (b) (by omega) _).mono ?_
      rintro _ w2 ⟨rfl, hb2⟩
      rw [← HD.out]
      go_wp2_with fail
      go_ret
      exact ⟨BytT.ret_str HD.out, bt (bt (below_box _ _) hb1) hb2⟩
    · cases hc0 : (clsN b == 0) with
      | true =>
        have z0 : clsN b = 0 := by simpa using hc0
        have ht : textV (sc ⟨6, b, t, a1, l1, c1, a2, l2, c2, a3, l3, c3, a4, l4, c4⟩) = [110, 97, 110] := by unfold textV; rw [show (sc ⟨6, b, t, a1, l1, c1, a2, l2, c2, a3, l3, c3, a4, l4, c4⟩).k = 6 from rfl, hfit]; simp [sc, *]
        rw [ht]
        clear ht
        have Hfit := Lib.hid hfit
        clear hfit hk
        clear z0
        go_enter Tryz.func26, Tryz.ntmps26
        go_wp2_with fail
        refine (fits_any _ ⟨6, b, t, a1, l1, c1, a2, l2, c2, a3, l3, c3, a4, l4, c4⟩ hb _).mono ?_
        rintro _ w1 ⟨rfl, hb1⟩
        rw [Hfit.out]
        obtain ⟨lc, lf⟩ := bcell hb1
        go_wp2_with fail
        refine (class_any _ _).mono ?_
        rintro _ w2 ⟨rfl, rfl⟩
        go_wp2_with fail
        go_ret
        exact ⟨rfl, bt (below_box _ _) hb1⟩
      | false =>
        have z0 : clsN b ≠ 0 := by simpa using hc0
        cases hc1 : (clsN b == 1) with
        | true =>
          have z1 : clsN b = 1 := by simpa using hc1
          by_cases h1 : sgnN ≤ b
          · have d1 : decide ((9223372036854775808 : Int) ≤ b) = true := by simp only [decide_eq_true_eq]; unfold sgnN at h1; omega
            have ht : textV (sc ⟨6, b, t, a1, l1, c1, a2, l2, c2, a3, l3, c3, a4, l4, c4⟩) = [45, 105, 110, 102] := by unfold textV; rw [show (sc ⟨6, b, t, a1, l1, c1, a2, l2, c2, a3, l3, c3, a4, l4, c4⟩).k = 6 from rfl, hfit]; simp [sc, *]
            rw [ht]
            clear ht
            have Hfit := Lib.hid hfit
            clear hfit hk
            clear h1 z0 z1
            go_enter Tryz.func26, Tryz.ntmps26
            go_wp2_with fail
            refine (fits_any _ ⟨6, b, t, a1, l1, c1, a2, l2, c2, a3, l3, c3, a4, l4, c4⟩ hb _).mono ?_
            rintro _ w1 ⟨rfl, hb1⟩
            rw [Hfit.out]
            obtain ⟨lc, lf⟩ := bcell hb1
            go_wp2_with fail
            refine (class_any _ _).mono ?_
            rintro _ w2 ⟨rfl, rfl⟩
            go_wp2_with fail
            go_ret
            exact ⟨rfl, bt (below_box _ _) hb1⟩
          · have d1 : decide ((9223372036854775808 : Int) ≤ b) = false := by simp only [decide_eq_false_iff_not]; unfold sgnN at h1; omega
            have ht : textV (sc ⟨6, b, t, a1, l1, c1, a2, l2, c2, a3, l3, c3, a4, l4, c4⟩) = [105, 110, 102] := by unfold textV; rw [show (sc ⟨6, b, t, a1, l1, c1, a2, l2, c2, a3, l3, c3, a4, l4, c4⟩).k = 6 from rfl, hfit]; simp [sc, *]
            rw [ht]
            clear ht
            have Hfit := Lib.hid hfit
            clear hfit hk
            clear h1 z0 z1
            go_enter Tryz.func26, Tryz.ntmps26
            go_wp2_with fail
            refine (fits_any _ ⟨6, b, t, a1, l1, c1, a2, l2, c2, a3, l3, c3, a4, l4, c4⟩ hb _).mono ?_
            rintro _ w1 ⟨rfl, hb1⟩
            rw [Hfit.out]
            obtain ⟨lc, lf⟩ := bcell hb1
            go_wp2_with fail
            refine (class_any _ _).mono ?_
            rintro _ w2 ⟨rfl, rfl⟩
            go_wp2_with fail
            go_ret
            exact ⟨rfl, bt (below_box _ _) hb1⟩
        | false =>
          have z1 : clsN b ≠ 1 := by simpa using hc1
          have ht : textV (sc ⟨6, b, t, a1, l1, c1, a2, l2, c2, a3, l3, c3, a4, l4, c4⟩) = 48 :: 120 :: hex16 b := by unfold textV; rw [show (sc ⟨6, b, t, a1, l1, c1, a2, l2, c2, a3, l3, c3, a4, l4, c4⟩).k = 6 from rfl, hfit]; simp [sc, *]
          rw [ht]
          clear ht
          have Hfit := Lib.hid hfit
          clear hfit hk
          clear z0 z1
          obtain ⟨D, hD⟩ : ∃ D : ByteArray, D = ⟨(hex16 b).toArray⟩ := ⟨_, rfl⟩
          have hDs : 2 + D.size ≤ 9223372036854775807 := by rw [hD, size_mk]; unfold hex16; rw [hexL_len, be8_len]; omega
          have HD := Lib.hid hD
          clear hD
          go_enter Tryz.func26, Tryz.ntmps26
          go_wp2_with fail
          refine (fits_any _ ⟨6, b, t, a1, l1, c1, a2, l2, c2, a3, l3, c3, a4, l4, c4⟩ hb _).mono ?_
          rintro _ w1 ⟨rfl, hb1⟩
          rw [Hfit.out]
          obtain ⟨lc, lf⟩ := bcell hb1
          go_wp2_with fail
          refine (class_any _ _).mono ?_
          rintro _ w2 ⟨rfl, rfl⟩
          go_wp2_with fail
          refine (hex_any b (by omega) _).mono ?_
          rintro _ w3 ⟨rfl, hb3⟩
          rw [← HD.out]
          go_wp2_with fail
          go_ret
          exact ⟨BytT.ret_str (by rw [HD.out, put2]), bt (bt (below_box _ _) hb1) hb3⟩
    · have hl := fits_len hfit rfl
      have hts : t.size ≤ 35184372088000 := by have : t.data.toList.length ≤ 4096 := hl; have e : t.data.toList.length = t.size := rfl; omega
      have ht : textV (sc ⟨7, b, t, a1, l1, c1, a2, l2, c2, a3, l3, c3, a4, l4, c4⟩) = quote t.data.toList := by unfold textV; rw [show (sc ⟨7, b, t, a1, l1, c1, a2, l2, c2, a3, l3, c3, a4, l4, c4⟩).k = 7 from rfl, hfit]; simp [sc, *]
      rw [ht]
      clear ht
      have Hfit := Lib.hid hfit
      clear hfit hk
      clear hl
      go_enter Tryz.func26, Tryz.ntmps26
      go_wp2_with fail
      refine (fits_any _ ⟨7, b, t, a1, l1, c1, a2, l2, c2, a3, l3, c3, a4, l4, c4⟩ hb _).mono ?_
      rintro _ w1 ⟨rfl, hb1⟩
      rw [Hfit.out]
      obtain ⟨lc, lf⟩ := bcell hb1
      go_wp2_with fail
      refine (UtfK.rQuote_any t hts _).mono ?_
      rintro _ w2 ⟨rfl, hb2⟩
      go_wp2_with fail
      go_ret
      exact ⟨rfl, bt (bt (below_box _ _) hb1) hb2⟩
    · have hl := fits_len hfit rfl
      have hts : t.size ≤ 4096 := hl
      have hhl := hexL_len t.data.toList
      have e : t.data.toList.length = t.size := rfl
      rw [e] at hhl
      obtain ⟨X, hX⟩ : ∃ X : ByteArray, X = ⟨(hexL t.data.toList).toArray⟩ := ⟨_, rfl⟩
      have hXs : X.size ≤ 35184372088000 := by rw [hX, size_mk, hhl]; omega
      have hXd : X.data.toList = hexL t.data.toList := by rw [hX]
      obtain ⟨D, hD⟩ : ∃ D : ByteArray, D = ⟨(quote X.data.toList).toArray⟩ := ⟨_, rfl⟩
      have hDs : 1 + D.size ≤ 9223372036854775807 := by rw [hD, size_mk, quote_len]; have := body_le X.data.toList; have e2 : X.data.toList.length = X.size := rfl; omega
      have ht : textV (sc ⟨8, b, t, a1, l1, c1, a2, l2, c2, a3, l3, c3, a4, l4, c4⟩) = 120 :: quote (hexL t.data.toList) := by unfold textV; rw [show (sc ⟨8, b, t, a1, l1, c1, a2, l2, c2, a3, l3, c3, a4, l4, c4⟩).k = 8 from rfl, hfit]; simp [sc, *]
      rw [ht]
      clear ht
      have Hfit := Lib.hid hfit
      clear hfit hk
      rw [← hXd]
      have HX := Lib.hid hX
      have HD := Lib.hid hD
      clear hl hhl e hX hD hXd
      go_enter Tryz.func26, Tryz.ntmps26
      go_wp2_with fail
      refine (fits_any _ ⟨8, b, t, a1, l1, c1, a2, l2, c2, a3, l3, c3, a4, l4, c4⟩ hb _).mono ?_
      rintro _ w1 ⟨rfl, hb1⟩
      rw [Hfit.out]
      obtain ⟨lc, lf⟩ := bcell hb1
      go_wp2_with fail
      refine (UtfK.rHex_any t (by omega) _).mono ?_
      rintro _ w2 ⟨rfl, hb2⟩
      rw [← HX.out]
      go_wp2_with fail
      refine (UtfK.rQuote_any X hXs _).mono ?_
      rintro _ w3 ⟨rfl, hb3⟩
      rw [← HD.out]
      go_wp2_with fail
      go_ret
      exact ⟨BytT.ret_str (by rw [HD.out, put1]), bt (bt (bt (below_box _ _) hb1) hb2) hb3⟩
    · skip
      have ht : textV (sc ⟨9, b, t, a1, l1, c1, a2, l2, c2, a3, l3, c3, a4, l4, c4⟩) = ScaM.dec b := by unfold textV; rw [show (sc ⟨9, b, t, a1, l1, c1, a2, l2, c2, a3, l3, c3, a4, l4, c4⟩).k = 9 from rfl, hfit]; simp [sc, *]
      rw [ht]
      clear ht
      have Hfit := Lib.hid hfit
      clear hfit hk
      obtain ⟨D, hD⟩ : ∃ D : ByteArray, D = ⟨(ScaM.dec (b)).toArray⟩ := ⟨_, rfl⟩
      have hDs : 1 + D.size ≤ 9223372036854775807 := by rw [hD, size_mk]; have := dec_len20 (u := b) (by omega); omega
      have HD := Lib.hid hD
      clear hD
      go_enter Tryz.func26, Tryz.ntmps26
      go_wp2_with fail
      refine (fits_any _ ⟨9, b, t, a1, l1, c1, a2, l2, c2, a3, l3, c3, a4, l4, c4⟩ hb _).mono ?_
      rintro _ w1 ⟨rfl, hb1⟩
      rw [Hfit.out]
      obtain ⟨lc, lf⟩ := bcell hb1
      go_wp2_with fail
      refine (decimal_any (b) (by omega) _).mono ?_
      rintro _ w2 ⟨rfl, hb2⟩
      rw [← HD.out]
      go_wp2_with fail
      go_ret
      exact ⟨BytT.ret_str HD.out, bt (bt (below_box _ _) hb1) hb2⟩
end Go.Proofs.YthjpchnogllliaaGreatDoor.ScaF
