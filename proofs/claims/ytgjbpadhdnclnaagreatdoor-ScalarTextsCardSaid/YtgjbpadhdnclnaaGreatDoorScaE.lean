/- The contract of hex of the reference of package scalar; bytes of the call's own appended to bytes of the call's own. -/
import Derived.Test.YtgjbpadhdnclnaaGreatDoorScaD
import Derived.Test.YtgjbpadhdnclnaaGreatDoorRoom
import Derived.Laws.AppendOwnNone
set_option linter.unusedSimpArgs false
set_option linter.unusedVariables false
namespace Go.Proofs.YtgjbpadhdnclnaaGreatDoor.ScaE
open Go.RowKit Nums Byt UtfM UtfS UtfQ ScaM ScaV ScaA ScaB ScaD

section
variable {P : Program}
theorem wpList_append_own2 {w : World} {ops : Array Oper} {rest : List Oper} {o : Oper} {a : Act} {Q : Exit → Act → World → Prop} (hgd : o.guard = none) (s x : Operand) {t e : TypeId} (T : ByteTy P t e)
    (ho : o.op = .call { callee := .builtin .append, args := #[s, x], argTypes := #[t, t] })
    (base : Nat) (v v2 : Value) (l l2 : List UInt8) (hs : a.eval s = v) (hown : OwnB w base e v l) (hx : a.eval x = v2) (hown2 : OwnB w base e v2 l2)
    (h : ∀ v' w', OwnB w' base e v' (l ++ l2) → w.grownBy w' v.ownBlock → wpList P ops Q rest (a.put o.dst v') w')
    (hlen : l.length + l2.length ≤ 140737488355328) (hbase : base ≤ w.heap.size) : wpList P ops Q (o :: rest) a w := by
  obtain ⟨i, hi, hz, h1, h2⟩ := T.hi
  rcases hown2.2 with ⟨rfl, hn⟩ | ⟨g, cap, cur, rfl, hb, hg, hc, hm, hsz, htk⟩
  · have hl2 : l2 = [] := List.eq_nil_of_length_eq_zero hn
    subst hl2
    refine wpList_append_own_none hgd s x t ho base e i 1 T.ht hi v l.length (l.map bv) hs hown hx ?_
    refine h v w ?_ ⟨rfl, rfl, rfl, Nat.le_refl _, fun _ _ _ => rfl⟩
    rw [List.append_nil]; exact hown
  · refine wpList_append_own w hgd s x t ho base e i (.int .u8 0) 1 1 T.ht hi hz h1 h2 rfl (by omega) v l.length (l.map bv) hs hown ⟨g, 0, none⟩ l2.length cap (l2.map bv) hx (by simp) (hown2.cells (g := g) rfl) (fun u hu => by
        obtain ⟨b, _, rfl⟩ := List.mem_map.1 hu
        rfl) (by unfold maxLen; omega) (by omega) hbase ?_
    intro v' w' ho' hg' _
    refine h v' w' ?_ hg'
    unfold OwnB
    rw [List.length_append, List.map_append]
    exact ho'
end
/-- A byte in a new block is of the call's own. -/
theorem own_new (w : World) (base : Nat) (hb : base ≤ w.heap.size) (x : Int) (c : UInt8) (h : x = (c.toNat : Int)) : OwnB (w.alloc (.cells #[.int .u8 x] 5)) base 5 (.slice (some ⟨w.heap.size, 0, none⟩) 1 1) [c] := by
  subst h
  unfold OwnB
  refine ⟨by simp, .inr ⟨w.heap.size, 1, _, rfl, hb, heap_alloc_new w _, Nat.le_refl _, by unfold maxLen; omega, rfl, rfl⟩⟩

theorem be8_step (k n : Nat) : be8 (k + 1) n = be8 k (n / 256) ++ [UInt8.ofNat (n % 256)] := rfl
set_option maxHeartbeats 1000000 in
set_option maxRecDepth 100000 in
theorem hex_any (u : Nat) (hu : u ≤ 18446744073709551615) (w : World) :
    Calls Tryz.prog 26 #[.int .u64 u] w fun e w' => e = .returned (.string ⟨(hex16 u).toArray⟩) ∧ Below w.heap.size w w' := by
  go_enter Tryz.func26, Tryz.ntmps26
  go_wp2_with fail
  go_loopw [0, 3, 4] (fun x v i wr => ∃ (k n : Nat) (l : List UInt8), n ≤ 8 ∧ k ≤ 18446744073709551615 ∧ x = .int .u64 k ∧ i = .int .i64 n ∧ l.length = n ∧ OwnB wr w.heap.size 5 v l ∧ Below w.heap.size w wr ∧ Hid (be8 8 u = be8 (8 - n) k ++ l)) (fun _ _ i _ => 8 - (intOf i).toNat)
  case atStart => exact ⟨u, 0, [], by omega, hu, rfl, rfl, rfl, OwnB.nil _ _ _, Below.refl _ _, Lib.hid (by simp)⟩
  case round =>
    obtain ⟨k, n, l, hn, hk, rfl, rfl, hl, hown, hbel, Hb⟩ := hrel
    have Hl := Lib.hid hl
    have Hown := Lib.hid hown
    have hsw := hbel.size
    clear hl hown
    by_cases hlt : n < 8
    · obtain ⟨c, hc⟩ : ∃ c, c = UInt8.ofNat (k % 256) := ⟨_, rfl⟩
      have hx : (k : Int) % 256 = (c.toNat : Int) := by rw [hc, UInt8.toNat_ofNat']; omega
      have hb : be8 8 u = be8 (8 - (n + 1)) (k / 256) ++ (c :: l) := by
        rw [Hb.out, show 8 - n = (8 - (n + 1)) + 1 from by omega, be8_step, hc, List.append_assoc]; rfl
      have HB := Lib.hid hb
      have Hx := Lib.hid hx
      clear hc hx hb
      go_wp2_with (at_builtin; refine wpList_append_own2 rfl (.tmp 12) (.tmp 13) BytT.bytesT rfl w.heap.size _ _ [c] l rfl (own_new wr w.heap.size hsw _ c Hx.out) rfl (Hown.out.alloc _) ?_ ?c1 ?c2; intro v' w1 hown1 hg1; have Hown1 := Lib.hid hown1; have Hg1 := Lib.hid hg1; clear hown1 hg1)
      case c1 => have := Hl.out; simp; omega
      case c2 => exact size_alloc hsw
      refine ⟨⟨k / 256, n + 1, c :: l, by omega, by omega, by go_num, by go_num, by have := Hl.out; simp; omega, Hown1.out, ?_, HB⟩, by simp [intOf]; omega⟩
      exact (own_new wr w.heap.size hsw _ c Hx.out).below (hbel.alloc hsw _) Hg1.out (size_alloc hsw)
    · obtain rfl : n = 8 := by omega
      have hf : l = be8 8 u := by rw [Hb.out]; rfl
      have hcv := Hown.out.conv BytT.bytesT Tryz.underlying9
      have Hf := Lib.hid hf
      have hs : (⟨l.toArray⟩ : ByteArray).size ≤ 35184372088000 := by rw [size_mk, Hl.out]; omega
      clear hf
      go_wp2_with fail
      refine (UtfK.rHex_any _ hs _).mono ?_
      rintro _ w2 ⟨rfl, hb2⟩
      go_wp2_with fail
      go_ret
      exact ⟨BytT.ret_str (by rw [Hf.out]; rfl), hbel.trans (hb2.mono hbel.size)⟩
end Go.Proofs.YtgjbpadhdnclnaaGreatDoor.ScaE
