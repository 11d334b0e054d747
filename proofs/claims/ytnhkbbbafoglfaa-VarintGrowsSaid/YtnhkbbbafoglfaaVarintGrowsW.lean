/- The walk of the law VarintGrows. -/
import Derived.Test.YtnhkbbbafoglfaaVarL
import Derived.Test.YtnhkbbbafoglfaaVarZ
import Derived.Test.YtnhkbbbafoglfaaNums
import Derived.Deep.QuietTactic
import Derived.BigQuiet
import Derived.WideKeyPair
namespace Go.Proofs.Ytnhkbbbafoglfaa.VarintGrowsW
open Go.RowKit VarM VarP VarL VarZ Nums

def neg (n : Int) : Int := if 0 < n then -n else n
/-- Whether n has a smaller absolute value than m. -/
def near (n m : Int) : Bool := decide (neg m < neg n)
theorem near_mk {n m a b : Int} (ha : a = neg n) (hb : b = neg m) : decide (b < a) = near n m := by rw [ha, hb]; rfl

theorem ret_bool {a b : Bool} (h : a = b) : Ending.returned (.bool a) = .returned (.bool b) := by rw [h]
set_option maxHeartbeats 400000 in
theorem nearer_any (n m : Int) (w : World) (h1 : -9223372036854775808 ≤ n) (h2 : n ≤ 9223372036854775807) (h3 : -9223372036854775808 ≤ m) (h4 : m ≤ 9223372036854775807) :
    Calls Try.prog 27 #[.int .i64 n, .int .i64 m] w fun e w' => e = .returned (.bool (near n m)) ∧ w = w' := by
  by_cases ha : 0 < n
  all_goals by_cases hb : 0 < m
  all_goals
    go_enter Try.func27, Try.ntmps27
    go_wp2
    go_ret
    exact ⟨ret_bool (by unfold near neg; rw [decide_eq_decide]; (repeat' split) <;> omega), rfl⟩

theorem len_i (a : Int) (w : World) (h0 : 0 ≤ a) (h1 : a ≤ 18446744073709551615) :
    Calls Try.prog 12 #[.int .u64 a] w fun e w' => e = .returned (.int .i64 (put a.toNat).length) ∧ w = w' := by
  obtain ⟨u, rfl⟩ := Int.eq_ofNat_of_zero_le h0
  rw [Int.toNat_natCast]
  exact len_any u w (by omega)

theorem nearer_is {c : Bool} (n m : Int) (w : World) (h1 : -9223372036854775808 ≤ n) (h2 : n ≤ 9223372036854775807) (h3 : -9223372036854775808 ≤ m) (h4 : m ≤ 9223372036854775807) (h : near n m = c) :
    Calls Try.prog 27 #[.int .i64 n, .int .i64 m] w fun e w' => e = .returned (.bool c) ∧ w = w' := h ▸ nearer_any n m w h1 h2 h3 h4

theorem grows {n m : Int} (h : near n m = true) : (put (zig n).toNat).length ≤ (put (zig m).toNat).length := by
  apply put_mono
  have h1 := of_decide_eq_true h
  unfold neg at h1
  unfold zig
  split at h1 <;> split at h1 <;> split <;> split <;> omega

theorem quiet_left {P : Program} {f : FuncId} {args : Array Value} {w : World} {n : Nat} {v : Value}
    (h : Calls P f args (w.drewN n) fun e w' => e = .returned v ∧ w.drewN n = w') : Calls P f args (w.drewN n) fun e w'' => e = .returned v ∧ ∃ m, w'' = w.drewN m :=
  h.mono fun _ _ ⟨he, hm⟩ => ⟨he, n, hm.symm⟩

theorem below_drewN {B : Nat} {a w : World} (h : Below B a w) (n : Nat) : Below B a (w.drewN n) := ⟨h.os, h.tape, h.output, h.size, h.block⟩
theorem quiet_add_left {P : Program} {f : FuncId} {args : Array Value} {w : World} {a n : Nat} {v : Value}
    (h : Calls P f args (w.drewN (a + n)) fun e w' => e = .returned v ∧ w.drewN (a + n) = w') :
    Calls P f args (w.drewN (a + n)) fun e w'' => e = .returned v ∧ ∃ m, w'' = w.drewN (a + m) :=
  h.mono fun _ _ ⟨he, hm⟩ => ⟨he, n, hm.symm⟩

set_option maxRecDepth 100000 in
set_option maxHeartbeats 800000 in
theorem walk (a b : Nat) (n m : Int) (ha : a ≤ 18446744073709551615) (hb : b ≤ 18446744073709551615) (hn : -9223372036854775808 ≤ n ∧ n ≤ 9223372036854775807) (hm : -9223372036854775808 ≤ m ∧ m ≤ 9223372036854775807) (w : World) :
    Calls Try.prog 9 #[.agg #[.int .u64 a, .int .u64 b], .agg #[.int .i64 n, .int .i64 m]] w fun e w' => e = .returned (.bool true) ∧ Below w.heap.size w w' := by
  obtain ⟨hn1, hn2⟩ := hn
  obtain ⟨hm1, hm2⟩ := hm
  have hl (u : Nat) (hu : u ≤ 18446744073709551615) : 1 ≤ (put u).length ∧ (put u).length ≤ 10 := by
    refine ⟨?_, put_le 9 u (by omega)⟩
    have := put_ge 0
    cases hh : put u with
    | nil => exact absurd hh (put_ne u)
    | cons a l => simp
  obtain ⟨la1, la2⟩ := hl (min (a : Int) b).toNat (by omega)
  obtain ⟨lb1, lb2⟩ := hl (max (a : Int) b).toNat (by omega)
  have hmono : (put (min (a : Int) b).toNat).length ≤ (put (max (a : Int) b).toNat).length := put_mono (by omega)
  have hmono2 : ¬ (put (max (a : Int) b).toNat).length < (put (min (a : Int) b).toNat).length := by omega
  have la1' : 1 ≤ ((put (min (a : Int) b).toNat).length : Int) := by omega
  have lb2' : ((put (max (a : Int) b).toNat).length : Int) ≤ 10 := by omega
  obtain ⟨z1, z2⟩ := zig_bd n hn1 hn2
  obtain ⟨z3, z4⟩ := zig_bd m hm1 hm2
  clear hl
  by_cases hc : near n m = true
  · have Hc := Lib.hid hc
    have hg := grows hc
    clear hc
    go_enter Try.func9, Try.ntmps9
    go_wp2_with fail
    go_quiet ((go_at_call 12; exact quiet_left (len_i _ _ (by omega) (by omega))))
    go_wp2
    go_quiet ((first
      | (go_at_call 27; exact quiet_add_left (nearer_is _ _ _ hn1 hn2 hm1 hm2 Hc.out))
      | (go_at_call 18; exact quiet_add_left (zig_any _ _ (by omega) (by omega)))
      | (go_at_call 12; exact quiet_add_left (len_i _ _ (by omega) (by omega)))))
    go_wp2
    go_ret
    exact ⟨rfl, below_drewN (below_drewN (((Below.refl _ _).alloc (Nat.le_refl _) _).alloc (by simp) _) _) _⟩
  · rw [Bool.not_eq_true] at hc
    have Hc := Lib.hid hc
    clear hc
    go_enter Try.func9, Try.ntmps9
    go_wp2_with fail
    go_quiet ((go_at_call 12; exact quiet_left (len_i _ _ (by omega) (by omega))))
    go_wp2
    go_quiet ((first
      | (go_at_call 27; exact quiet_add_left (nearer_is _ _ _ hn1 hn2 hm1 hm2 Hc.out))
      | (go_at_call 18; exact quiet_add_left (zig_any _ _ (by omega) (by omega)))
      | (go_at_call 12; exact quiet_add_left (len_i _ _ (by omega) (by omega)))))
    go_wp2
    go_ret
    exact ⟨rfl, below_drewN (below_drewN (((Below.refl _ _).alloc (Nat.le_refl _) _).alloc (by simp) _) _) _⟩

theorem key64 : WideMaps.ArrKey Try.prog 38 22 2 := ⟨Try.underlying38, by kernel_rfl, by kernel_rfl, by kernel_rfl⟩
theorem keyInt : WideMaps.ArrKey Try.prog 39 3 2 := ⟨Try.underlying39, by kernel_rfl, by kernel_rfl, by kernel_rfl⟩

open Go.ChangeShapes Go.WideShapes Go.ChangeAt in
theorem contract (H : Type) (enc : TypeId × Value → H) (W : World) (base : Nat) (args : Array Value) (ds : List (DataW H)) (p : List MemPlace)
    (hval : ∀ (j : Nat) t v, Try.f9.params[j]? = some t → args[j]? = some v → Value.okWide Try.prog W .any base t v)
    (hA : DataW.TrodAll enc Try.prog W 0 (fun _ => true) true Try.f9.params.toList args.toList ds p)
    (_hreach : (DataW.weightsEach Try.prog Try.f9.params.toList ds).all (· ≤ reachBytes) = true) :
    Calls Try.prog 9 args W fun e W' => e = .returned (.bool true) ∧ Below W.heap.size W W' := by
  rw [Try.params9] at hA hval
  obtain ⟨v0, vs0, d0, ds0, p0, q0, hargs, rfl, rfl, h0, r0⟩ := trodAll_cons hA
  obtain ⟨v1, vs1, d1, ds1, p1, q1, rfl, rfl, rfl, h1, r1⟩ := trodAll_cons r0
  obtain ⟨rfl, rfl, rfl⟩ := trodAll_nil r1
  obtain rfl : args = #[v0, v1] := by cases args; simp_all
  obtain ⟨a, b, rfl, rfl, rfl, wa, wb⟩ := WideMaps.open_pair key64 Try.underlying22 (hval 0 38 v0 rfl rfl) h0
  obtain ⟨n, m, rfl, rfl, rfl, wn, wm⟩ := WideMaps.open_pair keyInt Try.underlying3 (hval 1 39 v1 rfl rfl) h1
  obtain ⟨a, rfl, ha⟩ := wf_u64 wa
  obtain ⟨b, rfl, hb⟩ := wf_u64 wb
  exact walk a b n m ha hb (wf_i64 wn) (wf_i64 wm) W
end Go.Proofs.Ytnhkbbbafoglfaa.VarintGrowsW
