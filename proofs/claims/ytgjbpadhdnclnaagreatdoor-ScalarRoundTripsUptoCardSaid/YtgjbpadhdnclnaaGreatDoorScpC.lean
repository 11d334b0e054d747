/- The program's number and parseNumber: decimal numbers of 64 bits. -/
import Derived.Test.YtgjbpadhdnclnaaGreatDoorScpB
import Derived.Test.YtgjbpadhdnclnaaGreatDoorLd
set_option linter.unusedSimpArgs false
set_option linter.unusedVariables false
namespace Go.Proofs.YtgjbpadhdnclnaaGreatDoor.ScpC
open Go.RowKit Nums Byt UtfM UtfS ScaM ScaV ScaA ScaB ScaC ScpM ScpA ScpB Ld

/-- The bits of a number in decimal, where 64 bits of the kind's sign suffice. -/
def numR (k : Int) (l : List UInt8) : Option Nat :=
  if sgB k then (match Lib.parseIntB 64 l with | .ok v => some (v % 18446744073709551616).toNat | _ => none)
  else (match Lib.parseUintB 64 l with | .ok u => some u | _ => none)
def NumRes (k : Int) (l : List UInt8) (e : Ending) : Prop :=
  ∃ (u : Nat) (ok : Bool), e = .returned (.tuple #[.int .u64 u, .bool ok]) ∧ u ≤ 18446744073709551615 ∧ (ok = true → numR k l = some u) ∧ (ok = false → numR k l = none)
theorem bw (w : World) (t : TypeId) (b : ByteArray) : Below w.heap.size w (Lib.bytesWorld w t b) := Lib.bytesWorld_below _ _ _

set_option maxHeartbeats 1000000 in
set_option maxRecDepth 100000 in
theorem number_any (k : Int) (s : ByteArray) (hs : s.size ≤ 140737488355328) (w : World) (hL : Ld w) : Calls Tryz.prog 64 #[.int .i64 k, .string s] w fun e w' => NumRes k s.data.toList e ∧ Below w.heap.size w w' := by
  obtain ⟨_, _, ⟨tp, p, hr⟩, ⟨tp', p', hy⟩⟩ := hL
  cases h1 : sgB k with
  | true =>
    rcases h : Lib.parseIntB 64 s.data.toList with v | _ | _
    · have hn : numR k s.data.toList = some (v % 18446744073709551616).toNat := by unfold numR; rw [h1, h]; rfl
      have hw : IntKind.u64.wrap v = (((v % 18446744073709551616).toNat : Nat) : Int) := by rw [IntKind.wrap_u64]; omega
      have hb : (v % 18446744073709551616).toNat ≤ 18446744073709551615 := by omega
      have C := Lib.hid (Tryz.strconv_ParseInt_10_at64_ok s (by omega) v h w)
      have HN := Lib.hid hn
      have HW := Lib.hid hw
      have HB := Lib.hid hb
      clear hn hw hb h hr hy hs
      go_enter Tryz.func64, Tryz.ntmps64
      go_wp2_with (first | (refine (signed_p _ _).mono ?_; rintro _ w1 ⟨rfl, rfl⟩; rw [h1]) | (refine C.out.mono ?_; rintro _ w1 ⟨rfl, hb1⟩))
      go_region
      go_wp2_with fail
      go_ret2
      refine ⟨⟨_, true, by rw [HW.out]; rfl, HB.out, fun _ => HN.out, (fun h => by cases h)⟩, ?_⟩
      rcases hb1 with rfl | ⟨t, rfl⟩
      · exact (Below.refl _ _).drew
      · exact (bw _ _ _).drew
    · have hn : numR k s.data.toList = none := by unfold numR; rw [h1, h]; rfl
      have C := Lib.hid (Any.strconv_ParseInt_10_at64_syntax_var Tryz.laysC174 s (by omega) h tp' p' w hy)
      have HN := Lib.hid hn
      clear hn h hr hy hs
      go_enter Tryz.func64, Tryz.ntmps64
      go_wp2_with (first | (refine (signed_p _ _).mono ?_; rintro _ w1 ⟨rfl, rfl⟩; rw [h1]) | (refine C.out.mono ?_; rintro _ w1 ⟨N, rfl, hN, hc, hb1⟩))
      go_region
      go_wp2_with fail
      go_ret2
      exact ⟨⟨0, false, rfl, by omega, (fun h => by cases h), fun _ => HN.out⟩, hb1.drew⟩
    · have hn : numR k s.data.toList = none := by unfold numR; rw [h1, h]; rfl
      obtain ⟨u, hu, hub⟩ : ∃ u : Nat, IntKind.u64.wrap (Lib.intSat 64 s.data.toList) = (u : Int) ∧ u ≤ 18446744073709551615 :=
        ⟨(IntKind.u64.wrap (Lib.intSat 64 s.data.toList)).toNat, by rw [IntKind.wrap_u64]; omega, by rw [IntKind.wrap_u64]; omega⟩
      have C := Lib.hid (Tryz.strconv_ParseInt_10_at64_range_var s (by omega) h tp p w hr)
      have HN := Lib.hid hn
      have HW := Lib.hid hu
      have HB := Lib.hid hub
      clear hu hub
      clear hn h hr hy hs
      go_enter Tryz.func64, Tryz.ntmps64
      go_wp2_with (first | (refine (signed_p _ _).mono ?_; rintro _ w1 ⟨rfl, rfl⟩; rw [h1]) | (refine C.out.mono ?_; rintro _ w1 ⟨N, rfl, hN, hc, hb1⟩))
      go_region
      go_wp2_with fail
      go_ret2
      exact ⟨⟨u, false, by rw [HW.out]; rfl, HB.out, (fun h => by cases h), fun _ => HN.out⟩, hb1.drew⟩
  | false =>
    rcases h : Lib.parseUintB 64 s.data.toList with u | _ | _
    · have hn : numR k s.data.toList = some u := by unfold numR; rw [h1, h]; rfl
      have hb : u ≤ 18446744073709551615 := Lib.parseUintB_le (B := 64) h
      have C := Lib.hid (Tryz.strconv_ParseUint_10_at64_ok s (by omega) u h w)
      have HN := Lib.hid hn
      have HB := Lib.hid hb
      clear hn hb h hr hy hs
      go_enter Tryz.func64, Tryz.ntmps64
      go_wp2_with (first | (refine (signed_p _ _).mono ?_; rintro _ w1 ⟨rfl, rfl⟩; rw [h1]) | (refine C.out.mono ?_; rintro _ w1 ⟨rfl, hb1⟩))
      go_region
      go_wp2_with fail
      go_ret2
      refine ⟨⟨u, true, rfl, HB.out, fun _ => HN.out, (fun h => by cases h)⟩, ?_⟩
      rcases hb1 with rfl | rfl
      · exact (Below.refl _ _).drew
      · exact (bw _ _ _).drew
    · have hn : numR k s.data.toList = none := by unfold numR; rw [h1, h]; rfl
      have C := Lib.hid (Any.strconv_ParseUint_10_at64_syntax_var Tryz.laysPu14 s (by omega) h tp' p' w hy)
      have HN := Lib.hid hn
      clear hn h hr hy hs
      go_enter Tryz.func64, Tryz.ntmps64
      go_wp2_with (first | (refine (signed_p _ _).mono ?_; rintro _ w1 ⟨rfl, rfl⟩; rw [h1]) | (refine C.out.mono ?_; rintro _ w1 ⟨N, rfl, hN, hc, hb1⟩))
      go_region
      go_wp2_with fail
      go_ret2
      exact ⟨⟨0, false, rfl, by omega, (fun h => by cases h), fun _ => HN.out⟩, hb1.drew⟩
    · have hn : numR k s.data.toList = none := by unfold numR; rw [h1, h]; rfl
      have C := Lib.hid (Tryz.strconv_ParseUint_10_at64_range_var s (by omega) h tp p w hr)
      have HN := Lib.hid hn
      clear hn h hr hy hs
      go_enter Tryz.func64, Tryz.ntmps64
      go_wp2_with (first | (refine (signed_p _ _).mono ?_; rintro _ w1 ⟨rfl, rfl⟩; rw [h1]) | (refine C.out.mono ?_; rintro _ w1 ⟨N, rfl, hN, hc, hb1⟩))
      go_region
      go_wp2_with fail
      go_ret2
      exact ⟨⟨18446744073709551615, false, rfl, by omega, (fun h => by cases h), fun _ => HN.out⟩, hb1.drew⟩
end Go.Proofs.YtgjbpadhdnclnaaGreatDoor.ScpC
