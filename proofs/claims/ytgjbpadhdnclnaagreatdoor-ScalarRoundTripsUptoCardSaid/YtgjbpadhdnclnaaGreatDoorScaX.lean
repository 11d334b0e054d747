/- The contract of double of the reference of package scalar. -/
import Derived.Test.YtgjbpadhdnclnaaGreatDoorScaY
import Derived.Test.YtgjbpadhdnclnaaGreatDoorScaG
set_option linter.unusedSimpArgs false
set_option linter.unusedVariables false
namespace Go.Proofs.YtgjbpadhdnclnaaGreatDoor.ScaX
open Go.RowKit Nums Byt UtfM UtfQ UtfH UtfS ScaM ScaV ScaA ScaB ScaC ScaD ScaG ScaN ScaT ScaW ScaY UtfR UtfB UtfK UtfL

def nanL : List UInt8 := [110, 97, 110]
def infL : List UInt8 := [105, 110, 102]
def ninL : List UInt8 := [45, 105, 110, 102]
def numW (l : List UInt8) : Nat := l.foldl (fun a c => (256 * a + c.toNat) % 18446744073709551616) 0
theorem numW_snoc (l : List UInt8) (c : UInt8) : numW (l ++ [c]) = (256 * numW l + c.toNat) % 18446744073709551616 := by unfold numW; rw [List.foldl_append]; rfl
def bitsS (l : List UInt8) : SV × Int := if uhE l ≠ 0 then (zv 0, 2) else if clsN (numW (uhT l)) ≤ 1 then (zv 0, 2) else (nv 6 (numW (uhT l)), 0)
def doubleS (l : List UInt8) : SV × Int :=
  if l = nanL then (nv 6 nanN, 0) else if l = infL then (nv 6 infN, 0) else if l = ninL then (nv 6 (infN + sgnN), 0)
  else if l.length ≠ 18 ∨ l.take 2 ≠ [48, 120] then (zv 0, 2) else bitsS (l.drop 2)
/-- The two boxes in the loop. -/
structure Two (w wr : World) (K U : Nat) : Prop where
  a : HasV wr w.heap.size (zv 0)
  b : HasV wr K (nv 6 U)
  fa : ∀ o, wr.frozen? ⟨w.heap.size, o, none⟩ = false
  fb : ∀ o, wr.frozen? ⟨K, o, none⟩ = false
  lt : w.heap.size < K
  bel : Below w.heap.size w wr
theorem Two.set {w wr : World} {K U : Nat} (h : Two w wr K U) (V : Nat) : Two w (wr.setCell ⟨K, 1, none⟩ (.int .u64 V)).drew K V := by
  obtain ⟨⟨la, a0, a1, a2, a3, a4, a5, a6⟩, ⟨lb, b0, b1, b2, b3, b4, b5, b6⟩, fa, fb, lt, bel⟩ := h
  have hne : w.heap.size ≠ K := by omega
  have hne2 : K ≠ w.heap.size := by omega
  refine ⟨⟨by simpa using la, ?_⟩, ⟨by simpa using lb, ?_⟩, fun o => by simp [fa], fun o => by simp [fb], lt, (bel.setCell (by show w.heap.size ≤ K; omega) _).drew⟩
  · simp [go_sem, a0, a1, a2, a3, a4, a5, a6, hne, hne2]
  · simp only [nv] at b0 b1 b2 b3 b4 b5 b6 ⊢
    simp [go_sem, b0, b1, b2, b3, b4, b5, b6, hne, hne2]
theorem two_new {w w1 : World} (hb : Below (w.alloc zb).heap.size (w.alloc zb) w1) : Two w (w1.alloc (nb 6 0)) w1.heap.size 0 := by
  obtain ⟨hc, hf, hs, hB⟩ := cells0 hb
  have hv : HasV w1 w.heap.size (zv 0) := ⟨hs, hc⟩
  refine ⟨hv.alloc _, has_newV w1 (nv 6 0) _, fun o => ?_, fun o => by simp [nb], hs, hB.alloc (by omega) _⟩
  have := (below_box w1 (nb 6 0)).frozen (p := ⟨w.heap.size, o, none⟩) hs
  rw [this, hf]

set_option maxHeartbeats 2000000 in
set_option maxRecDepth 100000 in
theorem double_any (s : ByteArray) (hs : s.size ≤ 35184372088000) (w : World) : Calls Tryz.prog 36 #[.string s] w fun e w' => e = .returned (.tuple #[vv (doubleS s.data.toList).1, .int .i64 (doubleS s.data.toList).2]) ∧ Below w.heap.size w w' := by
  have hsi : (s.size : Int) ≤ 35184372088000 := by omega
  by_cases h1 : s.data.toList = nanL
  · have t1 : (s.toList == [110, 97, 110]) = true := by rw [ByteArray.toList_eq, h1]; rfl
    have hf : doubleS s.data.toList = (nv 6 nanN, 0) := by unfold doubleS; rw [if_pos h1]
    have Hf := Lib.hid hf
    clear hf h1 
    go_enter Tryz.func36, Tryz.ntmps36
    go_wp2_with fail
    exact bodyPost_ret (v := .tuple #[.agg #[.int .i64 6, .int .u64 9221120237041090560, .string ⟨#[]⟩, .slice none 0 0, .slice none 0 0, .slice none 0 0, .slice none 0 0], .int .i64 0]) (by simp [results, Tryz.results36, go_sem]) rfl ⟨ret_ve (by rw [Hf.out]; rfl) (by rw [Hf.out]), below_box _ _⟩
  · have t1 : (s.toList == [110, 97, 110]) = false := by rw [ByteArray.toList_eq, beq_eq_false_iff_ne]; exact h1
    by_cases h2 : s.data.toList = infL
    · have t2 : (s.toList == [105, 110, 102]) = true := by rw [ByteArray.toList_eq, h2]; rfl
      have hf : doubleS s.data.toList = (nv 6 infN, 0) := by unfold doubleS; rw [if_neg h1, if_pos h2]
      have Hf := Lib.hid hf
      clear hf h2 h1
      go_enter Tryz.func36, Tryz.ntmps36
      go_wp2_with fail
      exact bodyPost_ret (v := .tuple #[.agg #[.int .i64 6, .int .u64 9218868437227405312, .string ⟨#[]⟩, .slice none 0 0, .slice none 0 0, .slice none 0 0, .slice none 0 0], .int .i64 0]) (by simp [results, Tryz.results36, go_sem]) rfl ⟨ret_ve (by rw [Hf.out]; rfl) (by rw [Hf.out]), below_box _ _⟩
    · have t2 : (s.toList == [105, 110, 102]) = false := by rw [ByteArray.toList_eq, beq_eq_false_iff_ne]; exact h2
      by_cases h3 : s.data.toList = ninL
      · have t3 : (s.toList == [45, 105, 110, 102]) = true := by rw [ByteArray.toList_eq, h3]; rfl
        have hf : doubleS s.data.toList = (nv 6 (infN + sgnN), 0) := by unfold doubleS; rw [if_neg h1, if_neg h2, if_pos h3]
        have Hf := Lib.hid hf
        clear hf h3 h1 h2
        go_enter Tryz.func36, Tryz.ntmps36
        go_wp2_with fail
        exact bodyPost_ret (v := .tuple #[.agg #[.int .i64 6, .int .u64 18442240474082181120, .string ⟨#[]⟩, .slice none 0 0, .slice none 0 0, .slice none 0 0, .slice none 0 0], .int .i64 0]) (by simp [results, Tryz.results36, go_sem]) rfl ⟨ret_ve (by rw [Hf.out]; rfl) (by rw [Hf.out]), below_box _ _⟩
      · have t3 : (s.toList == [45, 105, 110, 102]) = false := by rw [ByteArray.toList_eq, beq_eq_false_iff_ne]; exact h3
        have hlen : s.data.toList.length = s.size := rfl
        have hx : ∀ x, doubleS s.data.toList = x ↔ (if s.size ≠ 18 ∨ s.data.toList.take 2 ≠ [48, 120] then ((zv 0, 2) : SV × Int) else bitsS (s.data.toList.drop 2)) = x := by intro x; unfold doubleS; rw [if_neg h1, if_neg h2, if_neg h3, hlen]
        clear h1 h2 h3 hlen
        by_cases hz : s.size = 18
        · have nz : ((s.size : Int) != 18) = false := by rw [hz]; rfl
          have hz2 : (2 : Int) ≤ s.size := by omega
          have htk : (s.extract 0 2).data.toList = s.data.toList.take 2 := by simp
          by_cases hp : s.data.toList.take 2 = [48, 120]
          · have np : ((s.extract 0 2).toList == [48, 120]) = true := by rw [ByteArray.toList_eq, htk, hp]; rfl
            have hdr : (s.extract 2 s.size).data.toList = s.data.toList.drop 2 := drop_data _ _
            have hx2 : ∀ x, doubleS s.data.toList = x ↔ bitsS (s.data.toList.drop 2) = x := by intro x; rw [hx, if_neg (by intro h; rcases h with h | h; exact h hz; exact h hp)]
            have hq := rUnhex_any (s.extract 2 s.size) (by rw [ByteArray.size_extract]; omega)
            rw [hdr] at hq
            have hTl : (s.data.toList.drop 2).length ≤ 35184372088000 := by rw [List.length_drop]; have : s.data.toList.length = s.size := rfl; omega
            generalize s.data.toList.drop 2 = T at hq hx2 hTl
            obtain ⟨V, hV⟩ : ∃ V : ByteArray, V = ⟨(uhT T).toArray⟩ := ⟨_, rfl⟩
            obtain ⟨E, hE⟩ : ∃ E : Int, E = uhE T := ⟨_, rfl⟩
            have hVl : V.data.toList = uhT T := by rw [hV]
            have hVs : (V.size : Int) ≤ 35184372088000 := by have h1 := uhT_len T; have h2 : V.size = V.data.toList.length := rfl; rw [hVl] at h2; omega
            rw [← hV, ← hE] at hq
            clear hx hz hp htk hdr hTl
            by_cases hE0 : E = 0
            · have Eb : (E != 0) = false := by rw [hE0]; rfl
              have hx3 : ∀ x, doubleS s.data.toList = x ↔ (if clsN (numW V.data.toList) ≤ 1 then ((zv 0, 2) : SV × Int) else (nv 6 (numW V.data.toList), 0)) = x := by intro x; rw [hx2, hVl]; unfold bitsS; rw [if_neg (by rw [← hE, hE0]; simp)]
              have Hx := Lib.hid hx3
              clear hx2 hx3 hVl hE hE0 hV
              go_enter Tryz.func36, Tryz.ntmps36
              go_wp2_with fail
              refine (hq _).mono ?_
              rintro _ w1 ⟨rfl, hb1⟩
              have Hb1 := Lib.hid hb1
              obtain ⟨⟨q0, q1, q2, q3, q4, q5, q6⟩, qf, qs, hb0⟩ := cells0 hb1
              clear hb1
              go_wp2_with fail
              go_loopw [7] (fun t wr => ∃ (k U : Nat), k ≤ V.size ∧ U ≤ 18446744073709551615 ∧ t = .int .i64 k ∧ Hid (Two w wr w1.heap.size U) ∧ Hid (U = numW (V.data.toList.take k))) (fun t _ => V.size - (intOf t).toNat)
              case atStart => exact ⟨0, 0, by omega, by omega, rfl, Lib.hid (two_new Hb1.out), Lib.hid rfl⟩
              case round =>
                obtain ⟨k, U, hk, hU, rfl, H2, HU⟩ := hrel
                clear q0 q1 q2 q3 q4 q5 q6 qf
                by_cases hlt : k < V.size
                · have hc256 : (V[k].toNat : Int) < 256 := by have := V[k].toNat_lt; omega
                  obtain ⟨P, hP⟩ : ∃ P : Nat, P = 256 * U % 18446744073709551616 := ⟨_, rfl⟩
                  obtain ⟨q, hq⟩ : ∃ q : Nat, q = (P + V[k].toNat) % 18446744073709551616 := ⟨_, rfl⟩
                  have hPl : P ≤ 18446744073709551615 := by omega
                  have hql : q ≤ 18446744073709551615 := by omega
                  have hwp : IntKind.u64.wrap (256 * (U : Int)) = (P : Int) := by rw [IntKind.wrap_u64, hP]; omega
                  have hwq : IntKind.u64.wrap ((P : Int) + V[k].toNat) = (q : Int) := by rw [IntKind.wrap_u64, hq]; omega
                  have HQ : Hid (q = numW (V.data.toList.take (k + 1))) := Lib.hid (by rw [take_snoc hlt, numW_snoc, ← HU.out, hq, hP]; omega)
                  clear hP hq
                  obtain ⟨⟨la, a0, a1, a2, a3, a4, a5, a6⟩, ⟨lb, b0, b1, b2, b3, b4, b5, b6⟩, fa, fb, lt, bel⟩ := H2.out
                  simp only [nv] at b0 b1 b2 b3 b4 b5 b6
                  simp only [zv] at a0 a1 a2 a3 a4 a5 a6
                  go_wp2_with fail
                  go_region
                  go_wp2_with fail
                  refine ⟨⟨k + 1, q, by omega, hql, by go_num, Lib.hid (H2.out.set q), HQ⟩, by simp [intOf]; omega⟩
                · obtain rfl : k = V.size := by omega
                  have hfull : V.data.toList.take V.size = V.data.toList := List.take_length
                  have hx4 := Hx.out
                  have hu := HU.out
                  rw [hfull] at hu
                  rw [← hu] at hx4
                  clear hfull hu
                  obtain ⟨⟨la, a0, a1, a2, a3, a4, a5, a6⟩, ⟨lb, b0, b1, b2, b3, b4, b5, b6⟩, fa, fb, lt, bel⟩ := H2.out
                  simp only [nv] at b0 b1 b2 b3 b4 b5 b6
                  simp only [zv] at a0 a1 a2 a3 a4 a5 a6
                  by_cases hcl : clsN U ≤ 1
                  · have dc : decide (clsN U ≤ 1) = true := by simp [hcl]
                    have hf : doubleS s.data.toList = (zv 0, 2) := by rw [hx4, if_pos hcl]
                    have Hf := Lib.hid hf
                    clear hf hx4 hcl
                    go_wp2_with fail
                    refine (class_any U _).mono ?_
                    rintro _ w2 ⟨rfl, rfl⟩
                    go_wp2_with fail
                    exact bodyPost_ret (v := .tuple #[.agg #[.int .i64 0, .int .u64 0, .string ⟨#[]⟩, .slice none 0 0, .slice none 0 0, .slice none 0 0, .slice none 0 0], .int .i64 2]) (by simp [results, Tryz.results36, go_sem, a0, a1, a2, a3, a4, a5, a6]) rfl ⟨ret_ve (by rw [Hf.out]; rfl) (by rw [Hf.out]), below7 bel (Nat.le_refl _) _ _ _ _ _ _ _⟩
                  · have dc : decide (clsN U ≤ 1) = false := by simp [hcl]
                    have hf : doubleS s.data.toList = (nv 6 U, 0) := by rw [hx4, if_neg hcl]
                    have Hf := Lib.hid hf
                    clear hf hx4 hcl
                    go_wp2_with fail
                    refine (class_any U _).mono ?_
                    rintro _ w2 ⟨rfl, rfl⟩
                    go_wp2_with fail
                    exact bodyPost_ret (v := .tuple #[.agg #[.int .i64 6, .int .u64 U, .string ⟨#[]⟩, .slice none 0 0, .slice none 0 0, .slice none 0 0, .slice none 0 0], .int .i64 0]) (by simp [results, Tryz.results36, go_sem, a0, a1, a2, a3, a4, a5, a6]) rfl ⟨ret_ve (by rw [Hf.out]; rfl) (by rw [Hf.out]), below7 bel (Nat.le_refl _) _ _ _ _ _ _ _⟩
            · have Eb : (E != 0) = true := by rw [bne_iff_ne]; exact hE0
              have hf : doubleS s.data.toList = (zv 0, 2) := by rw [hx2]; unfold bitsS; rw [if_pos (by rw [← hE]; exact hE0)]
              have Hf := Lib.hid hf
              clear hf hx2 hVl hE hE0 hV
              go_enter Tryz.func36, Tryz.ntmps36
              go_wp2_with fail
              refine (hq _).mono ?_
              rintro _ w1 ⟨rfl, hb1⟩
              obtain ⟨⟨q0, q1, q2, q3, q4, q5, q6⟩, qf, qs, hb0⟩ := cells0 hb1
              clear hb1
              go_wp2_with fail
              exact bodyPost_ret (v := .tuple #[.agg #[.int .i64 0, .int .u64 0, .string ⟨#[]⟩, .slice none 0 0, .slice none 0 0, .slice none 0 0, .slice none 0 0], .int .i64 2]) (by simp [results, Tryz.results36, go_sem, q0, q1, q2, q3, q4, q5, q6]) rfl ⟨ret_ve (by rw [Hf.out]; rfl) (by rw [Hf.out]), below7 hb0 (Nat.le_refl _) _ _ _ _ _ _ _⟩
          · have np : ((s.extract 0 2).toList == [48, 120]) = false := by rw [ByteArray.toList_eq, htk, beq_eq_false_iff_ne]; exact hp
            have hf : doubleS s.data.toList = (zv 0, 2) := by rw [hx, if_pos (.inr hp)]
            have Hf := Lib.hid hf
            clear hf hx hz hp htk
            go_enter Tryz.func36, Tryz.ntmps36
            go_wp2_with fail
            exact bodyPost_ret (v := .tuple #[.agg #[.int .i64 0, .int .u64 0, .string ⟨#[]⟩, .slice none 0 0, .slice none 0 0, .slice none 0 0, .slice none 0 0], .int .i64 2]) (by simp [results, Tryz.results36, go_sem]) rfl ⟨ret_ve (by rw [Hf.out]; rfl) (by rw [Hf.out]), below_box _ _⟩
        · have nz : ((s.size : Int) != 18) = true := by rw [bne_iff_ne]; omega
          have hf : doubleS s.data.toList = (zv 0, 2) := by rw [hx, if_pos (.inl hz)]
          have Hf := Lib.hid hf
          clear hf hx hz
          go_enter Tryz.func36, Tryz.ntmps36
          go_wp2_with fail
          exact bodyPost_ret (v := .tuple #[.agg #[.int .i64 0, .int .u64 0, .string ⟨#[]⟩, .slice none 0 0, .slice none 0 0, .slice none 0 0, .slice none 0 0], .int .i64 2]) (by simp [results, Tryz.results36, go_sem]) rfl ⟨ret_ve (by rw [Hf.out]; rfl) (by rw [Hf.out]), below_box _ _⟩
theorem doubleHas : DoubleHas doubleS := fun s hs w => double_any s hs w
theorem parse_any (k : Int) (s : ByteArray) (hs : s.size ≤ 35184372088000) (w : World) : Calls Tryz.prog 11 #[.int .i64 k, .string s] w fun e w' => e = .returned (.tuple #[vv (parseS doubleS k s.data.toList).1, .int .i64 (parseS doubleS k s.data.toList).2]) ∧ Below w.heap.size w w' := parse_of doubleHas k s hs w
end Go.Proofs.YtgjbpadhdnclnaaGreatDoor.ScaX
