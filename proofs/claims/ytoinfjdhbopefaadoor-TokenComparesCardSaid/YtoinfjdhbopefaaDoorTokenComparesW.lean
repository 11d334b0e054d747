import Derived.Test.YtoinfjdhbopefaaDoorTkL
import Derived.Deep.RegionHeld3
/- The walk of the law TokenCompares. -/
set_option linter.unusedSimpArgs false
set_option linter.unusedVariables false
namespace Go.Proofs.YtoinfjdhbopefaaDoor.TokenComparesW
open Go.RowKit Nums IdnM TokM TokS TokT TokU TkrD TkrE TkrF OwnT TkZ TkX TkL

theorem bt2 {a b c : World} (h : Below a.heap.size a b) (k : Below b.heap.size b c) : Below a.heap.size a c := h.trans (k.mono h.size)
/-- One token of a slice, as it lies in memory. -/
structure At4 (w : World) (b o : Nat) (kd : Int) (t : ByteArray) (nu ln : Int) : Prop where
  lt : b < w.heap.size
  c0 : w.cell? ⟨b, o, none⟩ = some (.int .i64 kd)
  c1 : w.cell? ⟨b, o + 1, none⟩ = some (.string t)
  c2 : w.cell? ⟨b, o + 2, none⟩ = some (.int .i64 nu)
  c3 : w.cell? ⟨b, o + 3, none⟩ = some (.int .i64 ln)
theorem At4.below {w w1 : World} {b o : Nat} {kd : Int} {t : ByteArray} {nu ln : Int} (h : At4 w b o kd t nu ln) (hb : Below w.heap.size w w1) : At4 w1 b o kd t nu ln := by
  have hcell : ∀ q, w1.cell? ⟨b, q, none⟩ = w.cell? ⟨b, q, none⟩ := fun q => hb.cell (p := ⟨b, q, none⟩) h.lt
  exact ⟨Nat.lt_of_lt_of_le h.lt hb.size, (hcell _).trans h.c0, (hcell _).trans h.c1, (hcell _).trans h.c2, (hcell _).trans h.c3⟩
theorem At4.drew {w : World} {b o : Nat} {kd : Int} {t : ByteArray} {nu ln : Int} (h : At4 w b o kd t nu ln) : At4 w.drew b o kd t nu ln := ⟨h.lt, h.c0, h.c1, h.c2, h.c3⟩
theorem below_dt {a b c : World} (h : Below a.heap.size a b) (k : Below b.drew.heap.size b.drew c) : Below a.heap.size a c := h.drew.trans (k.mono h.size)
theorem is_self (t : ByteArray) : isB ⟨4, t.data.toList, 0⟩ t.data.toList = true := by simp [isB]
set_option maxHeartbeats 2000000 in
set_option maxRecDepth 100000 in
theorem walk (va : Value) (la : List Mt) (vb : Value) (lb : List Mt) (s : ByteArray) (z : s.size ≤ 140737488351232) (w : World) (hka : KnT w va la) (hoka : la.length ≤ 9223372036854775807 ∧ ∀ m ∈ la, m.rng) (hkb : KnT w vb lb) (hokb : lb.length ≤ 9223372036854775807 ∧ ∀ m ∈ lb, m.rng) (hL : Ld w) :
    Calls Tryd.prog 3 #[va, vb, .string s] w fun e w' => e = .returned (.bool true) ∧ Below w.heap.size w w' := by
  have hla := hoka.1
  have hlb := hokb.1
  clear hoka hokb
  have Hka := Lib.hid hka
  have Hkb := Lib.hid hkb
  obtain ⟨a1, cap1, rfl, hcap1, hcells1⟩ := hka
  obtain ⟨a2, cap2, rfl, hcap2, hcells2⟩ := hkb
  have H1 := Lib.hid hcells1
  clear hcells1 hcells2
  go_enter Tryd.func3, Tryd.ntmps3
  go_wp2_with fail
  go_loopw [7] (fun iv wr => ∃ k : Nat, k ≤ la.length ∧ iv = .int .i64 k ∧ Hid (Below w.heap.size w wr)) (fun iv _ => la.length - (intOf iv).toNat)
  case atStart => exact ⟨0, by omega, rfl, Lib.hid (Below.refl _ _)⟩
  case round =>
    obtain ⟨k, hk, rfl, Hb0⟩ := hrel
    by_cases hlt : k < la.length
    · obtain ⟨x, hx⟩ : ∃ x, la[k]? = some x := ⟨_, List.getElem?_eq_getElem hlt⟩
      obtain ⟨kb, ko, rfl, hb, c0, c1, c2, c3⟩ := H1.out k x hx
      clear hx
      obtain ⟨kd, t, nu, ln⟩ := x
      simp only at c0 c1 c2 c3
      have hA0 : At4 w kb (ko + k * 4) kd t nu ln := ⟨hb, c0, c1, c2, c3⟩
      have hA := (hA0.below Hb0.out).drew
      clear hA0 c0 c1 c2 c3 hb
      obtain ⟨B, hB⟩ : ∃ B, B = isB ⟨kd, t.data.toList, nu⟩ s.data.toList := ⟨_, rfl⟩
      have HB := Lib.hid hB
      have eb : (B != B) = false := by simp
      clear hB
      go_wp2_with fail
      go_region_held3 (fun w' => w'.cell? ⟨kb, ko + k * 4, none⟩ = some (.int .i64 kd) ∧ w'.cell? ⟨kb, ko + k * 4 + 1, none⟩ = some (.string t) ∧ w'.cell? ⟨kb, ko + k * 4 + 2, none⟩ = some (.int .i64 nu) ∧ w'.cell? ⟨kb, ko + k * 4 + 3, none⟩ = some (.int .i64 ln)) (exact ⟨hA.c0, hA.c1, hA.c2, hA.c3⟩)
        (first
          | (go_at_call 7; refine (pis kd nu ln t s _).mono ?_; rintro _ v1 ⟨rfl, hv1⟩; rw [← HB.out]; have hA := hA.below hv1)
          | (go_at_call 8; refine (TkrF.is_any kd nu ln t s _).mono ?_; rintro _ v2 ⟨rfl, hv2⟩; rw [← HB.out]; have hA := hA.below hv2)
        )
      all_goals
        go_wp2_with fail
        exact ⟨⟨k + 1, by omega, by go_num, Lib.hid (by first | exact bt2 (below_dt Hb0.out hv1) hv2 | exact bt2 (below_dt Hb0.out hv2) hv1)⟩, by simp [intOf]; omega⟩
    · obtain rfl : k = la.length := by omega
      have hLr := hL.below Hb0.out
      have Hb := Hb0.out
      have e1 : (same la lb == same la lb) = true := by simp
      go_wp2_with fail
      refine (psame _ _ la lb _ hLr (Hka.out.below Hb) (Hkb.out.below Hb) hla hlb).mono ?_
      rintro _ w1 ⟨rfl, hb1⟩
      have hL1 := hLr.below hb1
      have Hb1 := bt2 Hb hb1
      go_wp2_with fail
      refine (TkrF.same_any _ _ la lb _ (Hka.out.below Hb1) (Hkb.out.below Hb1) hla hlb).mono ?_
      rintro _ w2 ⟨rfl, hb2⟩
      have hL2 := hL1.below hb2
      have Hb2 := bt2 Hb1 hb2
      go_wp2_with fail
      refine (psame _ _ la la _ hL2 (Hka.out.below Hb2) (Hka.out.below Hb2) hla hla).mono ?_
      rintro _ w3 ⟨rfl, hb3⟩
      rw [same_refl]
      have hL3 := hL2.below hb3
      have Hb3 := bt2 Hb2 hb3
      go_wp2_with fail
      refine (pis 4 0 0 s s _).mono ?_
      rintro _ w4 ⟨rfl, hb4⟩
      rw [is_self]
      have hL4 := hL3.below hb4
      have Hb4 := bt2 Hb3 hb4
      go_wp2_with fail
      refine (awake_any _ hL4).mono ?_
      rintro _ wa ⟨rfl, hba⟩
      go_wp2_with fail
      go_ret
      exact ⟨rfl, bt2 Hb4 hba⟩

end Go.Proofs.YtoinfjdhbopefaaDoor.TokenComparesW
