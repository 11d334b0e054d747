import Derived.Test.YthjpchnogllliaaGreatDoorNums
import Derived.ProofKit
import Derived.Test.YthjpchnogllliaaGreatDoorNtpV
import Derived.Test.YthjpchnogllliaaGreatDoorNtpK
/- A block of eight cells: what it holds in worlds that have only grown. -/
set_option linter.unusedSimpArgs false
set_option linter.unusedVariables false
namespace Go.Proofs.YthjpchnogllliaaGreatDoor.BoxE
open Go.RowKit

structure B8 (w : World) (k : Nat) (v0 v1 v2 v3 v4 v5 v6 v7 : Value) : Prop where
  lt : k < w.heap.size
  c0 : w.cell? ⟨k, 0, none⟩ = some v0
  c1 : w.cell? ⟨k, 1, none⟩ = some v1
  c2 : w.cell? ⟨k, 2, none⟩ = some v2
  c3 : w.cell? ⟨k, 3, none⟩ = some v3
  c4 : w.cell? ⟨k, 4, none⟩ = some v4
  c5 : w.cell? ⟨k, 5, none⟩ = some v5
  c6 : w.cell? ⟨k, 6, none⟩ = some v6
  c7 : w.cell? ⟨k, 7, none⟩ = some v7
  fz : ∀ o, w.frozen? ⟨k, o, none⟩ = false
theorem b8_new (w : World) (v0 v1 v2 v3 v4 v5 v6 v7 : Value) (T : TypeId) : B8 (w.alloc (.cells #[v0, v1, v2, v3, v4, v5, v6, v7] T)) w.heap.size v0 v1 v2 v3 v4 v5 v6 v7 := by
  refine ⟨by simp, ?_, ?_, ?_, ?_, ?_, ?_, ?_, ?_, fun o => by simp⟩ <;> (rw [World.cell?_alloc_at _ _ _ _ rfl]; rfl)
section
variable {w w1 : World} {k : Nat} {v0 v1 v2 v3 v4 v5 v6 v7 : Value}
theorem B8.belowB {B : Nat} (h : B8 w k v0 v1 v2 v3 v4 v5 v6 v7) (hk : k < B) (hb : Below B w w1) : B8 w1 k v0 v1 v2 v3 v4 v5 v6 v7 := by
  have hc : ∀ o, w1.cell? ⟨k, o, none⟩ = w.cell? ⟨k, o, none⟩ := fun o => hb.cell (p := ⟨k, o, none⟩) hk
  exact ⟨Nat.lt_of_lt_of_le h.lt hb.size, (hc _).trans h.c0, (hc _).trans h.c1, (hc _).trans h.c2, (hc _).trans h.c3, (hc _).trans h.c4, (hc _).trans h.c5, (hc _).trans h.c6, (hc _).trans h.c7, fun o => (hb.frozen (p := ⟨k, o, none⟩) hk).trans (h.fz o)⟩
theorem B8.below (h : B8 w k v0 v1 v2 v3 v4 v5 v6 v7) (hb : Below w.heap.size w w1) : B8 w1 k v0 v1 v2 v3 v4 v5 v6 v7 := h.belowB h.lt hb
theorem B8.alloc (h : B8 w k v0 v1 v2 v3 v4 v5 v6 v7) (o : Obj) : B8 (w.alloc o) k v0 v1 v2 v3 v4 v5 v6 v7 := h.below ((Below.refl _ _).alloc (Nat.le_refl _) o)
theorem B8.set0 (h : B8 w k v0 v1 v2 v3 v4 v5 v6 v7) (x : Value) : B8 (w.setCell ⟨k, 0, none⟩ x) k x v1 v2 v3 v4 v5 v6 v7 :=
  ⟨by simpa using h.lt, World.cell?_setCell_same _ _ _ h.c0, (World.cell?_setCell_other _ _ _ _ (by simp)).trans h.c1, (World.cell?_setCell_other _ _ _ _ (by simp)).trans h.c2, (World.cell?_setCell_other _ _ _ _ (by simp)).trans h.c3, (World.cell?_setCell_other _ _ _ _ (by simp)).trans h.c4, (World.cell?_setCell_other _ _ _ _ (by simp)).trans h.c5, (World.cell?_setCell_other _ _ _ _ (by simp)).trans h.c6, (World.cell?_setCell_other _ _ _ _ (by simp)).trans h.c7, fun o => by rw [World.frozen?_setCell]; exact h.fz o⟩
theorem B8.set1 (h : B8 w k v0 v1 v2 v3 v4 v5 v6 v7) (x : Value) : B8 (w.setCell ⟨k, 1, none⟩ x) k v0 x v2 v3 v4 v5 v6 v7 :=
  ⟨by simpa using h.lt, (World.cell?_setCell_other _ _ _ _ (by simp)).trans h.c0, World.cell?_setCell_same _ _ _ h.c1, (World.cell?_setCell_other _ _ _ _ (by simp)).trans h.c2, (World.cell?_setCell_other _ _ _ _ (by simp)).trans h.c3, (World.cell?_setCell_other _ _ _ _ (by simp)).trans h.c4, (World.cell?_setCell_other _ _ _ _ (by simp)).trans h.c5, (World.cell?_setCell_other _ _ _ _ (by simp)).trans h.c6, (World.cell?_setCell_other _ _ _ _ (by simp)).trans h.c7, fun o => by rw [World.frozen?_setCell]; exact h.fz o⟩
theorem B8.set2 (h : B8 w k v0 v1 v2 v3 v4 v5 v6 v7) (x : Value) : B8 (w.setCell ⟨k, 2, none⟩ x) k v0 v1 x v3 v4 v5 v6 v7 :=
  ⟨by simpa using h.lt, (World.cell?_setCell_other _ _ _ _ (by simp)).trans h.c0, (World.cell?_setCell_other _ _ _ _ (by simp)).trans h.c1, World.cell?_setCell_same _ _ _ h.c2, (World.cell?_setCell_other _ _ _ _ (by simp)).trans h.c3, (World.cell?_setCell_other _ _ _ _ (by simp)).trans h.c4, (World.cell?_setCell_other _ _ _ _ (by simp)).trans h.c5, (World.cell?_setCell_other _ _ _ _ (by simp)).trans h.c6, (World.cell?_setCell_other _ _ _ _ (by simp)).trans h.c7, fun o => by rw [World.frozen?_setCell]; exact h.fz o⟩
theorem B8.set3 (h : B8 w k v0 v1 v2 v3 v4 v5 v6 v7) (x : Value) : B8 (w.setCell ⟨k, 3, none⟩ x) k v0 v1 v2 x v4 v5 v6 v7 :=
  ⟨by simpa using h.lt, (World.cell?_setCell_other _ _ _ _ (by simp)).trans h.c0, (World.cell?_setCell_other _ _ _ _ (by simp)).trans h.c1, (World.cell?_setCell_other _ _ _ _ (by simp)).trans h.c2, World.cell?_setCell_same _ _ _ h.c3, (World.cell?_setCell_other _ _ _ _ (by simp)).trans h.c4, (World.cell?_setCell_other _ _ _ _ (by simp)).trans h.c5, (World.cell?_setCell_other _ _ _ _ (by simp)).trans h.c6, (World.cell?_setCell_other _ _ _ _ (by simp)).trans h.c7, fun o => by rw [World.frozen?_setCell]; exact h.fz o⟩
theorem B8.set4 (h : B8 w k v0 v1 v2 v3 v4 v5 v6 v7) (x : Value) : B8 (w.setCell ⟨k, 4, none⟩ x) k v0 v1 v2 v3 x v5 v6 v7 :=
  ⟨by simpa using h.lt, (World.cell?_setCell_other _ _ _ _ (by simp)).trans h.c0, (World.cell?_setCell_other _ _ _ _ (by simp)).trans h.c1, (World.cell?_setCell_other _ _ _ _ (by simp)).trans h.c2, (World.cell?_setCell_other _ _ _ _ (by simp)).trans h.c3, World.cell?_setCell_same _ _ _ h.c4, (World.cell?_setCell_other _ _ _ _ (by simp)).trans h.c5, (World.cell?_setCell_other _ _ _ _ (by simp)).trans h.c6, (World.cell?_setCell_other _ _ _ _ (by simp)).trans h.c7, fun o => by rw [World.frozen?_setCell]; exact h.fz o⟩
theorem B8.set5 (h : B8 w k v0 v1 v2 v3 v4 v5 v6 v7) (x : Value) : B8 (w.setCell ⟨k, 5, none⟩ x) k v0 v1 v2 v3 v4 x v6 v7 :=
  ⟨by simpa using h.lt, (World.cell?_setCell_other _ _ _ _ (by simp)).trans h.c0, (World.cell?_setCell_other _ _ _ _ (by simp)).trans h.c1, (World.cell?_setCell_other _ _ _ _ (by simp)).trans h.c2, (World.cell?_setCell_other _ _ _ _ (by simp)).trans h.c3, (World.cell?_setCell_other _ _ _ _ (by simp)).trans h.c4, World.cell?_setCell_same _ _ _ h.c5, (World.cell?_setCell_other _ _ _ _ (by simp)).trans h.c6, (World.cell?_setCell_other _ _ _ _ (by simp)).trans h.c7, fun o => by rw [World.frozen?_setCell]; exact h.fz o⟩
theorem B8.set6 (h : B8 w k v0 v1 v2 v3 v4 v5 v6 v7) (x : Value) : B8 (w.setCell ⟨k, 6, none⟩ x) k v0 v1 v2 v3 v4 v5 x v7 :=
  ⟨by simpa using h.lt, (World.cell?_setCell_other _ _ _ _ (by simp)).trans h.c0, (World.cell?_setCell_other _ _ _ _ (by simp)).trans h.c1, (World.cell?_setCell_other _ _ _ _ (by simp)).trans h.c2, (World.cell?_setCell_other _ _ _ _ (by simp)).trans h.c3, (World.cell?_setCell_other _ _ _ _ (by simp)).trans h.c4, (World.cell?_setCell_other _ _ _ _ (by simp)).trans h.c5, World.cell?_setCell_same _ _ _ h.c6, (World.cell?_setCell_other _ _ _ _ (by simp)).trans h.c7, fun o => by rw [World.frozen?_setCell]; exact h.fz o⟩
theorem B8.set7 (h : B8 w k v0 v1 v2 v3 v4 v5 v6 v7) (x : Value) : B8 (w.setCell ⟨k, 7, none⟩ x) k v0 v1 v2 v3 v4 v5 v6 x :=
  ⟨by simpa using h.lt, (World.cell?_setCell_other _ _ _ _ (by simp)).trans h.c0, (World.cell?_setCell_other _ _ _ _ (by simp)).trans h.c1, (World.cell?_setCell_other _ _ _ _ (by simp)).trans h.c2, (World.cell?_setCell_other _ _ _ _ (by simp)).trans h.c3, (World.cell?_setCell_other _ _ _ _ (by simp)).trans h.c4, (World.cell?_setCell_other _ _ _ _ (by simp)).trans h.c5, (World.cell?_setCell_other _ _ _ _ (by simp)).trans h.c6, World.cell?_setCell_same _ _ _ h.c7, fun o => by rw [World.frozen?_setCell]; exact h.fz o⟩
end
theorem below8s {B : Nat} {a w : World} (h : Below B a w) {g : Nat} (hg : B ≤ g) (v0 v1 v2 v3 v4 v5 v6 v7 : Value) : Below B a ((((((((w.setCell ⟨g, 0, none⟩ v0).setCell ⟨g, 1, none⟩ v1).setCell ⟨g, 2, none⟩ v2).setCell ⟨g, 3, none⟩ v3).setCell ⟨g, 4, none⟩ v4).setCell ⟨g, 5, none⟩ v5).setCell ⟨g, 6, none⟩ v6).setCell ⟨g, 7, none⟩ v7) := ((((((((h.setCell (p := ⟨g, 0, none⟩) hg _).setCell (p := ⟨g, 1, none⟩) hg _).setCell (p := ⟨g, 2, none⟩) hg _).setCell (p := ⟨g, 3, none⟩) hg _).setCell (p := ⟨g, 4, none⟩) hg _).setCell (p := ⟨g, 5, none⟩) hg _).setCell (p := ⟨g, 6, none⟩) hg _).setCell (p := ⟨g, 7, none⟩) hg _)
end Go.Proofs.YthjpchnogllliaaGreatDoor.BoxE

/- The program of stage 8, reading: an annotation among tokens. -/
set_option linter.unusedSimpArgs false
set_option linter.unusedVariables false
namespace Go.Proofs.YthjpchnogllliaaGreatDoor.NtpW
open Go.RowKit Nums ScaM ScaV ScaB ScaW ScaX ScaY Val NotM NotR NotK NtrB TkrF Box NtpQ NtpR NtpU NtpV NtpA MapL BoxE

def nz : Mn := ⟨⟨#[]⟩, zv 0⟩
/-- What readNote gives. -/
def rnV (l : List Mt) (z : Int) : Mn × Int × Int :=
  if (atT l z).kd ≠ 1 then (nz, z, 2) else if kindN (atT l z).t.data.toList = 0 then (nz, z, 8)
  else if isSg (atT l (z + 1)).tok 61 = true then (⟨(atT l z).t, (rvV (kindN (atT l z).t.data.toList) l (z + 1 + 1)).1⟩, (rvV (kindN (atT l z).t.data.toList) l (z + 1 + 1)).2) else (nz, z + 1, 2)
set_option maxHeartbeats 8000000 in
set_option maxRecDepth 100000 in
theorem readNote_p (b : Nat) (v : Value) (l : List Mt) (z : Int) (w : World) (hR : Rul w b) (hk : KnT w v l) (hl : l.length ≤ 100000) (hz : 0 ≤ z ∧ z ≤ 200000) (hok : ∀ m ∈ l, m.ok) (hL : Tld.Ld w) :
    Calls Tryz.prog 17 #[.map (some b), v, .int .i64 z] w fun e w' => e = .returned (.tuple #[nn (rnV l z).1, .int .i64 (rnV l z).2.1, .int .i64 (rnV l z).2.2]) ∧ Below w.heap.size w w' := by
  have hb0 : Below w.heap.size w (w.alloc (.cells #[.string ⟨#[]⟩, .int .i64 0, .int .u64 0, .string ⟨#[]⟩, .slice none 0 0, .slice none 0 0, .slice none 0 0, .slice none 0 0] 44)) := (Below.refl _ _).alloc (Nat.le_refl _) _
  have HB0 := Lib.hid hb0
  have HL0 := Lib.hid (hL.below hb0)
  have HR0 := Lib.hid (hR.below hb0)
  have BR0 := Lib.hid (b8_new w (.string ⟨#[]⟩) (.int .i64 0) (.int .u64 0) (.string ⟨#[]⟩) (.slice none 0 0) (.slice none 0 0) (.slice none 0 0) (.slice none 0 0) 44)
  have hsz0 := World.size_alloc w (.cells #[.string ⟨#[]⟩, .int .i64 0, .int .u64 0, .string ⟨#[]⟩, .slice none 0 0, .slice none 0 0, .slice none 0 0, .slice none 0 0] 44)
  have HT : Hid (∀ (W : World) (y : Int), Below w.heap.size w W → (-9223372036854775808 ≤ y ∧ y ≤ 9223372036854775807) → Calls Tryz.prog 15 #[v, .int .i64 y] W fun e w' => e = .returned (tt (atT l y)) ∧ Below W.heap.size W w') := Lib.hid (fun W y hW hy => tokenAt_p v l y W (hk.below hW) hl hy)
  have HRV : Hid (∀ (W : World) (k : Int), Below w.heap.size w W → Tld.Ld W → Calls Tryz.prog 31 #[.int .i64 k, v, .int .i64 (z + 1 + 1)] W fun e w' => e = .returned (.tuple #[vv (rvV k l (z + 1 + 1)).1, .int .i64 (rvV k l (z + 1 + 1)).2.1, .int .i64 (rvV k l (z + 1 + 1)).2.2]) ∧ Below W.heap.size W w') := Lib.hid (fun W k hW hLW => readValue_p k v l (z + 1 + 1) W (hk.below hW) hl (by omega) hok hLW)
  have hz1 : -9223372036854775808 ≤ z ∧ z ≤ 9223372036854775807 := by omega
  have hz2 : -9223372036854775808 ≤ z + 1 ∧ z + 1 ≤ 9223372036854775807 := by omega
  obtain ⟨X, hX⟩ : ∃ X, X = rnV l z := ⟨_, rfl⟩
  rw [← hX]
  unfold rnV at hX
  have A0 := at_ok hok z
  have HT0 := Lib.hid (HT.out _ z hb0 hz1)
  obtain ⟨m, hm⟩ : ∃ m, m = atT l z := ⟨_, rfl⟩
  rw [← hm] at hX HT0 A0
  unfold tt at HT0
  clear hb0 hL hR hk hok hm
  by_cases h1 : m.kd = 1
  · have d1 : (m.kd != 1) = false := by rw [bne_eq_false_iff_eq]; exact h1
    rw [if_neg (not_not_intro h1)] at hX
    clear h1
    obtain ⟨K, hK⟩ : ∃ K, K = kindN m.t.data.toList := ⟨_, rfl⟩
    rw [← hK] at hX
    by_cases hK0 : K = 0
    · rw [if_pos hK0] at hX
      subst hX
      simp only [nn, nz, zv]
      go_enter Tryz.func17, Tryz.ntmps17
      go_wp2_with fail
      refine (HT0.out).mono ?_
      rintro _ w1 ⟨rfl, hb1⟩
      have HB1 := Lib.hid (HB0.out.trans (hb1.mono HB0.out.size))
      have hB2 := HB1.out.alloc HB1.out.size (.cells #[.int .i64 m.kd, .string m.t, .int .i64 m.nu, .int .i64 m.ln] 34)
      have hb2 : Below w1.heap.size w1 (w1.alloc (.cells #[.int .i64 m.kd, .string m.t, .int .i64 m.nu, .int .i64 m.ln] 34)) := (Below.refl _ _).alloc (Nat.le_refl _) _
      have C1 := (((BR0.out.below hb1).alloc (.cells #[.int .i64 m.kd, .string m.t, .int .i64 m.nu, .int .i64 m.ln] 34)).alloc (.cells #[.int .i64 0, .slice none 0 0] 62))
      have hR2 := (HR0.out.below hb1).below hb2
      rcases hR2.look (s := m.t) A0.1 with ⟨hk0, hl0⟩ | ⟨hk0, tb, ts, hl0, _⟩
      · have hl1 := hl0 true
        clear hl0 hk0
        rw [if_pos rfl] at hl1
        have ⟨_, p0, p1, p2, p3, p4, p5, p6, p7, pf⟩ := C1
        have hB3 := hB2.alloc hB2.size (.cells #[.int .i64 0, .slice none 0 0] 62)
        go_wp2_with fail
        have BF := ((((((((C1.set0 (.string ⟨#[]⟩)).set1 (.int .i64 0)).set2 (.int .u64 0)).set3 (.string ⟨#[]⟩)).set4 (.slice none 0 0)).set5 (.slice none 0 0)).set6 (.slice none 0 0)).set7 (.slice none 0 0))
        obtain ⟨_, q0, q1, q2, q3, q4, q5, q6, q7, _⟩ := BF
        exact bodyPost_ret (v := .tuple #[.agg #[.string ⟨#[]⟩, .int .i64 0, .int .u64 0, .string ⟨#[]⟩, .slice none 0 0, .slice none 0 0, .slice none 0 0, .slice none 0 0], .int .i64 z, .int .i64 8]) (by simp [results, Tryz.results17, go_sem, q0, q1, q2, q3, q4, q5, q6, q7]) rfl ⟨rfl, below8s hB3 (Nat.le_refl _) _ _ _ _ _ _ _ _⟩
      · exact absurd (hK.symm.trans hK0) hk0
    · have HI := Lib.hid fun W => isSign_p (atT l (z + 1)) ⟨#[61]⟩ 61 rfl W
      rw [if_neg hK0] at hX
      have HK := Lib.hid hK
      clear hK
      obtain ⟨Q, hQ⟩ : ∃ Q, isSg (atT l (z + 1)).tok 61 = Q := ⟨_, rfl⟩
      have HS := Lib.hid hQ
      rw [hQ] at hX
      clear hQ
      cases Q with
      | false =>
        rw [if_neg (by simp)] at hX
        subst hX
        simp only [nn, nz, zv]
        go_enter Tryz.func17, Tryz.ntmps17
        go_wp2_with fail
        refine (HT0.out).mono ?_
        rintro _ w1 ⟨rfl, hb1⟩
        have HB1 := Lib.hid (HB0.out.trans (hb1.mono HB0.out.size))
        have hB2 := HB1.out.alloc HB1.out.size (.cells #[.int .i64 m.kd, .string m.t, .int .i64 m.nu, .int .i64 m.ln] 34)
        have hb2 : Below w1.heap.size w1 (w1.alloc (.cells #[.int .i64 m.kd, .string m.t, .int .i64 m.nu, .int .i64 m.ln] 34)) := (Below.refl _ _).alloc (Nat.le_refl _) _
        have hR2 := (HR0.out.below hb1).below hb2
        rcases hR2.look (s := m.t) A0.1 with ⟨hk0, hl0⟩ | ⟨hk0, tb, ts, hl0, _⟩
        · exact absurd (HK.out.trans hk0) hK0
        · have hl1 := hl0 true
          rw [if_pos rfl, ← HK.out] at hl1
          unfold rl at hl1
          clear hl0 hk0 hR2
          have C2 := Lib.hid (((BR0.out.below hb1).alloc (.cells #[.int .i64 m.kd, .string m.t, .int .i64 m.nu, .int .i64 m.ln] 34)).alloc (.cells #[.int .i64 K, .slice (some ⟨tb, 0, none⟩) ts.length ts.length] 62))
          have HB3 := Lib.hid (hB2.alloc hB2.size (.cells #[.int .i64 K, .slice (some ⟨tb, 0, none⟩) ts.length ts.length] 62))
          have HL3 := Lib.hid (((HL0.out.below hb1).alloc (.cells #[.int .i64 m.kd, .string m.t, .int .i64 m.nu, .int .i64 m.ln] 34)).alloc (.cells #[.int .i64 K, .slice (some ⟨tb, 0, none⟩) ts.length ts.length] 62))
          have hcR : ((w1.alloc (.cells #[.int .i64 m.kd, .string m.t, .int .i64 m.nu, .int .i64 m.ln] 34)).alloc (.cells #[.int .i64 K, .slice (some ⟨tb, 0, none⟩) ts.length ts.length] 62)).cell? ⟨(w1.alloc (.cells #[.int .i64 m.kd, .string m.t, .int .i64 m.nu, .int .i64 m.ln] 34)).heap.size, 0, none⟩ = some (.int .i64 K) := by rw [World.cell?_alloc_at _ _ _ _ rfl]; rfl
          rw [World.size_alloc] at hcR
          have hcT0 : (w1.alloc (.cells #[.int .i64 m.kd, .string m.t, .int .i64 m.nu, .int .i64 m.ln] 34)).cell? ⟨w1.heap.size, 1, none⟩ = some (.string m.t) := by rw [World.cell?_alloc_at _ _ _ _ rfl]; rfl
          have hcT := (((Below.refl _ _).alloc (Nat.le_refl _) _ : Below (w1.alloc (.cells #[.int .i64 m.kd, .string m.t, .int .i64 m.nu, .int .i64 m.ln] 34)).heap.size (w1.alloc (.cells #[.int .i64 m.kd, .string m.t, .int .i64 m.nu, .int .i64 m.ln] 34)) ((w1.alloc (.cells #[.int .i64 m.kd, .string m.t, .int .i64 m.nu, .int .i64 m.ln] 34)).alloc (.cells #[.int .i64 K, .slice (some ⟨tb, 0, none⟩) ts.length ts.length] 62))).cell (p := ⟨w1.heap.size, 1, none⟩) (by simp)).trans hcT0
          have HcR := Lib.hid hcR
          have HcT := Lib.hid hcT
          clear hcR hcT hcT0 hb2 hB2 hb1
          go_wp2_with fail
          refine (HT.out _ (z + 1) HB3.out hz2).mono ?_
          rintro _ w2 ⟨rfl, hb2⟩
          go_wp2_with fail
          refine (HI.out _).mono ?_
          rintro _ w3 ⟨rfl, hb3⟩
          rw [HS.out]
          have hb23 : Below ((w1.alloc (.cells #[.int .i64 m.kd, .string m.t, .int .i64 m.nu, .int .i64 m.ln] 34)).alloc (.cells #[.int .i64 K, .slice (some ⟨tb, 0, none⟩) ts.length ts.length] 62)).heap.size ((w1.alloc (.cells #[.int .i64 m.kd, .string m.t, .int .i64 m.nu, .int .i64 m.ln] 34)).alloc (.cells #[.int .i64 K, .slice (some ⟨tb, 0, none⟩) ts.length ts.length] 62)) w3 := hb2.trans (hb3.mono hb2.size)
          have HB4 := Lib.hid (HB3.out.trans (hb23.mono HB3.out.size))
          have C3 := C2.out.below hb23
          have HL4 := Lib.hid (HL3.out.below hb23)
          have cR3 := (hb23.cell (p := ⟨w1.heap.size + 1, 0, none⟩) (by simp)).trans HcR.out
          have cT3 := (hb23.cell (p := ⟨w1.heap.size, 1, none⟩) (by simp; omega)).trans HcT.out
          have hlt3 : w1.heap.size < w3.heap.size := by have := hb23.size; simp only [World.size_alloc] at this; omega
          clear hb2 hb3 hb23
          have ⟨_, p0, p1, p2, p3, p4, p5, p6, p7, pf⟩ := C3
          go_wp2_with fail
          have BF := ((((((((C3.set0 (.string ⟨#[]⟩)).set1 (.int .i64 0)).set2 (.int .u64 0)).set3 (.string ⟨#[]⟩)).set4 (.slice none 0 0)).set5 (.slice none 0 0)).set6 (.slice none 0 0)).set7 (.slice none 0 0))
          obtain ⟨_, q0, q1, q2, q3, q4, q5, q6, q7, _⟩ := BF
          exact bodyPost_ret (v := .tuple #[.agg #[.string ⟨#[]⟩, .int .i64 0, .int .u64 0, .string ⟨#[]⟩, .slice none 0 0, .slice none 0 0, .slice none 0 0, .slice none 0 0], .int .i64 (z + 1), .int .i64 2]) (by simp [results, Tryz.results17, go_sem, q0, q1, q2, q3, q4, q5, q6, q7]) rfl ⟨rfl, below8s HB4.out (Nat.le_refl _) _ _ _ _ _ _ _ _⟩
      | true =>
        rw [if_pos rfl] at hX
        obtain ⟨⟨⟨xk, xb, xt, xa1, xl1, xc1, xa2, xl2, xc2, xa3, xl3, xc3, xa4, xl4, xc4⟩, zz, er⟩, hC⟩ : ∃ C, C = rvV K l (z + 1 + 1) := ⟨_, rfl⟩
        have HF := Lib.hid fun (W : World) (hW : Below w.heap.size w W) (hLW : Tld.Ld W) => HRV.out W K hW hLW
        rw [← hC] at hX HF
        simp only [vv] at HF
        subst hX
        simp only [nn]
        clear hC HRV
        go_enter Tryz.func17, Tryz.ntmps17
        go_wp2_with fail
        refine (HT0.out).mono ?_
        rintro _ w1 ⟨rfl, hb1⟩
        have HB1 := Lib.hid (HB0.out.trans (hb1.mono HB0.out.size))
        have hB2 := HB1.out.alloc HB1.out.size (.cells #[.int .i64 m.kd, .string m.t, .int .i64 m.nu, .int .i64 m.ln] 34)
        have hb2 : Below w1.heap.size w1 (w1.alloc (.cells #[.int .i64 m.kd, .string m.t, .int .i64 m.nu, .int .i64 m.ln] 34)) := (Below.refl _ _).alloc (Nat.le_refl _) _
        have hR2 := (HR0.out.below hb1).below hb2
        rcases hR2.look (s := m.t) A0.1 with ⟨hk0, hl0⟩ | ⟨hk0, tb, ts, hl0, _⟩
        · exact absurd (HK.out.trans hk0) hK0
        · have hl1 := hl0 true
          rw [if_pos rfl, ← HK.out] at hl1
          unfold rl at hl1
          clear hl0 hk0 hR2
          have C2 := Lib.hid (((BR0.out.below hb1).alloc (.cells #[.int .i64 m.kd, .string m.t, .int .i64 m.nu, .int .i64 m.ln] 34)).alloc (.cells #[.int .i64 K, .slice (some ⟨tb, 0, none⟩) ts.length ts.length] 62))
          have HB3 := Lib.hid (hB2.alloc hB2.size (.cells #[.int .i64 K, .slice (some ⟨tb, 0, none⟩) ts.length ts.length] 62))
          have HL3 := Lib.hid (((HL0.out.below hb1).alloc (.cells #[.int .i64 m.kd, .string m.t, .int .i64 m.nu, .int .i64 m.ln] 34)).alloc (.cells #[.int .i64 K, .slice (some ⟨tb, 0, none⟩) ts.length ts.length] 62))
          have hcR : ((w1.alloc (.cells #[.int .i64 m.kd, .string m.t, .int .i64 m.nu, .int .i64 m.ln] 34)).alloc (.cells #[.int .i64 K, .slice (some ⟨tb, 0, none⟩) ts.length ts.length] 62)).cell? ⟨(w1.alloc (.cells #[.int .i64 m.kd, .string m.t, .int .i64 m.nu, .int .i64 m.ln] 34)).heap.size, 0, none⟩ = some (.int .i64 K) := by rw [World.cell?_alloc_at _ _ _ _ rfl]; rfl
          rw [World.size_alloc] at hcR
          have hcT0 : (w1.alloc (.cells #[.int .i64 m.kd, .string m.t, .int .i64 m.nu, .int .i64 m.ln] 34)).cell? ⟨w1.heap.size, 1, none⟩ = some (.string m.t) := by rw [World.cell?_alloc_at _ _ _ _ rfl]; rfl
          have hcT := (((Below.refl _ _).alloc (Nat.le_refl _) _ : Below (w1.alloc (.cells #[.int .i64 m.kd, .string m.t, .int .i64 m.nu, .int .i64 m.ln] 34)).heap.size (w1.alloc (.cells #[.int .i64 m.kd, .string m.t, .int .i64 m.nu, .int .i64 m.ln] 34)) ((w1.alloc (.cells #[.int .i64 m.kd, .string m.t, .int .i64 m.nu, .int .i64 m.ln] 34)).alloc (.cells #[.int .i64 K, .slice (some ⟨tb, 0, none⟩) ts.length ts.length] 62))).cell (p := ⟨w1.heap.size, 1, none⟩) (by simp)).trans hcT0
          have HcR := Lib.hid hcR
          have HcT := Lib.hid hcT
          clear hcR hcT hcT0 hb2 hB2 hb1
          go_wp2_with fail
          refine (HT.out _ (z + 1) HB3.out hz2).mono ?_
          rintro _ w2 ⟨rfl, hb2⟩
          go_wp2_with fail
          refine (HI.out _).mono ?_
          rintro _ w3 ⟨rfl, hb3⟩
          rw [HS.out]
          have hb23 : Below ((w1.alloc (.cells #[.int .i64 m.kd, .string m.t, .int .i64 m.nu, .int .i64 m.ln] 34)).alloc (.cells #[.int .i64 K, .slice (some ⟨tb, 0, none⟩) ts.length ts.length] 62)).heap.size ((w1.alloc (.cells #[.int .i64 m.kd, .string m.t, .int .i64 m.nu, .int .i64 m.ln] 34)).alloc (.cells #[.int .i64 K, .slice (some ⟨tb, 0, none⟩) ts.length ts.length] 62)) w3 := hb2.trans (hb3.mono hb2.size)
          have HB4 := Lib.hid (HB3.out.trans (hb23.mono HB3.out.size))
          have C3 := C2.out.below hb23
          have HL4 := Lib.hid (HL3.out.below hb23)
          have cR3 := (hb23.cell (p := ⟨w1.heap.size + 1, 0, none⟩) (by simp)).trans HcR.out
          have cT3 := (hb23.cell (p := ⟨w1.heap.size, 1, none⟩) (by simp; omega)).trans HcT.out
          have hlt3 : w1.heap.size < w3.heap.size := by have := hb23.size; simp only [World.size_alloc] at this; omega
          clear hb2 hb3 hb23
          go_wp2_with fail
          refine (HF.out _ HB4.out HL4.out).mono ?_
          rintro _ w4 ⟨rfl, hb4⟩
          have HB5 := Lib.hid (HB4.out.trans (hb4.mono HB4.out.size))
          have C4 := (C3.below hb4).alloc (.cells #[.int .i64 xk, .int .u64 xb, .string xt, .slice xa1 xl1 xc1, .slice xa2 xl2 xc2, .slice xa3 xl3 xc3, .slice xa4 xl4 xc4] 42)
          have cT4 := (((Below.refl _ _).alloc (Nat.le_refl _) _ : Below w4.heap.size w4 (w4.alloc (.cells #[.int .i64 xk, .int .u64 xb, .string xt, .slice xa1 xl1 xc1, .slice xa2 xl2 xc2, .slice xa3 xl3 xc3, .slice xa4 xl4 xc4] 42))).cell (p := ⟨w1.heap.size, 1, none⟩) (Nat.lt_of_lt_of_le hlt3 hb4.size)).trans ((hb4.cell (p := ⟨w1.heap.size, 1, none⟩) hlt3).trans cT3)
          have hB6 := HB5.out.alloc HB5.out.size (.cells #[.int .i64 xk, .int .u64 xb, .string xt, .slice xa1 xl1 xc1, .slice xa2 xl2 xc2, .slice xa3 xl3 xc3, .slice xa4 xl4 xc4] 42)
          clear hb4 cT3 cR3 C3
          have ⟨_, p0, p1, p2, p3, p4, p5, p6, p7, pf⟩ := C4
          go_wp2_with fail
          have BF := ((((((((C4.set0 (.string m.t)).set1 (.int .i64 xk)).set2 (.int .u64 xb)).set3 (.string xt)).set4 (.slice xa1 xl1 xc1)).set5 (.slice xa2 xl2 xc2)).set6 (.slice xa3 xl3 xc3)).set7 (.slice xa4 xl4 xc4))
          obtain ⟨_, q0, q1, q2, q3, q4, q5, q6, q7, _⟩ := BF
          exact bodyPost_ret (v := .tuple #[.agg #[.string m.t, .int .i64 xk, .int .u64 xb, .string xt, .slice xa1 xl1 xc1, .slice xa2 xl2 xc2, .slice xa3 xl3 xc3, .slice xa4 xl4 xc4], .int .i64 zz, .int .i64 er]) (by simp [results, Tryz.results17, go_sem, q0, q1, q2, q3, q4, q5, q6, q7]) rfl ⟨rfl, below8s hB6 (Nat.le_refl _) _ _ _ _ _ _ _ _⟩
  · have d1 : (m.kd != 1) = true := by rw [bne_iff_ne]; exact h1
    rw [if_pos h1] at hX
    subst hX
    simp only [nn, nz, zv]
    clear h1
    go_enter Tryz.func17, Tryz.ntmps17
    go_wp2_with fail
    refine (HT0.out).mono ?_
    rintro _ w1 ⟨rfl, hb1⟩
    have HB1 := Lib.hid (HB0.out.trans (hb1.mono HB0.out.size))
    have hB2 := HB1.out.alloc HB1.out.size (.cells #[.int .i64 m.kd, .string m.t, .int .i64 m.nu, .int .i64 m.ln] 34)
    have C1 := (BR0.out.below hb1).alloc (.cells #[.int .i64 m.kd, .string m.t, .int .i64 m.nu, .int .i64 m.ln] 34)
    have ⟨_, p0, p1, p2, p3, p4, p5, p6, p7, pf⟩ := C1
    go_wp2_with fail
    have BF := ((((((((C1.set0 (.string ⟨#[]⟩)).set1 (.int .i64 0)).set2 (.int .u64 0)).set3 (.string ⟨#[]⟩)).set4 (.slice none 0 0)).set5 (.slice none 0 0)).set6 (.slice none 0 0)).set7 (.slice none 0 0))
    obtain ⟨_, q0, q1, q2, q3, q4, q5, q6, q7, _⟩ := BF
    exact bodyPost_ret (v := .tuple #[.agg #[.string ⟨#[]⟩, .int .i64 0, .int .u64 0, .string ⟨#[]⟩, .slice none 0 0, .slice none 0 0, .slice none 0 0, .slice none 0 0], .int .i64 z, .int .i64 2]) (by simp [results, Tryz.results17, go_sem, q0, q1, q2, q3, q4, q5, q6, q7]) rfl ⟨rfl, below8s hB2 (Nat.le_refl _) _ _ _ _ _ _ _ _⟩
end Go.Proofs.YthjpchnogllliaaGreatDoor.NtpW
