/- Comparing two values that are alike. -/
import Derived.Test.YthjpchnogllliaaDoorNtX
import Derived.Test.YthjpchnogllliaaDoorNtrB
set_option linter.unusedSimpArgs false
set_option linter.unusedVariables false
namespace Go.Proofs.YthjpchnogllliaaDoor.NtL
open Go.RowKit Nums ScaM ScaV ScaB Val NotM NotK NtrB NtZ NtX

set_option maxHeartbeats 4000000 in
set_option maxRecDepth 100000 in
theorem samev2 (X Y : SV) (h : sc X = sc Y) (w : World) : Calls Tryd.prog 15 #[vv X, vv Y] w fun e w' => e = .returned (.bool true) ∧ Below w.heap.size w w' := by
  obtain ⟨pk, pb, pt, pa1, pl1, pc1, pa2, pl2, pc2, pa3, pl3, pc3, pa4, pl4, pc4⟩ := X
  obtain ⟨qk, qb, qt, qa1, ql1, qc1, qa2, ql2, qc2, qa3, ql3, qc3, qa4, ql4, qc4⟩ := Y
  simp only [sc, Sc.mk.injEq] at h
  obtain ⟨rfl, rfl, ht, rfl, rfl, rfl, rfl⟩ := h
  simp only [vv]
  have hpt : (pt.toList == qt.toList) = true := str_eq pt qt (decide_eq_true ht)
  clear ht
  go_enter Tryd.func15, Tryd.ntmps15
  go_wp2_with fail
  go_ret
  exact ⟨rfl, ((Below.refl _ _).alloc (Nat.le_refl _) _).alloc (by simp) _⟩
theorem same_refl (l : List Mn) : sameN l l = true := by simp [sameN]
theorem same_nt {a b : List Mn} (h : a.map Mn.nt = b.map Mn.nt) : sameN a b = true := by
  have hk : ∀ m : Mn, k4 m = (m.nt.nm, m.nt.v.k, m.nt.v.b, m.nt.v.t) := fun m => rfl
  have e : ∀ l : List Mn, l.map k4 = (l.map Mn.nt).map fun n => (n.nm, n.v.k, n.v.b, n.v.t) := fun l => by
    rw [List.map_map]; rfl
  unfold sameN
  rw [decide_eq_true_eq, e a, e b, h]
/-- What Find returns, from the plain annotations. -/
def findP (n : List UInt8) (l : List Nt) : Sc × Bool := match findG Nt.nm n l with
  | none => (sc (zv 0), false)
  | some y => (y.v, true)
theorem find_nt (n : List UInt8) (l : List Mn) : (sc (findV n l).1, (findV n l).2) = findP n (l.map Mn.nt) := by
  unfold findP findV
  rw [map_find (key := key) (key2 := Nt.nm) Mn.nt (fun _ => rfl)]
  cases findG key n l with
  | none => rfl
  | some m => rfl
end Go.Proofs.YthjpchnogllliaaDoor.NtL
