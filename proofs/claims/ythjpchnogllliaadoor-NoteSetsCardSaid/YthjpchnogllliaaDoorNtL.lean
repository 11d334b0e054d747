import Derived.Test.YthjpchnogllliaaDoorNtZ
import Derived.Test.YthjpchnogllliaaDoorNtrB
/- awake of the laws of stage 8; comparing two values. -/
set_option linter.unusedSimpArgs false
set_option linter.unusedVariables false
namespace Go.Proofs.YthjpchnogllliaaDoor.NtX
open Go.RowKit Nums UtfM UtfQ ScaM ScaV ScaB Val NotM NotK NtrB NtZ

theorem bt {a b c : World} (h : Below a.heap.size a b) (k : Below b.heap.size b c) : Below a.heap.size a c := h.trans (k.mono h.size)
def sAlias : ByteArray := ⟨#[97, 108, 105, 97, 115]⟩
def sMin : ByteArray := ⟨#[109, 105, 110]⟩
def sId : ByteArray := ⟨#[105, 100]⟩
def mA : Mn := ⟨⟨#[97, 108, 105, 97, 115]⟩, ⟨7, 0, ⟨#[105, 100]⟩, none, 0, 0, none, 0, 0, none, 0, 0, none, 0, 0⟩⟩
def mB : Mn := ⟨⟨#[109, 105, 110]⟩, ⟨3, 18446744073709551611, ⟨#[]⟩, none, 0, 0, none, 0, 0, none, 0, 0, none, 0, 0⟩⟩
theorem okA : mA.ok := by
  refine ⟨by decide, ?_, ?_, ?_, ?_, ?_, ?_, ?_⟩ <;> decide
theorem okB : mB.ok := by
  refine ⟨by decide, ?_, ?_, ?_, ?_, ?_, ?_, ?_⟩ <;> decide
theorem ok2 : ∀ m ∈ [mA, mB], m.ok := by
  intro m hm
  simp only [List.mem_cons, List.not_mem_nil, or_false] at hm
  rcases hm with rfl | rfl
  · exact okA
  · exact okB
theorem known2 (w : World) : KnN (w.alloc (.cells (fields mA ++ fields mB).toArray 42)) (.slice (some ⟨w.heap.size, 0, none⟩) 2 2) [mA, mB] := by
  refine ⟨_, 2, rfl, Nat.le_refl _, fun j m hm => ⟨_, _, rfl, by simp, C8.of fun q u hq => ?_⟩⟩
  rw [World.cell?_alloc_at _ _ _ _ rfl]
  have hq8 : q < 8 := by
    have := (List.getElem?_eq_some_iff.1 hq).1
    simpa [fields, cellsV] using this
  match j, hm with
  | 0, hm =>
    cases hm
    rw [Nat.zero_add, List.getElem?_toArray, List.getElem?_append_left (by simpa [fields, cellsV] using hq8)]
    exact hq
  | 1, hm =>
    cases hm
    rw [Nat.zero_add, List.getElem?_toArray, List.getElem?_append_right (by simp [fields, cellsV])]
    have : 1 * 8 + q - (fields mA).length = q := by simp [fields, cellsV]
    rw [this]
    exact hq
  | j + 2, hm => simp at hm
theorem a_text : noteText ([mA, mB].map Mn.nt) = [91, 97, 108, 105, 97, 115, 32, 61, 32, 34, 105, 100, 34, 44, 32, 109, 105, 110, 32, 61, 32, 45, 53, 93] := by kernel_rfl
theorem a_check : checkN ([mA, mB].map Mn.nt) 2 = 0 := by kernel_rfl
theorem a_check4 : checkN ([mA, mB].map Mn.nt) 4 = 1 := by kernel_rfl
theorem a_kind : kindN [115, 101, 99, 114, 101, 116] = 1 := by decide

set_option maxHeartbeats 2000000 in
set_option maxRecDepth 100000 in
theorem awake_any (w : World) (hL : Ld w) : Calls Tryd.prog 12 #[] w fun e w' => e = .returned (.bool true) ∧ Below w.heap.size w w' := by
  have K2 := Lib.hid (known2 w)
  go_enter Tryd.func12, Tryd.ntmps12
  go_wp2_with fail
  have hbA : Below w.heap.size w (w.alloc (.cells (fields mA ++ fields mB).toArray 42)) := (Below.refl _ _).alloc (Nat.le_refl _) _
  have HA := Lib.hid hbA
  clear hbA
  refine (ptext _ [mA, mB] _ (hL.below HA.out) K2.out (by decide) ok2).mono ?_
  rintro _ w1 ⟨rfl, hb1⟩
  rw [a_text]
  have K3 := Lib.hid (K2.out.below hb1)
  have H1 := Lib.hid (bt HA.out hb1)
  clear hb1
  go_wp2_with fail
  refine (pcheck _ [mA, mB] 2 _ (hL.below H1.out) K3.out (by decide) ok2).mono ?_
  rintro _ w2 ⟨rfl, hb2⟩
  rw [a_check]
  have K4 := Lib.hid (K3.out.below hb2)
  have H2 := Lib.hid (bt H1.out hb2)
  clear hb2
  go_wp2_with fail
  refine (pcheck _ [mA, mB] 4 _ (hL.below H2.out) K4.out (by decide) ok2).mono ?_
  rintro _ w3 ⟨rfl, hb3⟩
  rw [a_check4]
  have H3 := Lib.hid (bt H2.out hb3)
  clear hb3
  go_wp2_with fail
  refine (pkind ⟨#[115, 101, 99, 114, 101, 116]⟩ (by decide) _ (hL.below H3.out)).mono ?_
  rintro _ w4 ⟨rfl, hb4⟩
  rw [show kindN (⟨#[115, 101, 99, 114, 101, 116]⟩ : ByteArray).data.toList = 1 from a_kind]
  have H4 := Lib.hid (bt H3.out hb4)
  clear hb4
  go_wp2_with fail
  go_ret
  exact ⟨rfl, H4.out⟩
end Go.Proofs.YthjpchnogllliaaDoor.NtX

/- Comparing two values that are alike. -/
set_option linter.unusedSimpArgs false
set_option linter.unusedVariables false
namespace Go.Proofs.YthjpchnogllliaaDoor.NtL
open Go.RowKit Nums ScaM ScaV ScaB Val NotM NotK NtrB NtZ NtX

set_option maxHeartbeats 4000000 in
set_option maxRecDepth 100000 in
theorem samev2 (X Y : SV) (h : sc X = sc Y) (w : World) : Calls Tryd.prog 15 #[vv X, vv Y] w fun e w' => e = .returned (.bool true) ∧ Below w.heap.size w w' := by
  obtain ⟨pk, pb, pt, pa1, pl1, pc1, pa2, pl2, pc2, pa3, pl3, pc3, pa4, pl4, pc4⟩ := X
  obtain ⟨qk, qb, qt, qa1, ql1, qc1, qa2, ql2, qc2, qa3, ql3, qc3, qa4, ql4, qc4⟩ := Y
  simp only [sc, Sc.mk.injEq] at h
  obtain ⟨rfl, rfl, ht, rfl, rfl, rfl, rfl⟩ := h
  simp only [vv]
  have hpt : (pt.toList == qt.toList) = true := str_eq pt qt (decide_eq_true ht)
  clear ht
  go_enter Tryd.func15, Tryd.ntmps15
  go_wp2_with fail
  go_ret
  exact ⟨rfl, ((Below.refl _ _).alloc (Nat.le_refl _) _).alloc (by simp) _⟩
theorem same_refl (l : List Mn) : sameN l l = true := by simp [sameN]
theorem same_nt {a b : List Mn} (h : a.map Mn.nt = b.map Mn.nt) : sameN a b = true := by
  have hk : ∀ m : Mn, k4 m = (m.nt.nm, m.nt.v.k, m.nt.v.b, m.nt.v.t) := fun m => rfl
  have e : ∀ l : List Mn, l.map k4 = (l.map Mn.nt).map fun n => (n.nm, n.v.k, n.v.b, n.v.t) := fun l => by
    rw [List.map_map]; rfl
  unfold sameN
  rw [decide_eq_true_eq, e a, e b, h]
/-- What Find returns, from the plain annotations. -/
def findP (n : List UInt8) (l : List Nt) : Sc × Bool := match findG Nt.nm n l with
  | none => (sc (zv 0), false)
  | some y => (y.v, true)
theorem find_nt (n : List UInt8) (l : List Mn) : (sc (findV n l).1, (findV n l).2) = findP n (l.map Mn.nt) := by
  unfold findP findV
  rw [map_find (key := key) (key2 := Nt.nm) Mn.nt (fun _ => rfl)]
  cases findG key n l with
  | none => rfl
  | some m => rfl
end Go.Proofs.YthjpchnogllliaaDoor.NtL
