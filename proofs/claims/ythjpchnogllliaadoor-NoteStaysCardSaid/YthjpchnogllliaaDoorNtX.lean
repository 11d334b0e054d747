/- awake of the laws of stage 8; comparing two values. -/
import Derived.Test.YthjpchnogllliaaDoorNtZ
set_option linter.unusedSimpArgs false
set_option linter.unusedVariables false
namespace Go.Proofs.YthjpchnogllliaaDoor.NtX
open Go.RowKit Nums UtfM UtfQ ScaM ScaV ScaB Val NotM NotK NtrB NtZ

theorem bt {a b c : World} (h : Below a.heap.size a b) (k : Below b.heap.size b c) : Below a.heap.size a c := h.trans (k.mono h.size)
def sAlias : ByteArray := ⟨#[97, 108, 105, 97, 115]⟩
def sMin : ByteArray := ⟨#[109, 105, 110]⟩
def sId : ByteArray := ⟨#[105, 100]⟩
def mA : Mn := ⟨⟨#[97, 108, 105, 97, 115]⟩, ⟨7, 0, ⟨#[105, 100]⟩, none, 0, 0, none, 0, 0, none, 0, 0, none, 0, 0⟩⟩
def mB : Mn := ⟨⟨#[109, 105, 110]⟩, ⟨3, 18446744073709551611, ⟨#[]⟩, none, 0, 0, none, 0, 0, none, 0, 0, none, 0, 0⟩⟩
theorem okA : mA.ok := by
  refine ⟨by decide, ?_, ?_, ?_, ?_, ?_, ?_, ?_⟩ <;> decide
theorem okB : mB.ok := by
  refine ⟨by decide, ?_, ?_, ?_, ?_, ?_, ?_, ?_⟩ <;> decide
theorem ok2 : ∀ m ∈ [mA, mB], m.ok := by
  intro m hm
  simp only [List.mem_cons, List.not_mem_nil, or_false] at hm
  rcases hm with rfl | rfl
  · exact okA
  · exact okB
theorem known2 (w : World) : KnN (w.alloc (.cells (fields mA ++ fields mB).toArray 42)) (.slice (some ⟨w.heap.size, 0, none⟩) 2 2) [mA, mB] := by
  refine ⟨_, 2, rfl, Nat.le_refl _, fun j m hm => ⟨_, _, rfl, by simp, C8.of fun q u hq => ?_⟩⟩
  rw [World.cell?_alloc_at _ _ _ _ rfl]
  have hq8 : q < 8 := by
    have := (List.getElem?_eq_some_iff.1 hq).1
    simpa [fields, cellsV] using this
  match j, hm with
  | 0, hm =>
    cases hm
    rw [Nat.zero_add, List.getElem?_toArray, List.getElem?_append_left (by simpa [fields, cellsV] using hq8)]
    exact hq
  | 1, hm =>
    cases hm
    rw [Nat.zero_add, List.getElem?_toArray, List.getElem?_append_right (by simp [fields, cellsV])]
    have : 1 * 8 + q - (fields mA).length = q := by simp [fields, cellsV]
    rw [this]
    exact hq
  | j + 2, hm => simp at hm
theorem a_text : noteText ([mA, mB].map Mn.nt) = [91, 97, 108, 105, 97, 115, 32, 61, 32, 34, 105, 100, 34, 44, 32, 109, 105, 110, 32, 61, 32, 45, 53, 93] := by kernel_rfl
theorem a_check : checkN ([mA, mB].map Mn.nt) 2 = 0 := by kernel_rfl
theorem a_check4 : checkN ([mA, mB].map Mn.nt) 4 = 1 := by kernel_rfl
theorem a_kind : kindN [115, 101, 99, 114, 101, 116] = 1 := by decide

set_option maxHeartbeats 2000000 in
set_option maxRecDepth 100000 in
theorem awake_any (w : World) (hL : Ld w) : Calls Tryd.prog 12 #[] w fun e w' => e = .returned (.bool true) ∧ Below w.heap.size w w' := by
  have K2 := Lib.hid (known2 w)
  go_enter Tryd.func12, Tryd.ntmps12
  go_wp2_with fail
  have hbA : Below w.heap.size w (w.alloc (.cells (fields mA ++ fields mB).toArray 42)) := (Below.refl _ _).alloc (Nat.le_refl _) _
  have HA := Lib.hid hbA
  clear hbA
  refine (ptext _ [mA, mB] _ (hL.below HA.out) K2.out (by decide) ok2).mono ?_
  rintro _ w1 ⟨rfl, hb1⟩
  rw [a_text]
  have K3 := Lib.hid (K2.out.below hb1)
  have H1 := Lib.hid (bt HA.out hb1)
  clear hb1
  go_wp2_with fail
  refine (pcheck _ [mA, mB] 2 _ (hL.below H1.out) K3.out (by decide) ok2).mono ?_
  rintro _ w2 ⟨rfl, hb2⟩
  rw [a_check]
  have K4 := Lib.hid (K3.out.below hb2)
  have H2 := Lib.hid (bt H1.out hb2)
  clear hb2
  go_wp2_with fail
  refine (pcheck _ [mA, mB] 4 _ (hL.below H2.out) K4.out (by decide) ok2).mono ?_
  rintro _ w3 ⟨rfl, hb3⟩
  rw [a_check4]
  have H3 := Lib.hid (bt H2.out hb3)
  clear hb3
  go_wp2_with fail
  refine (pkind ⟨#[115, 101, 99, 114, 101, 116]⟩ (by decide) _ (hL.below H3.out)).mono ?_
  rintro _ w4 ⟨rfl, hb4⟩
  rw [show kindN (⟨#[115, 101, 99, 114, 101, 116]⟩ : ByteArray).data.toList = 1 from a_kind]
  have H4 := Lib.hid (bt H3.out hb4)
  clear hb4
  go_wp2_with fail
  go_ret
  exact ⟨rfl, H4.out⟩
end Go.Proofs.YthjpchnogllliaaDoor.NtX
