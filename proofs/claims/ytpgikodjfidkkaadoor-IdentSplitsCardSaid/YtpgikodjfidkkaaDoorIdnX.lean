/- The contract of awake of the laws of package ident: the results that the document fixes. -/
import Derived.Test.YtpgikodjfidkkaaDoorIdpR
import Derived.Test.YtpgikodjfidkkaaDoorIdpC
set_option linter.unusedSimpArgs false
set_option linter.unusedVariables false
namespace Go.Proofs.YtpgikodjfidkkaaDoor.IdnX
open Go.RowKit Nums IdnM IdnC Uld IdpA IdpB IdpR IdpC OwnS KnS

theorem sc1 : scB (⟨#[97, 46, 98, 46, 67]⟩ : ByteArray) = ⟨#[97, 46, 98]⟩ := data_inj (by rw [scB_data]; decide)
theorem sc2 : scB (⟨#[97, 46, 98]⟩ : ByteArray) = ⟨#[97]⟩ := data_inj (by rw [scB_data]; decide)
theorem sc3 : scB (⟨#[97]⟩ : ByteArray) = ⟨#[]⟩ := data_inj (by rw [scB_data]; decide)
theorem la1 : laB (⟨#[97, 46, 98, 46, 67]⟩ : ByteArray) = ⟨#[67]⟩ := data_inj (by rw [laB_data]; decide)
theorem ups0 : upsB (⟨#[]⟩ : ByteArray) = [⟨#[]⟩] := upsB_nil rfl
theorem ups3 : upsB (⟨#[97]⟩ : ByteArray) = [⟨#[97]⟩, ⟨#[]⟩] := by rw [upsB_cons (by decide), sc3, ups0]
theorem ups2 : upsB (⟨#[97, 46, 98]⟩ : ByteArray) = [⟨#[97, 46, 98]⟩, ⟨#[97]⟩, ⟨#[]⟩] := by rw [upsB_cons (by decide), sc2, ups3]
theorem ups1 : upsB (⟨#[97, 46, 98, 46, 67]⟩ : ByteArray) = [⟨#[97, 46, 98, 46, 67]⟩, ⟨#[97, 46, 98]⟩, ⟨#[97]⟩, ⟨#[]⟩] := by rw [upsB_cons (by decide), sc1, ups2]
theorem join1 : joinB (⟨#[97]⟩ : ByteArray) ⟨#[98]⟩ = ⟨#[97, 46, 98]⟩ := data_inj (by rw [joinB_data (by decide)]; decide)
theorem join2 : joinB (⟨#[97]⟩ : ByteArray) ⟨#[68]⟩ = ⟨#[97, 46, 68]⟩ := data_inj (by rw [joinB_data (by decide)]; decide)
theorem join3 : joinB (⟨#[97, 46, 98]⟩ : ByteArray) ⟨#[68]⟩ = ⟨#[97, 46, 98, 46, 68]⟩ := data_inj (by rw [joinB_data (by decide)]; decide)
theorem ne_of_data {a b : ByteArray} (h : a.data.toList ≠ b.data.toList) : a ≠ b := fun e => h (by rw [e])
theorem means1 : means (⟨#[97, 46, 98]⟩ : ByteArray) ⟨#[68]⟩ [⟨#[68]⟩, ⟨#[97, 46, 68]⟩] = some ⟨#[97, 46, 68]⟩ := by
  unfold means
  rw [if_neg (by decide)]
  unfold IdnM.look
  rw [ups2]
  have h3 : has [⟨#[68]⟩, ⟨#[97, 46, 68]⟩] ⟨#[97, 46, 98, 46, 68]⟩ = false := by
    cases h : has [⟨#[68]⟩, ⟨#[97, 46, 68]⟩] ⟨#[97, 46, 98, 46, 68]⟩ with
    | false => rfl
    | true =>
      have := has_iff.1 h
      simp only [List.mem_cons, List.not_mem_nil, or_false] at this
      rcases this with e | e
      · exact absurd e (ne_of_data (by decide))
      · exact absurd e (ne_of_data (by decide))
  have h2 : has [⟨#[68]⟩, ⟨#[97, 46, 68]⟩] ⟨#[97, 46, 68]⟩ = true := has_iff.2 (by simp)
  simp only [List.map_cons, List.map_nil, join2, join3]
  rw [List.find?_cons_of_neg (by rw [h3]; simp), List.find?_cons_of_pos h2]
theorem wd1 : word (⟨#[114, 112, 99]⟩ : ByteArray).toList = true := by rw [ByteArray.toList_eq]; decide
theorem wd2 : word (⟨#[97]⟩ : ByteArray).toList = false := by rw [ByteArray.toList_eq]; decide
theorem c1 : camel (⟨#[117, 115, 101, 114, 95, 105, 100]⟩ : ByteArray).data.toList = [85, 115, 101, 114, 73, 100] := by decide
theorem c2 : snake (⟨#[85, 115, 101, 114, 73, 100]⟩ : ByteArray).data.toList = [117, 115, 101, 114, 95, 105, 100] := by decide

theorem bt {a b c : World} (h : Below a.heap.size a b) (k : Below b.heap.size b c) : Below a.heap.size a c := h.trans (k.mono h.size)

set_option maxHeartbeats 2000000 in
set_option maxRecDepth 100000 in
theorem awake_any (w : World) (hL : Ld w) : Calls Tryd.prog 10 #[] w fun e w' => e = .returned (.bool true) ∧ Below w.heap.size w w' := by
  go_enter Tryd.func10, Tryd.ntmps10
  go_wp2_with fail
  refine (up_any ⟨#[97, 46, 98, 46, 67]⟩ (by decide) _).mono ?_
  rintro _ w1 ⟨v1, rfl, hown, b1⟩
  rw [ups1] at hown
  obtain ⟨g, cap, rfl, hg0, hg, hcap, hcells⟩ := hown.at (by simp)
  have hc1 : w1.cell? ⟨g, 1, none⟩ = some (.string ⟨#[97, 46, 98]⟩) := hcells 1 _ rfl
  simp only [List.length_cons, List.length_nil] at hcap
  have hL1 := hL.below b1
  clear hown hcells
  go_wp2_with fail
  refine (split_def ⟨#[97, 46, 98, 46, 67]⟩ (by decide) _).mono ?_
  rintro _ w2 ⟨rfl, b2⟩
  rw [sc1, la1]
  have hc2 := (b2.cell (p := ⟨g, 1, none⟩) hg).trans hc1
  have hg2 := Nat.lt_of_lt_of_le hg b2.size
  have hL2 := hL1.below b2
  have hb2 := bt b1 b2
  clear hc1 hg hL1 b1 b2
  go_wp2_with fail
  have b3 : Below w2.heap.size w2 (w2.alloc (.cells #[.string ⟨#[68]⟩, .string ⟨#[97, 46, 68]⟩] 9)) := (Below.refl _ _).alloc (Nat.le_refl _) _
  have hk : Kn (w2.alloc (.cells #[.string ⟨#[68]⟩, .string ⟨#[97, 46, 68]⟩] 9)) (.slice (some ⟨w2.heap.size, 0, none⟩) 2 2) [⟨#[68]⟩, ⟨#[97, 46, 68]⟩] := by
    refine ⟨_, 2, rfl, Nat.le_refl _, fun j x hx => ⟨w2.heap.size, 0, rfl, by simp, ?_⟩⟩
    rw [Nat.zero_add, Lib.cell_of_heap (heap_alloc_new w2 _)]
    match j, hx with
    | 0, hx => simp at hx; subst hx; rfl
    | 1, hx => simp at hx; subst hx; rfl
  refine (resolve_any ⟨#[97, 46, 98]⟩ ⟨#[68]⟩ _ _ _ hk (by
    intro x hx
    simp only [List.mem_cons, List.not_mem_nil, or_false] at hx
    rcases hx with rfl | rfl <;> decide) (by decide)).mono ?_
  rintro _ w3 ⟨rfl, rfl⟩
  rw [means1]
  have hc3 := (b3.cell (p := ⟨g, 1, none⟩) hg2).trans hc2
  have hL3 := hL2.below b3
  have hb3 := bt hb2 b3
  have hg3 := Nat.lt_of_lt_of_le hg2 b3.size
  clear hc2 hL2 hb2 b3 hk hg2
  generalize (w2.alloc (.cells #[.string ⟨#[68]⟩, .string ⟨#[97, 46, 68]⟩] 9)) = w3 at *
  go_wp2_with fail
  refine (isPart_any ⟨#[97, 95, 49]⟩ _).mono ?_
  rintro _ w4 ⟨rfl, rfl⟩
  rw [show nmp (⟨#[97, 95, 49]⟩ : ByteArray).data.toList = true by decide]
  go_wp2_with fail
  refine (isPart_any ⟨#[49, 97]⟩ _).mono ?_
  rintro _ w4 ⟨rfl, rfl⟩
  rw [show nmp (⟨#[49, 97]⟩ : ByteArray).data.toList = false by decide]
  go_wp2_with fail
  refine (isFull_any ⟨#[97, 46, 66, 50]⟩ _ hL3).mono ?_
  rintro _ w4 ⟨rfl, b4⟩
  rw [show full (⟨#[97, 46, 66, 50]⟩ : ByteArray).data.toList = true by decide]
  have hc4 := (b4.cell (p := ⟨g, 1, none⟩) hg3).trans hc3
  have hL4 := hL3.below b4
  have hb4 := bt hb3 b4
  have hg4 := Nat.lt_of_lt_of_le hg3 b4.size
  clear hc3 hL3 hb3 b4 hg3
  go_wp2_with fail
  refine (isFull_any ⟨#[46, 97]⟩ _ hL4).mono ?_
  rintro _ w5 ⟨rfl, b5⟩
  rw [show full (⟨#[46, 97]⟩ : ByteArray).data.toList = false by decide]
  have hc5 := (b5.cell (p := ⟨g, 1, none⟩) hg4).trans hc4
  have hL5 := hL4.below b5
  have hb5 := bt hb4 b5
  clear hc4 hL4 hb4 b5 hg4
  go_wp2_with fail
  refine (isWord_any ⟨#[114, 112, 99]⟩ _).mono ?_
  rintro _ w6 ⟨rfl, rfl⟩
  rw [wd1]
  go_wp2_with fail
  refine (isWord_any ⟨#[97]⟩ _).mono ?_
  rintro _ w6 ⟨rfl, rfl⟩
  rw [wd2]
  go_wp2_with fail
  refine (join_any ⟨#[97]⟩ ⟨#[98]⟩ (by decide) (by decide) _).mono ?_
  rintro _ w6 ⟨rfl, rfl⟩
  rw [join1]
  go_wp2_with fail
  refine (camel_any ⟨#[117, 115, 101, 114, 95, 105, 100]⟩ _ hL5).mono ?_
  rintro _ w6 ⟨rfl, b6⟩
  rw [c1]
  have hb6 := bt hb5 b6
  go_wp2_with fail
  refine (snake_any ⟨#[85, 115, 101, 114, 73, 100]⟩ _).mono ?_
  rintro _ w7 ⟨rfl, b7⟩
  rw [c2]
  go_wp2_with fail
  go_ret
  exact ⟨rfl, bt hb6 b7⟩
end Go.Proofs.YtpgikodjfidkkaaDoor.IdnX
