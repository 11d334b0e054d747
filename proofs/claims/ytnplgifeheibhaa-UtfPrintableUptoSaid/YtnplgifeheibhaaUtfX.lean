/- The contract of awake of the laws of package utf: the results that the document fixes. -/
import Derived.Test.YtnplgifeheibhaaUtfA
import Derived.Test.YtnplgifeheibhaaUtfE
set_option linter.unusedSimpArgs false
set_option linter.unusedVariables false
namespace Go.Proofs.Ytnplgifeheibhaa.UtfX
open Go.RowKit Nums Byt UtfM UtfS UtfQ UtfA UtfH UtfP UtfE

theorem parts1 : parts [97, 195, 169] = [[97], [195, 169]] := by
  rw [parts_cons (by decide), show stp [97, 195, 169] = 1 from by decide, show List.drop 1 [97, 195, 169] = ([195, 169] : List UInt8) from rfl, parts_cons (by decide), show stp [195, 169] = 2 from by decide, show List.drop 2 [195, 169] = ([] : List UInt8) from rfl, parts_nil]
  rfl
theorem parts2 : parts [97, 195, 40] = [[97], [195], [40]] := by
  rw [parts_cons (by decide), show stp [97, 195, 40] = 1 from by decide, show List.drop 1 [97, 195, 40] = ([195, 40] : List UInt8) from rfl, parts_cons (by decide), show stp [195, 40] = 1 from by decide, show List.drop 1 [195, 40] = ([40] : List UInt8) from rfl,
    parts_cons (by decide), show stp [40] = 1 from by decide, show List.drop 1 [40] = ([] : List UInt8) from rfl, parts_nil]
  rfl
theorem parts3 : parts [237, 160, 128] = [[237], [160], [128]] := by
  rw [parts_cons (by decide), show stp [237, 160, 128] = 1 from by decide, show List.drop 1 [237, 160, 128] = ([160, 128] : List UInt8) from rfl, parts_cons (by decide), show stp [160, 128] = 1 from by decide, show List.drop 1 [160, 128] = ([128] : List UInt8) from rfl,
    parts_cons (by decide), show stp [128] = 1 from by decide, show List.drop 1 [128] = ([] : List UInt8) from rfl, parts_nil]
  rfl
theorem parts4 : parts [97, 34, 10, 0, 255] = [[97], [34], [10], [0], [255]] := by
  rw [parts_cons (by decide), show stp [97, 34, 10, 0, 255] = 1 from by decide, show List.drop 1 [97, 34, 10, 0, 255] = ([34, 10, 0, 255] : List UInt8) from rfl, parts_cons (by decide), show stp [34, 10, 0, 255] = 1 from by decide, show List.drop 1 [34, 10, 0, 255] = ([10, 0, 255] : List UInt8) from rfl,
    parts_cons (by decide), show stp [10, 0, 255] = 1 from by decide, show List.drop 1 [10, 0, 255] = ([0, 255] : List UInt8) from rfl, parts_cons (by decide), show stp [0, 255] = 1 from by decide, show List.drop 1 [0, 255] = ([255] : List UInt8) from rfl,
    parts_cons (by decide), show stp [255] = 1 from by decide, show List.drop 1 [255] = ([] : List UInt8) from rfl, parts_nil]
  rfl
theorem parts5 : parts [97] = [[97]] := by
  rw [parts_cons (by decide), show stp [97] = 1 from by decide, show List.drop 1 [97] = ([] : List UInt8) from rfl, parts_nil]
  rfl
theorem quote5 : quote [97] = [34, 97, 34] := by
  unfold quote body; rw [parts5]; rfl
theorem v1 : unquote [34, 97, 34, 32, 98] = ([97], 3, 0) := by
  have h := unquote_quote [97] [32, 98]
  rw [quote5] at h
  exact h
theorem v2 : unquote [34, 97] = ([], 0, 2) := by
  have hs : scan [97] = none := by rw [scan_plain [] (by decide) (by decide), scan_nil]; rfl
  have : unescape [34, 97] = ([], 0) := by unfold unescape; simp only [if_true]; rw [hs]
  unfold unquote; rw [this]; rfl
theorem v3 : uhT [48, 48, 97, 98] = [0, 171] ∧ uhE [48, 48, 97, 98] = 0 := by decide
theorem v4 : uhT [48] = [] ∧ uhE [48] = 2 := by decide
theorem v5 : bad [97, 195, 169] = -1 := by unfold bad; rw [parts1]; decide
theorem v6 : bad [97, 195, 40] = 1 := by unfold bad; rw [parts2]; decide
theorem v7 : count [237, 160, 128] = 3 := by unfold count; rw [parts3]; rfl
theorem v8 : quote [97, 34, 10, 0, 255] = [34, 97, 92, 34, 92, 110, 92, 120, 48, 48, 92, 120, 102, 102, 34] := by unfold quote body; rw [parts4]; decide
theorem v9 : hexL [0, 171] = [48, 48, 97, 98] := by decide

theorem a1 (w : World) : Calls Try.prog 20 #[.string ⟨#[34, 97, 34, 32, 98]⟩] w fun e w' => e = .returned (.tuple #[.string ⟨#[97]⟩, .int .i64 3, .int .i64 0]) ∧ Below w.heap.size w w' :=
  (unquote_any ⟨#[34, 97, 34, 32, 98]⟩ (by decide) w).mono fun _ _ ⟨h1, h2⟩ => ⟨h1.trans (by rw [show unquote (⟨#[34, 97, 34, 32, 98]⟩ : ByteArray).data.toList = _ from v1]; rfl), h2⟩
theorem a2 (w : World) : Calls Try.prog 20 #[.string ⟨#[34, 97]⟩] w fun e w' => e = .returned (.tuple #[.string ⟨#[]⟩, .int .i64 0, .int .i64 2]) ∧ Below w.heap.size w w' :=
  (unquote_any ⟨#[34, 97]⟩ (by decide) w).mono fun _ _ ⟨h1, h2⟩ => ⟨h1.trans (by rw [show unquote (⟨#[34, 97]⟩ : ByteArray).data.toList = _ from v2]; rfl), h2⟩
theorem a3 (w : World) : Calls Try.prog 22 #[.string ⟨#[48, 48, 97, 98]⟩] w fun e w' => e = .returned (.tuple #[.string ⟨#[0, 171]⟩, .int .i64 0]) ∧ Below w.heap.size w w' :=
  (unhex_any ⟨#[48, 48, 97, 98]⟩ (by decide) w).mono fun _ _ ⟨h1, h2⟩ => ⟨h1.trans (by rw [show uhT (⟨#[48, 48, 97, 98]⟩ : ByteArray).data.toList = _ from v3.1, show uhE (⟨#[48, 48, 97, 98]⟩ : ByteArray).data.toList = _ from v3.2]), h2⟩
theorem a4 (w : World) : Calls Try.prog 22 #[.string ⟨#[48]⟩] w fun e w' => e = .returned (.tuple #[.string ⟨#[]⟩, .int .i64 2]) ∧ Below w.heap.size w w' :=
  (unhex_any ⟨#[48]⟩ (by decide) w).mono fun _ _ ⟨h1, h2⟩ => ⟨h1.trans (by rw [show uhT (⟨#[48]⟩ : ByteArray).data.toList = _ from v4.1, show uhE (⟨#[48]⟩ : ByteArray).data.toList = _ from v4.2]), h2⟩
theorem a5 (w : World) : Calls Try.prog 12 #[.string ⟨#[97, 195, 169]⟩] w fun e w' => e = .returned (.bool true) ∧ Below w.heap.size w w' :=
  (valid_any ⟨#[97, 195, 169]⟩ (by decide) w).mono fun _ _ ⟨h1, h2⟩ => ⟨h1.trans (by rw [show bad (⟨#[97, 195, 169]⟩ : ByteArray).data.toList = _ from v5]; rfl), h2⟩
theorem a6 (w : World) : Calls Try.prog 14 #[.string ⟨#[97, 195, 40]⟩] w fun e w' => e = .returned (.int .i64 1) ∧ Below w.heap.size w w' :=
  (bad_any ⟨#[97, 195, 40]⟩ (by decide) w).mono fun _ _ ⟨h1, h2⟩ => ⟨h1.trans (by rw [show bad (⟨#[97, 195, 40]⟩ : ByteArray).data.toList = _ from v6]), h2⟩
theorem a7 (w : World) : Calls Try.prog 16 #[.string ⟨#[237, 160, 128]⟩] w fun e w' => e = .returned (.int .i64 3) ∧ Below w.heap.size w w' :=
  (count_any ⟨#[237, 160, 128]⟩ (by decide) w).mono fun _ _ ⟨h1, h2⟩ => ⟨h1.trans (by rw [show count (⟨#[237, 160, 128]⟩ : ByteArray).data.toList = _ from v7]; rfl), h2⟩
theorem a8 (w : World) : Calls Try.prog 18 #[.string ⟨#[97, 34, 10, 0, 255]⟩] w fun e w' => e = .returned (.string ⟨#[34, 97, 92, 34, 92, 110, 92, 120, 48, 48, 92, 120, 102, 102, 34]⟩) ∧ Below w.heap.size w w' :=
  (quote_any ⟨#[97, 34, 10, 0, 255]⟩ (by decide) w).mono fun _ _ ⟨h1, h2⟩ => ⟨h1.trans (by rw [show quote (⟨#[97, 34, 10, 0, 255]⟩ : ByteArray).data.toList = _ from v8]), h2⟩
theorem a9 (w : World) : Calls Try.prog 24 #[.string ⟨#[0, 171]⟩] w fun e w' => e = .returned (.string ⟨#[48, 48, 97, 98]⟩) ∧ Below w.heap.size w w' :=
  (hex_any ⟨#[0, 171]⟩ (by decide) w).mono fun _ _ ⟨h1, h2⟩ => ⟨h1.trans (by rw [show hexL (⟨#[0, 171]⟩ : ByteArray).data.toList = _ from v9]), h2⟩

theorem bt {a b c : World} (h : Below a.heap.size a b) (k : Below b.heap.size b c) : Below a.heap.size a c := h.trans (k.mono h.size)

set_option maxHeartbeats 2000000 in
set_option maxRecDepth 100000 in
theorem awake_any (w : World) : Calls Try.prog 11 #[] w fun e w' => e = .returned (.bool true) ∧ Below w.heap.size w w' := by
  go_enter Try.func11, Try.ntmps11
  go_wp2_with fail
  refine (a1 _).mono ?_
  rintro _ w1 ⟨rfl, b1⟩
  go_wp2_with fail
  refine (a2 _).mono ?_
  rintro _ w2 ⟨rfl, b2⟩
  go_wp2_with fail
  refine (a3 _).mono ?_
  rintro _ w3 ⟨rfl, b3⟩
  go_wp2_with fail
  refine (a4 _).mono ?_
  rintro _ w4 ⟨rfl, b4⟩
  go_wp2_with fail
  refine (a5 _).mono ?_
  rintro _ w5 ⟨rfl, b5⟩
  go_wp2_with fail
  refine (a6 _).mono ?_
  rintro _ w6 ⟨rfl, b6⟩
  go_wp2_with fail
  refine (a7 _).mono ?_
  rintro _ w7 ⟨rfl, b7⟩
  go_wp2_with fail
  refine (a8 _).mono ?_
  rintro _ w8 ⟨rfl, b8⟩
  go_wp2_with fail
  refine (a9 _).mono ?_
  rintro _ w9 ⟨rfl, b9⟩
  go_wp2_with fail
  go_ret
  exact ⟨rfl, bt (bt (bt (bt (bt (bt (bt (bt b1 b2) b3) b4) b5) b6) b7) b8) b9⟩
end Go.Proofs.Ytnplgifeheibhaa.UtfX
