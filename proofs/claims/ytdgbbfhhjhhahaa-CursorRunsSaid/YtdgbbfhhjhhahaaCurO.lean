/- Contracts of Open, of the program and of the reference. -/
import Derived.Test.YtdgbbfhhjhhahaaCurA
namespace Go.Proofs.Ytdgbbfhhjhhahaa.CurO
open Go.RowKit CurM Has Nums CurA

set_option maxRecDepth 100000 in
set_option maxHeartbeats 400000 in
theorem openP (s : ByteArray) (lb ld ln lt : Int) (w : World) (_hs : s.size ≤ 140737488355328) (h1 : inI lb) (h2 : inI ld) (h3 : inI ln) (h4 : inI lt) :
    Calls Try.prog 19 #[.string s, .agg #[.int .i64 lb, .int .i64 ld, .int .i64 ln, .int .i64 lt]] w (Res2 (pOpen s lb ld ln lt) w) := by
  obtain ⟨h5, h6⟩ := h1
  obtain ⟨h7, h8⟩ := h2
  obtain ⟨h9, h10⟩ := h3
  obtain ⟨h11, h12⟩ := h4
  by_cases hv : 0 ≤ lb ∧ 0 ≤ ld ∧ 0 ≤ ln ∧ 0 ≤ lt
  · by_cases hl : lb < s.size
    · have Hp : Hid (pOpen s lb ld ln lt = (⟨⟨#[]⟩, 0, 0, 0, 0, 0⟩, 3)) := Lib.hid (by unfold pOpen; rw [if_pos hv, if_pos hl])
      obtain ⟨v1, v2, v3, v4⟩ := hv
      go_enter Try.func19, Try.ntmps19
      go_wp2_with fail
      exact bodyPost_ret (v := .tuple #[cv ⟨⟨#[]⟩, 0, 0, 0, 0, 0⟩, .int .i64 3]) (by simp [results, Try.results19, go_sem]) rfl (res2_mk Hp (below2 _ _))
    · have Hp : Hid (pOpen s lb ld ln lt = (⟨s, 0, s.size, ld, ln, lt⟩, 0)) := Lib.hid (by unfold pOpen; rw [if_pos hv, if_neg hl])
      obtain ⟨v1, v2, v3, v4⟩ := hv
      go_enter Try.func19, Try.ntmps19
      go_wp2_with fail
      exact bodyPost_ret (v := .tuple #[cv ⟨s, 0, s.size, ld, ln, lt⟩, .int .i64 0]) (by simp [results, Try.results19, go_sem]) rfl (res2_mk Hp (below2 _ _))
  · have Hp : Hid (pOpen s lb ld ln lt = (⟨⟨#[]⟩, 0, 0, 0, 0, 0⟩, 1)) := Lib.hid (by unfold pOpen; rw [if_neg hv])
    have Hv := Lib.hid hv
    clear hv
    go_enter Try.func19, Try.ntmps19
    go_wp2_with fail
    all_goals
      first
        | (exfalso; have := Hv.out; omega)
        | exact bodyPost_ret (v := .tuple #[cv ⟨⟨#[]⟩, 0, 0, 0, 0, 0⟩, .int .i64 1]) (by simp [results, Try.results19, go_sem]) rfl (res2_mk Hp (below2 _ _))

set_option maxRecDepth 100000 in
set_option maxHeartbeats 400000 in
theorem openR (s : ByteArray) (lb ld ln lt : Int) (w : World) (_hs : s.size ≤ 140737488355328) (h1 : inI lb) (h2 : inI ld) (h3 : inI ln) (h4 : inI lt) :
    Calls Try.prog 20 #[.string s, .agg #[.int .i64 lb, .int .i64 ld, .int .i64 ln, .int .i64 lt]] w (Res2 (pOpen s lb ld ln lt) w) := by
  obtain ⟨h5, h6⟩ := h1
  obtain ⟨h7, h8⟩ := h2
  obtain ⟨h9, h10⟩ := h3
  obtain ⟨h11, h12⟩ := h4
  by_cases hv : 0 ≤ lb ∧ 0 ≤ ld ∧ 0 ≤ ln ∧ 0 ≤ lt
  · by_cases hl : lb < s.size
    · have Hp : Hid (pOpen s lb ld ln lt = (⟨⟨#[]⟩, 0, 0, 0, 0, 0⟩, 3)) := Lib.hid (by unfold pOpen; rw [if_pos hv, if_pos hl])
      obtain ⟨v1, v2, v3, v4⟩ := hv
      go_enter Try.func20, Try.ntmps20
      go_wp2_with fail
      exact bodyPost_ret (v := .tuple #[cv ⟨⟨#[]⟩, 0, 0, 0, 0, 0⟩, .int .i64 3]) (by simp [results, Try.results20, go_sem]) rfl (res2_mk Hp (below2 _ _))
    · have Hp : Hid (pOpen s lb ld ln lt = (⟨s, 0, s.size, ld, ln, lt⟩, 0)) := Lib.hid (by unfold pOpen; rw [if_pos hv, if_neg hl])
      obtain ⟨v1, v2, v3, v4⟩ := hv
      go_enter Try.func20, Try.ntmps20
      go_wp2_with fail
      exact bodyPost_ret (v := .tuple #[cv ⟨s, 0, s.size, ld, ln, lt⟩, .int .i64 0]) (by simp [results, Try.results20, go_sem]) rfl (res2_mk Hp (below2 _ _))
  · have Hp : Hid (pOpen s lb ld ln lt = (⟨⟨#[]⟩, 0, 0, 0, 0, 0⟩, 1)) := Lib.hid (by unfold pOpen; rw [if_neg hv])
    have Hv := Lib.hid hv
    clear hv
    go_enter Try.func20, Try.ntmps20
    go_wp2_with fail
    all_goals
      first
        | (exfalso; have := Hv.out; omega)
        | exact bodyPost_ret (v := .tuple #[cv ⟨⟨#[]⟩, 0, 0, 0, 0, 0⟩, .int .i64 1]) (by simp [results, Try.results20, go_sem]) rfl (res2_mk Hp (below2 _ _))
end Go.Proofs.Ytdgbbfhhjhhahaa.CurO
