/- awake of the laws of stage 7, and what two scans of one text have in common. -/
import Derived.Test.YtoinfjdhbopefaaGreatDoorTkZ
set_option linter.unusedSimpArgs false
set_option linter.unusedVariables false
namespace Go.Proofs.YtoinfjdhbopefaaGreatDoor.TkX
open Go.RowKit Nums IdnM TokM TokD TokS TokT TokU TkrD TkrE TkrF OwnT TkZ

theorem bt {a b c : World} (h : Below a.heap.size a b) (k : Below b.heap.size b c) : Below a.heap.size a c := h.trans (k.mono h.size)

/-- What a scan leaves, told apart. -/
theorem sr_parts {s : ByteArray} {w : World} {v : Value} {line er : Int} (h : SR s w v line er) (hs : s.size ≤ 16384) :
    (∃ e, scanT 1 s.data.toList = .error e ∧ KnT w v [] ∧ line = e.1 ∧ er = e.2) ∨ (∃ P, scanT 1 s.data.toList = .ok P ∧ line = 0 ∧ er = 0 ∧ KnT w v (P.map mk) ∧ ∀ p ∈ P, (mk p).ok) := by
  unfold SR at h
  rw [if_neg (by omega)] at h
  cases hx : scanT 1 s.data.toList with
  | error e => rw [hx] at h; exact .inl ⟨e, rfl, h⟩
  | ok P => rw [hx] at h; exact .inr ⟨P, rfl, h⟩
theorem sr_two {s : ByteArray} {w1 w2 : World} {v1 v2 : Value} {l1 l2 e1 e2 : Int} (h1 : SR s w1 v1 l1 e1) (h2 : SR s w2 v2 l2 e2) : l1 = l2 ∧ e1 = e2 ∧ ∃ Q : List Mt, KnT w1 v1 Q ∧ KnT w2 v2 Q ∧ Q.length ≤ s.size := by
  unfold SR at h1 h2
  by_cases hb : 16384 < s.size
  · rw [if_pos hb] at h1 h2
    exact ⟨h1.2.1.trans h2.2.1.symm, h1.2.2.trans h2.2.2.symm, [], h1.1, h2.1, Nat.zero_le _⟩
  · rw [if_neg hb] at h1 h2
    cases hx : scanT 1 s.data.toList with
    | error e =>
      rw [hx] at h1 h2
      exact ⟨h1.2.1.trans h2.2.1.symm, h1.2.2.trans h2.2.2.symm, [], h1.1, h2.1, Nat.zero_le _⟩
    | ok P =>
      rw [hx] at h1 h2
      refine ⟨h1.1.trans h2.1.symm, h1.2.1.trans h2.2.1.symm, P.map mk, h1.2.2.1, h2.2.2.1, ?_⟩
      rw [List.length_map]
      exact scan_count 1 _ P hx
theorem scan_text (line : Nat) (l : List UInt8) : ∀ toks, scanT line l = .ok toks → ∀ k ∈ toks.map (·.1), k.text.length ≤ l.length := by
  refine scan_ind (M := fun line l x => ∀ toks, x = .ok toks → ∀ k ∈ toks.map (·.1), k.text.length ≤ l.length) ?_ ?_ ?_ ?_ ?_ ?_ line l
  · intro line toks h; cases h; simp
  · intro line t ih toks h k hk; have := ih toks h k hk; simp only [List.length_cons]; omega
  · intro line b t hw ih toks h k hk; have := ih toks h k hk; simp only [List.length_cons]; omega
  · intro line t ih toks h k hk
    have := ih toks h k hk
    have := skipc_le (47 :: 47 :: t)
    omega
  · intro line b t e _ _ _ _ toks h; cases h
  · intro line l k n ho ih toks h x hx
    obtain ⟨y, hy, rfl⟩ := map_ok h
    rw [List.map_cons, List.mem_cons] at hx
    rcases hx with rfl | hx
    · exact (TkrH.one_kind ho).2.2
    · have h1 := ih y hy x hx
      rw [List.length_drop] at h1
      omega
theorem same_refl (l : List Mt) : same l l = true := by simp [same]
theorem lines_refl (l : List Mt) : lines l l = true := by simp [lines]
theorem map_mk (P : List (Tok × Nat)) : (P.map mk).map Mt.tok = P.map (·.1) := by
  rw [List.map_map]; rfl

def T1 : Tok := ⟨1, [97, 46, 98], 0⟩
def T2 : Tok := ⟨4, [61], 0⟩
def T3 : Tok := ⟨4, [45], 0⟩
def T4 : Tok := ⟨2, [], 12⟩
def T5 : Tok := ⟨4, [59], 0⟩
theorem w1 : wrtn T1 = [97, 46, 98] := by
  have hn : nm [97, 46, 98] = 3 := by
    rw [nm_let _ (by decide), dname_dot (r := [98]) (by decide) (by decide)]
    have hb : dname [98] = 1 := by rw [dname_end (by decide) (by decide)]; decide
    rw [hb]; decide
  unfold T1
  rw [wrtn_name, if_pos ⟨hn, by decide, by decide⟩]
theorem w2 : wrtn T2 = [61] := by decide
theorem w3 : wrtn T3 = [45] := by decide
theorem w4 : wrtn T4 = [49, 50] := by
  unfold T4
  rw [wrtn_int, show uI 12 = 12 by decide, ScaM.dec_large (by decide), ScaM.dec_small (by decide)]
  decide
theorem w5 : wrtn T5 = [59] := by decide
theorem sep32 (t : List UInt8) : sep (32 :: t) := fun c q e => by cases e; exact .inl rfl
theorem scan1 : scanT 1 [97, 46, 98, 32, 61, 32, 45, 49, 50, 59, 32, 47, 47, 32, 101, 110, 100] = .ok [(T1, 1), (T2, 1), (T3, 1), (T4, 1), (T5, 1)] := by
  have o1 : one ([97, 46, 98] ++ [32, 61, 32, 45, 49, 50, 59, 32, 47, 47, 32, 101, 110, 100]) = .ok (T1, 3) := by
    have := one_back (k := T1) (by rw [w1]; simp) (by decide) (by decide) (sep32 [61, 32, 45, 49, 50, 59, 32, 47, 47, 32, 101, 110, 100])
    rw [w1] at this
    exact this
  have o2 : one [61, 32, 45, 49, 50, 59, 32, 47, 47, 32, 101, 110, 100] = .ok (T2, 1) := by
    rw [one_sign (nm_zero _ (by decide) (by decide)) (by decide) (by decide), if_pos (by decide)]; rfl
  have o3 : one [45, 49, 50, 59, 32, 47, 47, 32, 101, 110, 100] = .ok (T3, 1) := by
    rw [one_sign (nm_zero _ (by decide) (by decide)) (by decide) (by decide), if_pos (by decide)]; rfl
  have o4 : one [49, 50, 59, 32, 47, 47, 32, 101, 110, 100] = .ok (T4, 2) := by
    rw [one_int (nm_zero _ (by decide) (by decide)) (by decide) (fun c r e => by
      have h : List.drop (dlen [49, 50, 59, 32, 47, 47, 32, 101, 110, 100]) [49, 50, 59, 32, 47, 47, 32, 101, 110, 100] = (59 :: [32, 47, 47, 32, 101, 110, 100] : List UInt8) := by decide
      rw [h] at e
      cases e
      decide)]
    have h1 : dlen [49, 50, 59, 32, 47, 47, 32, 101, 110, 100] = 2 := by decide
    rw [h1]
    rfl
  have o5 : one [59, 32, 47, 47, 32, 101, 110, 100] = .ok (T5, 1) := by
    rw [one_sign (nm_zero _ (by decide) (by decide)) (by decide) (by decide), if_pos (by decide)]; rfl
  have e1 : scanT 1 [97, 46, 98, 32, 61, 32, 45, 49, 50, 59, 32, 47, 47, 32, 101, 110, 100] = (scanT 1 [32, 61, 32, 45, 49, 50, 59, 32, 47, 47, 32, 101, 110, 100]).map fun r => (T1, 1) :: r := scan_one o1
  have e2 : scanT 1 [61, 32, 45, 49, 50, 59, 32, 47, 47, 32, 101, 110, 100] = (scanT 1 [32, 45, 49, 50, 59, 32, 47, 47, 32, 101, 110, 100]).map fun r => (T2, 1) :: r := scan_one o2
  have e3 : scanT 1 [45, 49, 50, 59, 32, 47, 47, 32, 101, 110, 100] = (scanT 1 [49, 50, 59, 32, 47, 47, 32, 101, 110, 100]).map fun r => (T3, 1) :: r := scan_one o3
  have e4 : scanT 1 [49, 50, 59, 32, 47, 47, 32, 101, 110, 100] = (scanT 1 [59, 32, 47, 47, 32, 101, 110, 100]).map fun r => (T4, 1) :: r := scan_one o4
  have e5 : scanT 1 [59, 32, 47, 47, 32, 101, 110, 100] = (scanT 1 [32, 47, 47, 32, 101, 110, 100]).map fun r => (T5, 1) :: r := scan_one o5
  rw [e1, scan_ws _ _ (by decide), e2, scan_ws _ _ (by decide), e3, e4, e5, scan_ws _ _ (by decide), com_end 1 _ (by decide)]
  rfl
theorem print1 : TokU.print [T1, T2, T3, T4, T5] = [97, 46, 98, 32, 61, 32, 45, 32, 49, 50, 32, 59, 10] := by
  have hpr : pr [T1, T2, T3, T4, T5] = [97, 46, 98, 32, 61, 32, 45, 32, 49, 50, 32, 59, 10] := by
    have e1 : endsLine T1 = false := rfl
    have e2 : endsLine T2 = false := by unfold endsLine; rw [w2]; decide
    have e3 : endsLine T3 = false := by unfold endsLine; rw [w3]; decide
    have e4 : endsLine T4 = false := rfl
    have e5 : endsLine T5 = true := by unfold endsLine; rw [w5]; decide
    simp only [pr, sepOf, e1, e2, e3, e4, e5, w1, w2, w3, w4, w5]
    rfl
  rw [print_fine (by rw [hpr]; decide) (by
    intro k hk
    simp only [List.mem_cons, List.not_mem_nil, or_false] at hk
    rcases hk with rfl | rfl | rfl | rfl | rfl
    · rw [w1]; simp
    · rw [w2]; simp
    · rw [w3]; simp
    · rw [w4]; simp
    · rw [w5]; simp), hpr]

set_option maxHeartbeats 2000000 in
set_option maxRecDepth 100000 in
theorem awake_any (w : World) (hL : Ld w) : Calls Tryz.prog 10 #[] w fun e w' => e = .returned (.bool true) ∧ Below w.heap.size w w' := by
  go_enter Tryz.func10, Tryz.ntmps10
  go_wp2_with fail
  refine (pscan ⟨#[97, 46, 98, 32, 61, 32, 45, 49, 50, 59, 32, 47, 47, 32, 101, 110, 100]⟩ (by decide) _ hL).mono ?_
  rintro _ w1 ⟨v, line, er, rfl, hsr, hb⟩
  rcases sr_parts hsr (by decide) with ⟨e, he, _⟩ | ⟨P, hP, rfl, rfl, hk, hok⟩
  · rw [show (⟨#[97, 46, 98, 32, 61, 32, 45, 49, 50, 59, 32, 47, 47, 32, 101, 110, 100]⟩ : ByteArray).data.toList = [97, 46, 98, 32, 61, 32, 45, 49, 50, 59, 32, 47, 47, 32, 101, 110, 100] from rfl, scan1] at he
    cases he
  · rw [show (⟨#[97, 46, 98, 32, 61, 32, 45, 49, 50, 59, 32, 47, 47, 32, 101, 110, 100]⟩ : ByteArray).data.toList = [97, 46, 98, 32, 61, 32, 45, 49, 50, 59, 32, 47, 47, 32, 101, 110, 100] from rfl, scan1] at hP
    cases hP
    have Hk := Lib.hid hk
    obtain ⟨a, cap, rfl, hcap, hcells⟩ := hk
    obtain ⟨kb, ko, rfl, hlt, _, _, c2, _⟩ := hcells 3 (mk (T4, 1)) rfl
    have c2' : w1.cell? ⟨kb, ko + 14, none⟩ = some (.int .i64 12) := c2
    have hL1 := hL.below hb
    clear hcells hsr c2
    go_wp2_with fail
    refine (pprint _ ([(T1, 1), (T2, 1), (T3, 1), (T4, 1), (T5, 1)].map mk) _ hL1 Hk.out (by decide) (fun m hm => ?_)).mono ?_
    · obtain ⟨p, hp, rfl⟩ := List.mem_map.1 hm
      refine ⟨?_, hok p hp⟩
      simp only [List.mem_cons, List.not_mem_nil, or_false] at hp
      rcases hp with rfl | rfl | rfl | rfl | rfl <;> decide
    · rintro _ w2 ⟨rfl, hb2⟩
      rw [map_mk]
      rw [show ([(T1, 1), (T2, 1), (T3, 1), (T4, 1), (T5, 1)] : List (Tok × Nat)).map (·.1) = [T1, T2, T3, T4, T5] from rfl, print1]
      go_wp2_with fail
      go_ret
      exact ⟨rfl, bt hb hb2⟩
end Go.Proofs.YtoinfjdhbopefaaGreatDoor.TkX
