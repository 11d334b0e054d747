/- The walk of the law TokenSpaces. -/
import Derived.Test.YtoinfjdhbopefaaDoorTkL
set_option linter.unusedSimpArgs false
set_option linter.unusedVariables false
namespace Go.Proofs.YtoinfjdhbopefaaDoor.TokenSpacesW
open Go.RowKit Nums IdnM TokM TokS TokT TokU TkrD TkrE TkrF OwnT TkZ TkX TkL

theorem add_data (a b c : ByteArray) : (a ++ b ++ c).data.toList = a.data.toList ++ b.data.toList ++ c.data.toList := by simp
set_option maxHeartbeats 2000000 in
set_option maxRecDepth 100000 in
theorem walk (s : ByteArray) (z : s.size ≤ 140737488351232) (w : World) (hL : Ld w) :
    Calls Tryd.prog 5 #[.string s] w fun e w' => e = .returned (.bool true) ∧ Below w.heap.size w w' := by
  by_cases h : s.size ≤ 3000
  · have hd : decide ((3000 : Int) < s.size) = false := decide_eq_false (by omega)
    go_enter Tryd.func5, Tryd.ntmps5
    go_wp2_with fail
    refine (pscan s z _ hL).mono ?_
    rintro _ w1 ⟨v1, l1, e1, rfl, hs1, hb1⟩
    have hL1 := hL.below hb1
    rcases sr_parts hs1 (by omega) with ⟨er, hx, hk, rfl, rfl⟩ | ⟨P, hx, rfl, rfl, hk, hok⟩
    · have hne : er.2 ≠ 0 := by
        have := scan_lined 1 s.data.toList
        rw [hx] at this
        exact this.2.2
      have hn : ((er.2 : Int) != 0) = true := by rw [bne_iff_ne]; omega
      obtain ⟨a, cap, rfl, hcap, hcells⟩ := hk
      clear hcells hs1 hx
      go_wp2_with fail
      refine (awake_any _ hL1).mono ?_
      rintro _ wa ⟨rfl, hba⟩
      go_wp2_with fail
      go_ret
      exact ⟨rfl, bt hb1 hba⟩
    · obtain ⟨f1, f2⟩ := scan_fine 1 s.data.toList P hx
      have hsl : s.data.toList.length = s.size := rfl
      have hcnt := scan_count 1 _ P hx
      have hpr := print_fine (l := P.map (·.1)) (by omega) (fun k hk => (f2 k hk).1)
      obtain ⟨P2, hx2, hP2⟩ := scan_pr (P.map (·.1)) 1 f2
      obtain ⟨S2, hS2⟩ : ∃ S2 : ByteArray, S2 = ⟨(TokU.print ((P.map mk).map Mt.tok)).toArray⟩ := ⟨_, rfl⟩
      have hS2d : S2.data.toList = pr (P.map (·.1)) := by rw [hS2, map_mk, hpr]
      have hS2s : S2.size ≤ 6000 := by
        have : S2.data.toList.length = S2.size := rfl
        rw [hS2d] at this
        omega
      obtain ⟨S3, hS3⟩ : ∃ S3 : ByteArray, S3 = ⟨#[47, 47, 32, 104, 101, 114, 101, 10, 9]⟩ ++ s ++ ⟨#[13, 10, 32, 10, 47, 47, 32, 116, 104, 101, 114, 101]⟩ := ⟨_, rfl⟩
      have hS3d : S3.data.toList = [47, 47, 32, 104, 101, 114, 101, 10, 9] ++ (s.data.toList ++ theTail) := by
        rw [hS3, add_data, List.append_assoc]
        rfl
      have hS3s : S3.size ≤ 6000 := by
        rw [hS3, ByteArray.size_append, ByteArray.size_append]
        show 9 + s.size + 12 ≤ 6000
        omega
      have hx3 : scanT 1 S3.data.toList = .ok (P.map fun p => (p.1, p.2 + 1)) := by
        rw [hS3d, scan_head, scan_shift 1 1, scan_tail tail_ok 1 _ P hx]
        rfl
      have hn : ((0 : Int) != 0) = false := by decide
      have Hk := Lib.hid hk
      have HS2 := Lib.hid hS2
      have HS2d := Lib.hid hS2d
      have HS3 := Lib.hid hS3
      have Hx3 := Lib.hid hx3
      have Hx2 := Lib.hid hx2
      have Hf2 := Lib.hid f2
      have Hok := Lib.hid hok
      have HP2 := Lib.hid hP2
      have hsz1 : (⟨#[47, 47, 32, 104, 101, 114, 101, 10, 9]⟩ : ByteArray).size + s.size ≤ 9223372036854775807 := by show 9 + s.size ≤ _; omega
      have hsz2 : ((⟨#[47, 47, 32, 104, 101, 114, 101, 10, 9]⟩ : ByteArray) ++ s).size + (⟨#[13, 10, 32, 10, 47, 47, 32, 116, 104, 101, 114, 101]⟩ : ByteArray).size ≤ 9223372036854775807 := by
        rw [ByteArray.size_append]
        show 9 + s.size + 12 ≤ _
        omega
      have hmk : ∀ m ∈ P.map mk, m.t.size ≤ 1000000 ∧ m.ok := by
        intro m hm
        obtain ⟨p, hp, rfl⟩ := List.mem_map.1 hm
        refine ⟨?_, hok p hp⟩
        have := scan_text 1 _ P hx p.1 (List.mem_map.2 ⟨p, hp, rfl⟩)
        have h2 : (mk p).t.size = p.1.text.length := by show p.1.text.toArray.size = _; simp
        omega
      have Hmk := Lib.hid hmk
      clear hk hS2 hS2d hS3 hS3d hx hx2 hx3 hs1 hok hpr hP2 f1 f2 hmk
      go_wp2_with fail
      refine (pprint v1 (P.map mk) _ hL1 Hk.out (by rw [List.length_map]; omega) Hmk.out).mono ?_
      rintro _ w2 ⟨rfl, hb2⟩
      rw [← HS2.out]
      have hL2 := hL1.below hb2
      have Hk2 := Lib.hid (Hk.out.below hb2)
      go_wp2_with fail
      refine (pscan S2 (by omega) _ hL2).mono ?_
      rintro _ w3 ⟨v3, l3, e3, rfl, hs3, hb3⟩
      have hL3 := hL2.below hb3
      have Hk3 := Lib.hid (Hk2.out.below hb3)
      rcases sr_parts hs3 (by omega) with ⟨er, hx, _⟩ | ⟨P3, hx, rfl, rfl, hk3, hok3⟩
      · rw [HS2d.out, Hx2.out] at hx; cases hx
      · rw [HS2d.out, Hx2.out] at hx
        cases hx
        have Hm3 := Lib.hid hk3
        have hc3 := scan_count 1 _ P2 Hx2.out
        have hc3l : (pr (P.map (·.1))).length ≤ 6000 := by
          have : S2.data.toList.length = S2.size := rfl
          rw [HS2d.out] at this
          omega
        clear hs3 hk3 hok3
        go_wp2_with fail
        rw [← HS3.out]
        refine (pscan S3 (by omega) _ hL3).mono ?_
        rintro _ w4 ⟨v4, l4, e4, rfl, hs4, hb4⟩
        have hL4 := hL3.below hb4
        rcases sr_parts hs4 (by omega) with ⟨er, hx, _⟩ | ⟨P4, hx, rfl, rfl, hk4, hok4⟩
        · rw [Hx3.out] at hx; cases hx
        · rw [Hx3.out] at hx
          cases hx
          have Hm4 := Lib.hid hk4
          have Hk4 := Lib.hid (Hk3.out.below hb4)
          have Hm34 := Lib.hid (Hm3.out.below hb4)
          clear hs4 hk4 hok4
          go_wp2_with fail
          refine (psame v1 v3 (P.map mk) (P2.map mk) _ hL4 Hk4.out Hm34.out (by rw [List.length_map]; omega) (by rw [List.length_map]; omega)).mono ?_
          rintro _ w5 ⟨rfl, hb5⟩
          rw [show same (P.map mk) (P2.map mk) = true by rw [same, decide_eq_true_eq, map_mk, map_mk, HP2.out]]
          have hL5 := hL4.below hb5
          go_wp2_with fail
          refine (psame v1 v4 (P.map mk) ((P.map fun p => (p.1, p.2 + 1)).map mk) _ hL5 (Hk4.out.below hb5) (Hm4.out.below hb5) (by rw [List.length_map]; omega) (by rw [List.length_map, List.length_map]; omega)).mono ?_
          rintro _ w6 ⟨rfl, hb6⟩
          rw [show same (P.map mk) ((P.map fun p => (p.1, p.2 + 1)).map mk) = true by rw [same, decide_eq_true_eq, map_mk, map_mk, List.map_map]; rfl]
          have hL6 := hL5.below hb6
          go_wp2_with fail
          refine (awake_any _ hL6).mono ?_
          rintro _ wa ⟨rfl, hba⟩
          go_wp2_with fail
          go_ret
          exact ⟨rfl, bt (bt (bt (bt (bt (bt hb1 hb2) hb3) hb4) hb5) hb6) hba⟩
  · have hd : decide ((3000 : Int) < s.size) = true := decide_eq_true (by omega)
    go_enter Tryd.func5, Tryd.ntmps5
    go_wp2_with fail
    go_ret
    exact ⟨rfl, Below.refl _ _⟩

end Go.Proofs.YtoinfjdhbopefaaDoor.TokenSpacesW
