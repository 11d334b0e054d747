import Derived.Test.YtoinfjdhbopefaaGreatDoorTkpC
import Derived.Test.YtoinfjdhbopefaaGreatDoorTkrG
/- Package token of the program: dividing a text into tokens. -/
set_option linter.unusedSimpArgs false
set_option linter.unusedVariables false
namespace Go.Proofs.YtoinfjdhbopefaaGreatDoor.TkpD
open Go.RowKit Nums IdnM IdnC TokM TokD TokS TokT TokU TkrD TkrF OwnT TkrH TkpM TkpB TkpC Box4

def strZ : Value → Nat
  | .string s => s.size
  | _ => 0
theorem stP_ge {b : UInt8} {t : List UInt8} (h1 : ws b = false) (h2 : b ≠ 10) (h3 : ¬ (b = 47 ∧ t.head? = some 47)) : 3 ≤ stP b t := by
  rcases stP_cases b t with ⟨hw, _⟩ | ⟨_, ⟨h, _⟩ | ⟨_, ⟨h, _⟩ | ⟨_, ⟨ha, hS⟩ | ⟨ha, ⟨hg, hS⟩ | ⟨hg, ⟨h34, hS⟩ | ⟨h34, ⟨hc, hS⟩ | ⟨hc, hS⟩⟩⟩⟩⟩⟩⟩
  · rw [h1] at hw; cases hw
  · exact absurd h h2
  · exact absurd h h3
  all_goals omega
set_option maxHeartbeats 2000000 in
set_option maxRecDepth 100000 in
theorem pscan (s : ByteArray) (hs0 : s.size ≤ 140737488351232) (w : World) (hL : Tld.Ld w) :
    Calls Tryz.prog 6 #[.string s] w fun e w' => SB s w e w' := by
  obtain ⟨i0, hi, hz0, hz1, hz2⟩ := info_parts infoT
  by_cases hbig : 16384 < s.size
  · have d1 : decide ((16384 : Int) < s.size) = true := decide_eq_true (by omega)
    have Hbig := Lib.hid hbig
    clear hbig
    go_enter Tryz.func6, Tryz.ntmps6
    go_wp2_with fail
    go_ret3
    exact ⟨_, _, _, rfl, by unfold SR; rw [if_pos Hbig.out]; exact ⟨known_nil _, rfl, rfl⟩, Below.refl _ _⟩
  · have d1 : decide ((16384 : Int) < s.size) = false := decide_eq_false (by omega)
    have hs : s.size ≤ 16384 := by omega
    obtain ⟨X, hX⟩ : ∃ X, X = scanT 1 s.data.toList := ⟨_, rfl⟩
    have HX := Lib.hid hX
    have Hbig := Lib.hid hbig
    clear hbig hX
    go_enter Tryz.func6, Tryz.ntmps6
    go_wp2_with fail
    go_loopw [5, 6, 7] (fun lv nv rv wr => ∃ (k ln : Nat) (v : Value) (R : ByteArray) (P : List (Tok × Nat)), k + R.size = s.size ∧ ln ≤ k + 1 ∧ P.length ≤ k ∧ k ≤ 16384 ∧ lv = v ∧ nv = .int .i64 ln ∧ rv = .string R ∧ Hid (OwnT wr w.heap.size v (P.map mk)) ∧ Hid (Below w.heap.size w wr) ∧ Hid (X = pre P (scanT ln R.data.toList)) ∧ Hid (∀ p ∈ P, (mk p).ok)) (fun _ _ rv _ => strZ rv)
    case atStart =>
      refine ⟨0, 1, _, s, [], by omega, by omega, by simp, by omega, rfl, rfl, rfl, Lib.hid (OwnT.nil _ _), Lib.hid (Below.refl _ _), Lib.hid ?_, Lib.hid (by simp)⟩
      rw [← HX.out]
      cases X <;> rfl
    case round =>
      obtain ⟨k, ln, v, R, P, hk, hln, hP, hk2, rfl, rfl, rfl, HO, HB, Hs, Hok⟩ := hrel
      by_cases hR : R.size = 0
      · have he : R.toList.isEmpty = true := empty_yes hR
        have hXe : X = .ok P := by
          rw [Hs.out, show R.data.toList = [] from List.length_eq_zero_iff.1 hR, TokS.scan_nil]
          simp [pre, Except.map]
        have HXe := Lib.hid hXe
        clear hXe hR
        go_wp2_with fail
        go_ret3
        refine ⟨_, _, _, rfl, ?_, HB.out⟩
        unfold SR
        rw [if_neg Hbig.out, ← HX.out, HXe.out]
        exact ⟨rfl, rfl, HO.out.known, Hok.out⟩
      · have he : R.toList.isEmpty = false := empty_no hR
        obtain ⟨b, t, hbt⟩ : ∃ b t, R.data.toList = b :: t := List.exists_cons_of_length_pos (show 0 < R.data.toList.length from by have h0 : R.data.toList.length = R.size := rfl; omega)
        have hRs : R.size ≤ 16384 := by omega
        have hRt : t.length + 1 = R.size := by
          have h0 : R.data.toList.length = R.size := rfl
          rw [hbt] at h0
          exact h0
        have HLr := Lib.hid (hL.below (HB.out.mono (Nat.le_refl _)))
        have hsc := Hs.out
        rw [hbt] at hsc
        have hst := stateAt_any R b t hRs hbt
        obtain ⟨q, hq⟩ : ∃ q, q = stP b t := ⟨_, rfl⟩
        have hcs := stP_cases b t
        rw [← hq] at hst hcs
        have Hst := Lib.hid hst
        obtain ⟨Z, hZ⟩ : ∃ Z, Z = R.extract 1 R.size := ⟨_, rfl⟩
        have hZd : Z.data.toList = t := by rw [hZ, rest_k, hbt]; rfl
        have hZs : Z.size + 1 = R.size := by
          have h0 : Z.data.toList.length = Z.size := rfl
          rw [hZd] at h0
          omega
        have hR1 : (1 : Int) ≤ R.size := by omega
        clear hst
        rcases hcs with ⟨hw, hS⟩ | ⟨hw, hcs⟩
        · rw [scan_ws _ _ hw, ← hZd] at hsc
          have Hsc := Lib.hid hsc
          have HZ := Lib.hid hZ
          subst hS
          clear hsc hZ hZd hq hbt hw
          go_wp2_with fail
          refine (Hst.out _ HLr.out).mono ?_
          rintro _ wz ⟨rfl, rfl⟩
          go_wp2_with fail
          rw [← HZ.out]
          exact ⟨⟨k + 1, ln, _, Z, P, by omega, by omega, by omega, by omega, rfl, rfl, rfl, HO, HB, Hsc, Hok⟩, by simp [strZ]; omega⟩
        · rcases hcs with ⟨h10, hS⟩ | ⟨h10, hcs⟩
          · rw [h10, scan_lf, ← hZd] at hsc
            have Hsc := Lib.hid hsc
            have HZ := Lib.hid hZ
            subst hS
            clear hsc hZ hZd hq hbt hw h10
            go_wp2_with fail
            refine (Hst.out _ HLr.out).mono ?_
            rintro _ wz ⟨rfl, rfl⟩
            go_wp2_with fail
            rw [← HZ.out]
            exact ⟨⟨k + 1, ln + 1, _, Z, P, by omega, by omega, by omega, by omega, rfl, by go_num, rfl, HO, HB, Hsc, Hok⟩, by simp [strZ]; omega⟩
          · rcases hcs with ⟨hcm, hS⟩ | ⟨hcm, hcs⟩
            · have hlt := skipc_lt (b := b) t h10
              rw [scan_com _ _ hcm, ← hbt, ← clen_skip] at hsc
              rw [← hbt, ← clen_skip, List.length_drop] at hlt
              have hcl := clen_le R.data.toList
              have hRl : R.data.toList.length = R.size := rfl
              rw [hRl] at hlt hcl
              obtain ⟨n, hn⟩ : ∃ n, n = clen R.data.toList := ⟨_, rfl⟩
              rw [← hn] at hsc hlt hcl
              obtain ⟨Q, hQ⟩ : ∃ Q, Q = R.extract n R.size := ⟨_, rfl⟩
              have hQd : Q.data.toList = R.data.toList.drop n := by rw [hQ, rest_k]
              rw [← hQd] at hsc
              have hQs : Q.size + n = R.size := by
                have h0 : Q.data.toList.length = Q.size := rfl
                rw [hQd, List.length_drop, hRl] at h0
                omega
              have Hsc := Lib.hid hsc
              have HQ := Lib.hid hQ
              have Hn := Lib.hid hn
              subst hS
              have hn2 : (n : Int) ≤ R.size := by omega
              clear hsc hZ hZd hq hbt hw h10 hcm hQ hQd hn hRl
              go_wp2_with fail
              refine (Hst.out _ HLr.out).mono ?_
              rintro _ wz ⟨rfl, rfl⟩
              go_wp2_with fail
              refine (commentLength_any R _).mono ?_
              rintro _ wz ⟨rfl, rfl⟩
              rw [← Hn.out]
              go_wp2_with fail
              rw [← HQ.out]
              exact ⟨⟨k + n, ln, _, Q, P, by omega, by omega, by omega, by omega, rfl, rfl, rfl, HO, HB, Hsc, Hok⟩, by simp [strZ]; omega⟩
            · have hq3 := stP_ge hw h10 hcm
              rw [← hq] at hq3
              have e0 : ((q : Int) == 0) = false := by rw [beq_eq_false_iff_ne]; omega
              have e1 : ((q : Int) == 1) = false := by rw [beq_eq_false_iff_ne]; omega
              have e2 : ((q : Int) == 2) = false := by rw [beq_eq_false_iff_ne]; omega
              have htk := take_any R b t hRs hbt hw h10 hcm q hq
              have Htk := Lib.hid htk
              have Hne10 := Lib.hid h10
              have Hws := Lib.hid hw
              have Hcm := Lib.hid hcm
              have Hdr := Lib.hid hbt
              have Hsc := Lib.hid hsc
              clear hsc hZ hZd hq hcs htk h10 hw hcm hbt
              go_wp2_with fail
              refine (Hst.out _ HLr.out).mono ?_
              rintro _ wz ⟨rfl, rfl⟩
              go_wp2_with fail
              refine (Htk.out _ HLr.out).mono ?_
              rintro _ w1 ⟨vv, rfl, ⟨kk, n, er, rfl, hsp⟩, hb1⟩
              rw [Nat.zero_add]
              have Hb1 := Lib.hid (HB.out.trans (hb1.mono HB.out.size))
              have HO1 := Lib.hid (HO.out.below hb1)
              have hwr := HB.out.size
              have hw1 := hb1.size
              clear hb1
              rcases hsp with ⟨m, hm, rfl, rfl⟩ | herr
              · have Hone := Lib.hid hm
                have hwn := one_wrtn hm
                have hRl : R.data.toList.length = R.size := rfl
                have hn1 : 1 ≤ n := hwn.2.1
                have hn2 : n ≤ R.size := by have := hwn.2.2; omega
                have hn3 : (n : Int) ≤ R.size := by omega
                have hmk := mk_ok (ln := ln) hm (by omega) (by omega)
                have Hmk := Lib.hid hmk
                obtain ⟨Q, hQ⟩ : ∃ Q, Q = R.extract n R.size := ⟨_, rfl⟩
                have hQd : Q.data.toList = R.data.toList.drop n := by rw [hQ, rest_k]
                have hQs : Q.size + n = R.size := by
                  have h0 : Q.data.toList.length = Q.size := rfl
                  rw [hQd, List.length_drop, hRl] at h0
                  omega
                have HQ := Lib.hid hQ
                have HQd := Lib.hid hQd
                clear hm hwn hmk hQ hQd hRl
                unfold tv
                go_wp2_with (at_builtin; refine wpList_append_own _ rfl _ _ 23 rfl w.heap.size 35 i0 (.agg #[.int .i64 0, .string ByteArray.empty, .int .i64 0, .int .i64 0]) 4 40 Tryz.underlying23 hi hz0 hz1 hz2 rfl (by decide) _ (P.map mk).length _ rfl (World.ownsRow.alloc (World.ownsRow.alloc HO1.out _) _) ⟨w1.heap.size + 1, 0, none⟩ 1 1 [.int .i64 kk.kind, .string ⟨kk.text.toArray⟩, .int .i64 kk.num, .int .i64 ln] rfl rfl ?c1 ?c2 ?c3 ?c4 ?c5 ?_)
                case c1 =>
                  intro j u hj
                  have hc := Lib.cell_of_heap (heap_alloc_new (w1.alloc (.cells #[.int .i64 kk.kind, .string ⟨kk.text.toArray⟩, .int .i64 kk.num, .int .i64 ln] 35)) (.cells #[.int .i64 kk.kind, .string ⟨kk.text.toArray⟩, .int .i64 kk.num, .int .i64 ln] 35))
                  have hsz : (w1.alloc (.cells #[.int .i64 kk.kind, .string ⟨kk.text.toArray⟩, .int .i64 kk.num, .int .i64 ln] 35)).heap.size = w1.heap.size + 1 := by simp
                  rw [hsz] at hc
                  have hadd : (⟨w1.heap.size + 1, 0, none⟩ : Addr).add j = ⟨w1.heap.size + 1, j, none⟩ := by
                    unfold Addr.add
                    split
                    · rename_i h; rw [h]
                    · simp
                  rw [hadd, hc j]
                  match j, hj with
                  | 0, hj => exact hj
                  | 1, hj => exact hj
                  | 2, hj => exact hj
                  | 3, hj => exact hj
                  | j + 4, hj => simp at hj
                case c2 =>
                  intro u hu
                  simp only [List.mem_cons, List.not_mem_nil, or_false] at hu
                  rcases hu with rfl | rfl | rfl | rfl <;> rfl
                case c3 => unfold maxLen; rw [List.length_map]; omega
                case c4 => rw [List.length_map]; omega
                case c5 => simp; omega
                intro v' w2 hown' hgrow _
                have hb2 : Below w.heap.size w w2 := ((Hb1.out.alloc (by omega) _).alloc (by simp; omega) _).grown hgrow (by simp; omega) (fun g hg => (HO1.out.lt g hg).1)
                have Hb2 := Lib.hid hb2
                have HO2 : Hid (OwnT w2 w.heap.size v' ((P ++ [(kk, ln)]).map mk)) := Lib.hid (by
                  unfold OwnT
                  rw [List.map_append, List.length_append, List.flatMap_append, List.length_map]
                  exact hown')
                have Hs2 : Hid (X = pre (P ++ [(kk, ln)]) (scanT ln Q.data.toList)) := Lib.hid (by
                  have h1 := Hsc.out
                  rw [← Hdr.out, scan_one Hone.out, pre_cons, ← HQd.out] at h1
                  exact h1)
                have Hok2 : Hid (∀ p ∈ P ++ [(kk, ln)], (mk p).ok) := Lib.hid (fun p hp => by
                  rcases List.mem_append.1 hp with hp | hp
                  · exact Hok.out p hp
                  · simp at hp; subst hp; exact Hmk.out)
                clear hown' hb2
                go_wp2_with fail
                rw [← HQ.out]
                exact ⟨⟨k + n, ln, _, Q, P ++ [(kk, ln)], by omega, by omega, by rw [List.length_append]; simp; omega, by omega, rfl, rfl, rfl, HO2, Hb2, Hs2, Hok2⟩, by simp [strZ]; omega⟩
              · have her : er ≠ 0 := by
                  rw [Hdr.out] at herr
                  exact one_err herr
                have hne : ((er : Int) != 0) = true := by
                  rw [bne_iff_ne]
                  omega
                have hXe : X = .error (ln, er) := by
                  rw [Hsc.out, scan_err Hne10.out Hws.out Hcm.out (by rw [← Hdr.out]; exact herr)]
                  rfl
                have HXe := Lib.hid hXe
                clear hXe herr her
                unfold tv
                go_wp2_with fail
                go_ret3
                refine ⟨_, _, _, rfl, ?_, Hb1.out.alloc (by omega) _⟩
                unfold SR
                rw [if_neg Hbig.out, ← HX.out, HXe.out]
                exact ⟨known_nil _, rfl, rfl⟩
end Go.Proofs.YtoinfjdhbopefaaGreatDoor.TkpD
