import Derived.Test.YthjpchnogllliaaGreatDoorNtX
import Derived.Test.YthjpchnogllliaaGreatDoorNtpG
import Derived.Test.YthjpchnogllliaaGreatDoorNotR
import Derived.Test.YthjpchnogllliaaGreatDoorTkZ
import Derived.Test.YthjpchnogllliaaGreatDoorLawKit
import Derived.Test.YthjpchnogllliaaGreatDoorLiftV
import Derived.Test.YthjpchnogllliaaGreatDoorTldOf
import Derived.Test.YthjpchnogllliaaGreatDoorTie
import Derived.Test.YthjpchnogllliaaGreatDoorCards
import Derived.Test.YthjpchnogllliaaGreatDoorNtO
import Derived.SizedLaws
import Derived.Deep.CondSized
import Derived.Handed
import Derived.Lay
import Derived.SevenTiedAt
import Derived.LaidOnce
/- The walk of the law NoteRoundTrips. -/
set_option linter.unusedSimpArgs false
set_option linter.unusedVariables false
namespace Go.Proofs.YthjpchnogllliaaGreatDoor.NoteRoundTripsW
open Go.RowKit Nums ScaM ScaV ScaB Val NotM NotR NotK NtrB NtrI TkrF NtZ NtX NtpG

theorem same_of {la : List Mn} {Q : List Pair} (h : Q.map ntOf = la.map Mn.nt) : sameN la (Q.map mkN) = true := by
  unfold sameN
  rw [decide_eq_true_eq]
  have h1 : ∀ l : List Mn, l.map k4 = (l.map Mn.nt).map fun n => (n.nm, n.v.k, n.v.b, n.v.t) := by
    intro l; rw [List.map_map]; rfl
  have h2 : (Q.map mkN).map Mn.nt = Q.map ntOf := by rw [List.map_map]; rfl
  rw [h1, h1, h2, h]
set_option maxHeartbeats 4000000 in
set_option maxRecDepth 100000 in
theorem walk (va : Value) (la : List Mn) (vb : Value) (lb : List Mt) (vc : Value) (lc : List Mt) (w : World) (hka : KnN w va la) (hoa : la.length ≤ 9223372036854775807 ∧ ∀ m ∈ la, m.ok) (hkb : KnT w vb lb) (hob : lb.length ≤ 9223372036854775807 ∧ ∀ m ∈ lb, m.ok) (hkc : KnT w vc lc) (hoc : lc.length ≤ 9223372036854775807 ∧ ∀ m ∈ lc, m.ok) (hL : Ld w) (hT : Tld.Ld w) :
    Calls Tryz.prog 4 #[va, vb, vc] w fun e w' => e = .returned (.bool true) ∧ Below w.heap.size w w' := by
  obtain ⟨i0, hi, hz0, hz1, hz2⟩ := info_parts OwnT.infoT
  obtain ⟨hla, ha⟩ := hoa
  obtain ⟨hlb, hb⟩ := hob
  obtain ⟨hlc, hc⟩ := hoc
  have Ka := Lib.hid hka
  have Kb := Lib.hid hkb
  have Kc := Lib.hid hkc
  have Oa := Lib.hid ha
  have Ob := Lib.hid hb
  have Oc := Lib.hid hc
  obtain ⟨a1, cap1, rfl, _, _⟩ := hka
  obtain ⟨a2, cap2, rfl, _, _⟩ := hkb
  obtain ⟨a3, cap3, rfl, _, _⟩ := hkc
  clear ha hb hc
  by_cases h1 : 40 < la.length
  · have d1 : decide ((40 : Int) < la.length) = true := decide_eq_true (by omega)
    have d1' : decide (40 < la.length) = true := decide_eq_true h1
    go_enter Tryz.func4, Tryz.ntmps4
    go_wp2_with fail
    refine (awake_any _ hL).mono ?_
    rintro _ wa ⟨rfl, hba⟩
    go_wp2_with fail
    go_ret
    exact ⟨rfl, hba⟩
  · have d1 : decide ((40 : Int) < la.length) = false := decide_eq_false (by omega)
    have d1' : decide (40 < la.length) = false := decide_eq_false h1
    by_cases h2 : 50 < lb.length
    · have d2 : decide ((50 : Int) < lb.length) = true := decide_eq_true (by omega)
      have d2' : decide (50 < lb.length) = true := decide_eq_true h2
      go_enter Tryz.func4, Tryz.ntmps4
      go_wp2_with fail
      refine (awake_any _ hL).mono ?_
      rintro _ wa ⟨rfl, hba⟩
      go_wp2_with fail
      go_ret
      exact ⟨rfl, hba⟩
    · have d2 : decide ((50 : Int) < lb.length) = false := decide_eq_false (by omega)
      have d2' : decide (50 < lb.length) = false := decide_eq_false h2
      by_cases h3 : 50 < lc.length
      · have d3 : decide ((50 : Int) < lc.length) = true := decide_eq_true (by omega)
        have d3' : decide (50 < lc.length) = true := decide_eq_true h3
        go_enter Tryz.func4, Tryz.ntmps4
        go_wp2_with fail
        refine (awake_any _ hL).mono ?_
        rintro _ wa ⟨rfl, hba⟩
        go_wp2_with fail
        go_ret
        exact ⟨rfl, hba⟩
      · have d3 : decide ((50 : Int) < lc.length) = false := decide_eq_false (by omega)
        have d3' : decide (50 < lc.length) = false := decide_eq_false h3
        obtain ⟨S, hS⟩ : ∃ S : ByteArray, (⟨(noteText (la.map Mn.nt)).toArray⟩ : ByteArray) = S := ⟨_, rfl⟩
        have HS := Lib.hid hS
        have hSd : S.data.toList = noteText (la.map Mn.nt) := by rw [← hS]
        have HSd := Lib.hid hSd
        clear hS hSd
        go_enter Tryz.func4, Tryz.ntmps4
        go_wp2_with fail
        refine (ptext _ la _ hL Ka.out (by omega) Oa.out).mono ?_
        rintro _ w1 ⟨rfl, hb1⟩
        rw [HS.out]
        have H1 := Lib.hid hb1
        clear hb1
        go_wp2_with fail
        refine (NtrE.text_any _ la _ (Ka.out.below H1.out) (by omega) (fun m hm => (Oa.out m hm).2.b)).mono ?_
        rintro _ w2 ⟨rfl, hb2⟩
        rw [HS.out]
        have H2 := Lib.hid (NtX.bt H1.out hb2)
        clear hb2
        by_cases hbad : S.size = 0 ∨ 16384 < S.size
        · have key : (S.toList.isEmpty = true) ∨ (S.toList.isEmpty = false ∧ decide ((16384 : Int) < S.size) = true ∧ decide (16384 < S.size) = true) := by
            by_cases h0 : S.size = 0
            · exact .inl (empty_yes h0)
            · exact .inr ⟨empty_no h0, decide_eq_true (by omega), decide_eq_true (by omega)⟩
          have Key := Lib.hid key
          clear key hbad
          rcases Key.out with e1 | ⟨e1, e2, e3⟩
          · go_wp2_with fail
            refine (NtrE.text_any _ la _ (Ka.out.below H2.out) (by omega) (fun m hm => (Oa.out m hm).2.b)).mono ?_
            rintro _ w3 ⟨rfl, hb3⟩
            rw [HS.out]
            have H3 := Lib.hid (NtX.bt H2.out hb3)
            clear hb3
            go_wp2_with fail
            refine (awake_any _ (hL.below H3.out)).mono ?_
            rintro _ wa ⟨rfl, hba⟩
            go_wp2_with fail
            go_ret
            exact ⟨rfl, NtX.bt H3.out hba⟩
          · go_wp2_with fail
            refine (NtrE.text_any _ la _ (Ka.out.below H2.out) (by omega) (fun m hm => (Oa.out m hm).2.b)).mono ?_
            rintro _ w3 ⟨rfl, hb3⟩
            rw [HS.out]
            have H3 := Lib.hid (NtX.bt H2.out hb3)
            clear hb3
            go_wp2_with fail
            refine (awake_any _ (hL.below H3.out)).mono ?_
            rintro _ wa ⟨rfl, hba⟩
            go_wp2_with fail
            go_ret
            exact ⟨rfl, NtX.bt H3.out hba⟩
        · have e1 : S.toList.isEmpty = false := empty_no (by omega)
          have e2 : decide ((16384 : Int) < S.size) = false := decide_eq_false (by omega)
          have e3 : decide (16384 < S.size) = false := decide_eq_false (by omega)
          have hSs : S.size ≤ 16384 := by omega
          have hne : noteText (la.map Mn.nt) ≠ [] := by
            intro e
            have h0 : S.data.toList.length = S.size := rfl
            rw [HSd.out, e] at h0
            simp at h0
            omega
          have hall : la.map Mn.nt ≠ [] ∧ ∀ n ∈ la.map Mn.nt, rightB n = true ∧ n.v.b ≤ 18446744073709551615 := by
            unfold noteText at hne
            split at hne
            · exact absurd rfl hne
            · rename_i hh
              refine ⟨fun e => hh (.inl e), fun n hn => ⟨?_, ?_⟩⟩
              · cases hr : rightB n with
                | true => rfl
                | false => exact absurd (.inr (List.all_eq_false.2 ⟨n, hn, by rw [hr]; simp⟩)) hh
              · obtain ⟨m, hm, rfl⟩ := List.mem_map.1 hn
                exact (Oa.out m hm).2.b
          have hst := S_text hall.1 hall.2
          have Hall := Lib.hid hall
          have Hst := Lib.hid hst
          clear hbad hne hall hst
          go_wp2_with fail
          refine (TkZ.pscan S (by omega) _ (hT.below H2.out)).mono ?_
          rintro _ w3 ⟨v3, line3, er3, rfl, hsr, hb3⟩
          have hsc : ∃ P, TokS.scanT 1 S.data.toList = .ok P ∧ P.map (·.1) = tkT (la.map Mn.nt) := by
            have h := Hst.out
            unfold NotR.S at h
            rw [← HSd.out] at h
            cases hx : TokS.scanT 1 S.data.toList with
            | error e => rw [hx] at h; cases h
            | ok P => rw [hx] at h; exact ⟨P, rfl, by injection h⟩
          obtain ⟨P, hP1, hP2⟩ := hsc
          unfold OwnT.SR at hsr
          rw [if_neg (by omega), hP1] at hsr
          simp only at hsr
          obtain ⟨rfl, rfl, hkt, hokt⟩ := hsr
          obtain ⟨lt, hlt0⟩ : ∃ lt, lt = P.map OwnT.mk := ⟨_, rfl⟩
          rw [← hlt0] at hkt
          have hltok : lt.map Mt.tok = tkT (la.map Mn.nt) := by rw [hlt0, List.map_map, ← hP2]; rfl
          have hltn : lt.length ≤ 16384 ∧ lt.length ≠ 0 := by
            refine ⟨?_, ?_⟩
            · rw [hlt0, List.length_map]
              have := TokU.scan_count 1 _ P hP1
              have h0 : S.data.toList.length = S.size := rfl
              omega
            · intro e
              have := congrArg List.length hltok
              rw [List.length_map, e] at this
              simp [tkT] at this
          have hlok : ∀ m ∈ lt, m.ok := by
            intro m hm
            rw [hlt0] at hm
            obtain ⟨p, hp, rfl⟩ := List.mem_map.1 hm
            exact hokt p hp
          obtain ⟨hltn1, hltn2⟩ := hltn
          have H3 := Lib.hid (NtX.bt H2.out hb3)
          have B3' := Kb.out.below H3.out
          have C3' := Kc.out.below H3.out
          obtain ⟨LL, hLL⟩ : ∃ LL, LL = ((([] : List Mt) ++ lb) ++ lt) ++ lc := ⟨_, rfl⟩
          have hrd : ∀ (Q : List Pair) (n e : Int), readN (LL.map Mt.tok) lb.length = (Q, n, e) → ((lb.length : Int) + lt.length) = n ∧ (0 : Int) = e ∧ Q.map ntOf = la.map Mn.nt := by
            intro Q n e h
            obtain ⟨Q2, r1, r2⟩ := read_back Hall.out.1 Hall.out.2 (lb.map Mt.tok) (lc.map Mt.tok)
            have e1 : LL.map Mt.tok = lb.map Mt.tok ++ (tkT (la.map Mn.nt) ++ lc.map Mt.tok) := by
              rw [hLL, ← hltok]
              simp
            rw [e1, show ((lb.length : Nat) : Int) = ((lb.map Mt.tok).length : Int) by rw [List.length_map], r1] at h
            injection h with h1 h2
            injection h2 with h2 h3
            refine ⟨?_, h3, ?_⟩
            · rw [← h2, ← hltok]
              simp
            · rw [← h1]; exact r2
          have hokk : ∀ m ∈ LL, m.ok := by
            intro m hm
            rw [hLL] at hm
            simp only [List.mem_append, List.nil_append] at hm
            rcases hm with (hm | hm) | hm
            · exact Ob.out m hm
            · exact hlok m hm
            · exact Oc.out m hm
          have Hrd := Lib.hid hrd
          have Hokk := Lib.hid hokk
          obtain ⟨a4, cap4, rfl, hcap4, T3c⟩ := hkt
          have T3 := Lib.hid T3c
          obtain ⟨_, _, hvb, _, B3c⟩ := B3'
          injection hvb with hvb1 _ hvb3
          subst hvb1
          have B3 := Lib.hid B3c
          obtain ⟨_, _, hvc, _, C3c⟩ := C3'
          injection hvc with hvc1 _ hvc3
          subst hvc1
          have C3 := Lib.hid C3c
          have el : ((lt.length : Int) == 0) = false := by rw [beq_eq_false_iff_ne]; omega
          clear hb3 hP1 hP2 hokt hlt0 hltok hlok hrd hokk T3c B3c C3c hvb3 hvc3
          go_wp2_with fail
          go_loopw [11, 12] (fun ov iv wr => ∃ (k : Nat) (v' : Value), k ≤ lb.length ∧ ov = v' ∧ iv = .int .i64 k ∧ Hid (OwnT.OwnT wr w3.heap.size v' (([] : List Mt) ++ lb.take k)) ∧ Hid (Below w3.heap.size w3 wr)) (fun _ iv _ => lb.length - (intOf iv).toNat)
          case atStart => exact ⟨0, _, by omega, rfl, rfl, Lib.hid (by rw [List.take_zero, List.append_nil]; exact OwnT.OwnT.nil _ _), Lib.hid (Below.refl _ _)⟩
          case round =>
            obtain ⟨k, v', hk, rfl, rfl, HO, HB⟩ := hrel
            by_cases hlt : k < lb.length
            · obtain ⟨m, hm⟩ : ∃ m, lb[k]? = some m := ⟨_, List.getElem?_eq_getElem hlt⟩
              obtain ⟨kb, ko, ha, hb1, d0, d1, d2, d3⟩ := B3.out k m hm
              subst ha
              have cc : ∀ q, wr.cell? ⟨kb, q, none⟩ = w3.cell? ⟨kb, q, none⟩ := fun q => HB.out.cell (p := ⟨kb, q, none⟩) hb1
              replace d0 := (cc _).trans d0
              replace d1 := (cc _).trans d1
              replace d2 := (cc _).trans d2
              replace d3 := (cc _).trans d3
              have htk : lb.take (k + 1) = lb.take k ++ [m] := by rw [List.take_add_one, hm]; rfl
              have Htk := Lib.hid htk
              have hplen : (([] : List Mt) ++ lb.take k).length ≤ 200000 := by simp only [List.length_append, List.length_take, List.length_nil]; omega
              obtain ⟨Out, hOut⟩ : ∃ Out, Out = ([] : List Mt) ++ lb.take k := ⟨_, rfl⟩
              rw [← hOut] at HO hplen
              have HOut := Lib.hid hOut
              clear cc hm htk hOut
              go_wp2_with (at_builtin; refine wpList_append_own _ rfl _ _ 22 rfl w3.heap.size 34 i0 (.agg #[.int .i64 0, .string ByteArray.empty, .int .i64 0, .int .i64 0]) 4 40 Tryz.underlying22 hi hz0 hz1 hz2 rfl (by decide) _ Out.length _ rfl (World.ownsRow.alloc HO.out _) ⟨wr.heap.size, 0, none⟩ 1 1 (OwnT.fields m) rfl rfl ?c1 ?c2 ?c3 ?c4 ?c5 ?_)
              case c1 =>
                intro j u hj
                first
                  | exact hj
                  | (have hadd : (⟨wr.heap.size, 0, none⟩ : Addr).add j = ⟨wr.heap.size, j, none⟩ := by
                       unfold Addr.add
                       split
                       · rename_i h; rw [h]
                       · simp
                     rw [hadd, World.cell?_alloc_at _ _ _ _ rfl]
                     simpa [OwnT.fields] using hj)
              case c2 =>
                intro u hu
                simp only [OwnT.fields, List.mem_cons, List.not_mem_nil, or_false] at hu
                rcases hu with rfl | rfl | rfl | rfl <;> rfl
              case c3 => unfold maxLen; omega
              case c4 => omega
              case c5 => have := HB.out.size; (try simp); omega
              intro v2' w2' hown' hgrow _
              have hB2 : Below w3.heap.size w3 w2' := (HB.out.alloc HB.out.size _).grown hgrow (by have := HB.out.size; (try simp); omega) (fun g hg => (HO.out.lt g hg).1)
              have HO2 : Hid (OwnT.OwnT w2' w3.heap.size v2' (([] : List Mt) ++ lb.take (k + 1))) := Lib.hid (by
                rw [Htk.out, ← List.append_assoc, ← HOut.out]
                unfold OwnT.OwnT
                rw [List.length_append, List.flatMap_append]
                first | exact hown' | simpa using hown')
              have HB2 := Lib.hid hB2
              clear hown' hB2 hgrow d0 d1 d2 d3
              go_wp2_with fail
              exact ⟨⟨k + 1, _, by omega, rfl, by go_num, HO2, HB2⟩, by simp [intOf]; omega⟩
            · obtain rfl : k = lb.length := by omega
              rw [List.take_of_length_le (Nat.le_refl _)] at HO
              go_wp2_with fail
              go_loopw [11, 13] (fun ov iv wr => ∃ (k : Nat) (v' : Value), k ≤ lt.length ∧ ov = v' ∧ iv = .int .i64 k ∧ Hid (OwnT.OwnT wr w3.heap.size v' ((([] : List Mt) ++ lb) ++ lt.take k)) ∧ Hid (Below w3.heap.size w3 wr)) (fun _ iv _ => lt.length - (intOf iv).toNat)
              case atStart => exact ⟨0, _, by omega, rfl, rfl, Lib.hid (by rw [List.take_zero, List.append_nil]; exact HO.out), HB⟩
              case round =>
                obtain ⟨k, v', hk, rfl, rfl, HO, HB⟩ := hrel
                by_cases hlt : k < lt.length
                · obtain ⟨m, hm⟩ : ∃ m, lt[k]? = some m := ⟨_, List.getElem?_eq_getElem hlt⟩
                  obtain ⟨kb, ko, ha, hb1, d0, d1, d2, d3⟩ := T3.out k m hm
                  subst ha
                  have cc : ∀ q, wr.cell? ⟨kb, q, none⟩ = w3.cell? ⟨kb, q, none⟩ := fun q => HB.out.cell (p := ⟨kb, q, none⟩) hb1
                  replace d0 := (cc _).trans d0
                  replace d1 := (cc _).trans d1
                  replace d2 := (cc _).trans d2
                  replace d3 := (cc _).trans d3
                  have htk : lt.take (k + 1) = lt.take k ++ [m] := by rw [List.take_add_one, hm]; rfl
                  have Htk := Lib.hid htk
                  have hplen : ((([] : List Mt) ++ lb) ++ lt.take k).length ≤ 200000 := by simp only [List.length_append, List.length_take, List.length_nil]; omega
                  obtain ⟨Out, hOut⟩ : ∃ Out, Out = (([] : List Mt) ++ lb) ++ lt.take k := ⟨_, rfl⟩
                  rw [← hOut] at HO hplen
                  have HOut := Lib.hid hOut
                  clear cc hm htk hOut
                  go_wp2_with (at_builtin; refine wpList_append_own _ rfl _ _ 22 rfl w3.heap.size 34 i0 (.agg #[.int .i64 0, .string ByteArray.empty, .int .i64 0, .int .i64 0]) 4 40 Tryz.underlying22 hi hz0 hz1 hz2 rfl (by decide) _ Out.length _ rfl (World.ownsRow.alloc HO.out _) ⟨wr.heap.size, 0, none⟩ 1 1 (OwnT.fields m) rfl rfl ?c1 ?c2 ?c3 ?c4 ?c5 ?_)
                  case c1 =>
                    intro j u hj
                    first
                      | exact hj
                      | (have hadd : (⟨wr.heap.size, 0, none⟩ : Addr).add j = ⟨wr.heap.size, j, none⟩ := by
                           unfold Addr.add
                           split
                           · rename_i h; rw [h]
                           · simp
                         rw [hadd, World.cell?_alloc_at _ _ _ _ rfl]
                         simpa [OwnT.fields] using hj)
                  case c2 =>
                    intro u hu
                    simp only [OwnT.fields, List.mem_cons, List.not_mem_nil, or_false] at hu
                    rcases hu with rfl | rfl | rfl | rfl <;> rfl
                  case c3 => unfold maxLen; omega
                  case c4 => omega
                  case c5 => have := HB.out.size; (try simp); omega
                  intro v2' w2' hown' hgrow _
                  have hB2 : Below w3.heap.size w3 w2' := (HB.out.alloc HB.out.size _).grown hgrow (by have := HB.out.size; (try simp); omega) (fun g hg => (HO.out.lt g hg).1)
                  have HO2 : Hid (OwnT.OwnT w2' w3.heap.size v2' ((([] : List Mt) ++ lb) ++ lt.take (k + 1))) := Lib.hid (by
                    rw [Htk.out, ← List.append_assoc, ← HOut.out]
                    unfold OwnT.OwnT
                    rw [List.length_append, List.flatMap_append]
                    first | exact hown' | simpa using hown')
                  have HB2 := Lib.hid hB2
                  clear hown' hB2 hgrow d0 d1 d2 d3
                  go_wp2_with fail
                  exact ⟨⟨k + 1, _, by omega, rfl, by go_num, HO2, HB2⟩, by simp [intOf]; omega⟩
                · obtain rfl : k = lt.length := by omega
                  rw [List.take_of_length_le (Nat.le_refl _)] at HO
                  go_wp2_with fail
                  go_loopw [11, 14] (fun ov iv wr => ∃ (k : Nat) (v' : Value), k ≤ lc.length ∧ ov = v' ∧ iv = .int .i64 k ∧ Hid (OwnT.OwnT wr w3.heap.size v' (((([] : List Mt) ++ lb) ++ lt) ++ lc.take k)) ∧ Hid (Below w3.heap.size w3 wr)) (fun _ iv _ => lc.length - (intOf iv).toNat)
                  case atStart => exact ⟨0, _, by omega, rfl, rfl, Lib.hid (by rw [List.take_zero, List.append_nil]; exact HO.out), HB⟩
                  case round =>
                    obtain ⟨k, v', hk, rfl, rfl, HO, HB⟩ := hrel
                    by_cases hlt : k < lc.length
                    · obtain ⟨m, hm⟩ : ∃ m, lc[k]? = some m := ⟨_, List.getElem?_eq_getElem hlt⟩
                      obtain ⟨kb, ko, ha, hb1, d0, d1, d2, d3⟩ := C3.out k m hm
                      subst ha
                      have cc : ∀ q, wr.cell? ⟨kb, q, none⟩ = w3.cell? ⟨kb, q, none⟩ := fun q => HB.out.cell (p := ⟨kb, q, none⟩) hb1
                      replace d0 := (cc _).trans d0
                      replace d1 := (cc _).trans d1
                      replace d2 := (cc _).trans d2
                      replace d3 := (cc _).trans d3
                      have htk : lc.take (k + 1) = lc.take k ++ [m] := by rw [List.take_add_one, hm]; rfl
                      have Htk := Lib.hid htk
                      have hplen : (((([] : List Mt) ++ lb) ++ lt) ++ lc.take k).length ≤ 200000 := by simp only [List.length_append, List.length_take, List.length_nil]; omega
                      obtain ⟨Out, hOut⟩ : ∃ Out, Out = ((([] : List Mt) ++ lb) ++ lt) ++ lc.take k := ⟨_, rfl⟩
                      rw [← hOut] at HO hplen
                      have HOut := Lib.hid hOut
                      clear cc hm htk hOut
                      go_wp2_with (at_builtin; refine wpList_append_own _ rfl _ _ 22 rfl w3.heap.size 34 i0 (.agg #[.int .i64 0, .string ByteArray.empty, .int .i64 0, .int .i64 0]) 4 40 Tryz.underlying22 hi hz0 hz1 hz2 rfl (by decide) _ Out.length _ rfl (World.ownsRow.alloc HO.out _) ⟨wr.heap.size, 0, none⟩ 1 1 (OwnT.fields m) rfl rfl ?c1 ?c2 ?c3 ?c4 ?c5 ?_)
                      case c1 =>
                        intro j u hj
                        first
                          | exact hj
                          | (have hadd : (⟨wr.heap.size, 0, none⟩ : Addr).add j = ⟨wr.heap.size, j, none⟩ := by
                               unfold Addr.add
                               split
                               · rename_i h; rw [h]
                               · simp
                             rw [hadd, World.cell?_alloc_at _ _ _ _ rfl]
                             simpa [OwnT.fields] using hj)
                      case c2 =>
                        intro u hu
                        simp only [OwnT.fields, List.mem_cons, List.not_mem_nil, or_false] at hu
                        rcases hu with rfl | rfl | rfl | rfl <;> rfl
                      case c3 => unfold maxLen; omega
                      case c4 => omega
                      case c5 => have := HB.out.size; (try simp); omega
                      intro v2' w2' hown' hgrow _
                      have hB2 : Below w3.heap.size w3 w2' := (HB.out.alloc HB.out.size _).grown hgrow (by have := HB.out.size; (try simp); omega) (fun g hg => (HO.out.lt g hg).1)
                      have HO2 : Hid (OwnT.OwnT w2' w3.heap.size v2' (((([] : List Mt) ++ lb) ++ lt) ++ lc.take (k + 1))) := Lib.hid (by
                        rw [Htk.out, ← List.append_assoc, ← HOut.out]
                        unfold OwnT.OwnT
                        rw [List.length_append, List.flatMap_append]
                        first | exact hown' | simpa using hown')
                      have HB2 := Lib.hid hB2
                      clear hown' hB2 hgrow d0 d1 d2 d3
                      go_wp2_with fail
                      exact ⟨⟨k + 1, _, by omega, rfl, by go_num, HO2, HB2⟩, by simp [intOf]; omega⟩
                    · obtain rfl : k = lc.length := by omega
                      rw [List.take_of_length_le (Nat.le_refl _)] at HO
                      go_wp2_with fail
                      refine (pread _ LL lb.length _ (hL.below (NtX.bt H3.out (HB.out.mono (Nat.le_refl _)))) (by rw [hLL]; exact HO.out.known) (by simp only [hLL, List.length_append, List.length_nil]; omega) (by omega) Hokk.out).mono ?_
                      rintro _ w5 ⟨v5, n5, e5, Q5, rfl, k5, r5, hb5⟩
                      obtain ⟨q1, q2, q3⟩ := Hrd.out _ _ _ r5
                      subst q1 q2
                      have H5 := Lib.hid (NtX.bt (NtX.bt H3.out HB.out) hb5)
                      have K5 := Lib.hid k5
                      have Q3 := Lib.hid q3
                      have hQl : (Q5.map mkN).length ≤ 100 := by
                        have := congrArg List.length q3
                        rw [List.length_map, List.length_map] at this
                        rw [List.length_map, this]
                        omega
                      have Ka5 := Lib.hid ((Ka.out.below H3.out).below (HB.out.trans (hb5.mono HB.out.size)))
                      clear hb5 k5 r5 q3
                      go_wp2_with fail
                      refine (same_any _ _ la (Q5.map mkN) _ Ka5.out K5.out (by omega) (by omega)).mono ?_
                      rintro _ w6 ⟨rfl, hb6⟩
                      rw [show sameN la (Q5.map mkN) = true from same_of Q3.out]
                      have H6 := Lib.hid (NtX.bt H5.out hb6)
                      clear hb6
                      go_wp2_with fail
                      refine (awake_any _ (hL.below H6.out)).mono ?_
                      rintro _ wa ⟨rfl, hba⟩
                      go_wp2_with fail
                      go_ret
                      exact ⟨rfl, NtX.bt H6.out hba⟩
end Go.Proofs.YthjpchnogllliaaGreatDoor.NoteRoundTripsW

/- The law NoteRoundTrips of wireschemalaw08: for every input the call returns true, and the arguments read afterwards as before, where the listed package variables hold what the program's text lays in them; then the card that ties them to that text. -/


set_option linter.unusedSimpArgs false
set_option linter.unusedVariables false
namespace Go.Proofs.YthjpchnogllliaaGreatDoor.lNoteRoundTrips
open Go.ChangeShapes Go.WideShapes Go.ChangeAt Go.RowKit
open Go.ChangeMaps (open_string shut_string)

theorem own : ownKnob Tryz.prog.godebug = none := by kernel_rfl
theorem laidOut : laidOutB Tryz.prog = true := by kernel_rfl
theorem row : LawKit.rowed Tryz.prog Tryz.f4.params.toList = true := by kernel_rfl

set_option maxRecDepth 100000 in
theorem contract (H : Type) (enc : TypeId × Value → H) (W : World) (base : Nat) (args : Array Value) (ds : List (DataW H)) (p : List MemPlace)
    (hval : ∀ (j : Nat) t v, Tryz.f4.params[j]? = some t → args[j]? = some v → Value.okWide Tryz.prog W .any base t v)
    (hA : DataW.TrodAll enc Tryz.prog W 0 (fun _ => true) true Tryz.f4.params.toList args.toList ds p)
    (hreach : (DataW.weightsEach Tryz.prog Tryz.f4.params.toList ds).all (· ≤ reachBytes) = true) (hL : Tld.Ld W) :
    Calls Tryz.prog 4 args W fun e W' => e = .returned (.bool true) ∧ Below W.heap.size W W' := by
  rw [Tryz.params4] at hA hval hreach
  obtain ⟨v0, vs0, d0, ds0, p0, q0, hargs, rfl, rfl, h0, r0⟩ := trodAll_cons hA
  obtain ⟨v1, vs1, d1, ds1, p1, q1, rfl, rfl, rfl, h1, r1⟩ := trodAll_cons r0
  obtain ⟨v2, vs2, d2, ds2, p2, q2, rfl, rfl, rfl, h2, r2⟩ := trodAll_cons r1
  obtain ⟨rfl, rfl, rfl⟩ := trodAll_nil r2
  obtain rfl : args = #[v0, v1, v2] := by cases args; simp_all
  simp only [DataW.weightsEach, List.all_append, Bool.and_eq_true] at hreach
  obtain ⟨z0, z1, z2, _⟩ := hreach
  obtain ⟨n0, kn0, ks0⟩ := NtO.open_notes (hval 0 24 v0 rfl rfl) h0 z0
  obtain ⟨n1, kn1, ks1⟩ := NtO.open_toks (hval 1 22 v1 rfl rfl) h1 z1
  obtain ⟨n2, kn2, ks2⟩ := NtO.open_toks (hval 2 22 v2 rfl rfl) h2 z2
  exact NoteRoundTripsW.walk v0 n0 v1 n1 v2 n2  W kn0 ks0 kn1 ks1 kn2 ks2 hL hL

set_option maxRecDepth 100000 in
theorem lifted (os : Os) (started : os.Started) (H : Type) (enc : TypeId × Value → H) :
    ReturnsInHanded {} Tryz.checked os 4 .any (fun w args => (Rows.noteRoundTripsSpec.pre enc Tryz.prog Tryz.f4 [] false w args ∧ laidMetH Tryz.prog Rows.noteRoundTripsRow.laid w) ∧ sizedMet enc Tryz.prog Tryz.f4 (OpenSpec.ofChange Rows.noteRoundTripsSpec) false w args)
      (Rows.noteRoundTripsSpec.post enc Tryz.prog Tryz.f4 false true false false) := by
  refine LiftV.returns (C := Tryz.checked) (X := fun w _ => laidMetH Tryz.prog Rows.noteRoundTripsRow.laid w) (fun _ _ _ hh h => h.of_heap hh) own started (by kernel_rfl) Tryz.func4
    (ChangeSpec.witness_shaped (enc := enc) (C := Tryz.checked) (os := os) (X := fun w _ => laidMetH Tryz.prog Rows.noteRoundTripsRow.laid w) false (World.laidAll Tryz.prog os Rows.noteRoundTripsRow.laid) #[.slice none 0 0, .slice none 0 0, .slice none 0 0] 8 (World.laidAll_os _ _ _)
      (World.shaped_of_ZipB (by kernel_rfl) (by kernel_rfl)) (by kernel_rfl) (by kernel_rfl) (by kernel_rfl)
      (by rw [MakeChecks.laidMetH_plain _ _ _ (by kernel_rfl)]; exact laidMet_laidAll _ (by kernel_rfl) (by kernel_rfl))) ?_
  intro W base args ds gs before hsh hlaid hval0 hW hreach0
  have hval : ∀ (j : Nat) t v, Tryz.f4.params[j]? = some t → args[j]? = some v → Value.okWide Tryz.prog W .any base t v := hval0
  have hW' := hW
  obtain ⟨p, q, hA, hV, rfl, _, _⟩ := hW'
  obtain ⟨rfl, rfl⟩ := trodVars_none hV
  have hreach : (DataW.weightsEach Tryz.prog Tryz.f4.params.toList ds).all (· ≤ reachBytes) = true := by
    have h0 : (DataW.weightsEach Tryz.prog (Tryz.f4.params.toList ++ []) (ds ++ [])).all (· ≤ reachBytes) = true := hreach0
    rwa [List.append_nil, List.append_nil] at h0
  refine (contract H enc W base args ds p hval hA hreach ⟨LiftV.ld_of hsh, TldOf.ld_of hlaid⟩).mono fun e W' ⟨he, hb⟩ => ?_
  subst he
  refine ⟨_, rfl, LawKit.law_post laidOut row rfl rfl Tryz.underlying4 ?_ hW hb⟩
  have hA' := hA
  rw [Tryz.params4] at hA'
  obtain ⟨v0, vs0, d0, ds0, p0, q0, _, rfl, _, _, r0⟩ := trodAll_cons hA'
  obtain ⟨v1, vs1, d1, ds1, p1, q1, _, rfl, _, _, r1⟩ := trodAll_cons r0
  obtain ⟨v2, vs2, d2, ds2, p2, q2, _, rfl, _, _, r2⟩ := trodAll_cons r1
  obtain ⟨_, rfl, _⟩ := trodAll_nil r2
  exact ⟨rfl, rfl, rfl⟩

/-- The row's statement. -/
theorem said : Rows.NoteRoundTripsSaid :=
  OpenClaim.holds_of_wide 4 Tryz.f4 rfl rfl rfl rfl rfl rfl rfl ⟨rfl, rfl, rfl, rfl, rfl⟩ rfl rfl rfl rfl rfl (by kernel_rfl) Tryz.func4 (by kernel_rfl)
    (of_decide_eq_true (by kernel_rfl)) (by unfold Func.isWrapper; first | (rw [if_pos (by decide +kernel)]; kernel_rfl) | (rw [if_neg (by decide +kernel)]; exact ⟨rfl, rfl⟩))
    (fun os started H enc _ => lifted os started H enc)

/-- The statement: the tied card. -/
theorem proved : Rows.NoteRoundTripsCardSaid :=
  Claim7.holds_tied_plain_at .later [] [.data, .data, .data, .data, .sentinel, .sentinel, .pinned] true (true, "b928748a8b82380c2c4fe581de3e1671190992bf29f4c22a8e369bfc6c835b50") true said (fun _ h => by cases h) (by kernel_rfl) (fun _ h => by cases h) noteRoundTrips_row_tie rfl ⟨rfl, rfl⟩ (by kernel_rfl) rfl
    (fun f fn hf hfn => by
      obtain rfl : f = 4 := Option.some.inj ((show Tryz.prog.funcNamed "wireschema/wireschemalaw08.NoteRoundTrips" = some 4 by kernel_rfl).symm.trans hf) |>.symm
      obtain rfl : fn = Tryz.f4 := (Option.some.inj (Tryz.func4.symm.trans hfn)).symm
      exact ⟨by kernel_rfl, fun j t ht => by
        rw [Tryz.params4] at ht
        have hm : t ∈ [24, 22, 22] := by simpa using Array.mem_of_getElem? ht
        have hall : ([24, 22, 22].all fun u => !Tryz.prog.wantsStandIn u) = true := by kernel_rfl
        exact (show Tryz.prog.wantsStandIn t = false by simpa using List.all_eq_true.1 hall t hm)⟩)
    (by kernel_rfl)
end Go.Proofs.YthjpchnogllliaaGreatDoor.lNoteRoundTrips
