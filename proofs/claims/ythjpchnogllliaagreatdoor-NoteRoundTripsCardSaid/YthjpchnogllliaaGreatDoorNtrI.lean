import Derived.Test.YthjpchnogllliaaGreatDoorNotR
import Derived.Test.YthjpchnogllliaaGreatDoorOwnN
import Derived.Test.YthjpchnogllliaaGreatDoorScaX
import Derived.Test.YthjpchnogllliaaGreatDoorTkrG
/- The reference of stage 8: signs, digits, numbers among tokens. -/
set_option linter.unusedSimpArgs false
set_option linter.unusedVariables false
namespace Go.Proofs.YthjpchnogllliaaGreatDoor.NtrF
open Go.RowKit Nums ScaM ScaV ScaB ScaW ScaX ScaY Val NotM NotR TkrF Box

theorem str_eq (a b : ByteArray) {v : Bool} (h : decide (a.data.toList = b.data.toList) = v) : (a.toList == b.toList) = v := by
  rw [← h, ByteArray.toList_eq, ByteArray.toList_eq, Bool.eq_iff_iff, beq_iff_eq, decide_eq_true_eq]
set_option maxHeartbeats 4000000 in
set_option maxRecDepth 100000 in
theorem sign_any (v : Value) (l : List Mt) (z : Int) (s : ByteArray) (c : UInt8) (w : World) (hk : KnT w v l) (hl : l.length ≤ 9223372036854775807) (hs : s.data.toList = [c]) :
    Calls Tryz.prog 18 #[v, .int .i64 z, .string s] w fun e w' => e = .returned (.bool (sgAt (l.map Mt.tok) z c)) ∧ w = w' := by
  obtain ⟨a1, cap1, rfl, hcap1, hcells1⟩ := hk
  obtain ⟨B, hB⟩ : ∃ B, B = sgAt (l.map Mt.tok) z c := ⟨_, rfl⟩
  rw [← hB]
  unfold sgAt at hB
  by_cases h0 : 0 ≤ z
  · have d0 : decide (0 ≤ z) = true := decide_eq_true h0
    rw [d0, Bool.true_and] at hB
    obtain ⟨k, rfl⟩ : ∃ k : Nat, z = k := ⟨z.toNat, by omega⟩
    rw [Int.toNat_natCast, List.getElem?_map] at hB
    by_cases hlt : k < l.length
    · obtain ⟨m, hm⟩ : ∃ m, l[k]? = some m := ⟨_, List.getElem?_eq_getElem hlt⟩
      obtain ⟨kb, ko, rfl, hb1, c0, c1, c2, c3⟩ := hcells1 k m hm
      rw [hm] at hB
      have hB2 : B = (m.kd == 4 && decide (m.t.data.toList = s.data.toList)) := by
        rw [hB, hs]
        show (m.kd == 4 && (m.t.data.toList == [c])) = _
        congr 1
        rw [Bool.eq_iff_iff, beq_iff_eq, decide_eq_true_eq]
      clear hB hcells1 hm d0
      cases e1 : (m.kd == 4) with
      | false =>
        rw [e1, Bool.false_and] at hB2
        have HB := Lib.hid hB2
        clear hB2 hs
        go_enter Tryz.func18, Tryz.ntmps18
        go_wp2_with fail
        go_ret
        exact ⟨by rw [HB.out]; rfl, rfl⟩
      | true =>
        rw [e1, Bool.true_and] at hB2
        cases e2 : decide (m.t.data.toList = s.data.toList) with
        | false =>
          have e3 := str_eq m.t s e2
          rw [e2] at hB2
          have HB := Lib.hid hB2
          clear hB2 hs e2
          go_enter Tryz.func18, Tryz.ntmps18
          go_wp2_with fail
          go_ret
          exact ⟨by rw [HB.out]; rfl, rfl⟩
        | true =>
          have e3 := str_eq m.t s e2
          rw [e2] at hB2
          have HB := Lib.hid hB2
          clear hB2 hs e2
          go_enter Tryz.func18, Tryz.ntmps18
          go_wp2_with fail
          go_ret
          exact ⟨by rw [HB.out]; rfl, rfl⟩
    · rw [List.getElem?_eq_none (by omega)] at hB
      have HB := Lib.hid (show B = false from hB)
      have d1 : decide ((k : Int) < l.length) = false := decide_eq_false (by omega)
      clear hB hcells1 hs d0
      go_enter Tryz.func18, Tryz.ntmps18
      go_wp2_with fail
      go_ret
      exact ⟨by rw [HB.out]; rfl, rfl⟩
  · have d0 : decide (0 ≤ z) = false := decide_eq_false h0
    rw [d0, Bool.false_and] at hB
    have HB := Lib.hid hB
    clear hB hcells1 hs h0
    go_enter Tryz.func18, Tryz.ntmps18
    go_wp2_with fail
    go_ret
    exact ⟨by rw [HB.out]; rfl, rfl⟩

theorem ext_dig (d : Nat) (h : d < 10) : (⟨#[48, 49, 50, 51, 52, 53, 54, 55, 56, 57]⟩ : ByteArray).extract d (d + 1) = ⟨#[TkrC.dig1 d]⟩ := by
  match d, h with
  | 0, _ | 1, _ | 2, _ | 3, _ | 4, _ | 5, _ | 6, _ | 7, _ | 8, _ | 9, _ => rfl
theorem rem_nat (m : Nat) : ∃ d : Nat, (m : Int) % 10 = (d : Int) ∧ d < 10 ∧ d = m % 10 := ⟨m % 10, by omega, by omega, rfl⟩
theorem wrap_1 (d : Nat) (h : d < 10) : IntKind.u64.wrap ((d : Int) + 1) = (d : Int) + 1 := by rw [IntKind.wrap_u64]; omega
set_option maxHeartbeats 4000000 in
set_option maxRecDepth 100000 in
theorem digits_any (n : Nat) (hn : n ≤ 18446744073709551615) (w : World) :
    Calls Tryz.prog 65 #[.int .u64 n] w fun e w' => e = .returned (.string ⟨(ScaM.dec n).toArray⟩) ∧ w = w' := by
  have hdl := ScaM.dec_len 19 n (by omega)
  have Hdl := Lib.hid hdl
  have H0 := Lib.hid (TkrC.dec_decR n)
  obtain ⟨d, hd1, hd2, hd3⟩ := rem_nat n
  have hx := ext_dig d hd2
  have hw1 := wrap_1 d hd2
  have hb1 : (d : Int) + 1 ≤ 10 := by omega
  have Hd3 := Lib.hid hd3
  clear hdl hd3
  go_enter Tryz.func65, Tryz.ntmps65
  go_wp2_with fail
  clear hd1 hx hw1 hb1
  go_loop [0, 4] (fun nv sv => ∃ (m : Nat) (T : ByteArray), nv = .int .u64 m ∧ sv = .string T ∧ m ≤ 18446744073709551615 ∧ T.size ≤ 20 ∧ Hid (ScaM.dec n = TkrC.decR m ++ T.data.toList)) (fun nv _ => (intOf nv).toNat)
  case atStart => exact ⟨n, ⟨#[TkrC.dig1 d]⟩, rfl, rfl, hn, by show 1 ≤ 20; decide, Lib.hid (by rw [Hd3.out]; exact H0.out)⟩
  case round =>
    obtain ⟨m, T, rfl, rfl, hm, hT, Hm⟩ := hrel
    by_cases h10 : m < 10
    · have d1 : decide ((9 : Int) < m) = false := decide_eq_false (by omega)
      have hf : ScaM.dec n = T.data.toList := by rw [Hm.out, TkrC.decR, if_pos h10]; rfl
      have Hf := Lib.hid hf
      clear hf
      go_wp2_with fail
      go_ret
      refine ⟨?_, rfl⟩
      rw [Hf.out]
      rfl
    · have d1 : decide ((9 : Int) < m) = true := decide_eq_true (by omega)
      obtain ⟨q, hq⟩ : ∃ q : Nat, (m : Int) / 10 = (q : Int) ∧ q = m / 10 := ⟨m / 10, by omega, rfl⟩
      obtain ⟨hq1, hq2⟩ := hq
      obtain ⟨e, he1, he2, he3⟩ := rem_nat q
      have hx := ext_dig e he2
      have hw1 := wrap_1 e he2
      have hb1 : (e : Int) + 1 ≤ 10 := by omega
      have hm2 : TkrC.decR m = TkrC.decR q ++ [TkrC.dig1 e] := by
        rw [TkrC.decR, if_neg h10, TkrC.dec_decR, ← hq2, ← he3]
      have hnext : ScaM.dec n = TkrC.decR q ++ ((⟨#[TkrC.dig1 e]⟩ : ByteArray) ++ T).data.toList := by
        rw [Hm.out, hm2, append_toList]
        simp
      have hsz : ((⟨#[TkrC.dig1 e]⟩ : ByteArray) ++ T).size ≤ 20 := by
        have h1 := congrArg List.length hnext
        rw [List.length_append] at h1
        have h2 := Hdl.out
        have h3 : ((⟨#[TkrC.dig1 e]⟩ : ByteArray) ++ T).data.toList.length = ((⟨#[TkrC.dig1 e]⟩ : ByteArray) ++ T).size := rfl
        omega
      have hsum : (⟨#[TkrC.dig1 e]⟩ : ByteArray).size + T.size ≤ 9223372036854775807 := by
        show 1 + T.size ≤ _; omega
      have hlt : q < m := by omega
      have hqm : q ≤ 18446744073709551615 := by omega
      have Hnext := Lib.hid hnext
      have Hsz := Lib.hid hsz
      clear hm2 hnext hsz hq2 he3
      go_wp2_with fail
      exact ⟨⟨q, (⟨#[TkrC.dig1 e]⟩ : ByteArray) ++ T, rfl, rfl, hqm, Hsz.out, Hnext⟩, by simp [intOf]; omega⟩
end Go.Proofs.YthjpchnogllliaaGreatDoor.NtrF

/- The reference of stage 8: numbers and values among tokens. -/
set_option linter.unusedSimpArgs false
set_option linter.unusedVariables false
namespace Go.Proofs.YthjpchnogllliaaGreatDoor.NtrG
open Go.RowKit Nums ScaM ScaV ScaB ScaW ScaX ScaY Val NotM NotR NtrB NtrF TkrF Box

/-- The number that begins here, with a sign or without. -/
def nvT (k : Int) (ts : List TokM.Tok) : Except (Nat × Int) (SV × Nat) := match ts with
  | [] => .error (0, 2)
  | x :: r => if isSg x 45 = true then numT k 1 [45] r else numT k 0 [] (x :: r)
theorem val_num {k : Int} (h : k = 4 ∨ k = 3) (ts : List TokM.Tok) : valT k ts = nvT k ts := by unfold valT; rw [if_pos h]; rfl
/-- What number and value return. -/
def VB (x : Except (Nat × Int) (SV × Nat)) (k : Nat) (w : World) (e : Ending) (w' : World) : Prop := ∃ (X : SV) (z er : Int), e = .returned (.tuple #[vv X, .int .i64 z, .int .i64 er]) ∧
  (match x with
    | .error q => z = ((k + q.1 : Nat) : Int) ∧ er = q.2
    | .ok q => X = q.1 ∧ z = ((k + q.2 : Nat) : Int) ∧ er = 0) ∧ Below w.heap.size w w'
theorem nv_hit {k : Int} {ts : List TokM.Tok} {j : Nat} {x : TokM.Tok} (h : ts[j]? = some x) (hs : isSg x 45 = true) : nvT k (ts.drop j) = numT k 1 [45] (ts.drop (j + 1)) := by
  obtain ⟨h1, h2⟩ := List.getElem?_eq_some_iff.1 h
  rw [List.drop_eq_getElem_cons h1, h2]
  show (if _ then _ else _) = _
  rw [if_pos hs]
theorem nv_miss {k : Int} {ts : List TokM.Tok} {j : Nat} (h : sgAt ts j 45 = false) : nvT k (ts.drop j) = numT k 0 [] (ts.drop j) := by
  unfold sgAt at h
  rw [decide_eq_true (by omega : (0 : Int) ≤ j), Bool.true_and, Int.toNat_natCast] at h
  cases e : ts.drop j with
  | nil => rfl
  | cons x r =>
    have hx : ts[j]? = some x := by
      have h1 := congrArg (·[0]?) e
      simp only [List.getElem?_drop, Nat.add_zero] at h1
      exact h1
    rw [hx] at h
    show (if _ then _ else _) = _
    rw [if_neg (by simp only at h; rw [h]; simp)]
theorem num_end {k : Int} {m : Nat} {q : List UInt8} {ts : List TokM.Tok} {j : Nat} (h : ts.length ≤ j) : numT k m q (ts.drop j) = .error (m, 2) := by
  rw [List.drop_of_length_le h]; rfl
theorem num_at {k : Int} {m : Nat} {q : List UInt8} {ts : List TokM.Tok} {j : Nat} {x : TokM.Tok} (h : ts[j]? = some x) : numT k m q (ts.drop j) =
    if x.kind = 2 then (if (wholeS k (q ++ ScaM.dec (TokS.uI x.num))).2 = 0 then .ok ((wholeS k (q ++ ScaM.dec (TokS.uI x.num))).1, m + 1) else .error (m, (wholeS k (q ++ ScaM.dec (TokS.uI x.num))).2)) else .error (m, 2) := by
  obtain ⟨h1, h2⟩ := List.getElem?_eq_some_iff.1 h
  rw [List.drop_eq_getElem_cons h1, h2]
  rfl
theorem par_whole {k : Int} (h : k = 4 ∨ k = 3) (l : List UInt8) : parseS doubleS k l = wholeS k l := by
  rcases h with rfl | rfl <;> rfl

set_option maxHeartbeats 4000000 in
set_option maxRecDepth 100000 in
theorem number_hit (v : Value) (l : List Mt) (k : Nat) (kd : Int) (hkd : kd = 4 ∨ kd = 3) (w : World) (hk : KnT w v l) (hl : l.length ≤ 100000) (hkl : k ≤ 100001) (hok : ∀ m ∈ l, -9223372036854775808 ≤ m.nu ∧ m.nu ≤ 9223372036854775807)
    (hSg : sgAt (l.map Mt.tok) k 45 = true) (X : Except (Nat × Int) (SV × Nat)) (hX : X = numT kd 1 [45] ((l.map Mt.tok).drop (k + 1))) :
    Calls Tryz.prog 32 #[v, .int .i64 k, .int .i64 kd] w fun e w' => VB X k w e w' := by
  have HSg : Hid (∀ W : World, Below w.heap.size w W → Calls Tryz.prog 18 #[v, .int .i64 k, .string ⟨#[45]⟩] W fun e w' => e = .returned (.bool (sgAt (l.map Mt.tok) k 45)) ∧ W = w') := Lib.hid (fun W hW => sign_any v l k ⟨#[45]⟩ 45 W (hk.below hW) (by omega) rfl)
  have hk' := hk.below ((Below.refl _ _).alloc (Nat.le_refl _) _ : Below w.heap.size w (w.alloc (.cells #[.int .i64 0, .int .u64 0, .string ⟨#[]⟩, .slice none 0 0, .slice none 0 0, .slice none 0 0, .slice none 0 0] 42)))
  obtain ⟨a1, cap1, rfl, hcap1, hcells1⟩ := hk'
  have H1 := Lib.hid hcells1
  have Hok := Lib.hid hok
  clear hcells1 hok hk
  have HS := Lib.hid hSg
  clear hSg
  by_cases hlt : (k + 1) < l.length
  · have dge : decide ((l.length : Int) ≤ ((k : Int) + 1)) = false := decide_eq_false (by omega)
    have dge' : decide (l.length ≤ (k + 1)) = false := decide_eq_false (by omega)
    obtain ⟨m, hm⟩ : ∃ m, l[(k + 1)]? = some m := ⟨_, List.getElem?_eq_getElem hlt⟩
    obtain ⟨kb, ko, ha, hb1, c0, c1, c2, c3⟩ := H1.out (k + 1) m hm
    subst ha
    have hmt : (l.map Mt.tok)[(k + 1)]? = some m.tok := by rw [List.getElem?_map, hm]; rfl
    rw [num_at hmt, show m.tok.kind = m.kd from rfl, show m.tok.num = m.nu from rfl] at hX
    by_cases hk2 : m.kd = 2
    · have e2 : (m.kd != 2) = false := by rw [bne_eq_false_iff_eq]; exact hk2
      rw [if_pos hk2] at hX
      have hnr := Hok.out m (List.mem_of_getElem? hm)
      have hwu := TkrE.wrap_uI m.nu hnr.1 hnr.2
      have hul := TkrE.uI_le m.nu hnr.1 hnr.2
      generalize TokS.uI m.nu = U at *
      obtain ⟨D, hD⟩ : ∃ D : ByteArray, D = ⟨(ScaM.dec U).toArray⟩ := ⟨_, rfl⟩
      have hDl := ScaM.dec_len 19 U (by omega)
      have hDs : D.size ≤ 20 := by rw [hD, size_mk]; exact hDl
      have hsum : (⟨#[45]⟩ : ByteArray).size + D.size ≤ 9223372036854775807 := by show 1 + D.size ≤ _; omega
      obtain ⟨Y, hY⟩ : ∃ Y : ByteArray, Y = (⟨#[45]⟩ : ByteArray) ++ D := ⟨_, rfl⟩
      have hYd : Y.data.toList = [45] ++ ScaM.dec U := by rw [hY, append_toList, hD]
      have hYs : Y.size ≤ 21 := by rw [hY, ByteArray.size_append]; show 1 + D.size ≤ 21; omega
      obtain ⟨⟨⟨pk, pb, pt, pa1, pl1, pc1, pa2, pl2, pc2, pa3, pl3, pc3, pa4, pl4, pc4⟩, er⟩, hP⟩ : ∃ p, wholeS kd ([45] ++ ScaM.dec U) = p := ⟨_, rfl⟩
      rw [hP] at hX
      simp only at hX
      have hpar : parseS doubleS kd Y.data.toList = (⟨pk, pb, pt, pa1, pl1, pc1, pa2, pl2, pc2, pa3, pl3, pc3, pa4, pl4, pc4⟩, er) := by rw [hYd, par_whole hkd]; exact hP
      have HD := Lib.hid hD
      have HY := Lib.hid hY
      have Hpar := Lib.hid hpar
      clear hD hY hYd hP hpar hm hmt hnr hDl hk2
      by_cases her : er = 0
      · have e3 : (er != 0) = false := by rw [bne_eq_false_iff_eq]; exact her
        rw [if_pos her] at hX
        have HX := Lib.hid hX
        clear hX her
        go_enter Tryz.func32, Tryz.ntmps32
        go_wp2_with fail
        refine (HSg.out _ ((Below.refl _ _).alloc (Nat.le_refl _) _)).mono ?_
        rintro _ wz ⟨rfl, rfl⟩
        rw [HS.out]
        go_wp2_with fail
        refine (digits_any U hul _).mono ?_
        rintro _ wz ⟨rfl, rfl⟩
        rw [← HD.out]
        go_wp2_with fail
        rw [← HY.out]
        refine (ScaX.parse_any kd Y (by omega) _).mono ?_
        rintro _ w2 ⟨rfl, hb2⟩
        rw [Hpar.out]
        have B := (b7_new w (.int .i64 0) (.int .u64 0) (.string ⟨#[]⟩) (.slice none 0 0) (.slice none 0 0) (.slice none 0 0) (.slice none 0 0) 42).below hb2
        have ⟨plt, p0, p1, p2, p3, p4, p5, p6, pf⟩ := B
        have hbw := ((Below.refl _ _).alloc (Nat.le_refl _) _ : Below w.heap.size w (w.alloc (.cells #[.int .i64 0, .int .u64 0, .string ⟨#[]⟩, .slice none 0 0, .slice none 0 0, .slice none 0 0, .slice none 0 0] 42))).trans (hb2.mono (by simp))
        clear hb2
        simp only [vv]
        go_wp2_with fail
        have BF := (((((((B.set0 (.int .i64 pk)).set1 (.int .u64 pb)).set2 (.string pt)).set3 (.slice pa1 pl1 pc1)).set4 (.slice pa2 pl2 pc2)).set5 (.slice pa3 pl3 pc3)).set6 (.slice pa4 pl4 pc4)).alloc (.cells #[.int .i64 pk, .int .u64 pb, .string pt, .slice pa1 pl1 pc1, .slice pa2 pl2 pc2, .slice pa3 pl3 pc3, .slice pa4 pl4 pc4] 42)
        obtain ⟨_, q0, q1, q2, q3, q4, q5, q6, _⟩ := BF
        exact bodyPost_ret (v := .tuple #[.agg #[.int .i64 pk, .int .u64 pb, .string pt, .slice pa1 pl1 pc1, .slice pa2 pl2 pc2, .slice pa3 pl3 pc3, .slice pa4 pl4 pc4], .int .i64 (((k : Int) + 1) + 1), .int .i64 0]) (by simp [results, Tryz.results32, go_sem, q0, q1, q2, q3, q4, q5, q6]) rfl ⟨⟨pk, pb, pt, pa1, pl1, pc1, pa2, pl2, pc2, pa3, pl3, pc3, pa4, pl4, pc4⟩, _, _, rfl, by rw [HX.out]; exact ⟨rfl, by simp; try omega, rfl⟩, (below7s hbw (Nat.le_refl _) _ _ _ _ _ _ _).alloc (Nat.le_trans hbw.size (by simp)) _⟩

      · have e3 : (er != 0) = true := by rw [bne_iff_ne]; exact her
        rw [if_neg her] at hX
        have HX := Lib.hid hX
        clear hX her
        go_enter Tryz.func32, Tryz.ntmps32
        go_wp2_with fail
        refine (HSg.out _ ((Below.refl _ _).alloc (Nat.le_refl _) _)).mono ?_
        rintro _ wz ⟨rfl, rfl⟩
        rw [HS.out]
        go_wp2_with fail
        refine (digits_any U hul _).mono ?_
        rintro _ wz ⟨rfl, rfl⟩
        rw [← HD.out]
        go_wp2_with fail
        rw [← HY.out]
        refine (ScaX.parse_any kd Y (by omega) _).mono ?_
        rintro _ w2 ⟨rfl, hb2⟩
        rw [Hpar.out]
        have B := (b7_new w (.int .i64 0) (.int .u64 0) (.string ⟨#[]⟩) (.slice none 0 0) (.slice none 0 0) (.slice none 0 0) (.slice none 0 0) 42).below hb2
        have ⟨plt, p0, p1, p2, p3, p4, p5, p6, pf⟩ := B
        have hbw := ((Below.refl _ _).alloc (Nat.le_refl _) _ : Below w.heap.size w (w.alloc (.cells #[.int .i64 0, .int .u64 0, .string ⟨#[]⟩, .slice none 0 0, .slice none 0 0, .slice none 0 0, .slice none 0 0] 42))).trans (hb2.mono (by simp))
        clear hb2
        simp only [vv]
        go_wp2_with fail
        have BF := (((((((B.set0 (.int .i64 0)).set1 (.int .u64 0)).set2 (.string ⟨#[]⟩)).set3 (.slice none 0 0)).set4 (.slice none 0 0)).set5 (.slice none 0 0)).set6 (.slice none 0 0)).alloc (.cells #[.int .i64 pk, .int .u64 pb, .string pt, .slice pa1 pl1 pc1, .slice pa2 pl2 pc2, .slice pa3 pl3 pc3, .slice pa4 pl4 pc4] 42)
        obtain ⟨_, q0, q1, q2, q3, q4, q5, q6, _⟩ := BF
        exact bodyPost_ret (v := .tuple #[.agg #[.int .i64 0, .int .u64 0, .string ⟨#[]⟩, .slice none 0 0, .slice none 0 0, .slice none 0 0, .slice none 0 0], .int .i64 ((k : Int) + 1), .int .i64 er]) (by simp [results, Tryz.results32, go_sem, q0, q1, q2, q3, q4, q5, q6]) rfl ⟨zv 0, _, _, rfl, by rw [HX.out]; exact ⟨by simp; try omega, rfl⟩, (below7s hbw (Nat.le_refl _) _ _ _ _ _ _ _).alloc (Nat.le_trans hbw.size (by simp)) _⟩

    · have e2 : (m.kd != 2) = true := by rw [bne_iff_ne]; exact hk2
      rw [if_neg hk2] at hX
      have HX := Lib.hid hX
      clear hX hm hmt hk2
      go_enter Tryz.func32, Tryz.ntmps32
      go_wp2_with fail
      refine (HSg.out _ ((Below.refl _ _).alloc (Nat.le_refl _) _)).mono ?_
      rintro _ wz ⟨rfl, rfl⟩
      rw [HS.out]
      go_wp2_with fail
      exact bodyPost_ret (v := .tuple #[.agg #[.int .i64 0, .int .u64 0, .string ⟨#[]⟩, .slice none 0 0, .slice none 0 0, .slice none 0 0, .slice none 0 0], .int .i64 ((k : Int) + 1), .int .i64 2]) (by simp [results, Tryz.results32, go_sem]) rfl ⟨zv 0, _, _, rfl, by rw [HX.out]; exact ⟨by simp; try omega, rfl⟩, (Below.refl _ _).alloc (Nat.le_refl _) _⟩

  · have dge : decide ((l.length : Int) ≤ ((k : Int) + 1)) = true := decide_eq_true (by omega)
    have dge' : decide (l.length ≤ (k + 1)) = true := decide_eq_true (by omega)
    rw [num_end (by rw [List.length_map]; omega)] at hX
    have HX := Lib.hid hX
    clear hX hlt
    go_enter Tryz.func32, Tryz.ntmps32
    go_wp2_with fail
    refine (HSg.out _ ((Below.refl _ _).alloc (Nat.le_refl _) _)).mono ?_
    rintro _ wz ⟨rfl, rfl⟩
    rw [HS.out]
    go_wp2_with fail
    exact bodyPost_ret (v := .tuple #[.agg #[.int .i64 0, .int .u64 0, .string ⟨#[]⟩, .slice none 0 0, .slice none 0 0, .slice none 0 0, .slice none 0 0], .int .i64 ((k : Int) + 1), .int .i64 2]) (by simp [results, Tryz.results32, go_sem]) rfl ⟨zv 0, _, _, rfl, by rw [HX.out]; exact ⟨by simp; try omega, rfl⟩, (Below.refl _ _).alloc (Nat.le_refl _) _⟩

set_option maxHeartbeats 4000000 in
set_option maxRecDepth 100000 in
theorem number_miss (v : Value) (l : List Mt) (k : Nat) (kd : Int) (hkd : kd = 4 ∨ kd = 3) (w : World) (hk : KnT w v l) (hl : l.length ≤ 100000) (hkl : k ≤ 100001) (hok : ∀ m ∈ l, -9223372036854775808 ≤ m.nu ∧ m.nu ≤ 9223372036854775807)
    (hSg : sgAt (l.map Mt.tok) k 45 = false) (X : Except (Nat × Int) (SV × Nat)) (hX : X = numT kd 0 [] ((l.map Mt.tok).drop k)) :
    Calls Tryz.prog 32 #[v, .int .i64 k, .int .i64 kd] w fun e w' => VB X k w e w' := by
  have HSg : Hid (∀ W : World, Below w.heap.size w W → Calls Tryz.prog 18 #[v, .int .i64 k, .string ⟨#[45]⟩] W fun e w' => e = .returned (.bool (sgAt (l.map Mt.tok) k 45)) ∧ W = w') := Lib.hid (fun W hW => sign_any v l k ⟨#[45]⟩ 45 W (hk.below hW) (by omega) rfl)
  have hk' := hk.below ((Below.refl _ _).alloc (Nat.le_refl _) _ : Below w.heap.size w (w.alloc (.cells #[.int .i64 0, .int .u64 0, .string ⟨#[]⟩, .slice none 0 0, .slice none 0 0, .slice none 0 0, .slice none 0 0] 42)))
  obtain ⟨a1, cap1, rfl, hcap1, hcells1⟩ := hk'
  have H1 := Lib.hid hcells1
  have Hok := Lib.hid hok
  clear hcells1 hok hk
  have HS := Lib.hid hSg
  clear hSg
  by_cases hlt : k < l.length
  · have dge : decide ((l.length : Int) ≤ (k : Int)) = false := decide_eq_false (by omega)
    have dge' : decide (l.length ≤ k) = false := decide_eq_false (by omega)
    obtain ⟨m, hm⟩ : ∃ m, l[k]? = some m := ⟨_, List.getElem?_eq_getElem hlt⟩
    obtain ⟨kb, ko, ha, hb1, c0, c1, c2, c3⟩ := H1.out k m hm
    subst ha
    have hmt : (l.map Mt.tok)[k]? = some m.tok := by rw [List.getElem?_map, hm]; rfl
    rw [num_at hmt, show m.tok.kind = m.kd from rfl, show m.tok.num = m.nu from rfl] at hX
    by_cases hk2 : m.kd = 2
    · have e2 : (m.kd != 2) = false := by rw [bne_eq_false_iff_eq]; exact hk2
      rw [if_pos hk2] at hX
      have hnr := Hok.out m (List.mem_of_getElem? hm)
      have hwu := TkrE.wrap_uI m.nu hnr.1 hnr.2
      have hul := TkrE.uI_le m.nu hnr.1 hnr.2
      generalize TokS.uI m.nu = U at *
      obtain ⟨D, hD⟩ : ∃ D : ByteArray, D = ⟨(ScaM.dec U).toArray⟩ := ⟨_, rfl⟩
      have hDl := ScaM.dec_len 19 U (by omega)
      have hDs : D.size ≤ 20 := by rw [hD, size_mk]; exact hDl
      have hsum : (⟨#[]⟩ : ByteArray).size + D.size ≤ 9223372036854775807 := by show 0 + D.size ≤ _; omega
      obtain ⟨Y, hY⟩ : ∃ Y : ByteArray, Y = (⟨#[]⟩ : ByteArray) ++ D := ⟨_, rfl⟩
      have hYd : Y.data.toList = [] ++ ScaM.dec U := by rw [hY, append_toList, hD]
      have hYs : Y.size ≤ 21 := by rw [hY, ByteArray.size_append]; show 0 + D.size ≤ 21; omega
      obtain ⟨⟨⟨pk, pb, pt, pa1, pl1, pc1, pa2, pl2, pc2, pa3, pl3, pc3, pa4, pl4, pc4⟩, er⟩, hP⟩ : ∃ p, wholeS kd ([] ++ ScaM.dec U) = p := ⟨_, rfl⟩
      rw [hP] at hX
      simp only at hX
      have hpar : parseS doubleS kd Y.data.toList = (⟨pk, pb, pt, pa1, pl1, pc1, pa2, pl2, pc2, pa3, pl3, pc3, pa4, pl4, pc4⟩, er) := by rw [hYd, par_whole hkd]; exact hP
      have HD := Lib.hid hD
      have HY := Lib.hid hY
      have Hpar := Lib.hid hpar
      clear hD hY hYd hP hpar hm hmt hnr hDl hk2
      by_cases her : er = 0
      · have e3 : (er != 0) = false := by rw [bne_eq_false_iff_eq]; exact her
        rw [if_pos her] at hX
        have HX := Lib.hid hX
        clear hX her
        go_enter Tryz.func32, Tryz.ntmps32
        go_wp2_with fail
        refine (HSg.out _ ((Below.refl _ _).alloc (Nat.le_refl _) _)).mono ?_
        rintro _ wz ⟨rfl, rfl⟩
        rw [HS.out]
        go_wp2_with fail
        refine (digits_any U hul _).mono ?_
        rintro _ wz ⟨rfl, rfl⟩
        rw [← HD.out]
        go_wp2_with fail
        rw [← HY.out]
        refine (ScaX.parse_any kd Y (by omega) _).mono ?_
        rintro _ w2 ⟨rfl, hb2⟩
        rw [Hpar.out]
        have B := (b7_new w (.int .i64 0) (.int .u64 0) (.string ⟨#[]⟩) (.slice none 0 0) (.slice none 0 0) (.slice none 0 0) (.slice none 0 0) 42).below hb2
        have ⟨plt, p0, p1, p2, p3, p4, p5, p6, pf⟩ := B
        have hbw := ((Below.refl _ _).alloc (Nat.le_refl _) _ : Below w.heap.size w (w.alloc (.cells #[.int .i64 0, .int .u64 0, .string ⟨#[]⟩, .slice none 0 0, .slice none 0 0, .slice none 0 0, .slice none 0 0] 42))).trans (hb2.mono (by simp))
        clear hb2
        simp only [vv]
        go_wp2_with fail
        have BF := (((((((B.set0 (.int .i64 pk)).set1 (.int .u64 pb)).set2 (.string pt)).set3 (.slice pa1 pl1 pc1)).set4 (.slice pa2 pl2 pc2)).set5 (.slice pa3 pl3 pc3)).set6 (.slice pa4 pl4 pc4)).alloc (.cells #[.int .i64 pk, .int .u64 pb, .string pt, .slice pa1 pl1 pc1, .slice pa2 pl2 pc2, .slice pa3 pl3 pc3, .slice pa4 pl4 pc4] 42)
        obtain ⟨_, q0, q1, q2, q3, q4, q5, q6, _⟩ := BF
        exact bodyPost_ret (v := .tuple #[.agg #[.int .i64 pk, .int .u64 pb, .string pt, .slice pa1 pl1 pc1, .slice pa2 pl2 pc2, .slice pa3 pl3 pc3, .slice pa4 pl4 pc4], .int .i64 ((k : Int) + 1), .int .i64 0]) (by simp [results, Tryz.results32, go_sem, q0, q1, q2, q3, q4, q5, q6]) rfl ⟨⟨pk, pb, pt, pa1, pl1, pc1, pa2, pl2, pc2, pa3, pl3, pc3, pa4, pl4, pc4⟩, _, _, rfl, by rw [HX.out]; exact ⟨rfl, by simp; try omega, rfl⟩, (below7s hbw (Nat.le_refl _) _ _ _ _ _ _ _).alloc (Nat.le_trans hbw.size (by simp)) _⟩

      · have e3 : (er != 0) = true := by rw [bne_iff_ne]; exact her
        rw [if_neg her] at hX
        have HX := Lib.hid hX
        clear hX her
        go_enter Tryz.func32, Tryz.ntmps32
        go_wp2_with fail
        refine (HSg.out _ ((Below.refl _ _).alloc (Nat.le_refl _) _)).mono ?_
        rintro _ wz ⟨rfl, rfl⟩
        rw [HS.out]
        go_wp2_with fail
        refine (digits_any U hul _).mono ?_
        rintro _ wz ⟨rfl, rfl⟩
        rw [← HD.out]
        go_wp2_with fail
        rw [← HY.out]
        refine (ScaX.parse_any kd Y (by omega) _).mono ?_
        rintro _ w2 ⟨rfl, hb2⟩
        rw [Hpar.out]
        have B := (b7_new w (.int .i64 0) (.int .u64 0) (.string ⟨#[]⟩) (.slice none 0 0) (.slice none 0 0) (.slice none 0 0) (.slice none 0 0) 42).below hb2
        have ⟨plt, p0, p1, p2, p3, p4, p5, p6, pf⟩ := B
        have hbw := ((Below.refl _ _).alloc (Nat.le_refl _) _ : Below w.heap.size w (w.alloc (.cells #[.int .i64 0, .int .u64 0, .string ⟨#[]⟩, .slice none 0 0, .slice none 0 0, .slice none 0 0, .slice none 0 0] 42))).trans (hb2.mono (by simp))
        clear hb2
        simp only [vv]
        go_wp2_with fail
        have BF := (((((((B.set0 (.int .i64 0)).set1 (.int .u64 0)).set2 (.string ⟨#[]⟩)).set3 (.slice none 0 0)).set4 (.slice none 0 0)).set5 (.slice none 0 0)).set6 (.slice none 0 0)).alloc (.cells #[.int .i64 pk, .int .u64 pb, .string pt, .slice pa1 pl1 pc1, .slice pa2 pl2 pc2, .slice pa3 pl3 pc3, .slice pa4 pl4 pc4] 42)
        obtain ⟨_, q0, q1, q2, q3, q4, q5, q6, _⟩ := BF
        exact bodyPost_ret (v := .tuple #[.agg #[.int .i64 0, .int .u64 0, .string ⟨#[]⟩, .slice none 0 0, .slice none 0 0, .slice none 0 0, .slice none 0 0], .int .i64 (k : Int), .int .i64 er]) (by simp [results, Tryz.results32, go_sem, q0, q1, q2, q3, q4, q5, q6]) rfl ⟨zv 0, _, _, rfl, by rw [HX.out]; exact ⟨by simp; try omega, rfl⟩, (below7s hbw (Nat.le_refl _) _ _ _ _ _ _ _).alloc (Nat.le_trans hbw.size (by simp)) _⟩

    · have e2 : (m.kd != 2) = true := by rw [bne_iff_ne]; exact hk2
      rw [if_neg hk2] at hX
      have HX := Lib.hid hX
      clear hX hm hmt hk2
      go_enter Tryz.func32, Tryz.ntmps32
      go_wp2_with fail
      refine (HSg.out _ ((Below.refl _ _).alloc (Nat.le_refl _) _)).mono ?_
      rintro _ wz ⟨rfl, rfl⟩
      rw [HS.out]
      go_wp2_with fail
      exact bodyPost_ret (v := .tuple #[.agg #[.int .i64 0, .int .u64 0, .string ⟨#[]⟩, .slice none 0 0, .slice none 0 0, .slice none 0 0, .slice none 0 0], .int .i64 (k : Int), .int .i64 2]) (by simp [results, Tryz.results32, go_sem]) rfl ⟨zv 0, _, _, rfl, by rw [HX.out]; exact ⟨by simp; try omega, rfl⟩, (Below.refl _ _).alloc (Nat.le_refl _) _⟩

  · have dge : decide ((l.length : Int) ≤ (k : Int)) = true := decide_eq_true (by omega)
    have dge' : decide (l.length ≤ k) = true := decide_eq_true (by omega)
    rw [num_end (by rw [List.length_map]; omega)] at hX
    have HX := Lib.hid hX
    clear hX hlt
    go_enter Tryz.func32, Tryz.ntmps32
    go_wp2_with fail
    refine (HSg.out _ ((Below.refl _ _).alloc (Nat.le_refl _) _)).mono ?_
    rintro _ wz ⟨rfl, rfl⟩
    rw [HS.out]
    go_wp2_with fail
    exact bodyPost_ret (v := .tuple #[.agg #[.int .i64 0, .int .u64 0, .string ⟨#[]⟩, .slice none 0 0, .slice none 0 0, .slice none 0 0, .slice none 0 0], .int .i64 (k : Int), .int .i64 2]) (by simp [results, Tryz.results32, go_sem]) rfl ⟨zv 0, _, _, rfl, by rw [HX.out]; exact ⟨by simp; try omega, rfl⟩, (Below.refl _ _).alloc (Nat.le_refl _) _⟩

theorem number_any (v : Value) (l : List Mt) (k : Nat) (kd : Int) (hkd : kd = 4 ∨ kd = 3) (w : World) (hk : KnT w v l) (hl : l.length ≤ 100000) (hkl : k ≤ 100001) (hok : ∀ m ∈ l, -9223372036854775808 ≤ m.nu ∧ m.nu ≤ 9223372036854775807) :
    Calls Tryz.prog 32 #[v, .int .i64 k, .int .i64 kd] w fun e w' => VB (nvT kd ((l.map Mt.tok).drop k)) k w e w' := by
  cases hSg : sgAt (l.map Mt.tok) k 45 with
  | true =>
    have hx : ∃ x, (l.map Mt.tok)[k]? = some x ∧ isSg x 45 = true := by
      have h := hSg
      unfold sgAt at h
      rw [Bool.and_eq_true, Int.toNat_natCast] at h
      cases e : (l.map Mt.tok)[k]? with
      | none => rw [e] at h; exact absurd h.2 (by simp)
      | some x => rw [e] at h; exact ⟨x, rfl, h.2⟩
    obtain ⟨x, hx1, hx2⟩ := hx
    exact number_hit v l k kd hkd w hk hl hkl hok hSg _ (nv_hit hx1 hx2)
  | false => exact number_miss v l k kd hkd w hk hl hkl hok hSg _ (nv_miss hSg)
end Go.Proofs.YthjpchnogllliaaGreatDoor.NtrG

/- The reference of stage 8: values among tokens. -/
set_option linter.unusedSimpArgs false
set_option linter.unusedVariables false
namespace Go.Proofs.YthjpchnogllliaaGreatDoor.NtrH
open Go.RowKit Nums ScaM ScaV ScaB ScaW ScaX ScaY Val NotM NotR NtrB NtrF NtrG TkrF Box

theorem val_end {kd : Int} (h : ¬ (kd = 4 ∨ kd = 3)) {ts : List TokM.Tok} {k : Nat} (hl : ts.length ≤ k) : valT kd (ts.drop k) = .error (0, 2) := by
  unfold valT
  rw [if_neg h, List.drop_of_length_le hl]
theorem val_at {kd : Int} (h : ¬ (kd = 4 ∨ kd = 3)) {ts : List TokM.Tok} {k : Nat} {x : TokM.Tok} (hx : ts[k]? = some x) : valT kd (ts.drop k) = if kd = 1 then boolT x else textT kd x := by
  unfold valT
  obtain ⟨h1, h2⟩ := List.getElem?_eq_some_iff.1 hx
  rw [if_neg h, List.drop_eq_getElem_cons h1, h2]
theorem str_lit (a : ByteArray) (l : List UInt8) {v : Bool} (h : decide (a.data.toList = l) = v) : (a.toList == l) = v := by
  rw [← h, ByteArray.toList_eq, Bool.eq_iff_iff, beq_iff_eq, decide_eq_true_eq]
set_option maxHeartbeats 4000000 in
set_option maxRecDepth 100000 in
theorem value_num (v : Value) (l : List Mt) (k : Nat) (kd : Int) (hkd : kd = 4 ∨ kd = 3) (w : World) (hk : KnT w v l) (hl : l.length ≤ 100000) (hkl : k ≤ 100001) (hok : ∀ m ∈ l, -9223372036854775808 ≤ m.nu ∧ m.nu ≤ 9223372036854775807) :
    Calls Tryz.prog 20 #[v, .int .i64 k, .int .i64 kd] w fun e w' => VB (valT kd ((l.map Mt.tok).drop k)) k w e w' := by
  have HN : Hid (∀ W : World, Below w.heap.size w W → Calls Tryz.prog 32 #[v, .int .i64 k, .int .i64 kd] W fun e w' => VB (nvT kd ((l.map Mt.tok).drop k)) k W e w') := Lib.hid (fun W hW => number_any v l k kd hkd W (hk.below hW) hl hkl hok)
  obtain ⟨X, hX⟩ : ∃ X, X = valT kd ((l.map Mt.tok).drop k) := ⟨_, rfl⟩
  rw [← hX]
  rw [val_num hkd] at hX
  have HX := Lib.hid hX
  clear hX hok
  have key : (kd == 4) = true ∨ ((kd == 4) = false ∧ (kd == 3) = true) := by
    rcases hkd with rfl | rfl
    · exact .inl rfl
    · exact .inr ⟨rfl, rfl⟩
  have Hkey := Lib.hid key
  clear key hkd
  rcases Hkey.out with e4 | ⟨e4, e3⟩
  · go_enter Tryz.func20, Tryz.ntmps20
    go_wp2_with fail
    refine (HN.out _ ((Below.refl _ _).alloc (Nat.le_refl _) _)).mono ?_
    rintro _ w2 ⟨⟨pk, pb, pt, pa1, pl1, pc1, pa2, pl2, pc2, pa3, pl3, pc3, pa4, pl4, pc4⟩, z, er, rfl, hres, hb2⟩
    have Hres := Lib.hid hres
    have B := (b7_new w (.int .i64 0) (.int .u64 0) (.string ⟨#[]⟩) (.slice none 0 0) (.slice none 0 0) (.slice none 0 0) (.slice none 0 0) 42).below hb2
    have ⟨plt, p0, p1, p2, p3, p4, p5, p6, pf⟩ := B
    have hbw := ((Below.refl _ _).alloc (Nat.le_refl _) _ : Below w.heap.size w (w.alloc (.cells #[.int .i64 0, .int .u64 0, .string ⟨#[]⟩, .slice none 0 0, .slice none 0 0, .slice none 0 0, .slice none 0 0] 42))).trans (hb2.mono (by simp))
    clear hb2 hres
    simp only [vv]
    go_wp2_with fail
    have BF := (((((((B.set0 (.int .i64 pk)).set1 (.int .u64 pb)).set2 (.string pt)).set3 (.slice pa1 pl1 pc1)).set4 (.slice pa2 pl2 pc2)).set5 (.slice pa3 pl3 pc3)).set6 (.slice pa4 pl4 pc4))
    obtain ⟨_, q0, q1, q2, q3, q4, q5, q6, _⟩ := BF
    exact bodyPost_ret (v := .tuple #[.agg #[.int .i64 pk, .int .u64 pb, .string pt, .slice pa1 pl1 pc1, .slice pa2 pl2 pc2, .slice pa3 pl3 pc3, .slice pa4 pl4 pc4], .int .i64 z, .int .i64 er]) (by simp [results, Tryz.results20, go_sem, q0, q1, q2, q3, q4, q5, q6]) rfl ⟨⟨pk, pb, pt, pa1, pl1, pc1, pa2, pl2, pc2, pa3, pl3, pc3, pa4, pl4, pc4⟩, _, _, rfl, by rw [HX.out]; exact Hres.out, below7s hbw (Nat.le_refl _) _ _ _ _ _ _ _⟩

  · go_enter Tryz.func20, Tryz.ntmps20
    go_wp2_with fail
    refine (HN.out _ ((Below.refl _ _).alloc (Nat.le_refl _) _)).mono ?_
    rintro _ w2 ⟨⟨pk, pb, pt, pa1, pl1, pc1, pa2, pl2, pc2, pa3, pl3, pc3, pa4, pl4, pc4⟩, z, er, rfl, hres, hb2⟩
    have Hres := Lib.hid hres
    have B := (b7_new w (.int .i64 0) (.int .u64 0) (.string ⟨#[]⟩) (.slice none 0 0) (.slice none 0 0) (.slice none 0 0) (.slice none 0 0) 42).below hb2
    have ⟨plt, p0, p1, p2, p3, p4, p5, p6, pf⟩ := B
    have hbw := ((Below.refl _ _).alloc (Nat.le_refl _) _ : Below w.heap.size w (w.alloc (.cells #[.int .i64 0, .int .u64 0, .string ⟨#[]⟩, .slice none 0 0, .slice none 0 0, .slice none 0 0, .slice none 0 0] 42))).trans (hb2.mono (by simp))
    clear hb2 hres
    simp only [vv]
    go_wp2_with fail
    have BF := (((((((B.set0 (.int .i64 pk)).set1 (.int .u64 pb)).set2 (.string pt)).set3 (.slice pa1 pl1 pc1)).set4 (.slice pa2 pl2 pc2)).set5 (.slice pa3 pl3 pc3)).set6 (.slice pa4 pl4 pc4))
    obtain ⟨_, q0, q1, q2, q3, q4, q5, q6, _⟩ := BF
    exact bodyPost_ret (v := .tuple #[.agg #[.int .i64 pk, .int .u64 pb, .string pt, .slice pa1 pl1 pc1, .slice pa2 pl2 pc2, .slice pa3 pl3 pc3, .slice pa4 pl4 pc4], .int .i64 z, .int .i64 er]) (by simp [results, Tryz.results20, go_sem, q0, q1, q2, q3, q4, q5, q6]) rfl ⟨⟨pk, pb, pt, pa1, pl1, pc1, pa2, pl2, pc2, pa3, pl3, pc3, pa4, pl4, pc4⟩, _, _, rfl, by rw [HX.out]; exact Hres.out, below7s hbw (Nat.le_refl _) _ _ _ _ _ _ _⟩


set_option maxHeartbeats 4000000 in
set_option maxRecDepth 100000 in
theorem value_other (v : Value) (l : List Mt) (k : Nat) (kd : Int) (w : World) (hk : KnT w v l) (hl : l.length ≤ 100000) (hkl : k ≤ 100001) (hok : ∀ m ∈ l, m.t.size ≤ 140737488351232) (hkd : kd = 1 ∨ kd = 7) :
    Calls Tryz.prog 20 #[v, .int .i64 k, .int .i64 kd] w fun e w' => VB (valT kd ((l.map Mt.tok).drop k)) k w e w' := by
  have h43 : ¬ (kd = 4 ∨ kd = 3) := by omega
  have e4 : (kd == 4) = false := by rw [beq_eq_false_iff_ne]; omega
  have e3 : (kd == 3) = false := by rw [beq_eq_false_iff_ne]; omega
  have hk' := hk.below ((Below.refl _ _).alloc (Nat.le_refl _) _ : Below w.heap.size w (w.alloc (.cells #[.int .i64 0, .int .u64 0, .string ⟨#[]⟩, .slice none 0 0, .slice none 0 0, .slice none 0 0, .slice none 0 0] 42)))
  obtain ⟨a1, cap1, rfl, hcap1, hcells1⟩ := hk
  have H1 := Lib.hid hcells1
  have Hok := Lib.hid hok
  clear hcells1 hok hk'
  obtain ⟨X, hX⟩ : ∃ X, X = valT kd ((l.map Mt.tok).drop k) := ⟨_, rfl⟩
  rw [← hX]
  by_cases hlt : k < l.length
  · have dge : decide ((l.length : Int) ≤ (k : Int)) = false := decide_eq_false (by omega)
    have dge' : decide (l.length ≤ k) = false := decide_eq_false (by omega)
    obtain ⟨m, hm⟩ : ∃ m, l[k]? = some m := ⟨_, List.getElem?_eq_getElem hlt⟩
    obtain ⟨kb, ko, ha, hb1, d0, d1, d2, d3⟩ := H1.out k m hm
    subst ha
    have hne : kb ≠ w.heap.size := by omega
    have hmt : (l.map Mt.tok)[k]? = some m.tok := by rw [List.getElem?_map, hm]; rfl
    have hts := Hok.out m (List.mem_of_getElem? hm)
    rw [val_at h43 hmt] at hX
    by_cases hk1 : kd = 1
    · subst hk1
      rw [if_pos rfl] at hX
      have hX2 : X = if m.kd = 1 ∧ m.t.data.toList = trueT then .ok (nv 1 1, 1) else if m.kd = 1 ∧ m.t.data.toList = falseT then .ok (nv 1 0, 1) else .error (0, 2) := hX
      clear hX hm hmt h43 hkd
      by_cases h1 : m.kd = 1
      · have t1 : (m.kd != 1) = false := by rw [bne_eq_false_iff_eq]; exact h1
        cases ht : decide (m.t.data.toList = trueT) with
        | true =>
          have s1 : (m.t.toList == [116, 114, 117, 101]) = true := str_lit m.t trueT ht
          rw [if_pos ⟨h1, of_decide_eq_true ht⟩] at hX2
          have HX := Lib.hid hX2
          clear hX2 h1 ht
          go_enter Tryz.func20, Tryz.ntmps20
          go_wp2_with fail
          exact bodyPost_ret (v := .tuple #[.agg #[.int .i64 1, .int .u64 1, .string ⟨#[]⟩, .slice none 0 0, .slice none 0 0, .slice none 0 0, .slice none 0 0], .int .i64 ((k : Int) + 1), .int .i64 0]) (by simp [results, Tryz.results20, go_sem]) rfl ⟨nv 1 1, _, _, rfl, by rw [HX.out]; exact ⟨rfl, by simp, rfl⟩, (((Below.refl _ _).alloc (Nat.le_refl _) _).alloc (by simp) _)⟩

        | false =>
          have s1 : (m.t.toList == [116, 114, 117, 101]) = false := str_lit m.t trueT ht
          rw [if_neg (fun c => of_decide_eq_false ht c.2)] at hX2
          cases hf : decide (m.t.data.toList = falseT) with
          | true =>
            have s2 : (m.t.toList == [102, 97, 108, 115, 101]) = true := str_lit m.t falseT hf
            rw [if_pos ⟨h1, of_decide_eq_true hf⟩] at hX2
            have HX := Lib.hid hX2
            clear hX2 h1 ht hf
            go_enter Tryz.func20, Tryz.ntmps20
            go_wp2_with fail
            exact bodyPost_ret (v := .tuple #[.agg #[.int .i64 1, .int .u64 0, .string ⟨#[]⟩, .slice none 0 0, .slice none 0 0, .slice none 0 0, .slice none 0 0], .int .i64 ((k : Int) + 1), .int .i64 0]) (by simp [results, Tryz.results20, go_sem]) rfl ⟨nv 1 0, _, _, rfl, by rw [HX.out]; exact ⟨rfl, by simp, rfl⟩, (((Below.refl _ _).alloc (Nat.le_refl _) _).alloc (by simp) _)⟩

          | false =>
            have s2 : (m.t.toList == [102, 97, 108, 115, 101]) = false := str_lit m.t falseT hf
            rw [if_neg (fun c => of_decide_eq_false hf c.2)] at hX2
            have HX := Lib.hid hX2
            clear hX2 h1 ht hf
            go_enter Tryz.func20, Tryz.ntmps20
            go_wp2_with fail
            exact bodyPost_ret (v := .tuple #[.agg #[.int .i64 0, .int .u64 0, .string ⟨#[]⟩, .slice none 0 0, .slice none 0 0, .slice none 0 0, .slice none 0 0], .int .i64 (k : Int), .int .i64 2]) (by simp [results, Tryz.results20, go_sem]) rfl ⟨zv 0, _, _, rfl, by rw [HX.out]; exact ⟨by simp, rfl⟩, (Below.refl _ _).alloc (Nat.le_refl _) _⟩

      · have t1 : (m.kd != 1) = true := by rw [bne_iff_ne]; exact h1
        rw [if_neg (fun c => h1 c.1), if_neg (fun c => h1 c.1)] at hX2
        have HX := Lib.hid hX2
        clear hX2 h1
        go_enter Tryz.func20, Tryz.ntmps20
        go_wp2_with fail
        exact bodyPost_ret (v := .tuple #[.agg #[.int .i64 0, .int .u64 0, .string ⟨#[]⟩, .slice none 0 0, .slice none 0 0, .slice none 0 0, .slice none 0 0], .int .i64 (k : Int), .int .i64 2]) (by simp [results, Tryz.results20, go_sem]) rfl ⟨zv 0, _, _, rfl, by rw [HX.out]; exact ⟨by simp, rfl⟩, (Below.refl _ _).alloc (Nat.le_refl _) _⟩

    · have ek1 : (kd == 1) = false := by rw [beq_eq_false_iff_ne]; exact hk1
      rw [if_neg hk1] at hX
      have hX2 : X = if m.kd ≠ 3 then .error (0, 2) else if 4096 < m.t.size then .error (0, 3) else if fitsB kd (sc (ScaT.tv kd m.t.data.toList)) = true then .ok (ScaT.tv kd m.t.data.toList, 1) else .error (0, 7) := hX
      clear hX hm hmt h43 hkd hk1
      by_cases h3 : m.kd = 3
      · have t1 : (m.kd != 3) = false := by rw [bne_eq_false_iff_eq]; exact h3
        rw [if_neg (not_not_intro h3)] at hX2
        by_cases hbig : 4096 < m.t.size
        · have dbig : decide ((4096 : Int) < m.t.size) = true := decide_eq_true (by omega)
          rw [if_pos hbig] at hX2
          have HX := Lib.hid hX2
          clear hX2 h3 hbig
          go_enter Tryz.func20, Tryz.ntmps20
          go_wp2_with fail
          exact bodyPost_ret (v := .tuple #[.agg #[.int .i64 0, .int .u64 0, .string ⟨#[]⟩, .slice none 0 0, .slice none 0 0, .slice none 0 0, .slice none 0 0], .int .i64 (k : Int), .int .i64 3]) (by simp [results, Tryz.results20, go_sem]) rfl ⟨zv 0, _, _, rfl, by rw [HX.out]; exact ⟨by simp, rfl⟩, (((Below.refl _ _).alloc (Nat.le_refl _) _).alloc (by simp) _)⟩

        · have dbig : decide ((4096 : Int) < m.t.size) = false := decide_eq_false (by omega)
          rw [if_neg hbig] at hX2
          obtain ⟨Fb, hFb⟩ : ∃ Fb, fitsB kd (sc (SV.mk kd 0 m.t none 0 0 none 0 0 none 0 0 none 0 0)) = Fb := ⟨_, rfl⟩
          have hFb2 : fitsB kd (sc (ScaT.tv kd m.t.data.toList)) = Fb := hFb
          rw [hFb2] at hX2
          have HFb := Lib.hid hFb
          clear h3 hbig hFb hFb2
          cases Fb with
          | true =>
            rw [if_pos rfl] at hX2
            have HX := Lib.hid hX2
            clear hX2
            go_enter Tryz.func20, Tryz.ntmps20
            go_wp2_with fail
            refine (ScaC.fits_any kd (SV.mk kd 0 m.t none 0 0 none 0 0 none 0 0 none 0 0) (by simp) _).mono ?_
            rintro _ w2 ⟨rfl, hb2⟩
            rw [HFb.out]
            have B6 := ((b7_new w (.int .i64 0) (.int .u64 0) (.string ⟨#[]⟩) (.slice none 0 0) (.slice none 0 0) (.slice none 0 0) (.slice none 0 0) 42).alloc (.cells #[.int .i64 kd, .int .u64 0, .string m.t, .slice none 0 0, .slice none 0 0, .slice none 0 0, .slice none 0 0] 42)).below hb2
            have B9 := (b7_new (w.alloc (.cells #[.int .i64 0, .int .u64 0, .string ⟨#[]⟩, .slice none 0 0, .slice none 0 0, .slice none 0 0, .slice none 0 0] 42)) (.int .i64 kd) (.int .u64 0) (.string m.t) (.slice none 0 0) (.slice none 0 0) (.slice none 0 0) (.slice none 0 0) 42).below hb2
            have hsz : (w.alloc (.cells #[.int .i64 0, .int .u64 0, .string ⟨#[]⟩, .slice none 0 0, .slice none 0 0, .slice none 0 0, .slice none 0 0] 42)).heap.size = w.heap.size + 1 := by simp
            rw [hsz] at B9
            have ⟨plt, p0, p1, p2, p3, p4, p5, p6, pf⟩ := B6
            have ⟨rlt, r0, r1, r2, r3, r4, r5, r6, rf⟩ := B9
            have hbw : Below w.heap.size w w2 := (((Below.refl _ _).alloc (Nat.le_refl _) _).alloc (by simp) _).trans (hb2.mono (by simp; omega))
            clear hb2
            go_wp2_with fail
            have BF := (((((((B6.set0 (.int .i64 kd)).set1 (.int .u64 0)).set2 (.string m.t)).set3 (.slice none 0 0)).set4 (.slice none 0 0)).set5 (.slice none 0 0)).set6 (.slice none 0 0))
            obtain ⟨_, q0, q1, q2, q3, q4, q5, q6, _⟩ := BF
            exact bodyPost_ret (v := .tuple #[.agg #[.int .i64 kd, .int .u64 0, .string m.t, .slice none 0 0, .slice none 0 0, .slice none 0 0, .slice none 0 0], .int .i64 ((k : Int) + 1), .int .i64 0]) (by simp [results, Tryz.results20, go_sem, q0, q1, q2, q3, q4, q5, q6]) rfl ⟨(SV.mk kd 0 m.t none 0 0 none 0 0 none 0 0 none 0 0), _, _, rfl, by rw [HX.out]; exact ⟨rfl, by simp, rfl⟩, below7s hbw (Nat.le_refl _) _ _ _ _ _ _ _⟩

          | false =>
            rw [if_neg (by simp)] at hX2
            have HX := Lib.hid hX2
            clear hX2
            go_enter Tryz.func20, Tryz.ntmps20
            go_wp2_with fail
            refine (ScaC.fits_any kd (SV.mk kd 0 m.t none 0 0 none 0 0 none 0 0 none 0 0) (by simp) _).mono ?_
            rintro _ w2 ⟨rfl, hb2⟩
            rw [HFb.out]
            have B6 := ((b7_new w (.int .i64 0) (.int .u64 0) (.string ⟨#[]⟩) (.slice none 0 0) (.slice none 0 0) (.slice none 0 0) (.slice none 0 0) 42).alloc (.cells #[.int .i64 kd, .int .u64 0, .string m.t, .slice none 0 0, .slice none 0 0, .slice none 0 0, .slice none 0 0] 42)).below hb2
            have ⟨plt, p0, p1, p2, p3, p4, p5, p6, pf⟩ := B6
            have hbw : Below w.heap.size w w2 := (((Below.refl _ _).alloc (Nat.le_refl _) _).alloc (by simp) _).trans (hb2.mono (by simp; omega))
            clear hb2
            go_wp2_with fail
            have BF := (((((((B6.set0 (.int .i64 0)).set1 (.int .u64 0)).set2 (.string ⟨#[]⟩)).set3 (.slice none 0 0)).set4 (.slice none 0 0)).set5 (.slice none 0 0)).set6 (.slice none 0 0))
            obtain ⟨_, q0, q1, q2, q3, q4, q5, q6, _⟩ := BF
            exact bodyPost_ret (v := .tuple #[.agg #[.int .i64 0, .int .u64 0, .string ⟨#[]⟩, .slice none 0 0, .slice none 0 0, .slice none 0 0, .slice none 0 0], .int .i64 (k : Int), .int .i64 7]) (by simp [results, Tryz.results20, go_sem, q0, q1, q2, q3, q4, q5, q6]) rfl ⟨zv 0, _, _, rfl, by rw [HX.out]; exact ⟨by simp, rfl⟩, below7s hbw (Nat.le_refl _) _ _ _ _ _ _ _⟩

      · have t1 : (m.kd != 3) = true := by rw [bne_iff_ne]; exact h3
        rw [if_pos h3] at hX2
        have HX := Lib.hid hX2
        clear hX2 h3
        go_enter Tryz.func20, Tryz.ntmps20
        go_wp2_with fail
        exact bodyPost_ret (v := .tuple #[.agg #[.int .i64 0, .int .u64 0, .string ⟨#[]⟩, .slice none 0 0, .slice none 0 0, .slice none 0 0, .slice none 0 0], .int .i64 (k : Int), .int .i64 2]) (by simp [results, Tryz.results20, go_sem]) rfl ⟨zv 0, _, _, rfl, by rw [HX.out]; exact ⟨by simp, rfl⟩, (Below.refl _ _).alloc (Nat.le_refl _) _⟩

  · have dge : decide ((l.length : Int) ≤ (k : Int)) = true := decide_eq_true (by omega)
    have dge' : decide (l.length ≤ k) = true := decide_eq_true (by omega)
    rw [val_end h43 (by rw [List.length_map]; omega)] at hX
    have HX := Lib.hid hX
    clear hX hlt hkd h43
    go_enter Tryz.func20, Tryz.ntmps20
    go_wp2_with fail
    exact bodyPost_ret (v := .tuple #[.agg #[.int .i64 0, .int .u64 0, .string ⟨#[]⟩, .slice none 0 0, .slice none 0 0, .slice none 0 0, .slice none 0 0], .int .i64 (k : Int), .int .i64 2]) (by simp [results, Tryz.results20, go_sem]) rfl ⟨zv 0, _, _, rfl, by rw [HX.out]; exact ⟨by simp, rfl⟩, (Below.refl _ _).alloc (Nat.le_refl _) _⟩

theorem value_any (v : Value) (l : List Mt) (k : Nat) (kd : Int) (w : World) (hk : KnT w v l) (hl : l.length ≤ 100000) (hkl : k ≤ 100001) (hok : ∀ m ∈ l, m.t.size ≤ 140737488351232) (hok2 : ∀ m ∈ l, -9223372036854775808 ≤ m.nu ∧ m.nu ≤ 9223372036854775807) (hkd : kd = 1 ∨ kd = 7 ∨ kd = 4 ∨ kd = 3) :
    Calls Tryz.prog 20 #[v, .int .i64 k, .int .i64 kd] w fun e w' => VB (valT kd ((l.map Mt.tok).drop k)) k w e w' := by
  by_cases h : kd = 4 ∨ kd = 3
  · exact value_num v l k kd h w hk hl hkl hok2
  · exact value_other v l k kd w hk hl hkl hok (by omega)
end Go.Proofs.YthjpchnogllliaaGreatDoor.NtrH

/- The reference of stage 8: Read. -/
set_option linter.unusedSimpArgs false
set_option linter.unusedVariables false
namespace Go.Proofs.YthjpchnogllliaaGreatDoor.NtrI
open Go.RowKit Nums ScaM ScaV ScaB ScaW ScaX ScaY Val NotM NotR NotK OwnN NtrA NtrB NtrF NtrG NtrH TkrF Box

def mkN (q : Pair) : Mn := ⟨⟨q.1.toArray⟩, q.2⟩
abbrev Toks := List TokM.Tok
section
variable {ts : Toks} {p : Nat} {x : TokM.Tok}
theorem drop_x (h : ts[p]? = some x) : ts.drop p = x :: ts.drop (p + 1) := by
  obtain ⟨h1, h2⟩ := List.getElem?_eq_some_iff.1 h
  rw [List.drop_eq_getElem_cons h1, h2]
theorem sg_some {b : UInt8} {k : Nat} (h : sgAt ts k b = true) : ∃ y, ts[k]? = some y ∧ isSg y b = true := by
  unfold sgAt at h
  rw [Bool.and_eq_true, Int.toNat_natCast] at h
  cases e : ts[k]? with
  | none => rw [e] at h; exact absurd h.2 (by simp)
  | some y => rw [e] at h; exact ⟨y, rfl, h.2⟩
theorem sg_no {b : UInt8} {k : Nat} (h : sgAt ts k b = false) : ts.drop k = [] ∨ ∃ y, ts[k]? = some y ∧ isSg y b = false := by
  unfold sgAt at h
  rw [decide_eq_true (by omega : (0 : Int) ≤ k), Bool.true_and, Int.toNat_natCast] at h
  cases e : ts[k]? with
  | none => left; exact List.drop_of_length_le (List.getElem?_eq_none_iff.1 e)
  | some y => rw [e] at h; exact .inr ⟨y, rfl, h⟩
theorem r_end (h : ts.length ≤ p) : rd p (ts.drop p) = .error (p, 2) := by
  rw [List.drop_of_length_le h, rd_err (q := (0, 2)) rfl]; rfl
theorem r_kind (h : ts[p]? = some x) (hk : x.kind ≠ 1) : rd p (ts.drop p) = .error (p, 2) := by
  rw [drop_x h, rd_err (q := (0, 2)) (by unfold one1; exact if_pos hk)]; rfl
theorem r_name (h : ts[p]? = some x) (hk : x.kind = 1) (hn : kindN x.text = 0) : rd p (ts.drop p) = .error (p, 8) := by
  rw [drop_x h, rd_err (q := (0, 8)) (by unfold one1; simp only; rw [if_neg (not_not_intro hk), if_pos hn])]; rfl
theorem r_eq (h : ts[p]? = some x) (hk : x.kind = 1) (hn : kindN x.text ≠ 0) (hs : sgAt ts ((p + 1 : Nat) : Int) 61 = false) : rd p (ts.drop p) = .error (p + 1, 2) := by
  have h1 : one1 (ts.drop p) = .error (1, 2) := by
    rw [drop_x h]
    unfold one1
    simp only
    rw [if_neg (not_not_intro hk), if_neg hn]
    rcases sg_no hs with e | ⟨y, e, hy⟩
    · rw [e]
    · rw [drop_x e]
      simp only
      rw [if_pos hy]
  rw [rd_err h1]
theorem o_val (h : ts[p]? = some x) (hk : x.kind = 1) (hn : kindN x.text ≠ 0) (hs : sgAt ts ((p + 1 : Nat) : Int) 61 = true) : one1 (ts.drop p) = match valT (kindN x.text) (ts.drop (p + 2)) with
    | .error q => .error (2 + q.1, q.2)
    | .ok q => .ok ((x.text, q.1), 2 + q.2) := by
  obtain ⟨y, e, hy⟩ := sg_some hs
  rw [drop_x h, drop_x e]
  unfold one1
  simp only
  rw [if_neg (not_not_intro hk), if_neg hn, if_neg (by rw [hy]; simp)]
  rfl
end
theorem valT_err {k : Int} {ts : Toks} {q : Nat × Int} (h : valT k ts = .error q) : q.2 ≠ 0 := by
  have hnum : ∀ (m : Nat) (z : List UInt8) (us : Toks), numT k m z us = .error q → q.2 ≠ 0 := by
    intro m z us hh
    cases us with
    | nil => cases hh; show (2 : Int) ≠ 0; decide
    | cons x r =>
      unfold numT at hh
      simp only at hh
      split at hh
      · split at hh
        · cases hh
        · rename_i hne
          cases hh
          exact hne
      · cases hh; show (2 : Int) ≠ 0; decide
  by_cases h43 : k = 4 ∨ k = 3
  · rw [val_num h43] at h
    unfold nvT at h
    cases ts with
    | nil => cases h; decide
    | cons x r =>
      simp only at h
      split at h
      · exact hnum _ _ _ h
      · exact hnum _ _ _ h
  · unfold valT at h
    rw [if_neg h43] at h
    cases ts with
    | nil => cases h; decide
    | cons x r =>
      simp only at h
      split at h
      · unfold boolT at h
        split at h
        · cases h
        · split at h
          · cases h
          · cases h; decide
      · unfold textT at h
        split at h
        · cases h; decide
        · split at h
          · cases h; decide
          · split at h
            · cases h
            · cases h; decide
def preR (O : List Pair) (x : Except (Nat × Int) (List Pair × Nat)) : Except (Nat × Int) (List Pair × Nat) := x.map fun r => (O ++ r.1, r.2)
theorem preR_err (O : List Pair) (q : Nat × Int) : preR O (.error q) = .error q := rfl
theorem preR_cons (O : List Pair) (q : Pair) (x : Except (Nat × Int) (List Pair × Nat)) : preR O (x.map fun r => (q :: r.1, r.2)) = preR (O ++ [q]) x := by
  cases x with
  | error e => rfl
  | ok r => simp [preR, Except.map]
/-- What Read leaves. -/
def RN (ts : Toks) (z : Int) (w : World) (e : Ending) (w' : World) : Prop := ∃ (v : Value) (n er : Int) (Q : List Pair), e = .returned (.tuple #[v, .int .i64 n, .int .i64 er]) ∧ KnN w' v (Q.map mkN) ∧ readN ts z = (Q, n, er) ∧ Below w.heap.size w w'
theorem read_err {ts : Toks} {k : Nat} {q : Nat × Int} (hs : sgAt ts k 91 = true) (h : rd (k + 1) (ts.drop (k + 1)) = .error q) : readN ts k = ([], (q.1 : Int), q.2) := by
  unfold readN
  rw [if_pos hs, Int.toNat_natCast, h]
theorem read_ok {ts : Toks} {k : Nat} {q : List Pair × Nat} (hs : sgAt ts k 91 = true) (h : rd (k + 1) (ts.drop (k + 1)) = .ok q) : readN ts k = (q.1, (q.2 : Int), 0) := by
  unfold readN
  rw [if_pos hs, Int.toNat_natCast, h]

set_option maxHeartbeats 4000000 in
set_option maxRecDepth 100000 in
theorem read_any (v : Value) (l : List Mt) (z : Int) (w : World) (hk : KnT w v l) (hl : l.length ≤ 100000) (hz : -9223372036854775808 ≤ z ∧ z ≤ 9223372036854775807) (hok : ∀ m ∈ l, m.ok) :
    Calls Tryz.prog 7 #[v, .int .i64 z] w fun e w' => RN (l.map Mt.tok) z w e w' := by
  obtain ⟨i0, hi, hz0, hz1, hz2⟩ := info_parts infoN
  have HSg : Hid (∀ (W : World) (y : Int) (s : ByteArray) (c : UInt8), Below w.heap.size w W → s.data.toList = [c] → Calls Tryz.prog 18 #[v, .int .i64 y, .string s] W fun e w' => e = .returned (.bool (sgAt (l.map Mt.tok) y c)) ∧ W = w') := Lib.hid (fun W y s c hW hs => sign_any v l y s c W (hk.below hW) (by omega) hs)
  have HV : Hid (∀ (W : World) (k : Nat) (kd : Int), Below w.heap.size w W → k ≤ 100001 → (kd = 1 ∨ kd = 7 ∨ kd = 4 ∨ kd = 3) → Calls Tryz.prog 20 #[v, .int .i64 k, .int .i64 kd] W fun e w' => VB (valT kd ((l.map Mt.tok).drop k)) k W e w') :=
    Lib.hid (fun W k kd hW h1 h2 => value_any v l k kd W (hk.below hW) hl h1 (fun m hm => (hok m hm).1) (fun m hm => (hok m hm).2.2.1) h2)
  obtain ⟨a1, cap1, rfl, hcap1, hcells1⟩ := hk
  have H1 := Lib.hid hcells1
  clear hcells1 hok
  obtain ⟨T, hT⟩ : ∃ T, T = l.map Mt.tok := ⟨_, rfl⟩
  rw [← hT] at HSg HV
  rw [← hT]
  have hTl : T.length = l.length := by rw [hT, List.length_map]
  have HT := Lib.hid hT
  have HTl := Lib.hid hTl
  clear hT hTl
  cases hsz : sgAt T z 91 with
  | false =>
    have HE := Lib.hid (show readN T z = ([], z, 0) by unfold readN; rw [if_neg (by rw [hsz]; simp)])
    have Hsz := Lib.hid hsz
    clear hsz
    go_enter Tryz.func7, Tryz.ntmps7
    go_wp2_with fail
    refine (HSg.out _ z ⟨#[91]⟩ 91 (Below.refl _ _) rfl).mono ?_
    rintro _ wz ⟨rfl, rfl⟩
    rw [Hsz.out]
    go_wp2_with fail
    go_ret3
    exact ⟨_, _, _, [], rfl, known_nil _, HE.out, Below.refl _ _⟩
  | true =>
    obtain ⟨k, rfl⟩ : ∃ k : Nat, z = k := by
      unfold sgAt at hsz
      rw [Bool.and_eq_true, decide_eq_true_eq] at hsz
      exact ⟨z.toNat, by omega⟩
    obtain ⟨y0, hy0, _⟩ := sg_some hsz
    have hk0 : k < l.length := by rw [← HTl.out]; exact (List.getElem?_eq_some_iff.1 hy0).1
    obtain ⟨X, hX⟩ : ∃ X, X = rd (k + 1) (T.drop (k + 1)) := ⟨_, rfl⟩
    have HX := Lib.hid hX
    have Hsz := Lib.hid hsz
    clear hsz hy0 hX
    go_enter Tryz.func7, Tryz.ntmps7
    go_wp2_with fail
    refine (HSg.out _ k ⟨#[91]⟩ 91 (Below.refl _ _) rfl).mono ?_
    rintro _ wz ⟨rfl, rfl⟩
    rw [Hsz.out]
    go_wp2_with fail
    go_loopw [1, 7] (fun av ov wr => ∃ (p : Nat) (O : List Pair) (v' : Value), p ≤ l.length ∧ O.length ≤ p ∧ av = .int .i64 p ∧ ov = v' ∧ Hid (OwnN wr w.heap.size v' (O.map mkN)) ∧ Hid (Below w.heap.size w wr) ∧ Hid (X = preR O (rd p (T.drop p)))) (fun av _ _ => l.length + 1 - (intOf av).toNat)
    case atStart => exact ⟨k + 1, [], _, by omega, by simp, by go_num, rfl, Lib.hid (OwnN.nil _ _), Lib.hid (Below.refl _ _), Lib.hid (by
      rw [HX.out]
      cases rd (k + 1) (T.drop (k + 1)) <;> rfl)⟩
    case round =>
      obtain ⟨p, O, v', hp, hO, rfl, rfl, HO, HB, Hx⟩ := hrel
      by_cases hlt : p < l.length
      · have dge : decide ((l.length : Int) ≤ (p : Int)) = false := decide_eq_false (by omega)
        have dge' : decide (l.length ≤ p) = false := decide_eq_false (by omega)
        obtain ⟨m, hm⟩ : ∃ m, l[p]? = some m := ⟨_, List.getElem?_eq_getElem hlt⟩
        obtain ⟨kb, ko, ha, hb1, d0, d1, d2, d3⟩ := H1.out p m hm
        subst ha
        have cc : ∀ q, wr.cell? ⟨kb, q, none⟩ = w.cell? ⟨kb, q, none⟩ := fun q => HB.out.cell (p := ⟨kb, q, none⟩) hb1
        replace d0 := (cc _).trans d0
        replace d1 := (cc _).trans d1
        clear cc d2 d3
        have hmt : T[p]? = some m.tok := by rw [HT.out, List.getElem?_map, hm]; rfl
        by_cases h1 : m.kd = 1
        · have t1 : (m.kd != 1) = false := by rw [bne_eq_false_iff_eq]; exact h1
          obtain ⟨K, hK⟩ : ∃ K, kindN m.t.data.toList = K := ⟨_, rfl⟩
          have HK := Lib.hid hK
          have Hmt := Lib.hid hmt
          have Hk1 := Lib.hid (show m.tok.kind = 1 from h1)
          have hkw : kb < wr.heap.size := Nat.lt_of_lt_of_le hb1 HB.out.size
          clear hm hmt h1 hK
          go_wp2_with fail
          refine (kind_any m.t _).mono ?_
          rintro _ wz ⟨rfl, rfl⟩
          rw [HK.out]
          by_cases hK0 : K = 0
          · have e0 : (K == 0) = true := by rw [beq_iff_eq]; exact hK0
            have HE : Hid (X = .error (p, 8)) := Lib.hid (by rw [Hx.out, r_name Hmt.out Hk1.out (by show kindN m.t.data.toList = 0; rw [HK.out]; exact hK0), preR_err])
            clear hK0
            go_wp2_with fail
            go_ret3
            exact ⟨_, _, _, [], rfl, known_nil _, by rw [read_err Hsz.out (HX.out.symm.trans HE.out)]; try simp, HB.out.alloc HB.out.size _⟩
          · have e0 : (K == 0) = false := by rw [beq_eq_false_iff_ne]; exact hK0
            have hKn : kindN m.tok.text ≠ 0 := by show kindN m.t.data.toList ≠ 0; rw [HK.out]; exact hK0
            have hKc : K = 1 ∨ K = 7 ∨ K = 4 ∨ K = 3 := by
              rcases kind_cases m.t.data.toList with c | c | c | c | c
              · exact absurd (HK.out.symm.trans c) hK0
              all_goals rw [HK.out] at c; omega
            have HKn := Lib.hid hKn
            have HKc := Lib.hid hKc
            clear hK0 hKn hKc
            go_wp2_with fail
            refine (HSg.out _ ((p : Int) + 1) ⟨#[61]⟩ 61 (HB.out.alloc HB.out.size _) rfl).mono ?_
            rintro _ wz ⟨rfl, rfl⟩
            obtain ⟨B61, hB61⟩ : ∃ b, sgAt T ((p : Int) + 1) 61 = b := ⟨_, rfl⟩
            have hB61' : sgAt T ((p + 1 : Nat) : Int) 61 = B61 := hB61
            rw [hB61]
            cases B61 with
            | false =>
              have HE : Hid (X = .error (p + 1, 2)) := Lib.hid (by rw [Hx.out, r_eq Hmt.out Hk1.out HKn.out hB61', preR_err])
              clear hB61 hB61'
              go_wp2_with fail
              go_ret3
              exact ⟨_, _, _, [], rfl, known_nil _, by rw [read_err Hsz.out (HX.out.symm.trans HE.out)]; try simp, HB.out.alloc HB.out.size _⟩
            | true =>
              have hov := o_val Hmt.out Hk1.out HKn.out hB61'
              rw [show kindN m.tok.text = K from HK.out] at hov
              have Hov := Lib.hid hov
              clear hB61 hB61' hov
              go_wp2_with fail
              refine (HV.out _ (p + 2) K (HB.out.alloc HB.out.size _) (by omega) HKc.out).mono ?_
              rintro _ w2 ⟨⟨pk, pb, pt, pa1, pl1, pc1, pa2, pl2, pc2, pa3, pl3, pc3, pa4, pl4, pc4⟩, z2, er, rfl, hres, hb2⟩
              have hbr : Below wr.heap.size wr w2 := ((Below.refl _ _).alloc (Nat.le_refl _) _ : Below wr.heap.size wr (wr.alloc (.cells #[.string m.t, .int .i64 0, .int .u64 0, .string ⟨#[]⟩, .slice none 0 0, .slice none 0 0, .slice none 0 0, .slice none 0 0] 44))).trans (hb2.mono (by simp))
              have Hbw2 := Lib.hid (HB.out.trans (hbr.mono HB.out.size))
              simp only [vv]
              cases hval : valT K (T.drop (p + 2)) with
              | error q =>
                rw [hval] at hres
                simp only at hres
                obtain ⟨rfl, rfl⟩ := hres
                have hne := valT_err hval
                have e1 : (q.2 != 0) = true := by rw [bne_iff_ne]; exact hne
                have HE : Hid (X = .error (p + (2 + q.1), q.2)) := Lib.hid (by
                  have ho := Hov.out
                  rw [hval] at ho
                  rw [Hx.out, rd_err ho, preR_err])
                clear hne hval hb2 hbr
                go_wp2_with fail
                go_ret3
                exact ⟨_, _, _, [], rfl, known_nil _, by rw [read_err Hsz.out (HX.out.symm.trans HE.out)]; simp; omega, Hbw2.out.alloc Hbw2.out.size _⟩
              | ok q =>
                rw [hval] at hres
                simp only at hres
                obtain ⟨sv, c⟩ := q
                simp only at hres
                obtain ⟨hq1, rfl, rfl⟩ := hres
                have ho := Hov.out
                rw [hval] at ho
                simp only at ho
                rw [← hq1] at ho
                have b8 := (box8 wr ⟨m.t, zv 0⟩ 44).below hb2 (by simp)
                obtain ⟨x0, x1, x2, x3, x4, x5, x6, x7⟩ := b8
                have xf : ∀ o, w2.frozen? ⟨wr.heap.size, o, none⟩ = false := fun o => (hb2.frozen (p := ⟨wr.heap.size, o, none⟩) (by simp)).trans (by simp)
                have hrw : wr.heap.size < w2.heap.size := by have := hb2.size; simp at this; omega
                have Ho := Lib.hid ho
                have Hbr := Lib.hid hbr
                clear hq1 hval ho hb2 hbr
                have HWW : Below wr.heap.size wr ((((((((w2.setCell ⟨wr.heap.size, 1, none⟩ (.int .i64 pk)).setCell ⟨wr.heap.size, 2, none⟩ (.int .u64 pb)).setCell ⟨wr.heap.size, 3, none⟩ (.string pt)).setCell ⟨wr.heap.size, 4, none⟩ (.slice pa1 pl1 pc1)).setCell ⟨wr.heap.size, 5, none⟩ (.slice pa2 pl2 pc2)).setCell ⟨wr.heap.size, 6, none⟩ (.slice pa3 pl3 pc3)).setCell ⟨wr.heap.size, 7, none⟩ (.slice pa4 pl4 pc4)).alloc (.cells #[.int .i64 pk, .int .u64 pb, .string pt, .slice pa1 pl1 pc1, .slice pa2 pl2 pc2, .slice pa3 pl3 pc3, .slice pa4 pl4 pc4] 42)) := (((((((Hbr.out.setCell (p := ⟨wr.heap.size, 1, none⟩) (Nat.le_refl _) _).setCell (p := ⟨wr.heap.size, 2, none⟩) (Nat.le_refl _) _).setCell (p := ⟨wr.heap.size, 3, none⟩) (Nat.le_refl _) _).setCell (p := ⟨wr.heap.size, 4, none⟩) (Nat.le_refl _) _).setCell (p := ⟨wr.heap.size, 5, none⟩) (Nat.le_refl _) _).setCell (p := ⟨wr.heap.size, 6, none⟩) (Nat.le_refl _) _).setCell (p := ⟨wr.heap.size, 7, none⟩) (Nat.le_refl _) _).alloc (by simp; omega) _
                have HWW2 := Lib.hid HWW
                clear HWW
                go_wp2_with (at_builtin; refine wpList_append_own _ rfl _ _ 24 rfl w.heap.size 44 i0 (.agg #[.string ByteArray.empty, .int .i64 0, .int .u64 0, .string ByteArray.empty, .slice none 0 0, .slice none 0 0, .slice none 0 0, .slice none 0 0]) 8 144 Tryz.underlying24 hi hz0 hz1 hz2 rfl (by decide) _ (O.map mkN).length _ rfl (World.ownsRow.alloc (OwnN.below HO.out ?hbw) _) ⟨w2.heap.size + 1, 0, none⟩ 1 1 (fields ⟨m.t, SV.mk pk pb pt pa1 pl1 pc1 pa2 pl2 pc2 pa3 pl3 pc3 pa4 pl4 pc4⟩) rfl rfl ?c1 ?c2 ?c3 ?c4 ?c5 ?_)
                case c1 =>
                  intro j u hj
                  first | exact hj | (refine new_cells _ ⟨m.t, SV.mk pk pb pt pa1 pl1 pc1 pa2 pl2 pc2 pa3 pl3 pc3 pa4 pl4 pc4⟩ _ _ ?_ j u hj; simp)
                case c2 => exact fields_flat ⟨m.t, SV.mk pk pb pt pa1 pl1 pc1 pa2 pl2 pc2 pa3 pl3 pc3 pa4 pl4 pc4⟩
                case c3 => unfold maxLen; omega
                case c4 => omega
                case c5 => have := Hbw2.out.size; (try simp); omega
                case hbw => exact HWW2.out
                intro v3 w3 hown' hgrow _
                have hB3 : Below w.heap.size w w3 := ((HB.out.trans (HWW2.out.mono HB.out.size)).alloc (by have := HB.out.size; simp; omega) _).grown hgrow (by have := HB.out.size; simp; omega) (fun g hg => (HO.out.lt g hg).1)
                obtain ⟨O2, ho2⟩ : ∃ O2 : List Pair, O2 = O ++ [(m.t.data.toList, (SV.mk pk pb pt pa1 pl1 pc1 pa2 pl2 pc2 pa3 pl3 pc3 pa4 pl4 pc4))] := ⟨_, rfl⟩
                have hol2 : O2.length ≤ p + 1 := by rw [ho2]; simp; omega
                have HO2 : Hid (OwnN w3 w.heap.size v3 (O2.map mkN)) := Lib.hid (by
                  rw [ho2]
                  unfold OwnN
                  rw [List.map_append, List.length_append, List.flatMap_append, List.length_map]
                  first | exact hown' | simpa using hown')
                have HB3 := Lib.hid hB3
                have HE2 := Lib.hid ho2
                clear hown' hB3 hgrow ho2 x0 x1 x2 x3 x4 x5 x6 x7 xf d0 d1
                go_wp2_with fail
                refine (HSg.out _ _ ⟨#[93]⟩ 93 HB3.out rfl).mono ?_
                rintro _ wz ⟨rfl, rfl⟩
                have hzz : ((p : Int) + 2 + c) = ((p + (2 + c) : Nat) : Int) := by omega
                have hzy : ((p + 2 + c : Nat) : Int) = ((p + (2 + c) : Nat) : Int) := by omega
                have hdd : (T.drop p).drop (2 + c) = T.drop (p + (2 + c)) := by rw [List.drop_drop]
                obtain ⟨B93, hB93⟩ : ∃ b, sgAt T ((p + (2 + c) : Nat) : Int) 93 = b := ⟨_, rfl⟩
                rw [show sgAt T _ 93 = B93 from (by first | exact hB93 | (rw [hzz]; exact hB93) | (rw [hzy]; exact hB93))]
                have Hdd := Lib.hid hdd
                have H93 := Lib.hid hB93
                clear hdd hB93
                cases B93 with
                | true =>
                  have HE : Hid (X = .ok (O2, p + (2 + c) + 1)) := Lib.hid (by
                    obtain ⟨y, hy1, hy2⟩ := sg_some H93.out
                    rw [Hx.out, rd_close Ho.out (by rw [Hdd.out]; exact drop_x hy1) hy2, HE2.out]
                    rfl)
                  have hlt3 : p + (2 + c) < l.length := by
                    obtain ⟨y, hy1, _⟩ := sg_some H93.out
                    rw [← HTl.out]; exact (List.getElem?_eq_some_iff.1 hy1).1
                  clear hzz hzy
                  go_wp2_with fail
                  go_ret3
                  exact ⟨_, _, _, O2, rfl, HO2.out.known, by rw [read_ok Hsz.out (HX.out.symm.trans HE.out)]; simp; omega, HB3.out⟩
                | false =>
                  have hzz2 := hzz
                  have hzy2 := hzy
                  clear hzz hzy
                  go_wp2_with fail
                  refine (HSg.out _ _ ⟨#[44]⟩ 44 HB3.out rfl).mono ?_
                  rintro _ wz ⟨rfl, rfl⟩
                  obtain ⟨B44, hB44⟩ : ∃ b, sgAt T ((p + (2 + c) : Nat) : Int) 44 = b := ⟨_, rfl⟩
                  rw [show sgAt T _ 44 = B44 from (by first | exact hB44 | (rw [hzz2]; exact hB44) | (rw [hzy2]; exact hB44))]
                  have H44 := Lib.hid hB44
                  clear hB44 hzz2 hzy2
                  cases B44 with
                  | false =>
                    have HE : Hid (X = .error (p + (2 + c), 2)) := Lib.hid (by
                      have h9 := H93.out
                      have h4 := H44.out
                      rw [Hx.out]
                      rcases sg_no h9 with e | ⟨y, e, hy⟩
                      · rw [rd_end Ho.out (by rw [Hdd.out]; exact e)]; rfl
                      · rcases sg_no h4 with e5 | ⟨y5, e5, hy5⟩
                        · rw [rd_end Ho.out (by rw [Hdd.out]; exact e5)]; rfl
                        · rw [e] at e5
                          cases e5
                          rw [rd_other Ho.out (by rw [Hdd.out]; exact drop_x e) hy hy5]; rfl)
                    go_wp2_with fail
                    go_ret3
                    exact ⟨_, _, _, [], rfl, known_nil _, by rw [read_err Hsz.out (HX.out.symm.trans HE.out)]; try simp; try omega, HB3.out⟩
                  | true =>
                    obtain ⟨y, hy1, hy2⟩ := sg_some H44.out
                    have hlt2 : p + (2 + c) < l.length := by rw [← HTl.out]; exact (List.getElem?_eq_some_iff.1 hy1).1
                    have hy9 : isSg y 93 = false := by
                      rcases sg_no H93.out with e | ⟨y5, e5, hy5⟩
                      · rw [drop_x hy1] at e; cases e
                      · rw [hy1] at e5; cases e5; exact hy5
                    have HE : Hid (X = preR O2 (rd (p + (2 + c) + 1) (T.drop (p + (2 + c) + 1)))) := Lib.hid (by
                      rw [Hx.out, rd_more Ho.out (by rw [Hdd.out]; exact drop_x hy1) hy9 hy2, preR_cons, HE2.out]
                      rfl)
                    clear hy1 hy2 hy9
                    go_wp2_with fail
                    exact ⟨⟨p + (2 + c) + 1, O2, _, by omega, by omega, by first | rfl | (congr 1; omega) | (simp; omega), rfl, HO2, HB3, HE⟩, by simp [intOf]; omega⟩
        · have t1 : (m.kd != 1) = true := by rw [bne_iff_ne]; exact h1
          have HE : Hid (X = .error (p, 2)) := Lib.hid (by rw [Hx.out, r_kind hmt h1, preR_err])
          clear hm hmt h1
          go_wp2_with fail
          go_ret3
          exact ⟨_, _, _, [], rfl, known_nil _, by rw [read_err Hsz.out (HX.out.symm.trans HE.out)]; try simp, HB.out⟩
      · have dge : decide ((l.length : Int) ≤ (p : Int)) = true := decide_eq_true (by omega)
        have dge' : decide (l.length ≤ p) = true := decide_eq_true (by omega)
        have HE : Hid (X = .error (p, 2)) := Lib.hid (by rw [Hx.out, r_end (by rw [HTl.out]; omega), preR_err])
        clear hlt
        go_wp2_with fail
        go_ret3
        exact ⟨_, _, _, [], rfl, known_nil _, by rw [read_err Hsz.out (HX.out.symm.trans HE.out)]; try simp, HB.out⟩
end Go.Proofs.YthjpchnogllliaaGreatDoor.NtrI
