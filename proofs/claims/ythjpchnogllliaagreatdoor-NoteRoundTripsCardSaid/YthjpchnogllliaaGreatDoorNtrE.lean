import Derived.Test.YthjpchnogllliaaGreatDoorOwnN
import Derived.Test.YthjpchnogllliaaGreatDoorScaF
import Derived.Deep.RegionHeld3
/- The reference of stage 8: Text. -/
set_option linter.unusedSimpArgs false
set_option linter.unusedVariables false
namespace Go.Proofs.YthjpchnogllliaaGreatDoor.NtrE
open Go.RowKit Nums ScaM ScaV Val NotM NotK NtrA NtrB

theorem known_len {n : List UInt8} (h : kindN n ≠ 0) : n.length ≤ 10 := by
  have hall : (knB ++ (knT ++ (knU ++ knI))).all (fun x => decide (x.length ≤ 10)) = true := by decide
  rw [List.all_eq_true] at hall
  refine of_decide_eq_true (hall n ?_)
  unfold kindN at h
  rw [List.mem_append, List.mem_append, List.mem_append]
  by_cases h1 : knB.contains n = true
  · exact .inl (by simpa using h1)
  · rw [if_neg h1] at h
    by_cases h2 : knT.contains n = true
    · exact .inr (.inl (by simpa using h2))
    · rw [if_neg h2] at h
      by_cases h3 : knU.contains n = true
      · exact .inr (.inr (.inl (by simpa using h3)))
      · rw [if_neg h3] at h
        by_cases h4 : knI.contains n = true
        · exact .inr (.inr (.inr (by simpa using h4)))
        · rw [if_neg h4] at h
          exact absurd rfl h
theorem kinds4 (n : List UInt8) : kindN n = 0 ∨ kindN n = 1 ∨ kindN n = 7 ∨ kindN n = 4 ∨ kindN n = 3 := by
  unfold kindN
  split
  · simp
  · split
    · simp
    · split
      · simp
      · split <;> simp
theorem text_short {n : Nt} (h : rightB n = true) (hb : n.v.b ≤ 18446744073709551615) : (textV n.v).length ≤ 16400 := by
  unfold rightB at h
  rw [Bool.and_eq_true, Bool.and_eq_true, bne_iff_ne, beq_iff_eq] at h
  obtain ⟨h0, hk, hf⟩ := h
  have hd : ∀ b, b ≤ 18446744073709551616 → (dec b).length ≤ 20 := fun b h => ScaM.dec_len 19 b (by omega)
  have hf2 : fitsB n.v.k n.v = true := by rw [hk]; exact hf
  have e : textV n.v = if n.v.k = 1 then (if n.v.b = 1 then [116, 114, 117, 101] else [102, 97, 108, 115, 101])
    else if n.v.k = 2 ∨ n.v.k = 3 then (if sgnN ≤ n.v.b then 45 :: dec (18446744073709551616 - n.v.b) else dec n.v.b)
    else if n.v.k = 6 then (if clsN n.v.b = 0 then [110, 97, 110] else if clsN n.v.b = 1 then (if sgnN ≤ n.v.b then [45, 105, 110, 102] else [105, 110, 102]) else [48, 120] ++ hex16 n.v.b)
    else if n.v.k = 7 then UtfQ.quote n.v.t else if n.v.k = 8 then 120 :: UtfQ.quote (UtfQ.hexL n.v.t) else dec n.v.b := by
    unfold textV
    rw [if_neg (by rw [hf2]; simp)]
  rw [e]
  rcases kinds4 n.nm with c | c | c | c | c
  · exact absurd c h0
  · rw [hk, c, if_pos rfl]
    split <;> simp
  · rw [hk, c, if_neg (by decide), if_neg (by decide), if_neg (by decide), if_pos rfl, UtfQ.quote_len]
    have h1 := (UtfQ.body_le n.v.t).2
    have h2 := ScaF.fits_len hf (by rw [c]; rfl)
    omega
  · rw [hk, c, if_neg (by decide), if_neg (by decide), if_neg (by decide), if_neg (by decide), if_neg (by decide)]
    have := hd n.v.b (by omega)
    omega
  · rw [hk, c, if_neg (by decide), if_pos (.inr rfl)]
    split
    · have := hd (18446744073709551616 - n.v.b) (by omega)
      simp only [List.length_cons]
      omega
    · have := hd n.v.b (by omega)
      omega
theorem take_snoc {l : List Mn} {k : Nat} {m : Mn} (h : l[k]? = some m) : (l.map Mn.nt).take (k + 1) = (l.map Mn.nt).take k ++ [m.nt] := by
  rw [List.take_add_one, List.getElem?_map, h]
  rfl
theorem take_empty {l : List Mn} {k : Nat} (h : k < l.length) : (l.map Mn.nt).take k = [] ↔ k = 0 := by
  constructor
  · intro e
    have := congrArg List.length e
    rw [List.length_take, List.length_map] at this
    simp only [List.length_nil] at this
    omega
  · rintro rfl; rfl
theorem drew_lift {w1 w2 : World} (h : Below w1.drew.heap.size w1.drew w2) : Below w1.heap.size w1 w2 := ((Below.refl _ w1).drew).trans h
set_option maxHeartbeats 4000000 in
set_option maxRecDepth 100000 in
theorem text_any (v : Value) (l : List Mn) (w : World) (hk : KnN w v l) (hl : l.length ≤ 100000) (hok : ∀ m ∈ l, m.v.b ≤ 18446744073709551615) :
    Calls Tryz.prog 10 #[v] w fun e w' => e = .returned (.string ⟨(noteText (l.map Mn.nt)).toArray⟩) ∧ Below w.heap.size w w' := by
  obtain ⟨a1, cap1, rfl, hcap1, hcells1⟩ := hk
  have H1 := Lib.hid hcells1
  have Hok := Lib.hid hok
  clear hcells1 hok
  obtain ⟨X, hX⟩ : ∃ X, X = noteText (l.map Mn.nt) := ⟨_, rfl⟩
  rw [← hX]
  have HX := Lib.hid hX
  clear hX
  by_cases hl0 : l.length = 0
  · have d1 : ((l.length : Int) == 0) = true := by rw [beq_iff_eq]; omega
    have HXe := Lib.hid (show X = [] by rw [HX.out, List.length_eq_zero_iff.1 hl0]; rfl)
    go_enter Tryz.func10, Tryz.ntmps10
    go_wp2_with fail
    go_ret
    exact ⟨by rw [HXe.out]; rfl, Below.refl _ _⟩
  · have d1 : ((l.length : Int) == 0) = false := by rw [beq_eq_false_iff_ne]; omega
    have Hl0 := Lib.hid hl0
    clear hl0
    go_enter Tryz.func10, Tryz.ntmps10
    go_wp2_with fail
    go_loopw [3, 4] (fun sv iv wr => ∃ (k : Nat) (T : ByteArray), k ≤ l.length ∧ sv = .string T ∧ iv = .int .i64 k ∧ T.size ≤ 1 + k * 17000 ∧ Hid (T.data.toList = 91 :: body ((l.map Mn.nt).take k)) ∧ Hid (∀ (j : Nat) m, l[j]? = some m → j < k → rightB m.nt = true) ∧ Hid (Below w.heap.size w wr)) (fun _ iv _ => l.length - (intOf iv).toNat)
    case atStart => exact ⟨0, _, by omega, rfl, rfl, by decide, Lib.hid rfl, Lib.hid (fun j m _ hj => by omega), Lib.hid (Below.refl _ _)⟩
    case round =>
      obtain ⟨k, T, hkl, rfl, rfl, hT, HT, Hal, HB⟩ := hrel
      by_cases hlt : k < l.length
      · obtain ⟨m, hm⟩ : ∃ m, l[k]? = some m := ⟨_, List.getElem?_eq_getElem hlt⟩
        obtain ⟨kb, ko, ha, hb0, h8⟩ := H1.out k m hm
        subst ha
        have hmb := Hok.out m (List.mem_of_getElem? hm)
        have g8 := h8.below HB.out hb0
        obtain ⟨c0, c1, c2, c3, c4, c5, c6, c7⟩ := g8
        have g8 := h8.below HB.out hb0
        obtain ⟨Rt, hRt⟩ : ∃ Rt, rightB m.nt = Rt := ⟨_, rfl⟩
        have HR := Lib.hid hRt
        have hmem : m.nt ∈ l.map Mn.nt := List.mem_map.2 ⟨m, List.mem_of_getElem? hm, rfl⟩
        clear h8
        cases Rt with
        | false =>
          have HXe := Lib.hid (show X = [] by rw [HX.out]; exact text_no hmem hRt)
          clear hRt hmem hm
          go_wp2_with fail
          refine (right_any m hmb _).mono ?_
          rintro _ w1 ⟨rfl, hb1⟩
          rw [HR.out]
          have Hb1 := Lib.hid (HB.out.trans (hb1.mono HB.out.size))
          have g9 := g8.below hb1 (Nat.lt_of_lt_of_le hb0 HB.out.size)
          have hkw : kb < w1.heap.size := Nat.lt_of_lt_of_le hb0 Hb1.out.size
          clear hb1 c0 c1 c2 c3 c4 c5 c6 c7 g8
          obtain ⟨c0, c1, c2, c3, c4, c5, c6, c7⟩ := g9
          go_wp2_with fail
          go_ret
          exact ⟨by rw [HXe.out]; rfl, Hb1.out⟩
        | true =>
          have hts := text_short (n := m.nt) hRt hmb
          have hnl : m.nm.size ≤ 10 := by
            have h := hRt
            unfold rightB at h
            rw [Bool.and_eq_true, bne_iff_ne] at h
            exact known_len h.1
          obtain ⟨TX, hTX⟩ : ∃ TX : ByteArray, TX = ⟨(textV (sc m.v)).toArray⟩ := ⟨_, rfl⟩
          have hTXd : TX.data.toList = textV (sc m.v) := by rw [hTX]
          have hTXs : TX.size ≤ 16400 := by
            have h0 : TX.data.toList.length = TX.size := rfl
            rw [← h0, hTXd]
            exact hts
          have hbod := body_snoc ((l.map Mn.nt).take k) m.nt
          rw [← take_snoc hm] at hbod
          have Hal2 : Hid (∀ (j : Nat) m2, l[j]? = some m2 → j < k + 1 → rightB m2.nt = true) := Lib.hid (fun j m2 hm2 hj => by
            rcases Nat.lt_or_ge j k with h5 | h5
            · exact Hal.out j m2 hm2 h5
            · obtain rfl : j = k := by omega
              rw [hm] at hm2
              cases hm2
              exact hRt)
          have hit : item m.nt = m.nm.data.toList ++ ([32, 61, 32] ++ TX.data.toList) := by rw [hTXd]; rfl
          rw [hit] at hbod
          have HTX := Lib.hid hTX
          cases hk0 : decide (0 < k) with
          | false =>
            have hk00 : k = 0 := by have := of_decide_eq_false hk0; omega
            rw [if_pos ((take_empty hlt).2 hk00), List.nil_append] at hbod
            have Hbod := Lib.hid hbod
            have hs2 : m.nm.size + (⟨#[32, 61, 32]⟩ : ByteArray).size ≤ 9223372036854775807 := by show m.nm.size + 3 ≤ _; omega
            have hs3 : (m.nm ++ (⟨#[32, 61, 32]⟩ : ByteArray)).size + TX.size ≤ 9223372036854775807 := by rw [ByteArray.size_append]; show m.nm.size + 3 + _ ≤ _; omega
            have hs4 : T.size + (m.nm ++ (⟨#[32, 61, 32]⟩ : ByteArray) ++ TX).size ≤ 9223372036854775807 := by rw [ByteArray.size_append, ByteArray.size_append]; show T.size + (m.nm.size + 3 + _) ≤ _; omega
            have m1 : ¬ ((9223372036854775807 : Int) < (m.nm.size : Int) + 3) := by omega
            have m2 : ¬ ((9223372036854775807 : Int) < (m.nm.size : Int) + 3 + (TX.size : Int)) := by omega
            have m3 : ¬ ((9223372036854775807 : Int) < (T.size : Int) + ((m.nm.size : Int) + 3 + (TX.size : Int))) := by omega
            have m4 : ¬ (9223372036854775807 < m.nm.size + 3) := by omega
            have m5 : ¬ (9223372036854775807 < m.nm.size + 3 + TX.size) := by omega
            have m6 : ¬ (9223372036854775807 < T.size + (m.nm.size + 3 + TX.size)) := by omega
            clear hbod hRt hmem hm hts hTX hTXd hit hk00
            go_wp2_with fail
            refine (right_any m hmb _).mono ?_
            rintro _ w1 ⟨rfl, hb1⟩
            rw [HR.out]
            have Hb1 := Lib.hid (HB.out.trans (hb1.mono HB.out.size))
            have g9 := g8.below hb1 (Nat.lt_of_lt_of_le hb0 HB.out.size)
            have hkw : kb < w1.heap.size := Nat.lt_of_lt_of_le hb0 Hb1.out.size
            clear hb1 c0 c1 c2 c3 c4 c5 c6 c7 g8
            obtain ⟨c0, c1, c2, c3, c4, c5, c6, c7⟩ := g9
            go_wp2_with fail
            go_region_held3 (fun w' => w'.cell? ⟨kb, ko + k * 8, none⟩ = some (.string m.nm) ∧ w'.cell? ⟨kb, ko + k * 8 + 1, none⟩ = some (.int .i64 m.v.k) ∧ w'.cell? ⟨kb, ko + k * 8 + 2, none⟩ = some (.int .u64 m.v.b) ∧ w'.cell? ⟨kb, ko + k * 8 + 3, none⟩ = some (.string m.v.t) ∧ w'.cell? ⟨kb, ko + k * 8 + 4, none⟩ = some (.slice m.v.a1 m.v.l1 m.v.c1) ∧ w'.cell? ⟨kb, ko + k * 8 + 5, none⟩ = some (.slice m.v.a2 m.v.l2 m.v.c2) ∧ w'.cell? ⟨kb, ko + k * 8 + 6, none⟩ = some (.slice m.v.a3 m.v.l3 m.v.c3) ∧ w'.cell? ⟨kb, ko + k * 8 + 7, none⟩ = some (.slice m.v.a4 m.v.l4 m.v.c4)) (exact ⟨c0, c1, c2, c3, c4, c5, c6, c7⟩)
              (first
                | (go_at_call 26; refine (ScaF.text_any m.v hmb _).mono ?_; rintro _ w2 ⟨rfl, hb2⟩; rw [show (⟨(textV (sc m.v)).toArray⟩ : ByteArray) = TX from HTX.out.symm]; have hb2 : Below w1.heap.size w1 w2 := (by first | exact hb2 | exact drew_lift hb2); replace Hb1 := Lib.hid (Hb1.out.trans (hb2.mono Hb1.out.size)); replace c0 := (hb2.cell (p := ⟨kb, ko + k * 8, none⟩) (by omega)).trans c0; replace c1 := (hb2.cell (p := ⟨kb, ko + k * 8 + 1, none⟩) (by omega)).trans c1; replace c2 := (hb2.cell (p := ⟨kb, ko + k * 8 + 2, none⟩) (by omega)).trans c2; replace c3 := (hb2.cell (p := ⟨kb, ko + k * 8 + 3, none⟩) (by omega)).trans c3; replace c4 := (hb2.cell (p := ⟨kb, ko + k * 8 + 4, none⟩) (by omega)).trans c4; replace c5 := (hb2.cell (p := ⟨kb, ko + k * 8 + 5, none⟩) (by omega)).trans c5; replace c6 := (hb2.cell (p := ⟨kb, ko + k * 8 + 6, none⟩) (by omega)).trans c6; replace c7 := (hb2.cell (p := ⟨kb, ko + k * 8 + 7, none⟩) (by omega)).trans c7))
            all_goals
              go_wp2_with fail
              refine ⟨⟨k + 1, _, by omega, rfl, by go_num, ?_, Lib.hid ?_, Hal2, Lib.hid Hb1.out⟩, by simp [intOf]; omega⟩
              · simp only [ByteArray.size_append]; show _ + (_ + 3 + _) ≤ _; omega
              · rw [Hbod.out]; simp only [ByteArray.data_append, Array.toList_append, HT.out]; simp
          | true =>
            have hk00 : 1 ≤ k := by have := of_decide_eq_true hk0; omega
            rw [if_neg (fun e => by have := (take_empty hlt).1 e; omega)] at hbod
            have Hbod := Lib.hid hbod
            have hs1 : T.size + (⟨#[44, 32]⟩ : ByteArray).size ≤ 9223372036854775807 := by show T.size + 2 ≤ _; omega
            have hs2 : m.nm.size + (⟨#[32, 61, 32]⟩ : ByteArray).size ≤ 9223372036854775807 := by show m.nm.size + 3 ≤ _; omega
            have hs3 : (m.nm ++ (⟨#[32, 61, 32]⟩ : ByteArray)).size + TX.size ≤ 9223372036854775807 := by rw [ByteArray.size_append]; show m.nm.size + 3 + _ ≤ _; omega
            have hs4 : (T ++ (⟨#[44, 32]⟩ : ByteArray)).size + (m.nm ++ (⟨#[32, 61, 32]⟩ : ByteArray) ++ TX).size ≤ 9223372036854775807 := by rw [ByteArray.size_append, ByteArray.size_append, ByteArray.size_append]; show T.size + 2 + (m.nm.size + 3 + _) ≤ _; omega
            have m1 : ¬ ((9223372036854775807 : Int) < (m.nm.size : Int) + 3) := by omega
            have m2 : ¬ ((9223372036854775807 : Int) < (m.nm.size : Int) + 3 + (TX.size : Int)) := by omega
            have m3 : ¬ ((9223372036854775807 : Int) < (T.size : Int) + 2 + ((m.nm.size : Int) + 3 + (TX.size : Int))) := by omega
            have m4 : ¬ (9223372036854775807 < m.nm.size + 3) := by omega
            have m5 : ¬ (9223372036854775807 < m.nm.size + 3 + TX.size) := by omega
            have m6 : ¬ (9223372036854775807 < T.size + 2 + (m.nm.size + 3 + TX.size)) := by omega
            have m7 : ¬ ((9223372036854775807 : Int) < (T.size : Int) + 2) := by omega
            have m8 : ¬ (9223372036854775807 < T.size + 2) := by omega
            clear hbod hRt hmem hm hts hTX hTXd hit hk00
            go_wp2_with fail
            refine (right_any m hmb _).mono ?_
            rintro _ w1 ⟨rfl, hb1⟩
            rw [HR.out]
            have Hb1 := Lib.hid (HB.out.trans (hb1.mono HB.out.size))
            have g9 := g8.below hb1 (Nat.lt_of_lt_of_le hb0 HB.out.size)
            have hkw : kb < w1.heap.size := Nat.lt_of_lt_of_le hb0 Hb1.out.size
            clear hb1 c0 c1 c2 c3 c4 c5 c6 c7 g8
            obtain ⟨c0, c1, c2, c3, c4, c5, c6, c7⟩ := g9
            go_wp2_with fail
            go_region_held3 (fun w' => w'.cell? ⟨kb, ko + k * 8, none⟩ = some (.string m.nm) ∧ w'.cell? ⟨kb, ko + k * 8 + 1, none⟩ = some (.int .i64 m.v.k) ∧ w'.cell? ⟨kb, ko + k * 8 + 2, none⟩ = some (.int .u64 m.v.b) ∧ w'.cell? ⟨kb, ko + k * 8 + 3, none⟩ = some (.string m.v.t) ∧ w'.cell? ⟨kb, ko + k * 8 + 4, none⟩ = some (.slice m.v.a1 m.v.l1 m.v.c1) ∧ w'.cell? ⟨kb, ko + k * 8 + 5, none⟩ = some (.slice m.v.a2 m.v.l2 m.v.c2) ∧ w'.cell? ⟨kb, ko + k * 8 + 6, none⟩ = some (.slice m.v.a3 m.v.l3 m.v.c3) ∧ w'.cell? ⟨kb, ko + k * 8 + 7, none⟩ = some (.slice m.v.a4 m.v.l4 m.v.c4)) (exact ⟨c0, c1, c2, c3, c4, c5, c6, c7⟩)
              (first
                | (go_at_call 26; refine (ScaF.text_any m.v hmb _).mono ?_; rintro _ w2 ⟨rfl, hb2⟩; rw [show (⟨(textV (sc m.v)).toArray⟩ : ByteArray) = TX from HTX.out.symm]; have hb2 : Below w1.heap.size w1 w2 := (by first | exact hb2 | exact drew_lift hb2); replace Hb1 := Lib.hid (Hb1.out.trans (hb2.mono Hb1.out.size)); replace c0 := (hb2.cell (p := ⟨kb, ko + k * 8, none⟩) (by omega)).trans c0; replace c1 := (hb2.cell (p := ⟨kb, ko + k * 8 + 1, none⟩) (by omega)).trans c1; replace c2 := (hb2.cell (p := ⟨kb, ko + k * 8 + 2, none⟩) (by omega)).trans c2; replace c3 := (hb2.cell (p := ⟨kb, ko + k * 8 + 3, none⟩) (by omega)).trans c3; replace c4 := (hb2.cell (p := ⟨kb, ko + k * 8 + 4, none⟩) (by omega)).trans c4; replace c5 := (hb2.cell (p := ⟨kb, ko + k * 8 + 5, none⟩) (by omega)).trans c5; replace c6 := (hb2.cell (p := ⟨kb, ko + k * 8 + 6, none⟩) (by omega)).trans c6; replace c7 := (hb2.cell (p := ⟨kb, ko + k * 8 + 7, none⟩) (by omega)).trans c7))
            all_goals
              go_wp2_with fail
              refine ⟨⟨k + 1, _, by omega, rfl, by go_num, ?_, Lib.hid ?_, Hal2, Lib.hid Hb1.out⟩, by simp [intOf]; omega⟩
              · simp only [ByteArray.size_append]; show _ + 2 + (_ + 3 + _) ≤ _; omega
              · rw [Hbod.out]; simp only [ByteArray.data_append, Array.toList_append, HT.out]; simp
      · obtain rfl : k = l.length := by omega
        have hXe : X = T.data.toList ++ [93] := by
          have ht := HT.out
          rw [List.take_of_length_le (by simp)] at ht
          rw [HX.out, text_yes (by intro e; exact Hl0.out (by simpa using congrArg List.length e)) (by
            intro n hn
            obtain ⟨m, hm, rfl⟩ := List.mem_map.1 hn
            obtain ⟨j, hj⟩ := List.getElem?_of_mem hm
            exact Hal.out j m hj (List.getElem?_eq_some_iff.1 hj).1), ht]
          rfl
        have HXe := Lib.hid hXe
        have hs1 : T.size + (⟨#[93]⟩ : ByteArray).size ≤ 9223372036854775807 := by show T.size + 1 ≤ _; omega
        clear hXe
        go_wp2_with fail
        go_ret
        refine ⟨?_, HB.out⟩
        rw [HXe.out]
        rfl
end Go.Proofs.YthjpchnogllliaaGreatDoor.NtrE
