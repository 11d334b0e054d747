/- The walk of the law TokenLines. -/
import Derived.Test.YtoinfjdhbopefaaDoorTkL
set_option linter.unusedSimpArgs false
set_option linter.unusedVariables false
namespace Go.Proofs.YtoinfjdhbopefaaDoor.TokenLinesW
open Go.RowKit Nums IdnM TokM TokS TokT TokU TkrD TkrE TkrF OwnT TkZ TkX TkL

theorem bt2 {a b c : World} (h : Below a.heap.size a b) (k : Below b.heap.size b c) : Below a.heap.size a c := h.trans (k.mono h.size)
/-- Two scans, the second behind n line feeds. -/
structure Both (n ls : Nat) (Q Q2 : List Mt) (line later er : Int) : Prop where
  len : Q.length = Q2.length
  up : ∀ (i j : Nat) x y, Q[i]? = some x → Q[j]? = some y → i ≤ j → x.ln ≤ y.ln
  lo : ∀ (i : Nat) x, Q[i]? = some x → 1 ≤ x.ln ∧ x.ln ≤ 1 + ls
  sh : ∀ (j : Nat) x y, Q[j]? = some x → Q2[j]? = some y → y.ln = x.ln + n
  li : 0 ≤ line ∧ line ≤ 1 + ls
  er : er ≠ 0 → 1 ≤ line ∧ later = line + n
theorem both_of {n : Nat} {s s2 : ByteArray} {w1 w2 : World} {v1 v2 : Value} {l1 l2 e1 e2 : Int} (hs : s.size ≤ 16384) (hs2 : s2.size ≤ 16384) (hd : s2.data.toList = List.replicate n 10 ++ s.data.toList)
    (h1 : SR s w1 v1 l1 e1) (h2 : SR s2 w2 v2 l2 e2) : e1 = e2 ∧ ∃ Q Q2, KnT w1 v1 Q ∧ KnT w2 v2 Q2 ∧ Both n (lfs s.data.toList) Q Q2 l1 l2 e1 ∧ Q.length ≤ s.size := by
  have hsc : scanT 1 s2.data.toList = shift n (scanT 1 s.data.toList) := by rw [hd, scan_lfs, scan_shift]
  have hli := scan_lined 1 s.data.toList
  rcases sr_parts h1 hs with ⟨er, hx, hk, rfl, rfl⟩ | ⟨P, hx, rfl, rfl, hk, hok⟩
  · rw [hx] at hsc hli
    rcases sr_parts h2 hs2 with ⟨er2, hx2, hk2, rfl, rfl⟩ | ⟨P2, hx2, _⟩
    · rw [hsc] at hx2
      cases hx2
      obtain ⟨g1, g2, g3⟩ := hli
      refine ⟨rfl, [], [], hk, hk2, ⟨rfl, ?_, ?_, ?_, ?_, ?_⟩, Nat.zero_le _⟩
      · intro i j x y hx; simp at hx
      · intro i x hx; simp at hx
      · intro j x y hx; simp at hx
      · omega
      · intro _
        exact ⟨by omega, by simp⟩
    · rw [hsc] at hx2; cases hx2
  · rw [hx] at hsc hli
    rcases sr_parts h2 hs2 with ⟨er2, hx2, _⟩ | ⟨P2, hx2, rfl, rfl, hk2, hok2⟩
    · rw [hsc] at hx2; cases hx2
    · rw [hsc] at hx2
      cases hx2
      obtain ⟨g1, g2⟩ := hli
      have hcnt := scan_count 1 _ P hx
      refine ⟨rfl, P.map mk, _, hk, hk2, ⟨by simp, ?_, ?_, ?_, by omega, fun h => absurd rfl h⟩, by rw [List.length_map]; exact hcnt⟩
      · intro i j x y hx hy hij
        rw [List.getElem?_map] at hx hy
        obtain ⟨p, hp, rfl⟩ := Option.map_eq_some_iff.1 hx
        obtain ⟨q, hq, rfl⟩ := Option.map_eq_some_iff.1 hy
        rcases Nat.lt_or_ge i j with hlt | hge
        · rw [List.pairwise_iff_getElem] at g1
          obtain ⟨hi, hpi⟩ := List.getElem?_eq_some_iff.1 hp
          obtain ⟨hj, hqj⟩ := List.getElem?_eq_some_iff.1 hq
          have := g1 i j (by rw [List.length_map]; exact hi) (by rw [List.length_map]; exact hj) hlt
          rw [List.getElem_map, List.getElem_map, hpi, hqj] at this
          show ((p.2 : Nat) : Int) ≤ ((q.2 : Nat) : Int)
          omega
        · obtain rfl : i = j := by omega
          rw [hp] at hq
          cases hq
          exact Int.le_refl _
      · intro i x hx
        rw [List.getElem?_map] at hx
        obtain ⟨p, hp, rfl⟩ := Option.map_eq_some_iff.1 hx
        have := g2 p (List.mem_of_getElem? hp)
        show 1 ≤ ((p.2 : Nat) : Int) ∧ ((p.2 : Nat) : Int) ≤ 1 + _
        omega
      · intro j x y hx hy
        rw [List.getElem?_map] at hx
        rw [List.getElem?_map, List.getElem?_map] at hy
        obtain ⟨p, hp, rfl⟩ := Option.map_eq_some_iff.1 hx
        rw [hp] at hy
        cases hy
        show ((p.2 + n : Nat) : Int) = ((p.2 : Nat) : Int) + n
        omega
theorem rep_next (k : Nat) {T : ByteArray} (h : T.data.toList = List.replicate k 10) : (T ++ (⟨#[10]⟩ : ByteArray)).data.toList = List.replicate (k + 1) 10 := by
  rw [List.replicate_succ', ← h]
  simp
theorem lfs_next {s : ByteArray} {k : Nat} (h : k < s.size) : lfs (s.data.toList.take (k + 1)) = lfs (s.data.toList.take k) + (if s[k] = 10 then 1 else 0) := by
  unfold lfs
  have hg : s.data.toList[k]? = some s[k] := List.getElem?_eq_getElem (show k < s.data.toList.length from h)
  rw [List.take_add_one, hg, List.count_append]
  by_cases hc : s[k] = 10 <;> simp [hc]
set_option maxHeartbeats 2000000 in
set_option maxRecDepth 100000 in
theorem walk (s : ByteArray) (n : Nat) (z : s.size ≤ 140737488351232) (hn : n ≤ 255) (w : World) (hL : Ld w) :
    Calls Tryd.prog 6 #[.string s, .int .u8 n] w fun e w' => e = .returned (.bool true) ∧ Below w.heap.size w w' := by
  by_cases h : s.size ≤ 3000
  · have hd : decide ((3000 : Int) < s.size) = false := decide_eq_false (by omega)
    go_enter Tryd.func6, Tryd.ntmps6
    go_wp2_with fail
    go_loopw [5, 6] (fun av iv wr => ∃ (k : Nat) (T : ByteArray), k ≤ n ∧ av = .string T ∧ iv = .int .i64 k ∧ T.size = k ∧ w = wr ∧ Hid (T.data.toList = List.replicate k 10)) (fun _ iv _ => n - (intOf iv).toNat)
    case atStart => exact ⟨0, ⟨#[]⟩, by omega, rfl, rfl, rfl, rfl, Lib.hid rfl⟩
    case round =>
      obtain ⟨k, T, hk, rfl, rfl, hT, rfl, HT⟩ := hrel
      by_cases hlt : k < n
      · have Hnx := Lib.hid (rep_next k HT.out)
        have HTs : Hid ((T ++ (⟨#[10]⟩ : ByteArray)).size = k + 1) := Lib.hid (by rw [ByteArray.size_append, hT]; rfl)
        have hT1 : T.size + (⟨#[10]⟩ : ByteArray).size ≤ 9223372036854775807 := by show T.size + 1 ≤ _; omega
        clear HT
        go_wp2_with fail
        exact ⟨⟨k + 1, _, by omega, rfl, by go_num, HTs.out, by trivial, Hnx⟩, by simp [intOf]; omega⟩
      · obtain rfl : k = n := by omega
        have hS2 : (T ++ s).size ≤ 16384 := by rw [ByteArray.size_append]; omega
        have hS2d : (T ++ s).data.toList = List.replicate k 10 ++ s.data.toList := by rw [append_toList, HT.out]
        have hsum : T.size + s.size ≤ 9223372036854775807 := by omega
        have HS2d := Lib.hid hS2d
        have HS2 := Lib.hid hS2
        clear HT hS2d hS2
        go_wp2_with fail
        refine (pscan s z _ hL).mono ?_
        rintro _ w1 ⟨v1, l1, e1, rfl, hs1, hb1⟩
        have hL1 := hL.below hb1
        have Hs1 := Lib.hid hs1
        clear hs1
        go_wp2_with fail
        refine (pscan (T ++ s) (by have := HS2.out; omega) _ hL1).mono ?_
        rintro _ w2 ⟨v2, l2, e2, rfl, hs2, hb2⟩
        have hL2 := hL1.below hb2
        obtain ⟨rfl, Q, Q2, hk1, hk2, hB, hQ⟩ := both_of (by omega) HS2.out HS2d.out Hs1.out hs2
        have hb12 := bt2 hb1 hb2
        have Hk1 := Lib.hid (hk1.below hb2)
        clear hk1 hs2
        obtain ⟨ls, hls⟩ : ∃ ls, ls = lfs s.data.toList := ⟨_, rfl⟩
        have hls2 : ls ≤ 3000 := by
          have : lfs s.data.toList ≤ s.data.toList.length := List.count_le_length
          have h2 : s.data.toList.length = s.size := rfl
          omega
        rw [← hls] at hB
        obtain ⟨a1, cap1, rfl, hcap1, hcells1⟩ := Hk1.out
        obtain ⟨a2, cap2, rfl, hcap2, hcells2⟩ := hk2
        have C1 := Lib.hid hcells1
        have C2 := Lib.hid hcells2
        have HB := Lib.hid hB
        have Hls := Lib.hid hls
        have ee : (e1 != e1) = false := by simp
        have el : ((Q.length : Int) != Q2.length) = false := by rw [bne_eq_false_iff_eq, hB.len]
        have hcase : (e1 != 0) = false ∨ ((e1 != 0) = true ∧ decide (l1 < 1) = false ∧ (l2 != l1 + k) = false) := by
          cases h0 : (e1 != 0) with
          | false => exact .inl rfl
          | true =>
            obtain ⟨g1, g2⟩ := hB.er (by rw [bne_iff_ne] at h0; exact h0)
            exact .inr ⟨rfl, decide_eq_false (by omega), by rw [bne_eq_false_iff_eq]; exact g2⟩
        obtain ⟨g1, g2⟩ := hB.li
        have hQs : Q.length ≤ 3000 := by omega
        clear hcells1 hcells2 Hk1 Hs1 hls HS2 HS2d hB hQ h
        have hin : (decide (0 ≤ (k : Int)) : Bool) = true := decide_eq_true (by omega)
        rcases hcase with h0 | ⟨h0, h00, h01⟩
        all_goals
          go_wp2_with fail
          go_loopw [13, 14] (fun lv iv wr => ∃ (j la : Nat), j ≤ Q.length ∧ lv = .int .i64 la ∧ iv = .int .i64 j ∧ la ≤ 1 + ls ∧ Hid (∀ (i : Nat) x, Q[i]? = some x → j ≤ i → (la : Int) ≤ x.ln) ∧ Hid (Below w2.heap.size w2 wr)) (fun _ iv _ => Q.length - (intOf iv).toNat)
          case atStart => exact ⟨0, 1, by omega, rfl, rfl, by omega, Lib.hid (fun i x hx _ => (HB.out.lo i x hx).1), Lib.hid (by first | exact Below.refl _ _ | exact (Below.refl _ _).drew)⟩
          case round =>
            obtain ⟨j, la, hj, rfl, rfl, hla, HI, HW⟩ := hrel
            by_cases hjl : j < Q.length
            · have hjl2 : j < Q2.length := by have := HB.out.len; omega
              obtain ⟨x, hx⟩ : ∃ x, Q[j]? = some x := ⟨_, List.getElem?_eq_getElem hjl⟩
              obtain ⟨y, hy⟩ : ∃ y, Q2[j]? = some y := ⟨_, List.getElem?_eq_getElem hjl2⟩
              obtain ⟨kb1, ko1, rfl, hbb1, c10, c11, c12, c13⟩ := C1.out j x hx
              obtain ⟨kb2, ko2, rfl, hbb2, c20, c21, c22, c23⟩ := C2.out j y hy
              have d3 := HB.out.sh j x y hx hy
              have d1 := HI.out j x hx (Nat.le_refl _)
              have d2 := HB.out.lo j x hx
              have Hup := Lib.hid (show ∀ (i : Nat) z, Q[i]? = some z → j + 1 ≤ i → x.ln ≤ z.ln from fun i z hz hi => HB.out.up j i x z hx hz (by omega))
              replace c13 := (HW.out.cell (p := ⟨kb1, ko1 + j * 4 + 3, none⟩) hbb1).trans c13
              replace c23 := (HW.out.cell (p := ⟨kb2, ko2 + j * 4 + 3, none⟩) hbb2).trans c23
              clear hx hy c10 c11 c12 c20 c21 c22 HI
              obtain ⟨kd1, t1, nu1, ln1⟩ := x
              obtain ⟨kd2, t2, nu2, ln2⟩ := y
              simp only at c13 c23 d1 d2 d3
              obtain ⟨m, rfl⟩ : ∃ m : Nat, ln1 = m := ⟨ln1.toNat, by omega⟩
              obtain rfl : ln2 = ((m + k : Nat) : Int) := by omega
              have hml : la ≤ m := by omega
              have q1 : decide ((m : Int) < la) = false := decide_eq_false (by omega)
              have q2 : decide (m < la) = false := decide_eq_false (by omega)
              have q3 : ¬ m < la := by omega
              have q4 : (((m + k : Nat) : Int) != (m : Int) + k) = false := by rw [bne_eq_false_iff_eq]; omega
              have hm : m ≤ 1 + ls := by omega
              clear d1 d2 d3
              go_wp2_with fail
              go_quiet (fail)
              go_wp2_with fail
              exact ⟨⟨j + 1, m, by omega, rfl, by go_num, hm, Lib.hid (fun i z hz hi => Hup.out i z hz hi), Lib.hid (TkrE.below_drewN HW.out _)⟩, by simp [intOf]; omega⟩
            · obtain rfl : j = Q.length := by omega
              clear HI
              go_wp2_with fail
              go_loopw [15, 16] (fun lv iv wr => ∃ (i c : Nat), i ≤ s.size ∧ c ≤ i ∧ lv = .int .i64 ((1 + c : Nat) : Int) ∧ iv = .int .i64 i ∧ Hid (c = lfs (s.data.toList.take i)) ∧ Hid (Below w2.heap.size w2 wr)) (fun _ iv _ => s.size - (intOf iv).toNat)
              case atStart => exact ⟨0, 0, by omega, by omega, rfl, rfl, Lib.hid rfl, HW⟩
              case round =>
                obtain ⟨i, c, hi, hci, rfl, rfl, HC, HW2⟩ := hrel
                by_cases hil : i < s.size
                · have hnx := lfs_next hil
                  have hc0 := HC.out
                  clear HC
                  have hbt : s[i].toNat < 256 := s[i].toNat_lt
                  by_cases hb : s[i] = 10
                  · have hbn : ((s[i].toNat : Int) == 10) = true := by rw [hb]; rfl
                    have HC : Hid (c + 1 = lfs (s.data.toList.take (i + 1))) := Lib.hid (by rw [hnx, if_pos hb, ← hc0])
                    clear hnx hc0 hb
                    go_wp2_with fail
                    exact ⟨⟨i + 1, c + 1, by omega, by omega, by go_num, by go_num, HC, HW2⟩, by simp [intOf]; omega⟩
                  · have hbn : ((s[i].toNat : Int) == 10) = false := by
                      rw [beq_eq_false_iff_ne]
                      intro e
                      exact hb (UInt8.toNat_inj.1 (show s[i].toNat = 10 by omega))
                    have HC : Hid (c = lfs (s.data.toList.take (i + 1))) := Lib.hid (by rw [hnx, if_neg hb, ← hc0]; rfl)
                    clear hnx hc0 hb
                    go_wp2_with fail
                    exact ⟨⟨i + 1, c, by omega, by omega, rfl, by go_num, HC, HW2⟩, by simp [intOf]; omega⟩
                · obtain rfl : i = s.size := by omega
                  have hc : c = ls := by
                    rw [HC.out, Hls.out, List.take_of_length_le (by show s.data.toList.length ≤ s.size; exact Nat.le_refl _)]
                  subst hc
                  have u1 : decide ((la : Int) ≤ 1 + (c : Int)) = true := decide_eq_true (by omega)
                  have u2 : decide (l1 ≤ 1 + (c : Int)) = true := decide_eq_true (by omega)
                  have u3 : ((1 + c : Nat) : Int) = 1 + (c : Int) := by omega
                  have u4 : (la : Int) ≤ 1 + (c : Int) := by omega
                  have u5 : l1 ≤ 1 + (c : Int) := by omega
                  have hLf := hL2.below HW2.out
                  clear HC
                  go_wp2_with fail
                  refine (awake_any _ hLf).mono ?_
                  rintro _ wa ⟨rfl, hba⟩
                  go_wp2_with fail
                  go_ret
                  exact ⟨rfl, bt2 (bt2 hb12 HW2.out) hba⟩
  · have hd : decide ((3000 : Int) < s.size) = true := decide_eq_true (by omega)
    go_enter Tryd.func6, Tryd.ntmps6
    go_wp2_with fail
    go_ret
    exact ⟨rfl, Below.refl _ _⟩

end Go.Proofs.YtoinfjdhbopefaaDoor.TokenLinesW
