/- Contracts of escape and Unquote of the reference of package utf. -/
import Derived.Test.YtgjbpadhdnclnaaGreatDoorUtfK
import Derived.Test.YtgjbpadhdnclnaaGreatDoorUtfE
set_option linter.unusedSimpArgs false
set_option linter.unusedVariables false
namespace Go.Proofs.YtgjbpadhdnclnaaGreatDoor.UtfL
open Go.RowKit Nums Byt UtfM UtfS UtfQ UtfD Room UtfH UtfP UtfR UtfE UtfK

/-- How many bytes such a form has with its backslash. -/
def rn (n : Nat) : Nat := if n = 0 then 0 else n + 1
theorem beq_yes {b c : UInt8} (h : b = c) : ((b.toNat : Int) == (c.toNat : Int)) = true := by rw [h]; simp
theorem bne_no {b c : UInt8} (h : b = c) : ((b.toNat : Int) != (c.toNat : Int)) = false := by rw [h]; simp
theorem bne_yes {b c : UInt8} (h : b ≠ c) : ((b.toNat : Int) != (c.toNat : Int)) = true := by
  rw [bne_iff_ne]
  intro e
  exact h (UInt8.toNat_inj.1 (by omega))

set_option maxHeartbeats 4000000 in
set_option maxRecDepth 100000 in
theorem escape_any (s : ByteArray) (i : Nat) (hi : i < s.size) (hs : s.size ≤ 35184372088000) (w : World) :
    Calls Tryz.prog 104 #[.string s, .int .i64 i] w fun e w' => e = .returned (.tuple #[.int .u8 (esc (s.data.toList.drop (i + 1))).1.toNat, .int .i64 (rn (esc (s.data.toList.drop (i + 1))).2)]) ∧ Below w.heap.size w w' := by
  by_cases h1 : i + 1 < s.size
  · have hd : s.data.toList.drop (i + 1) = s[i + 1] :: s.data.toList.drop (i + 2) := by
      rw [List.drop_eq_getElem_cons (show i + 1 < s.data.toList.length from h1)]; rfl
    obtain ⟨t, ht⟩ : ∃ t, t = s.data.toList.drop (i + 2) := ⟨_, rfl⟩
    rw [← ht] at hd
    have h1i : (i : Int) + 1 < s.size := by omega
    have Hd := Lib.hid hd
    have Ht := Lib.hid ht
    clear hd ht
    by_cases c34 : s[i + 1] = 34
    · have he : esc (s[i + 1] :: t) = (34, 1) := by rw [c34]; rfl
      have b34 : ((s[i + 1].toNat : Int) == 34) = true := beq_yes c34
      have b92 : ((s[i + 1].toNat : Int) == 92) = false := by rw [c34]; rfl
      have b110 : ((s[i + 1].toNat : Int) == 110) = false := by rw [c34]; rfl
      have b116 : ((s[i + 1].toNat : Int) == 116) = false := by rw [c34]; rfl
      have b114 : ((s[i + 1].toNat : Int) == 114) = false := by rw [c34]; rfl
      have C := Lib.hid c34
      have He := Lib.hid he
      clear he c34 
      go_enter Tryz.func104, Tryz.ntmps104
      go_wp2_with fail
      go_ret2
      exact ⟨ret_ui (by rw [Hd.out, He.out, C.out]) (by rw [Hd.out, He.out]; rfl), Below.refl _ _⟩
    by_cases c92 : s[i + 1] = 92
    · have he : esc (s[i + 1] :: t) = (92, 1) := by rw [c92]; rfl
      have b34 : ((s[i + 1].toNat : Int) == 34) = false := by rw [c92]; rfl
      have b92 : ((s[i + 1].toNat : Int) == 92) = true := beq_yes c92
      have b110 : ((s[i + 1].toNat : Int) == 110) = false := by rw [c92]; rfl
      have b116 : ((s[i + 1].toNat : Int) == 116) = false := by rw [c92]; rfl
      have b114 : ((s[i + 1].toNat : Int) == 114) = false := by rw [c92]; rfl
      have C := Lib.hid c92
      have He := Lib.hid he
      clear he c92 c34
      go_enter Tryz.func104, Tryz.ntmps104
      go_wp2_with fail
      go_ret2
      exact ⟨ret_ui (by rw [Hd.out, He.out, C.out]) (by rw [Hd.out, He.out]; rfl), Below.refl _ _⟩
    by_cases c110 : s[i + 1] = 110
    · have he : esc (s[i + 1] :: t) = (10, 1) := by rw [c110]; rfl
      have b34 : ((s[i + 1].toNat : Int) == 34) = false := by rw [c110]; rfl
      have b92 : ((s[i + 1].toNat : Int) == 92) = false := by rw [c110]; rfl
      have b110 : ((s[i + 1].toNat : Int) == 110) = true := beq_yes c110
      have b116 : ((s[i + 1].toNat : Int) == 116) = false := by rw [c110]; rfl
      have b114 : ((s[i + 1].toNat : Int) == 114) = false := by rw [c110]; rfl
      have He := Lib.hid he
      clear he c110 c34 c92
      go_enter Tryz.func104, Tryz.ntmps104
      go_wp2_with fail
      go_ret2
      exact ⟨ret_ui (by rw [Hd.out, He.out]; rfl) (by rw [Hd.out, He.out]; rfl), Below.refl _ _⟩
    by_cases c116 : s[i + 1] = 116
    · have he : esc (s[i + 1] :: t) = (9, 1) := by rw [c116]; rfl
      have b34 : ((s[i + 1].toNat : Int) == 34) = false := by rw [c116]; rfl
      have b92 : ((s[i + 1].toNat : Int) == 92) = false := by rw [c116]; rfl
      have b110 : ((s[i + 1].toNat : Int) == 110) = false := by rw [c116]; rfl
      have b116 : ((s[i + 1].toNat : Int) == 116) = true := beq_yes c116
      have b114 : ((s[i + 1].toNat : Int) == 114) = false := by rw [c116]; rfl
      have He := Lib.hid he
      clear he c116 c34 c92 c110
      go_enter Tryz.func104, Tryz.ntmps104
      go_wp2_with fail
      go_ret2
      exact ⟨ret_ui (by rw [Hd.out, He.out]; rfl) (by rw [Hd.out, He.out]; rfl), Below.refl _ _⟩
    by_cases c114 : s[i + 1] = 114
    · have he : esc (s[i + 1] :: t) = (13, 1) := by rw [c114]; rfl
      have b34 : ((s[i + 1].toNat : Int) == 34) = false := by rw [c114]; rfl
      have b92 : ((s[i + 1].toNat : Int) == 92) = false := by rw [c114]; rfl
      have b110 : ((s[i + 1].toNat : Int) == 110) = false := by rw [c114]; rfl
      have b116 : ((s[i + 1].toNat : Int) == 116) = false := by rw [c114]; rfl
      have b114 : ((s[i + 1].toNat : Int) == 114) = true := beq_yes c114
      have He := Lib.hid he
      clear he c114 c34 c92 c110 c116
      go_enter Tryz.func104, Tryz.ntmps104
      go_wp2_with fail
      go_ret2
      exact ⟨ret_ui (by rw [Hd.out, He.out]; rfl) (by rw [Hd.out, He.out]; rfl), Below.refl _ _⟩
    have b34 : ((s[i + 1].toNat : Int) == 34) = false := beq_no c34
    have b92 : ((s[i + 1].toNat : Int) == 92) = false := beq_no c92
    have b110 : ((s[i + 1].toNat : Int) == 110) = false := beq_no c110
    have b116 : ((s[i + 1].toNat : Int) == 116) = false := beq_no c116
    have b114 : ((s[i + 1].toNat : Int) == 114) = false := beq_no c114
    by_cases cx : s[i + 1] = 120
    · have n120 : ((s[i + 1].toNat : Int) != 120) = false := bne_no cx
      have he : esc (s[i + 1] :: t) = match two t with
          | none => (0, 0)
          | some c => (c, 3) := by
        unfold esc
        simp only [if_neg c34, if_neg c92, if_neg c110, if_neg c116, if_neg c114, if_neg (show ¬ s[i + 1] ≠ 120 from fun e => e cx)]
        cases two t <;> rfl
      by_cases h3 : i + 3 < s.size
      · have h3i : (i : Int) + 3 < s.size := by omega
        have h2i : (i : Int) + 2 < s.size := by omega
        have h2 : i + 2 < s.size := by omega
        have g0 : t[0]? = some s[i + 2] := by rw [Ht.out, List.getElem?_drop]; exact lget h2
        have g1 : t[1]? = some s[i + 3] := by rw [Ht.out, List.getElem?_drop]; exact lget h3
        have h2t := two_long g0 g1
        have r0 := dig_range s[i + 2]
        have r1 := dig_range s[i + 3]
        rw [h2t] at he
        by_cases d0 : dig s[i + 2] < 0
        · rw [if_pos (.inl d0)] at he
          have He := Lib.hid he
          clear c34 c92 c110 c116 c114 cx he g0 g1 h2t r0 r1
          go_enter Tryz.func104, Tryz.ntmps104
          go_wp2_with fail
          refine (digit_same _ _).mono ?_
          rintro _ w1 ⟨rfl, rfl⟩
          go_wp2_with fail
          go_ret2
          exact ⟨ret_ui (by rw [Hd.out, He.out]; rfl) (by rw [Hd.out, He.out]; rfl), Below.refl _ _⟩
        · have d0l : 0 ≤ dig s[i + 2] := by omega
          have d0h : dig s[i + 2] < 16 := by omega
          by_cases d1 : dig s[i + 3] < 0
          · rw [if_pos (.inr d1)] at he
            have He := Lib.hid he
            clear c34 c92 c110 c116 c114 cx he g0 g1 h2t r0 r1 d0
            go_enter Tryz.func104, Tryz.ntmps104
            go_wp2_with fail
            refine (digit_same _ _).mono ?_
            rintro _ w1 ⟨rfl, rfl⟩
            go_wp2_with fail
            refine (digit_same _ _).mono ?_
            rintro _ w1 ⟨rfl, rfl⟩
            go_wp2_with fail
            go_ret2
            exact ⟨ret_ui (by rw [Hd.out, He.out]; rfl) (by rw [Hd.out, He.out]; rfl), Below.refl _ _⟩
          · have d1l : 0 ≤ dig s[i + 3] := by omega
            have d1h : dig s[i + 3] < 16 := by omega
            rw [if_neg (by omega)] at he
            have hw8 := wrap8 d0l d0h d1l d1h
            have He := Lib.hid he
            have Hw := Lib.hid hw8
            clear c34 c92 c110 c116 c114 cx he g0 g1 h2t r0 r1 d0 d1 hw8
            go_enter Tryz.func104, Tryz.ntmps104
            go_wp2_with fail
            refine (digit_same _ _).mono ?_
            rintro _ w1 ⟨rfl, rfl⟩
            go_wp2_with fail
            refine (digit_same _ _).mono ?_
            rintro _ w1 ⟨rfl, rfl⟩
            go_wp2_with fail
            have s1 : IntKind.i64.wrap ((i : Int) + 2) = (i : Int) + 2 := IntWalk.i64_in _ (by omega)
            have s2 : (0 : Int) ≤ (i : Int) + 2 := by omega
            have s3 : ((i : Int) + 2).toNat = i + 2 := by omega
            have t1 : IntKind.i64.wrap ((i : Int) + 3) = (i : Int) + 3 := IntWalk.i64_in _ (by omega)
            have t2 : (0 : Int) ≤ (i : Int) + 3 := by omega
            have t3 : ((i : Int) + 3).toNat = i + 3 := by omega
            have s4 : IntKind.i64.wrap (16 * dig s[i + 2]) = 16 * dig s[i + 2] := IntWalk.i64_in _ (by omega)
            have s5 : IntKind.i64.wrap (16 * dig s[i + 2] + dig s[i + 3]) = 16 * dig s[i + 2] + dig s[i + 3] := IntWalk.i64_in _ (by omega)
            go_quiet ((go_at_call 103; exact Calls.quiet_of_same (digit_any _ _)))
            go_wp2_with fail
            go_ret2
            exact ⟨ret_ui (by rw [Hd.out, He.out]; have h := Hw.out; show _ = ((UInt8.ofNat ((dig s[i + 2]).toNat * 16 + (dig s[i + 3]).toNat)).toNat : Int); omega) (by rw [Hd.out, He.out]; rfl), below_drewN (Below.refl _ _) _⟩
      · have h2t : two t = none := two_short (by rw [Ht.out, List.length_drop]; show s.size - (i + 2) < 2; omega)
        rw [h2t] at he
        have h3i : (s.size : Int) ≤ (i : Int) + 3 := by omega
        have He := Lib.hid he
        clear c34 c92 c110 c116 c114 cx he h2t
        go_enter Tryz.func104, Tryz.ntmps104
        go_wp2_with fail
        go_ret2
        exact ⟨ret_ui (by rw [Hd.out, He.out]; rfl) (by rw [Hd.out, He.out]; rfl), Below.refl _ _⟩
    · have n120 : ((s[i + 1].toNat : Int) != 120) = true := bne_yes cx
      have he : esc (s[i + 1] :: t) = (0, 0) := by
        unfold esc
        simp only [if_neg c34, if_neg c92, if_neg c110, if_neg c116, if_neg c114, if_pos (show s[i + 1] ≠ 120 from cx)]
      have He := Lib.hid he
      clear c34 c92 c110 c116 c114 cx he
      go_enter Tryz.func104, Tryz.ntmps104
      go_wp2_with fail
      go_ret2
      exact ⟨ret_ui (by rw [Hd.out, He.out]; rfl) (by rw [Hd.out, He.out]; rfl), Below.refl _ _⟩
  · have hd : s.data.toList.drop (i + 1) = [] := List.drop_eq_nil_of_le (by show s.size ≤ i + 1; omega)
    have Hd := Lib.hid hd
    have h1i : (s.size : Int) ≤ (i : Int) + 1 := by omega
    clear hd
    go_enter Tryz.func104, Tryz.ntmps104
    go_wp2_with fail
    go_ret2
    exact ⟨ret_ui (by rw [Hd.out]; rfl) (by rw [Hd.out]; rfl), Below.refl _ _⟩

set_option maxHeartbeats 4000000 in
set_option maxRecDepth 100000 in
theorem rUnquote_any (s : ByteArray) (hs : s.size ≤ 35184372088000) (w : World) :
    Calls Tryz.prog 69 #[.string s] w fun e w' => e = .returned (.tuple #[.string ⟨(unquote s.data.toList).1.toArray⟩, .int .i64 (unquote s.data.toList).2.1, .int .i64 (unquote s.data.toList).2.2]) ∧ Below w.heap.size w w' := by
  obtain ⟨l, hl⟩ : ∃ l, l = s.data.toList := ⟨_, rfl⟩
  rw [← hl]
  have hsz : l.length = s.size := by rw [hl]; rfl
  have hsi : (s.size : Int) ≤ 35184372088000 := by omega
  have Hl := Lib.hid hl
  have Hsz := Lib.hid hsz
  clear hl hsz
  by_cases hz : s.size = 0
  · have hln : l = [] := List.eq_nil_of_length_eq_zero (by rw [Hsz.out, hz])
    have hf : unquote l = ([], 0, 2) := by
      rw [hln]; rfl
    have Hf := Lib.hid hf
    have z1 : ((s.size : Int) == 0) = true := by simp [hz]
    clear hln hf hz
    go_enter Tryz.func69, Tryz.ntmps69
    go_wp2_with fail
    go_ret3
    exact ⟨ret_sie (by rw [Hf.out]) (by rw [Hf.out]; rfl) (by rw [Hf.out]), Below.refl _ _⟩
  have z1 : ((s.size : Int) == 0) = false := by rw [beq_eq_false_iff_ne]; omega
  have h0 : 0 < s.size := by omega
  have hd0 : l = s[0] :: l.drop 1 := by
    have h1 : 0 < l.length := by rw [Hsz.out]; exact h0
    have h2 := List.drop_eq_getElem_cons h1
    rw [List.drop_zero] at h2
    have h3 : l[0] = s[0] := by simp only [Hl.out]; rfl
    rw [h3] at h2
    exact h2
  by_cases c34 : s[0] = 34
  · have n34 : ((s[0].toNat : Int) != 34) = false := bne_no c34
    have hun : unescape l = after [] 1 (scan (l.drop 1)) := by
      rw [unescape_step l s[0] (l.drop 1) hd0 c34]
      cases scan (l.drop 1) <;> rfl
    have Hun := Lib.hid hun
    have h1s : 1 ≤ s.size := by omega
    clear hun hd0 c34 hz
    go_enter Tryz.func69, Tryz.ntmps69
    go_wp2_with fail
    go_loopw [5, 6] (fun v i wr => ∃ (k : Nat) (T : ByteArray), k ≤ s.size ∧ T.size ≤ k ∧ v = .string T ∧ i = .int .i64 k ∧ Below w.heap.size w wr ∧ Hid (unescape l = after T.data.toList k (scan (l.drop k)))) (fun _ i _ => s.size - (intOf i).toNat)
    case atStart => exact ⟨1, ⟨#[]⟩, h1s, Nat.zero_le _, rfl, rfl, Below.refl _ _, Hun⟩
    case round =>
      obtain ⟨k, T, hk, hT, rfl, rfl, hbel, Hu⟩ := hrel
      clear Hun
      by_cases hlt : k < s.size
      · have hlt' : k < l.length := by rw [Hsz.out]; exact hlt
        have hd : l.drop k = s[k] :: l.drop (k + 1) := by
          rw [List.drop_eq_getElem_cons hlt']
          congr 1
          simp only [Hl.out]; rfl
        have Hd := Lib.hid hd
        have hki : (k : Int) + 1 ≤ s.size := by omega
        have hT1 : T.size + 1 ≤ 9223372036854775807 := by omega
        clear hd hlt'
        by_cases c1 : s[k] = 34
        · have e1 : ((s[k].toNat : Int) == 34) = true := beq_yes c1
          have hf : unescape l = (T.data.toList, k + 1) := by rw [Hu.out, Hd.out, c1, scan_mark]; simp [after]
          have Hf := Lib.hid hf
          have hts : T.size ≤ 35184372088000 := by omega
          clear c1 hf
          by_cases hq : quote T.data.toList = l.take (k + 1)
          · have hbq : (quote T.data.toList == (s.extract 0 (k + 1)).toList) = true := by rw [beq_iff_eq, hq, cut_toList, Hl.out]
            have hg : unquote l = (T.data.toList, k + 1, 0) := by
              unfold unquote
              rw [Hf.out, if_neg (by simp only; intro h; rcases h with h | h; omega; exact h hq)]
            have Hg := Lib.hid hg
            clear hq hg
            go_wp2_with fail
            have s1 : IntKind.i64.wrap ((k : Int) + 1) = (k : Int) + 1 := IntWalk.i64_in _ (by omega)
            have s2 : (0 : Int) ≤ (k : Int) + 1 := by omega
            have s3 : ((k : Int) + 1).toNat = k + 1 := by omega
            go_region_with (go_at_call 27; refine (rQuote_any _ hts _).mono ?_; rintro _ w2 ⟨rfl, hb2⟩)
            all_goals
              clear s1 s2 s3
              go_wp2_with fail
              go_ret3
              exact ⟨ret_sie (by rw [Hg.out]) (by rw [Hg.out]; go_num) (by rw [Hg.out]), hbel.trans (drew_below hb2 hbel.size)⟩
          · have hbq : (quote T.data.toList == (s.extract 0 (k + 1)).toList) = false := by rw [beq_eq_false_iff_ne, cut_toList, ← Hl.out]; exact hq
            have hg : unquote l = ([], 0, 2) := by
              unfold unquote
              rw [Hf.out, if_pos (.inr hq)]
            have Hg := Lib.hid hg
            clear hq hg
            go_wp2_with fail
            have s1 : IntKind.i64.wrap ((k : Int) + 1) = (k : Int) + 1 := IntWalk.i64_in _ (by omega)
            have s2 : (0 : Int) ≤ (k : Int) + 1 := by omega
            have s3 : ((k : Int) + 1).toNat = k + 1 := by omega
            go_region_with (go_at_call 27; refine (rQuote_any _ hts _).mono ?_; rintro _ w2 ⟨rfl, hb2⟩)
            all_goals
              clear s1 s2 s3
              go_wp2_with fail
              go_ret3
              exact ⟨ret_sie (by rw [Hg.out]) (by rw [Hg.out]; rfl) (by rw [Hg.out]), hbel.trans (drew_below hb2 hbel.size)⟩
        · have e1 : ((s[k].toNat : Int) == 34) = false := beq_no c1
          by_cases c2 : s[k] = 92
          · have e2 : ((s[k].toNat : Int) != 92) = false := bne_no c2
            have hel := esc_len (l.drop (k + 1))
            generalize hesc : esc (l.drop (k + 1)) = ec at hel
            obtain ⟨ec1, ec2⟩ := ec
            rw [List.length_drop, Hsz.out] at hel
            obtain ⟨he1, he2⟩ := hel
            simp only at he1 he2
            have Hesc := Lib.hid hesc
            clear hesc
            by_cases hn : ec2 = 0
            · have hf : unescape l = ([], 0) := by rw [Hu.out, Hd.out, c2, scan_esc, Hesc.out, if_pos hn]; rfl
              have hg : unquote l = ([], 0, 2) := by unfold unquote; rw [hf]; rfl
              have Hg := Lib.hid hg
              have Hrn : Hid (rn ec2 = 0) := Lib.hid (by rw [hn]; rfl)
              clear hn hf hg c1 c2
              go_wp2_with fail
              refine (escape_any s k hlt hs _).mono ?_
              rintro _ w2 ⟨rfl, hb2⟩
              rw [← Hl.out, Hesc.out, show rn ((ec1, ec2) : UInt8 × Nat).2 = 0 from Hrn.out]
              go_wp2_with fail
              go_ret3
              exact ⟨ret_sie (by rw [Hg.out]) (by rw [Hg.out]; rfl) (by rw [Hg.out]), hbel.trans (hb2.mono hbel.size)⟩
            · have Hrn : Hid (rn ec2 = ec2 + 1) := Lib.hid (by unfold rn; rw [if_neg hn])
              have n0 : (((ec2 + 1 : Nat) : Int) == 0) = false := by rw [beq_eq_false_iff_ne]; omega
              have n0' : ((ec2 : Int) + 1 == 0) = false := by rw [beq_eq_false_iff_ne]; omega
              have hun : unescape l = after (T.data.toList ++ [ec1]) (k + (1 + ec2)) (scan (l.drop (k + (1 + ec2)))) := by
                rw [Hu.out, Hd.out, c2, scan_esc, Hesc.out, if_neg hn, List.drop_drop, after_map]
                congr 3
                omega
              have Hun := Lib.hid hun
              have hcv := fun W => conv_new W ec1
              clear hun hn c1 c2
              go_wp2_with fail
              refine (escape_any s k hlt hs _).mono ?_
              rintro _ w2 ⟨rfl, hb2⟩
              rw [← Hl.out, Hesc.out, show rn ((ec1, ec2) : UInt8 × Nat).2 = ec2 + 1 from Hrn.out]
              have hb3 := hbel.trans (hb2.mono hbel.size)
              go_wp2_with fail
              refine ⟨⟨k + (1 + ec2), _, by omega, ?_, rfl, by go_num, hb3.alloc hb3.size _, Lib.hid ?_⟩, by simp [intOf]; omega⟩
              · rw [ByteArray.size_append]; show T.size + 1 ≤ _; omega
              · rw [Hun.out, join_list T [ec1] _ rfl]
          · have e2 : ((s[k].toNat : Int) != 92) = true := bne_yes c2
            have hsc := scan_plain (l.drop (k + 1)) c1 c2
            have hx : (s.extract k (k + 1)).data.toList = [s[k]] := by
              have : (s.extract k (k + 1)).data.toList = (l.drop k).take 1 := by rw [Hl.out]; simp [List.take_drop]
              rw [this, Hd.out]; rfl
            have hxs : T.size + (s.extract k (k + 1)).size ≤ 9223372036854775807 := by rw [ByteArray.size_extract]; omega
            have hun : unescape l = after (T.data.toList ++ [s[k]]) (k + 1) (scan (l.drop (k + 1))) := by rw [Hu.out, Hd.out, hsc, after_map]
            have Hun := Lib.hid hun
            have Hx := Lib.hid hx
            clear c1 c2 hsc hun hx
            go_wp2_with fail
            refine ⟨⟨k + 1, T ++ s.extract k (k + 1), by omega, ?_, rfl, by go_num, hbel, Lib.hid ?_⟩, by simp [intOf]; omega⟩
            · rw [ByteArray.size_append, ByteArray.size_extract]; omega
            · rw [Hun.out, append_toList, Hx.out]
      · obtain rfl : k = s.size := by omega
        have hf : unescape l = ([], 0) := by rw [Hu.out, List.drop_eq_nil_of_le (by rw [Hsz.out]; omega), scan_nil]; rfl
        have hg : unquote l = ([], 0, 2) := by unfold unquote; rw [hf]; rfl
        have Hg := Lib.hid hg
        clear hf hg
        go_wp2_with fail
        go_ret3
        exact ⟨ret_sie (by rw [Hg.out]) (by rw [Hg.out]; rfl) (by rw [Hg.out]), hbel⟩
  · have n34 : ((s[0].toNat : Int) != 34) = true := bne_yes c34
    have hf : unquote l = ([], 0, 2) := by
      have : unescape l = ([], 0) := by rw [hd0]; simp [unescape, c34]
      unfold unquote; rw [this]; rfl
    have Hf := Lib.hid hf
    clear hf hd0 c34 hz
    go_enter Tryz.func69, Tryz.ntmps69
    go_wp2_with fail
    go_ret3
    exact ⟨ret_sie (by rw [Hf.out]) (by rw [Hf.out]; rfl) (by rw [Hf.out]), Below.refl _ _⟩

end Go.Proofs.YtgjbpadhdnclnaaGreatDoor.UtfL
