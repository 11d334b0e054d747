/- Contracts of pair, digit, Hex, Unhex and Quote of the reference of package utf. -/
import Derived.Test.YtgjbpadhdnclnaaGreatDoorUtfH
import Derived.Test.YtgjbpadhdnclnaaGreatDoorUtfP
import Derived.Test.YtgjbpadhdnclnaaGreatDoorUtfR
import Derived.Deep.QuietTactic
import Derived.BigQuiet
set_option linter.unusedSimpArgs false
set_option linter.unusedVariables false
namespace Go.Proofs.YtgjbpadhdnclnaaGreatDoor.UtfK
open Go.RowKit Nums Byt UtfM UtfS UtfQ UtfD Room UtfH UtfP UtfR

theorem digit_cut {n : Nat} (h : n < 16) : (⟨#[48, 49, 50, 51, 52, 53, 54, 55, 56, 57, 97, 98, 99, 100, 101, 102]⟩ : ByteArray).extract n (n + 1) = ⟨#[hx n]⟩ := by
  have : ∀ k : Fin 16, ((⟨#[48, 49, 50, 51, 52, 53, 54, 55, 56, 57, 97, 98, 99, 100, 101, 102]⟩ : ByteArray).extract k.val (k.val + 1)).data.toList = [hx k.val] := by decide +kernel
  have h1 := this ⟨n, h⟩
  rw [← mk_toList (ByteArray.extract _ n (n + 1)), h1]
set_option maxHeartbeats 1000000 in
set_option maxRecDepth 100000 in
theorem pair_any (c : UInt8) (w : World) :
    Calls Tryz.prog 62 #[.int .u8 c.toNat] w fun e w' => e = .returned (.string ⟨#[hx (c.toNat / 16), hx (c.toNat % 16)]⟩) ∧ Below w.heap.size w w' := by
  have c256 := c.toNat_lt
  have hc256 : (c.toNat : Int) < 256 := by omega
  have a0 : 0 ≤ (c.toNat : Int) / 16 := by omega
  have a1 : (c.toNat : Int) / 16 + 1 ≤ 16 := by omega
  have a2 : (c.toNat : Int) / 16 < 16 := by omega
  have a3 : 0 ≤ (c.toNat : Int) % 16 := by omega
  have a4 : (c.toNat : Int) % 16 + 1 ≤ 16 := by omega
  have a5 : (c.toNat : Int) % 16 < 16 := by omega
  have a6 : (c.toNat : Int) / 16 ≤ (c.toNat : Int) / 16 + 1 := by omega
  have a7 : (c.toNat : Int) % 16 ≤ (c.toNat : Int) % 16 + 1 := by omega
  go_enter Tryz.func62, Tryz.ntmps62
  go_wp2_with fail
  go_quiet (fail)
  go_wp2_with fail
  go_ret
  exact ⟨BytT.ret_str (by rw [digit_cut (by omega), digit_cut (by omega)]; rfl), below_drewN (Below.refl _ _) _⟩

set_option maxHeartbeats 1000000 in
set_option maxRecDepth 100000 in
theorem digit_a (c : UInt8) (w : World) (h1 : 48 ≤ c.toNat) (h2 : c.toNat ≤ 57) :
    Calls Tryz.prog 103 #[.int .u8 c.toNat] w fun e w' => e = .returned (.int .i64 (dig c)) ∧ w' = w := by
  have z1 : (48 : Int) ≤ c.toNat := by omega
  have z2 : (c.toNat : Int) ≤ 57 := by omega
  have ge48 : decide ((48 : Int) ≤ c.toNat) = true := by simp; omega
  have le57 : decide ((c.toNat : Int) ≤ 57) = true := by simp; omega
  have ge97 : decide ((97 : Int) ≤ c.toNat) = false := by simp; omega
  have le102 : decide ((c.toNat : Int) ≤ 102) = true := by simp; omega
  have hd : dig c = c.toNat - 48 := by
    unfold dig
    repeat' split
    all_goals omega
  have Hd := Lib.hid hd
  clear hd
  go_enter Tryz.func103, Tryz.ntmps103
  go_wp2_with fail
  go_ret
  exact ⟨ret_int (by rw [Hd.out]), rfl⟩
set_option maxHeartbeats 1000000 in
set_option maxRecDepth 100000 in
theorem digit_b (c : UInt8) (w : World) (h1 : 97 ≤ c.toNat) (h2 : c.toNat ≤ 102) :
    Calls Tryz.prog 103 #[.int .u8 c.toNat] w fun e w' => e = .returned (.int .i64 (dig c)) ∧ w' = w := by
  have z1 : (97 : Int) ≤ c.toNat := by omega
  have z2 : (c.toNat : Int) ≤ 102 := by omega
  have ge48 : decide ((48 : Int) ≤ c.toNat) = true := by simp; omega
  have le57 : decide ((c.toNat : Int) ≤ 57) = false := by simp; omega
  have ge97 : decide ((97 : Int) ≤ c.toNat) = true := by simp; omega
  have le102 : decide ((c.toNat : Int) ≤ 102) = true := by simp; omega
  have hd : dig c = c.toNat - 97 + 10 := by
    unfold dig
    repeat' split
    all_goals omega
  have Hd := Lib.hid hd
  clear hd
  go_enter Tryz.func103, Tryz.ntmps103
  go_wp2_with fail
  go_ret
  exact ⟨ret_int (by rw [Hd.out]), rfl⟩
set_option maxHeartbeats 1000000 in
set_option maxRecDepth 100000 in
theorem digit_c (c : UInt8) (w : World) (h1 : 0 ≤ c.toNat) (h2 : c.toNat ≤ 47) :
    Calls Tryz.prog 103 #[.int .u8 c.toNat] w fun e w' => e = .returned (.int .i64 (dig c)) ∧ w' = w := by
  have z1 : (0 : Int) ≤ c.toNat := by omega
  have z2 : (c.toNat : Int) ≤ 47 := by omega
  have ge48 : decide ((48 : Int) ≤ c.toNat) = false := by simp; omega
  have le57 : decide ((c.toNat : Int) ≤ 57) = true := by simp; omega
  have ge97 : decide ((97 : Int) ≤ c.toNat) = false := by simp; omega
  have le102 : decide ((c.toNat : Int) ≤ 102) = true := by simp; omega
  have hd : dig c = -1 := by
    unfold dig
    repeat' split
    all_goals omega
  have Hd := Lib.hid hd
  clear hd
  go_enter Tryz.func103, Tryz.ntmps103
  go_wp2_with fail
  go_ret
  exact ⟨ret_int (by rw [Hd.out]), rfl⟩
set_option maxHeartbeats 1000000 in
set_option maxRecDepth 100000 in
theorem digit_d (c : UInt8) (w : World) (h1 : 58 ≤ c.toNat) (h2 : c.toNat ≤ 96) :
    Calls Tryz.prog 103 #[.int .u8 c.toNat] w fun e w' => e = .returned (.int .i64 (dig c)) ∧ w' = w := by
  have z1 : (58 : Int) ≤ c.toNat := by omega
  have z2 : (c.toNat : Int) ≤ 96 := by omega
  have ge48 : decide ((48 : Int) ≤ c.toNat) = true := by simp; omega
  have le57 : decide ((c.toNat : Int) ≤ 57) = false := by simp; omega
  have ge97 : decide ((97 : Int) ≤ c.toNat) = false := by simp; omega
  have le102 : decide ((c.toNat : Int) ≤ 102) = true := by simp; omega
  have hd : dig c = -1 := by
    unfold dig
    repeat' split
    all_goals omega
  have Hd := Lib.hid hd
  clear hd
  go_enter Tryz.func103, Tryz.ntmps103
  go_wp2_with fail
  go_ret
  exact ⟨ret_int (by rw [Hd.out]), rfl⟩
set_option maxHeartbeats 1000000 in
set_option maxRecDepth 100000 in
theorem digit_e (c : UInt8) (w : World) (h1 : 103 ≤ c.toNat) (h2 : c.toNat ≤ 255) :
    Calls Tryz.prog 103 #[.int .u8 c.toNat] w fun e w' => e = .returned (.int .i64 (dig c)) ∧ w' = w := by
  have z1 : (103 : Int) ≤ c.toNat := by omega
  have z2 : (c.toNat : Int) ≤ 255 := by omega
  have ge48 : decide ((48 : Int) ≤ c.toNat) = true := by simp; omega
  have le57 : decide ((c.toNat : Int) ≤ 57) = false := by simp; omega
  have ge97 : decide ((97 : Int) ≤ c.toNat) = true := by simp; omega
  have le102 : decide ((c.toNat : Int) ≤ 102) = false := by simp; omega
  have hd : dig c = -1 := by
    unfold dig
    repeat' split
    all_goals omega
  have Hd := Lib.hid hd
  clear hd
  go_enter Tryz.func103, Tryz.ntmps103
  go_wp2_with fail
  go_ret
  exact ⟨ret_int (by rw [Hd.out]), rfl⟩
/-- A digit's number, or -1. -/
theorem digit_any (c : UInt8) (w : World) : Calls Tryz.prog 103 #[.int .u8 c.toNat] w fun e w' => e = .returned (.int .i64 (dig c)) ∧ w' = w := by
  have hc := c.toNat_lt
  by_cases h1 : c.toNat ≤ 47
  · exact digit_c c w (by omega) h1
  by_cases h2 : c.toNat ≤ 57
  · exact digit_a c w (by omega) h2
  by_cases h3 : c.toNat ≤ 96
  · exact digit_d c w (by omega) h3
  by_cases h4 : c.toNat ≤ 102
  · exact digit_b c w (by omega) h4
  exact digit_e c w (by omega) (by omega)
theorem digit_same (c : UInt8) (w : World) : Calls Tryz.prog 103 #[.int .u8 c.toNat] w fun e w' => e = .returned (.int .i64 (dig c)) ∧ w = w' :=
  (digit_any c w).mono fun _ _ ⟨h1, h2⟩ => ⟨h1, h2.symm⟩

theorem join_list (a : ByteArray) (l : List UInt8) (x : List UInt8) (h : a.data.toList = x) : (a ++ ⟨l.toArray⟩).data.toList = x ++ l := by
  rw [append_toList, h]
set_option maxHeartbeats 1000000 in
set_option maxRecDepth 100000 in
theorem rHex_any (s : ByteArray) (hs : s.size ≤ 35184372088000) (w : World) :
    Calls Tryz.prog 28 #[.string s] w fun e w' => e = .returned (.string ⟨(hexL s.data.toList).toArray⟩) ∧ Below w.heap.size w w' := by
  obtain ⟨l, hl⟩ : ∃ l, l = s.data.toList := ⟨_, rfl⟩
  rw [← hl]
  have hsz : l.length = s.size := by rw [hl]; rfl
  have Hl := Lib.hid hl
  have Hsz := Lib.hid hsz
  clear hl hsz
  go_enter Tryz.func28, Tryz.ntmps28
  go_wp2_with fail
  go_loopw [3, 4] (fun v i wr => ∃ (k : Nat) (T : ByteArray), k ≤ s.size ∧ T.size ≤ 2 * k ∧ v = .string T ∧ i = .int .i64 k ∧ Below w.heap.size w wr ∧ Hid (T.data.toList = hexL (l.take k))) (fun _ i _ => s.size - (intOf i).toNat)
  case atStart => exact ⟨0, ⟨#[]⟩, by omega, Nat.le_refl _, rfl, rfl, Below.refl _ _, Lib.hid (by simp [hexL])⟩
  case round =>
    obtain ⟨k, T, hk, hT, rfl, rfl, hbel, Hh⟩ := hrel
    by_cases hlt : k < s.size
    · have ht : hexL (l.take (k + 1)) = hexL (l.take k) ++ [hx ((s[k]).toNat / 16), hx ((s[k]).toNat % 16)] := by
        rw [List.take_succ_eq_append_getElem (by rw [Hsz.out]; exact hlt), hexL_snoc]
        have : l[k]'(by rw [Hsz.out]; exact hlt) = s[k] := by
          simp only [Hl.out]; rfl
        rw [this]
      have Ht := Lib.hid ht
      clear ht
      have hT2 : T.size + 2 ≤ 9223372036854775807 := by omega
      go_wp2_with fail
      refine (pair_any s[k] _).mono ?_
      rintro _ w1 ⟨rfl, hb1⟩
      go_wp2_with fail
      refine ⟨⟨k + 1, _, by omega, ?_, rfl, by go_num, hbel.trans (hb1.mono hbel.size), Lib.hid ?_⟩, by simp [intOf]; omega⟩
      · rw [ByteArray.size_append]; show T.size + 2 ≤ _; omega
      · rw [Ht.out]; exact join_list T _ _ Hh.out
    · obtain rfl : k = s.size := by omega
      go_wp2_with fail
      go_ret
      refine ⟨BytT.ret_str ?_, hbel⟩
      rw [← mk_toList T, Hh.out, ← Hsz.out, List.take_length]

theorem unhex_odd : ∀ l : List UInt8, l.length % 2 ≠ 0 → unhexL l = none
  | [], h => by simp at h
  | [_], _ => rfl
  | a :: b :: t, h => by
    rw [unhexL]
    split
    · rfl
    · rw [unhex_odd t (by simp only [List.length_cons] at h; omega)]; rfl
theorem wrap8 {a b : Int} (a0 : 0 ≤ a) (a1 : a < 16) (b0 : 0 ≤ b) (b1 : b < 16) : (16 * a + b) % 256 = ((UInt8.ofNat (a.toNat * 16 + b.toNat)).toNat : Int) := by
  rw [UInt8.toNat_ofNat']
  omega

theorem conv_new (W : World) (c : UInt8) : (convert 64 9 (.slice (some ⟨W.heap.size, 0, none⟩) 1 1)).run Tryz.prog (W.alloc (.cells #[.int .u8 (c.toNat : Int)] 5)) = .ok (.string ⟨#[c]⟩) (W.alloc (.cells #[.int .u8 (c.toNat : Int)] 5)) :=
  conv_cells BytT.bytesT Tryz.underlying9 W.heap.size 1 1 [c] rfl (fun i hi => by
    obtain rfl : i = 0 := by simp at hi; omega
    rw [World.cell?_alloc_at _ _ _ _ rfl]; rfl)
theorem conv_drew (W : World) (c : UInt8) : (convert 64 9 (.slice (some ⟨W.heap.size, 0, none⟩) 1 1)).run Tryz.prog (W.alloc (.cells #[.int .u8 (c.toNat : Int)] 5)).drew = .ok (.string ⟨#[c]⟩) (W.alloc (.cells #[.int .u8 (c.toNat : Int)] 5)).drew :=
  conv_new W.drew c
set_option maxHeartbeats 1000000 in
set_option maxRecDepth 100000 in
theorem rUnhex_any (s : ByteArray) (hs : s.size ≤ 35184372088000) (w : World) :
    Calls Tryz.prog 68 #[.string s] w fun e w' => e = .returned (.tuple #[.string ⟨(uhT s.data.toList).toArray⟩, .int .i64 (uhE s.data.toList)]) ∧ Below w.heap.size w w' := by
  obtain ⟨l, hl⟩ : ∃ l, l = s.data.toList := ⟨_, rfl⟩
  rw [← hl]
  have hsz : l.length = s.size := by rw [hl]; rfl
  have Hl := Lib.hid hl
  have Hsz := Lib.hid hsz
  clear hl hsz
  by_cases ho : s.size % 2 ≠ 0
  · have hf := unhex_odd l (by rw [Hsz.out]; exact ho)
    have Hf := Lib.hid hf
    have d1 : ((s.size : Int) % 2 != 0) = true := by rw [bne_iff_ne]; omega
    clear hf ho
    go_enter Tryz.func68, Tryz.ntmps68
    go_wp2_with fail
    go_ret2
    exact ⟨ret_se (by simp [uhT, Hf.out]) (by simp [uhE, Hf.out]), Below.refl _ _⟩
  · have ho' : s.size % 2 = 0 := by omega
    have d1 : ((s.size : Int) % 2 != 0) = false := by rw [bne_eq_false_iff_eq]; omega
    have Ho := Lib.hid ho'
    clear ho ho'
    go_enter Tryz.func68, Tryz.ntmps68
    go_wp2_with fail
    go_loopw [4, 5] (fun v i wr => ∃ (k : Nat) (T : ByteArray), k ≤ s.size ∧ T.size ≤ k ∧ v = .string T ∧ i = .int .i64 k ∧ Below w.heap.size w wr ∧ Hid (k % 2 = 0) ∧ Hid (unhexL l = (unhexL (l.drop k)).map fun r => T.data.toList ++ r)) (fun _ i _ => s.size - (intOf i).toNat)
    case atStart =>
      refine ⟨0, ⟨#[]⟩, by omega, Nat.le_refl _, rfl, rfl, Below.refl _ _, Lib.hid rfl, Lib.hid ?_⟩
      rw [List.drop_zero]
      cases unhexL l <;> simp
    case round =>
      obtain ⟨k, T, hk, hT, rfl, rfl, hbel, H2, Hu⟩ := hrel
      by_cases hlt : k < s.size
      · have hlt2 : k + 1 < s.size := by have := H2.out; have := Ho.out; omega
        have hlt3 : (k : Int) + 1 < s.size := by omega
        have g0 : (l.drop k)[0]? = some s[k] := by rw [List.getElem?_drop, Nat.add_zero, Hl.out]; exact lget hlt
        have g1 : (l.drop k)[1]? = some s[k + 1] := by rw [List.getElem?_drop, Hl.out]; exact lget hlt2
        have h2 := two_long g0 g1
        have hu2 := unhex_two (l.drop k) (fun e => by rw [e] at g0; simp at g0)
        have r0 := dig_range s[k]
        have r1 := dig_range s[k + 1]
        have hT1 : T.size + 1 ≤ 9223372036854775807 := by omega
        by_cases c0 : dig s[k] < 0
        · have hf : unhexL l = none := by rw [Hu.out, hu2, h2, if_pos (.inl c0)]; rfl
          have Hf := Lib.hid hf
          clear hf h2 hu2 g0 g1 r0 r1
          go_wp2_with fail
          refine (digit_same _ _).mono ?_
          rintro _ w1 ⟨rfl, rfl⟩
          go_wp2_with fail
          go_ret2
          exact ⟨ret_se (by simp [uhT, Hf.out]) (by simp [uhE, Hf.out]), hbel⟩
        · have c0' : 0 ≤ dig s[k] := by omega
          have c0'' : dig s[k] < 16 := by omega
          by_cases c1 : dig s[k + 1] < 0
          · have hf : unhexL l = none := by rw [Hu.out, hu2, h2, if_pos (.inr c1)]; rfl
            have Hf := Lib.hid hf
            clear hf h2 hu2 g0 g1 r0 r1 c0
            go_wp2_with fail
            refine (digit_same _ _).mono ?_
            rintro _ w1 ⟨rfl, rfl⟩
            go_wp2_with fail
            refine (digit_same _ _).mono ?_
            rintro _ w1 ⟨rfl, rfl⟩
            go_wp2_with fail
            go_ret2
            exact ⟨ret_se (by simp [uhT, Hf.out]) (by simp [uhE, Hf.out]), hbel⟩
          · have c1' : 0 ≤ dig s[k + 1] := by omega
            have c1'' : dig s[k + 1] < 16 := by omega
            have hw8 := wrap8 c0' c0'' c1' c1''
            rw [if_neg (by omega)] at h2
            rw [h2] at hu2
            generalize UInt8.ofNat ((dig s[k]).toNat * 16 + (dig s[k + 1]).toNat) = c at hu2 hw8
            have Hu2 := Lib.hid hu2
            have hcv := fun W => conv_drew W c
            clear h2 hu2 g0 g1 r0 r1 c0 c1
            go_wp2_with fail
            refine (digit_same _ _).mono ?_
            rintro _ w1 ⟨rfl, rfl⟩
            go_wp2_with fail
            refine (digit_same _ _).mono ?_
            rintro _ w1 ⟨rfl, rfl⟩
            go_wp2_with fail
            have s1 : IntKind.i64.wrap ((k : Int) + 1) = (k : Int) + 1 := IntWalk.i64_in _ (by omega)
            have s2 : (0 : Int) ≤ (k : Int) + 1 := by omega
            have s3 : ((k : Int) + 1).toNat = k + 1 := by omega
            have s4 : IntKind.i64.wrap (16 * dig s[k]) = 16 * dig s[k] := IntWalk.i64_in _ (by omega)
            have s5 : IntKind.i64.wrap (16 * dig s[k] + dig s[k + 1]) = 16 * dig s[k] + dig s[k + 1] := IntWalk.i64_in _ (by omega)
            have s6 : IntKind.u8.wrap (16 * dig s[k] + dig s[k + 1]) = (c.toNat : Int) := hw8
            go_region_with (go_at_call 103; refine (digit_same _ _).mono ?_; rintro _ w1 ⟨rfl, rfl⟩)
            all_goals
              go_wp2_with fail
              clear s1 s2 s3 s4 s5 s6 hw8 hcv
              refine ⟨⟨k + 2, _, by omega, ?_, rfl, by go_num, (hbel.alloc hbel.size _).drew, Lib.hid (by have := H2.out; omega), Lib.hid ?_⟩, by simp [intOf]; omega⟩
              · rw [ByteArray.size_append]; show T.size + 1 ≤ _; omega
              · rw [Hu.out, Hu2.out, join_list T [c] _ rfl, List.drop_drop]
                cases unhexL (l.drop (k + 2)) <;> simp
      · obtain rfl : k = s.size := by omega
        go_wp2_with fail
        go_ret2
        have hf : unhexL l = some T.data.toList := by rw [Hu.out, List.drop_eq_nil_of_le (by rw [Hsz.out]; omega)]; simp [unhexL]
        refine ⟨ret_se ?_ ?_, hbel⟩
        · simp only [uhT, hf]; rfl
        · simp [uhE, hf]


theorem part_ref (s : ByteArray) (pos : Nat) (hp : pos < s.size) : ∃ (n m : Nat) (t : List UInt8),
    sz (s.data.toList.drop pos) = m ∧ (m = 0 → n = 1) ∧ (m ≠ 0 → n = m) ∧ 1 ≤ n ∧ n ≤ 4 ∧ pos + n ≤ s.size ∧ body (s.data.toList.drop pos) = form (s[pos] :: t) ++ body (s.data.toList.drop (pos + n)) ∧ (s[pos] :: t).length = n ∧
    (s[pos].toNat < 128 → m = 1 ∧ t = []) ∧ sz (s[pos] :: t) = m ∧ (s.extract pos (pos + n)).data.toList = s[pos] :: t := by
  have hl : pos < s.data.toList.length := hp
  have hne := drop_ne hl
  have h1 := step_pos (s.data.toList.drop pos)
  have h4 := step_le4 (s.data.toList.drop pos)
  have hle := step_le hne
  rw [List.length_drop] at hle
  have hb := body_next hl
  have hsp := sz_part hne
  have hd : s.data.toList.drop pos = s[pos] :: s.data.toList.drop (pos + 1) := by rw [List.drop_eq_getElem_cons hl]; rfl
  obtain ⟨t, ht⟩ : ∃ t, (s.data.toList.drop pos).take (stp (s.data.toList.drop pos)) = s[pos] :: t := by
    obtain ⟨m, hm⟩ : ∃ m, stp (s.data.toList.drop pos) = m + 1 := ⟨stp (s.data.toList.drop pos) - 1, by omega⟩
    rw [hm, hd]
    exact ⟨_, rfl⟩
  have hlen := congrArg List.length ht
  rw [List.length_take, List.length_drop] at hlen
  have hsz : s.data.toList.length = s.size := rfl
  have hlow : s[pos].toNat < 128 → sz (s.data.toList.drop pos) = 1 := by
    intro h
    exact szF_mk1 (a := s[pos]) (by rw [hd]; rfl) h
  rw [ht] at hb hsp
  refine ⟨stp (s.data.toList.drop pos), _, t, rfl, fun h => ?_, fun h => ?_, h1, h4, by omega, hb, by omega, fun h => ⟨hlow h, ?_⟩, hsp, ?_⟩
  · unfold stp; rw [if_pos h]
  · unfold stp; rw [if_neg h]
  · have h2 := hlow h
    have h3 : stp (s.data.toList.drop pos) = 1 := by unfold stp; rw [h2]; rfl
    have : t.length = 0 := by simp only [List.length_cons] at hlen; omega
    exact List.eq_nil_of_length_eq_zero this
  · rw [← ht]
    simp [List.take_drop]
theorem beq_no {b c : UInt8} (h : b ≠ c) : ((b.toNat : Int) == (c.toNat : Int)) = false := by
  rw [beq_eq_false_iff_ne]
  intro e
  exact h (UInt8.toNat_inj.1 (by omega))
theorem ret_str {a b : ByteArray} (h : a = b) : Ending.returned (.string a) = .returned (.string b) := by rw [h]

set_option maxHeartbeats 4000000 in
set_option maxRecDepth 100000 in
theorem rQuote_any (s : ByteArray) (hs : s.size ≤ 35184372088000) (w : World) :
    Calls Tryz.prog 27 #[.string s] w fun e w' => e = .returned (.string ⟨(quote s.data.toList).toArray⟩) ∧ Below w.heap.size w w' := by
  obtain ⟨l, hl⟩ : ∃ l, l = s.data.toList := ⟨_, rfl⟩
  rw [← hl]
  have hsz : l.length = s.size := by rw [hl]; rfl
  have Hl := Lib.hid hl
  have Hsz := Lib.hid hsz
  clear hl hsz
  go_enter Tryz.func27, Tryz.ntmps27
  go_wp2_with fail
  go_loopw [3, 4] (fun v i wr => ∃ (k : Nat) (T : ByteArray), k ≤ s.size ∧ T.size ≤ 1 + 4 * k ∧ v = .string T ∧ i = .int .i64 k ∧ Below w.heap.size w wr ∧ Hid (34 :: body l = T.data.toList ++ body (l.drop k))) (fun _ i _ => s.size - (intOf i).toNat)
  case atStart => exact ⟨0, ⟨#[34]⟩, by omega, Nat.le_refl _, rfl, rfl, Below.refl _ _, Lib.hid rfl⟩
  case round =>
    obtain ⟨k, T, hk, hT, rfl, rfl, hbel, Hb⟩ := hrel
    by_cases hlt : k < s.size
    · obtain ⟨n, m, t, hm, hm0, hm1, hn1, hn4, hkn, hbody, htn, hlow, hz, hext⟩ := part_ref s k hlt
      rw [← Hl.out] at hbody
      have Hbody := Lib.hid hbody
      have Hm := Lib.hid hm
      have Hext := Lib.hid hext
      have hT4 : T.size + 4 ≤ 9223372036854775807 := by omega
      have hT2 : T.size + 2 ≤ 9223372036854775807 := by omega
      have hb256 := s[k].toNat_lt
      have hend : ∀ (T2 : ByteArray) (F : List UInt8), T2.data.toList = T.data.toList ++ F → F = form (s[k] :: t) → T2.size ≤ T.size + 4 → T2.size ≤ 1 + 4 * (k + n) ∧ Hid (34 :: body l = T2.data.toList ++ body (l.drop (k + n))) := by
        intro T2 F h1 h2 h3
        refine ⟨by omega, Lib.hid ?_⟩
        rw [Hb.out, Hbody.out, h1, h2, List.append_assoc]
      have Hend := Lib.hid hend
      clear hbody hm hext hend
      by_cases c34 : s[k] = 34
      · obtain ⟨hm1', ht⟩ := hlow (by rw [c34]; decide)
        subst ht
        obtain rfl : n = 1 := by simpa using htn.symm
        have b34 : ((s[k].toNat : Int) == 34) = true := by rw [c34]; rfl
        have b92 : ((s[k].toNat : Int) == 92) = false := by rw [c34]; rfl
        have b10 : ((s[k].toNat : Int) == 10) = false := by rw [c34]; rfl
        have b9 : ((s[k].toNat : Int) == 9) = false := by rw [c34]; rfl
        have b13 : ((s[k].toNat : Int) == 13) = false := by rw [c34]; rfl
        have HM : Hid (sz (l.drop k) = 1) := Lib.hid (by rw [Hl.out, Hm.out, hm1'])
        have HF : Hid ([92, 34] = form [s[k]]) := Lib.hid (by rw [c34]; rfl)
        clear hm0 hm1 hlow hz htn hm1' c34
        go_wp2_with fail
        refine (size_any s k hlt (by omega) _).mono ?_
        rintro _ w1 ⟨rfl, rfl⟩
        rw [← Hl.out, HM.out]
        go_wp2_with fail
        obtain ⟨h1, h2⟩ := Hend.out (T ++ ⟨#[92, 34]⟩) _ (join_list T [92, 34] _ rfl) HF.out (by rw [ByteArray.size_append]; show T.size + 2 ≤ _; omega)
        exact ⟨⟨k + 1, _, by omega, h1, rfl, by go_num, hbel, h2⟩, by simp [intOf]; omega⟩
      by_cases c92 : s[k] = 92
      · obtain ⟨hm1', ht⟩ := hlow (by rw [c92]; decide)
        subst ht
        obtain rfl : n = 1 := by simpa using htn.symm
        have b34 : ((s[k].toNat : Int) == 34) = false := by rw [c92]; rfl
        have b92 : ((s[k].toNat : Int) == 92) = true := by rw [c92]; rfl
        have b10 : ((s[k].toNat : Int) == 10) = false := by rw [c92]; rfl
        have b9 : ((s[k].toNat : Int) == 9) = false := by rw [c92]; rfl
        have b13 : ((s[k].toNat : Int) == 13) = false := by rw [c92]; rfl
        have HM : Hid (sz (l.drop k) = 1) := Lib.hid (by rw [Hl.out, Hm.out, hm1'])
        have HF : Hid ([92, 92] = form [s[k]]) := Lib.hid (by rw [c92]; rfl)
        clear hm0 hm1 hlow hz htn hm1' c92 c34
        go_wp2_with fail
        refine (size_any s k hlt (by omega) _).mono ?_
        rintro _ w1 ⟨rfl, rfl⟩
        rw [← Hl.out, HM.out]
        go_wp2_with fail
        obtain ⟨h1, h2⟩ := Hend.out (T ++ ⟨#[92, 92]⟩) _ (join_list T [92, 92] _ rfl) HF.out (by rw [ByteArray.size_append]; show T.size + 2 ≤ _; omega)
        exact ⟨⟨k + 1, _, by omega, h1, rfl, by go_num, hbel, h2⟩, by simp [intOf]; omega⟩
      by_cases c10 : s[k] = 10
      · obtain ⟨hm1', ht⟩ := hlow (by rw [c10]; decide)
        subst ht
        obtain rfl : n = 1 := by simpa using htn.symm
        have b34 : ((s[k].toNat : Int) == 34) = false := by rw [c10]; rfl
        have b92 : ((s[k].toNat : Int) == 92) = false := by rw [c10]; rfl
        have b10 : ((s[k].toNat : Int) == 10) = true := by rw [c10]; rfl
        have b9 : ((s[k].toNat : Int) == 9) = false := by rw [c10]; rfl
        have b13 : ((s[k].toNat : Int) == 13) = false := by rw [c10]; rfl
        have HM : Hid (sz (l.drop k) = 1) := Lib.hid (by rw [Hl.out, Hm.out, hm1'])
        have HF : Hid ([92, 110] = form [s[k]]) := Lib.hid (by rw [c10]; rfl)
        clear hm0 hm1 hlow hz htn hm1' c10 c34 c92
        go_wp2_with fail
        refine (size_any s k hlt (by omega) _).mono ?_
        rintro _ w1 ⟨rfl, rfl⟩
        rw [← Hl.out, HM.out]
        go_wp2_with fail
        obtain ⟨h1, h2⟩ := Hend.out (T ++ ⟨#[92, 110]⟩) _ (join_list T [92, 110] _ rfl) HF.out (by rw [ByteArray.size_append]; show T.size + 2 ≤ _; omega)
        exact ⟨⟨k + 1, _, by omega, h1, rfl, by go_num, hbel, h2⟩, by simp [intOf]; omega⟩
      by_cases c9 : s[k] = 9
      · obtain ⟨hm1', ht⟩ := hlow (by rw [c9]; decide)
        subst ht
        obtain rfl : n = 1 := by simpa using htn.symm
        have b34 : ((s[k].toNat : Int) == 34) = false := by rw [c9]; rfl
        have b92 : ((s[k].toNat : Int) == 92) = false := by rw [c9]; rfl
        have b10 : ((s[k].toNat : Int) == 10) = false := by rw [c9]; rfl
        have b9 : ((s[k].toNat : Int) == 9) = true := by rw [c9]; rfl
        have b13 : ((s[k].toNat : Int) == 13) = false := by rw [c9]; rfl
        have HM : Hid (sz (l.drop k) = 1) := Lib.hid (by rw [Hl.out, Hm.out, hm1'])
        have HF : Hid ([92, 116] = form [s[k]]) := Lib.hid (by rw [c9]; rfl)
        clear hm0 hm1 hlow hz htn hm1' c9 c34 c92 c10
        go_wp2_with fail
        refine (size_any s k hlt (by omega) _).mono ?_
        rintro _ w1 ⟨rfl, rfl⟩
        rw [← Hl.out, HM.out]
        go_wp2_with fail
        obtain ⟨h1, h2⟩ := Hend.out (T ++ ⟨#[92, 116]⟩) _ (join_list T [92, 116] _ rfl) HF.out (by rw [ByteArray.size_append]; show T.size + 2 ≤ _; omega)
        exact ⟨⟨k + 1, _, by omega, h1, rfl, by go_num, hbel, h2⟩, by simp [intOf]; omega⟩
      by_cases c13 : s[k] = 13
      · obtain ⟨hm1', ht⟩ := hlow (by rw [c13]; decide)
        subst ht
        obtain rfl : n = 1 := by simpa using htn.symm
        have b34 : ((s[k].toNat : Int) == 34) = false := by rw [c13]; rfl
        have b92 : ((s[k].toNat : Int) == 92) = false := by rw [c13]; rfl
        have b10 : ((s[k].toNat : Int) == 10) = false := by rw [c13]; rfl
        have b9 : ((s[k].toNat : Int) == 9) = false := by rw [c13]; rfl
        have b13 : ((s[k].toNat : Int) == 13) = true := by rw [c13]; rfl
        have HM : Hid (sz (l.drop k) = 1) := Lib.hid (by rw [Hl.out, Hm.out, hm1'])
        have HF : Hid ([92, 114] = form [s[k]]) := Lib.hid (by rw [c13]; rfl)
        clear hm0 hm1 hlow hz htn hm1' c13 c34 c92 c10 c9
        go_wp2_with fail
        refine (size_any s k hlt (by omega) _).mono ?_
        rintro _ w1 ⟨rfl, rfl⟩
        rw [← Hl.out, HM.out]
        go_wp2_with fail
        obtain ⟨h1, h2⟩ := Hend.out (T ++ ⟨#[92, 114]⟩) _ (join_list T [92, 114] _ rfl) HF.out (by rw [ByteArray.size_append]; show T.size + 2 ≤ _; omega)
        exact ⟨⟨k + 1, _, by omega, h1, rfl, by go_num, hbel, h2⟩, by simp [intOf]; omega⟩
      have b34 : ((s[k].toNat : Int) == 34) = false := beq_no c34
      have b92 : ((s[k].toNat : Int) == 92) = false := beq_no c92
      have b10 : ((s[k].toNat : Int) == 10) = false := beq_no c10
      have b9 : ((s[k].toNat : Int) == 9) = false := beq_no c9
      have b13 : ((s[k].toNat : Int) == 13) = false := beq_no c13
      by_cases hx6 : s[k].toNat < 32 ∨ s[k].toNat = 127 ∨ sz (s[k] :: t) = 0
      · have HF := Lib.hid (form_hex c34 c92 c10 c9 c13 hx6).symm
        obtain rfl : n = 1 := by
          rcases hx6 with h | h | h
          · obtain ⟨_, rfl⟩ := hlow (by omega); simpa using htn.symm
          · obtain ⟨_, rfl⟩ := hlow (by omega); simpa using htn.symm
          · exact hm0 (by rw [← hz, h])
        by_cases hA : s[k].toNat < 32
        · have d1 : decide ((s[k].toNat : Int) < 32) = true := by simp; omega
          have HM : Hid (sz (l.drop k) = 1) := Lib.hid (by rw [Hl.out, Hm.out, (hlow (by omega)).1])
          clear hm0 hm1 hlow hz htn hx6 c34 c92 c10 c9 c13
          go_wp2_with fail
          refine (size_any s k hlt (by omega) _).mono ?_
          rintro _ w1 ⟨rfl, rfl⟩
          rw [← Hl.out, HM.out]
          go_wp2_with fail
          refine (pair_any s[k] _).mono ?_
          rintro _ w2 ⟨rfl, hb2⟩
          go_wp2_with fail
          obtain ⟨h1, h2⟩ := Hend.out (T ++ ⟨#[92, 120]⟩ ++ ⟨#[hx (s[k].toNat / 16), hx (s[k].toNat % 16)]⟩) _ ((join_list _ [hx (s[k].toNat / 16), hx (s[k].toNat % 16)] _ (join_list T [92, 120] _ rfl)).trans (List.append_assoc _ _ _)) HF.out (by rw [ByteArray.size_append, ByteArray.size_append]; show T.size + 2 + 2 ≤ _; omega)
          exact ⟨⟨k + 1, _, by omega, h1, rfl, by go_num, hbel.trans (hb2.mono hbel.size), h2⟩, by simp [intOf]; omega⟩
        · have d1 : decide ((s[k].toNat : Int) < 32) = false := by simp; omega
          by_cases hB : s[k].toNat = 127
          · have d2 : ((s[k].toNat : Int) == 127) = true := by rw [hB]; rfl
            have HM : Hid (sz (l.drop k) = 1) := Lib.hid (by rw [Hl.out, Hm.out, (hlow (by omega)).1])
            clear hm0 hm1 hlow hz htn hx6 hB c34 c92 c10 c9 c13
            go_wp2_with fail
            refine (size_any s k hlt (by omega) _).mono ?_
            rintro _ w1 ⟨rfl, rfl⟩
            rw [← Hl.out, HM.out]
            go_wp2_with fail
            refine (pair_any s[k] _).mono ?_
            rintro _ w2 ⟨rfl, hb2⟩
            go_wp2_with fail
            obtain ⟨h1, h2⟩ := Hend.out (T ++ ⟨#[92, 120]⟩ ++ ⟨#[hx (s[k].toNat / 16), hx (s[k].toNat % 16)]⟩) _ ((join_list _ [hx (s[k].toNat / 16), hx (s[k].toNat % 16)] _ (join_list T [92, 120] _ rfl)).trans (List.append_assoc _ _ _)) HF.out (by rw [ByteArray.size_append, ByteArray.size_append]; show T.size + 2 + 2 ≤ _; omega)
            exact ⟨⟨k + 1, _, by omega, h1, rfl, by go_num, hbel.trans (hb2.mono hbel.size), h2⟩, by simp [intOf]; omega⟩
          · have d2 : ((s[k].toNat : Int) == 127) = false := by rw [beq_eq_false_iff_ne]; omega
            have HM : Hid (sz (l.drop k) = 0) := Lib.hid (by rw [Hl.out, Hm.out, ← hz]; omega)
            clear hm0 hm1 hlow hz htn hx6 hB c34 c92 c10 c9 c13
            go_wp2_with fail
            refine (size_any s k hlt (by omega) _).mono ?_
            rintro _ w1 ⟨rfl, rfl⟩
            rw [← Hl.out, HM.out]
            go_wp2_with fail
            refine (pair_any s[k] _).mono ?_
            rintro _ w2 ⟨rfl, hb2⟩
            go_wp2_with fail
            obtain ⟨h1, h2⟩ := Hend.out (T ++ ⟨#[92, 120]⟩ ++ ⟨#[hx (s[k].toNat / 16), hx (s[k].toNat % 16)]⟩) _ ((join_list _ [hx (s[k].toNat / 16), hx (s[k].toNat % 16)] _ (join_list T [92, 120] _ rfl)).trans (List.append_assoc _ _ _)) HF.out (by rw [ByteArray.size_append, ByteArray.size_append]; show T.size + 2 + 2 ≤ _; omega)
            exact ⟨⟨k + 1, _, by omega, h1, rfl, by go_num, hbel.trans (hb2.mono hbel.size), h2⟩, by simp [intOf]; omega⟩
      · have HF := Lib.hid (form_self c34 c92 c10 c9 c13 hx6).symm
        have hmne : m ≠ 0 := by rw [← hz]; omega
        obtain rfl : n = m := hm1 hmne
        have d1 : decide ((s[k].toNat : Int) < 32) = false := by simp; omega
        have d2 : ((s[k].toNat : Int) == 127) = false := by rw [beq_eq_false_iff_ne]; omega
        have d3 : ((n : Int) == 0) = false := by rw [beq_eq_false_iff_ne]; omega
        have HM : Hid (sz (l.drop k) = n) := Lib.hid (by rw [Hl.out, Hm.out])
        have hes : (s.extract k (k + n)).size = n := by rw [ByteArray.size_extract]; omega
        have hes2 : T.size + (s.extract k (k + n)).size ≤ 9223372036854775807 := by omega
        have hki : (k : Int) + n ≤ s.size := by omega
        have Hes := Lib.hid hes
        clear hm0 hm1 hlow hz htn hx6 hmne hes c34 c92 c10 c9 c13
        go_wp2_with fail
        refine (size_any s k hlt (by omega) _).mono ?_
        rintro _ w1 ⟨rfl, rfl⟩
        rw [← Hl.out, HM.out]
        go_wp2_with fail
        obtain ⟨h1, h2⟩ := Hend.out (T ++ s.extract k (k + n)) _ (by rw [append_toList, Hext.out]) HF.out (by rw [ByteArray.size_append, Hes.out]; omega)
        exact ⟨⟨k + n, _, by omega, h1, rfl, by go_num, hbel, h2⟩, by simp [intOf]; omega⟩
    · obtain rfl : k = s.size := by omega
      have hT1 : T.size + 1 ≤ 9223372036854775807 := by omega
      go_wp2_with fail
      go_ret
      have hfin := Hb.out
      rw [body_end (by rw [Hsz.out]; omega), List.append_nil] at hfin
      refine ⟨ret_str ?_, hbel⟩
      have h3 := join_list T [34] _ rfl
      rw [← hfin] at h3
      rw [← mk_toList (T ++ _), h3]
      rfl

end Go.Proofs.YtgjbpadhdnclnaaGreatDoor.UtfK
