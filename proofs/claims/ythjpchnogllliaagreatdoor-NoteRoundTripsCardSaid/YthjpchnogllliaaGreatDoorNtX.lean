import Derived.Test.YthjpchnogllliaaGreatDoorNtpE
import Derived.Test.YthjpchnogllliaaGreatDoorNtrE
import Derived.Test.YthjpchnogllliaaGreatDoorTxtP
import Derived.Test.YthjpchnogllliaaGreatDoorBldP
import Derived.Deep.RegionHeld3
import Derived.Test.YthjpchnogllliaaGreatDoorNtpK
/- The program of stage 8: Text. -/
set_option linter.unusedSimpArgs false
set_option linter.unusedVariables false
namespace Go.Proofs.YthjpchnogllliaaGreatDoor.NtpT
open Go.RowKit Nums ScaM ScaV ScaB Val NotM NotK NtrA NtrB NtrE Box NtpA NtpB NtpK NtpE ScpA

/-- What the builder holds. -/
def cont (l : List Nt) (k : Nat) : List UInt8 := if k = 0 then [] else 91 :: body (l.take k)
def sepL (k : Nat) : List UInt8 := if k = 0 then [91] else [44, 32]
theorem cont_step {l : List Mn} {k : Nat} {m : Mn} (h : l[k]? = some m) : cont (l.map Mn.nt) (k + 1) = cont (l.map Mn.nt) k ++ (sepL k ++ item m.nt) := by
  have hlt := (List.getElem?_eq_some_iff.1 h).1
  unfold cont sepL
  rw [if_neg (by omega), take_snoc h, body_snoc]
  by_cases hk : k = 0
  · subst hk
    simp [body]
  · rw [if_neg hk, if_neg hk, if_neg (fun e => hk ((take_empty hlt).1 e))]
    simp
theorem cont_len {l : List Nt} {k : Nat} (hr : ∀ (j : Nat) n, l[j]? = some n → j < k → (item n).length ≤ 16500) (hk : k ≤ l.length) : (cont l k).length ≤ k * 17000 := by
  induction k with
  | zero => simp [cont]
  | succ k ih =>
    have h1 := ih (fun j n hj hlt => hr j n hj (by omega)) (by omega)
    have hn : l[k]? = some l[k] := List.getElem?_eq_getElem (by omega)
    have h2 := hr k _ hn (by omega)
    unfold cont at *
    rw [if_neg (by omega), List.take_add_one, hn]
    show (91 :: body (l.take k ++ [l[k]])).length ≤ _
    rw [body_snoc]
    by_cases hk0 : k = 0
    · subst hk0
      simp [body] at *
      omega
    · rw [if_neg hk0] at h1
      simp only [List.length_cons, List.length_append] at *
      split <;> (simp only [List.length_cons, List.length_nil] at *; omega)

theorem item_len {n : Nt} (h : rightB n = true) (hb : n.v.b ≤ 18446744073709551615) : (item n).length ≤ 16500 := by
  have hs2 := text_short h hb
  unfold rightB at h
  rw [Bool.and_eq_true, bne_iff_ne] at h
  have hn2 := known_len h.1
  show (n.nm ++ ([32, 61, 32] ++ textV n.v)).length ≤ 16500
  simp only [List.length_append, List.length_cons, List.length_nil]
  omega
set_option maxHeartbeats 4000000 in
set_option maxRecDepth 100000 in
theorem ptext (v : Value) (l : List Mn) (w : World) (hL : Tld.Ld w) (hk : KnN w v l) (hl : l.length ≤ 100000) (hok : ∀ m ∈ l, m.ok) :
    Calls Tryz.prog 9 #[v] w fun e w' => e = .returned (.string ⟨(noteText (l.map Mn.nt)).toArray⟩) ∧ Below w.heap.size w w' := by
  obtain ⟨a1, cap1, rfl, hcap1, hcells1⟩ := hk
  have H1 := Lib.hid hcells1
  have Hok := Lib.hid hok
  have HLd := Lib.hid hL
  clear hcells1 hok hL
  obtain ⟨X, hX⟩ : ∃ X, X = noteText (l.map Mn.nt) := ⟨_, rfl⟩
  rw [← hX]
  have HX := Lib.hid hX
  clear hX
  by_cases hl0 : l.length = 0
  · have d1 : ((l.length : Int) == 0) = true := by rw [beq_iff_eq]; omega
    have HXe := Lib.hid (show X = [] by rw [HX.out, List.length_eq_zero_iff.1 hl0]; rfl)
    go_enter Tryz.func9, Tryz.ntmps9
    go_wp2_with fail
    go_ret
    exact ⟨by rw [HXe.out]; rfl, Below.refl _ _⟩
  · have d1 : ((l.length : Int) == 0) = false := by rw [beq_eq_false_iff_ne]; omega
    have Hl0 := Lib.hid hl0
    clear hl0
    go_enter Tryz.func9, Tryz.ntmps9
    go_wp2_with fail
    refine (rules_any w).mono ?_
    rintro _ w1 ⟨bm, rfl, hR0, hbm⟩
    have HR0 := Lib.hid hR0
    have HBm := Lib.hid hbm
    have HL1 := Lib.hid (HLd.out.below hbm)
    have Hn := Lib.hid (BldP.is_new w1)
    clear hR0 hbm
    go_wp2_with fail
    go_loopw [16, 5, 7, 8, 9] (fun iv sv _ _ _ wr => ∃ (k : Nat) (S : ByteArray), k ≤ l.length ∧ iv = .int .i64 k ∧ sv = .string S ∧ S.size ≤ 2 ∧ Hid (S.data.toList = sepL k) ∧ Hid (Below w1.heap.size w1 wr) ∧ Hid (BldP.Is w1.heap.size w1.heap.size (Lib.byteCells (cont (l.map Mn.nt) k)) wr) ∧ Hid (∀ (j : Nat) m, l[j]? = some m → j < k → rightB m.nt = true) ∧ w1.heap.size < wr.heap.size) (fun iv _ _ _ _ _ => l.length - (intOf iv).toNat)
    case atStart => exact ⟨0, _, by omega, rfl, rfl, by decide, Lib.hid rfl, Lib.hid ((Below.refl _ _).alloc (Nat.le_refl _) _), Hn, Lib.hid (fun j m _ hj => by omega), by simp⟩
    case round =>
      obtain ⟨k, S, hkl, rfl, rfl, hS, HS, HBB, HIs, Hal, hwl⟩ := hrel
      clear Hn
      have HB : Hid (Below w.heap.size w wr) := Lib.hid (HBm.out.trans (HBB.out.mono HBm.out.size))
      by_cases hlt : k < l.length
      · obtain ⟨m, hm⟩ : ∃ m, l[k]? = some m := ⟨_, List.getElem?_eq_getElem hlt⟩
        obtain ⟨kb, ko, ha, hb0, h8⟩ := H1.out k m hm
        subst ha
        have hmo := Hok.out m (List.mem_of_getElem? hm)
        have HF := Lib.hid fun (K : Int) (W : World) => fits_p K m.v hmo.2.b hmo.2.ts hmo.2.sum W
        have HTx := Lib.hid fun (W : World) (hLW : Tld.Ld W) => TxtP.text_p m.v hmo.2.b hmo.2.ts hmo.2.sum W hLW.v
        have g8 := h8.below HB.out hb0
        obtain ⟨c0, c1, c2, c3, c4, c5, c6, c7⟩ := g8
        have hXb : Below wr.heap.size wr (wr.alloc (.cells #[.string m.nm, .int .i64 m.v.k, .int .u64 m.v.b, .string m.v.t, .slice m.v.a1 m.v.l1 m.v.c1, .slice m.v.a2 m.v.l2 m.v.c2, .slice m.v.a3 m.v.l3 m.v.c3, .slice m.v.a4 m.v.l4 m.v.c4] 44)) := (Below.refl _ _).alloc (Nat.le_refl _) _
        have HXb := Lib.hid hXb
        have HBox := Lib.hid (box8 wr m 44)
        have hlook := ((HR0.out.below HBB.out).below hXb).look hmo.1
        have hmem : m.nt ∈ l.map Mn.nt := List.mem_map.2 ⟨m, List.mem_of_getElem? hm, rfl⟩
        obtain ⟨K, hK⟩ : ∃ K, kindN m.nm.data.toList = K := ⟨_, rfl⟩
        have Hmo := Lib.hid hmo
        clear h8 hXb hmo
        rcases hlook with ⟨hK0, hl1⟩ | ⟨hK0, tb, ts, hl1, _⟩
        · replace hl1 := hl1 true
          rw [if_pos rfl] at hl1
          have HXe := Lib.hid (show X = [] by rw [HX.out]; exact text_no hmem (right_no (n := m.nt) hK0))
          clear hK0 hm hK hmem
          go_wp2_with fail
          go_ret
          exact ⟨by rw [HXe.out]; rfl, HB.out.trans ((HXb.out.alloc HXb.out.size _).mono HB.out.size)⟩
        · replace hl1 := hl1 true
          rw [if_pos rfl] at hl1
          unfold rl at hl1
          have hrf := right_fits (n := m.nt) hK0
          have hkn := known_len hK0
          rw [hK] at hl1
          obtain ⟨Rt, hRt⟩ : ∃ Rt, fitsB K (sc m.v) = Rt := ⟨_, rfl⟩
          have HR := Lib.hid hRt
          have hrf2 : rightB m.nt = Rt := by rw [hrf, ← hRt, ← hK]; rfl
          have HBY : Hid (Below wr.heap.size wr ((wr.alloc (.cells #[.string m.nm, .int .i64 m.v.k, .int .u64 m.v.b, .string m.v.t, .slice m.v.a1 m.v.l1 m.v.c1, .slice m.v.a2 m.v.l2 m.v.c2, .slice m.v.a3 m.v.l3 m.v.c3, .slice m.v.a4 m.v.l4 m.v.c4] 44)).alloc (.cells #[.int .i64 K, .slice (some ⟨tb, 0, none⟩) ts.length ts.length] 62))) := Lib.hid (HXb.out.alloc HXb.out.size _)
          have HBox1 := Lib.hid (HBox.out.below ((Below.refl _ _).alloc (Nat.le_refl _) (.cells #[.int .i64 K, .slice (some ⟨tb, 0, none⟩) ts.length ts.length] 62)) (by simp))
          have hnm : m.nm.size ≤ 10 := hkn
          clear hrf hK hK0 hRt hkn
          cases Rt with
          | false =>
            have HXe := Lib.hid (show X = [] by rw [HX.out]; exact text_no hmem hrf2)
            clear hrf2 hmem hm
            go_wp2_with fail
            refine (HF.out K _).mono ?_
            rintro _ w2 ⟨rfl, hb2⟩
            rw [HR.out]
            have Hb2 := Lib.hid (HB.out.trans ((HBY.out.trans (hb2.mono HBY.out.size)).mono HB.out.size))
            clear hb2 c0 c1 c2 c3 c4 c5 c6 c7
            go_wp2_with fail
            go_ret
            exact ⟨by rw [HXe.out]; rfl, Hb2.out⟩
          | true =>
            have hts := text_short (n := m.nt) hrf2 Hmo.out.2.b
            have hst := cont_step hm
            obtain ⟨TX, hTX⟩ : ∃ TX : ByteArray, TX = ⟨(textV (sc m.v)).toArray⟩ := ⟨_, rfl⟩
            have hTXd : TX.data.toList = textV (sc m.v) := by rw [hTX]
            have hTXs : TX.size ≤ 16400 := by
              have h0 : TX.data.toList.length = TX.size := rfl
              rw [← h0, hTXd]
              exact hts
            have hit : item m.nt = m.nm.data.toList ++ ([32, 61, 32] ++ TX.data.toList) := by rw [hTXd]; rfl
            rw [hit, ← HS.out] at hst
            have Hst := Lib.hid hst
            have HTX := Lib.hid hTX
            have Hal2 : Hid (∀ (j : Nat) m2, l[j]? = some m2 → j < k + 1 → rightB m2.nt = true) := Lib.hid (fun j m2 hm2 hj => by
              rcases Nat.lt_or_ge j k with h5 | h5
              · exact Hal.out j m2 hm2 h5
              · obtain rfl : j = k := by omega
                rw [hm] at hm2
                cases hm2
                exact hrf2)
            have hcl : (cont (l.map Mn.nt) k).length ≤ k * 17000 := cont_len (fun j n hj hlt2 => by
              rw [List.getElem?_map] at hj
              obtain ⟨m2, hm2, rfl⟩ := Option.map_eq_some_iff.1 hj
              exact item_len (Hal.out j m2 hm2 hlt2) (Hok.out m2 (List.mem_of_getElem? hm2)).2.b) (by simpa using hkl)
            have Hcl := Lib.hid hcl
            have HIb := Lib.hid (BldP.is_below HIs.out HBY.out)
            have hs1 : S.size + m.nm.size ≤ 9223372036854775807 := by omega
            have hs2 : (S ++ m.nm).size + (⟨#[32, 61, 32]⟩ : ByteArray).size ≤ 9223372036854775807 := by rw [ByteArray.size_append]; show S.size + m.nm.size + 3 ≤ _; omega
            have hs3 : (S ++ m.nm ++ (⟨#[32, 61, 32]⟩ : ByteArray)).size + TX.size ≤ 9223372036854775807 := by rw [ByteArray.size_append, ByteArray.size_append]; show S.size + m.nm.size + 3 + _ ≤ _; omega
            have m4 : ¬ (9223372036854775807 < S.size + m.nm.size) := by omega
            have m5 : ¬ (9223372036854775807 < S.size + m.nm.size + 3) := by omega
            have m6 : ¬ (9223372036854775807 < S.size + m.nm.size + 3 + TX.size) := by omega
            clear hrf2 hmem hm hts hst hTX hTXd hit hcl
            go_wp2_with fail
            refine (HF.out K _).mono ?_
            rintro _ w2 ⟨rfl, hb2⟩
            rw [HR.out]
            have Hb2 := Lib.hid (HBB.out.trans ((HBY.out.trans (hb2.mono HBY.out.size)).mono HBB.out.size))
            have HI2 := Lib.hid (BldP.is_below HIb.out hb2)
            have b8 := HBox1.out.below hb2 (by simp; omega)
            have hbx : w2.heap[wr.heap.size]? = some (.cells #[.string m.nm, .int .i64 m.v.k, .int .u64 m.v.b, .string m.v.t, .slice m.v.a1 m.v.l1 m.v.c1, .slice m.v.a2 m.v.l2 m.v.c2, .slice m.v.a3 m.v.l3 m.v.c3, .slice m.v.a4 m.v.l4 m.v.c4] 44 (0, 0)) := (hb2.block _ (by simp; omega)).trans (((Below.refl _ (wr.alloc (.cells #[.string m.nm, .int .i64 m.v.k, .int .u64 m.v.b, .string m.v.t, .slice m.v.a1 m.v.l1 m.v.c1, .slice m.v.a2 m.v.l2 m.v.c2, .slice m.v.a3 m.v.l3 m.v.c3, .slice m.v.a4 m.v.l4 m.v.c4] 44))).alloc (Nat.le_refl _) (.cells #[.int .i64 K, .slice (some ⟨tb, 0, none⟩) ts.length ts.length] 62)).block _ (by simp) |>.trans (heap_alloc_new wr _))
            have hwX : wr.heap.size < w2.heap.size := by have := hb2.size; simp at this; omega
            have HL2 := Lib.hid (HL1.out.below Hb2.out)
            clear hb2 c0 c1 c2 c3 c4 c5 c6 c7
            obtain ⟨c0, c1, c2, c3, c4, c5, c6, c7⟩ := b8
            simp only [Nat.zero_add] at c1 c2 c3 c4 c5 c6 c7
            go_wp2_with fail
            go_region_held3 (fun w' => w'.cell? ⟨wr.heap.size, 0, none⟩ = some (.string m.nm) ∧ w'.cell? ⟨wr.heap.size, 1, none⟩ = some (.int .i64 m.v.k) ∧ w'.cell? ⟨wr.heap.size, 2, none⟩ = some (.int .u64 m.v.b) ∧ w'.cell? ⟨wr.heap.size, 3, none⟩ = some (.string m.v.t) ∧ w'.cell? ⟨wr.heap.size, 4, none⟩ = some (.slice m.v.a1 m.v.l1 m.v.c1) ∧ w'.cell? ⟨wr.heap.size, 5, none⟩ = some (.slice m.v.a2 m.v.l2 m.v.c2) ∧ w'.cell? ⟨wr.heap.size, 6, none⟩ = some (.slice m.v.a3 m.v.l3 m.v.c3) ∧ w'.cell? ⟨wr.heap.size, 7, none⟩ = some (.slice m.v.a4 m.v.l4 m.v.c4)) (exact ⟨c0, c1, c2, c3, c4, c5, c6, c7⟩)
              (first
                | (go_at_call 23; refine (HTx.out _ (by first | exact HL2.out | exact HL2.out.drew)).mono ?_; rintro _ w3 ⟨rfl, hb3⟩; rw [show (⟨(textV (sc m.v)).toArray⟩ : ByteArray) = TX from HTX.out.symm]; have hb3 : Below w2.heap.size w2 w3 := (by first | exact hb3 | exact drew_lift hb3); have Hb3 := Lib.hid (Hb2.out.trans (hb3.mono Hb2.out.size)); have HI3 := Lib.hid (BldP.is_below HI2.out hb3); replace c0 := (hb3.cell (p := ⟨wr.heap.size, 0, none⟩) hwX).trans c0; replace c1 := (hb3.cell (p := ⟨wr.heap.size, 1, none⟩) hwX).trans c1; replace c2 := (hb3.cell (p := ⟨wr.heap.size, 2, none⟩) hwX).trans c2; replace c3 := (hb3.cell (p := ⟨wr.heap.size, 3, none⟩) hwX).trans c3; replace c4 := (hb3.cell (p := ⟨wr.heap.size, 4, none⟩) hwX).trans c4; replace c5 := (hb3.cell (p := ⟨wr.heap.size, 5, none⟩) hwX).trans c5; replace c6 := (hb3.cell (p := ⟨wr.heap.size, 6, none⟩) hwX).trans c6; replace c7 := (hb3.cell (p := ⟨wr.heap.size, 7, none⟩) hwX).trans c7; replace hbx := (hb3.block _ hwX).trans hbx; clear hb3)
                | (go_at_call 22; refine (BldP.writeString w1.heap.size w1.heap.size _ _ _ HI3.out (by rw [Lib.byteCells_length, ByteArray.size_append, ByteArray.size_append, ByteArray.size_append]; have := Hcl.out; clear m4 m5 m6; show _ + (S.size + m.nm.size + 3 + TX.size) ≤ _; omega) (by first | exact Hb3.out.size | (have := Hb3.out.size; simpa using this))).mono ?_; rintro _ w4 ⟨rfl, hat, hb4, hk4⟩; replace hbx := hk4 wr.heap.size _ hbx (by intro e; injection e with e; omega) (by intro c fz e; injection e with _ e; exact absurd e (by decide)); replace c0 := (show w4.cell? ⟨wr.heap.size, 0, none⟩ = _ by rw [Lib.cell_of_heap hbx]; rfl : w4.cell? ⟨wr.heap.size, 0, none⟩ = some (.string m.nm)); replace c1 := (show w4.cell? ⟨wr.heap.size, 1, none⟩ = _ by rw [Lib.cell_of_heap hbx]; rfl : w4.cell? ⟨wr.heap.size, 1, none⟩ = some (.int .i64 m.v.k)); replace c2 := (show w4.cell? ⟨wr.heap.size, 2, none⟩ = _ by rw [Lib.cell_of_heap hbx]; rfl : w4.cell? ⟨wr.heap.size, 2, none⟩ = some (.int .u64 m.v.b)); replace c3 := (show w4.cell? ⟨wr.heap.size, 3, none⟩ = _ by rw [Lib.cell_of_heap hbx]; rfl : w4.cell? ⟨wr.heap.size, 3, none⟩ = some (.string m.v.t)); replace c4 := (show w4.cell? ⟨wr.heap.size, 4, none⟩ = _ by rw [Lib.cell_of_heap hbx]; rfl : w4.cell? ⟨wr.heap.size, 4, none⟩ = some (.slice m.v.a1 m.v.l1 m.v.c1)); replace c5 := (show w4.cell? ⟨wr.heap.size, 5, none⟩ = _ by rw [Lib.cell_of_heap hbx]; rfl : w4.cell? ⟨wr.heap.size, 5, none⟩ = some (.slice m.v.a2 m.v.l2 m.v.c2)); replace c6 := (show w4.cell? ⟨wr.heap.size, 6, none⟩ = _ by rw [Lib.cell_of_heap hbx]; rfl : w4.cell? ⟨wr.heap.size, 6, none⟩ = some (.slice m.v.a3 m.v.l3 m.v.c3)); replace c7 := (show w4.cell? ⟨wr.heap.size, 7, none⟩ = _ by rw [Lib.cell_of_heap hbx]; rfl : w4.cell? ⟨wr.heap.size, 7, none⟩ = some (.slice m.v.a4 m.v.l4 m.v.c4)); have Hb4 : Hid (Below w1.heap.size w1 w4) := Lib.hid (Hb3.out.trans hb4); have HI4 := Lib.hid (Or.inr hat : BldP.Is _ _ _ w4); have hw4 : w1.heap.size < w4.heap.size := Lib.BuilderAt.lt hat; clear hat hb4 hk4))
            all_goals
              go_wp2_with fail
              have e1 : (S ++ m.nm ++ (⟨#[32, 61, 32]⟩ : ByteArray) ++ TX).data.toList = S.data.toList ++ (m.nm.data.toList ++ ([32, 61, 32] ++ TX.data.toList)) := by
                simp only [ByteArray.data_append, Array.toList_append, List.append_assoc]
              have e2 : BldP.Is w1.heap.size w1.heap.size (Lib.byteCells (cont (l.map Mn.nt) (k + 1))) w4 := by
                have h := HI4.out
                rw [Lib.strCells_eq, e1, ← Lib.byteCells_append] at h
                rw [Hst.out]
                exact h
              exact ⟨⟨k + 1, _, by omega, by go_num, rfl, by decide, Lib.hid (by unfold sepL; rw [if_neg (by omega)]), Hb4, Lib.hid e2, Hal2, hw4⟩, by simp [intOf]; omega⟩
      · obtain rfl : k = l.length := by omega
        have hxe : X = cont (l.map Mn.nt) l.length ++ [93] := by
          have hne : l.map Mn.nt ≠ [] := fun e => Hl0.out (by simpa using congrArg List.length e)
          rw [HX.out, text_yes hne (by
            intro n hn
            obtain ⟨m, hm, rfl⟩ := List.mem_map.1 hn
            obtain ⟨j, hj⟩ := List.getElem?_of_mem hm
            exact Hal.out j m hj (List.getElem?_eq_some_iff.1 hj).1)]
          unfold cont
          rw [if_neg Hl0.out, List.take_of_length_le (by simp)]
          rfl
        have HXe := Lib.hid hxe
        clear hxe
        go_wp2_with fail
        refine (Tryz.Builder_String_any w1.heap.size w1.heap.size _ _ HIs.out HBB.out.size).mono ?_
        rintro _ w4 ⟨rfl, hb4⟩
        obtain ⟨T, hT⟩ : ∃ T : ByteArray, T = ⟨(cont (l.map Mn.nt) l.length).toArray⟩ := ⟨_, rfl⟩
        rw [← hT]
        have HT := Lib.hid hT
        have hcl : (cont (l.map Mn.nt) l.length).length ≤ l.length * 17000 := cont_len (fun j n hj hlt2 => by
          rw [List.getElem?_map] at hj
          obtain ⟨m2, hm2, rfl⟩ := Option.map_eq_some_iff.1 hj
          exact item_len (Hal.out j m2 hm2 hlt2) (Hok.out m2 (List.mem_of_getElem? hm2)).2.b) (by simp)
        have hTs : T.size + (⟨#[93]⟩ : ByteArray).size ≤ 9223372036854775807 := by
          have h0 : T.size = (cont (l.map Mn.nt) l.length).length := by rw [hT]; rfl
          rw [h0]
          show _ + 1 ≤ _
          omega
        clear hT hcl
        go_wp2_with fail
        go_ret
        refine ⟨?_, HB.out.trans (hb4.mono HBm.out.size)⟩
        rw [HXe.out, HT.out]
        rfl
end Go.Proofs.YthjpchnogllliaaGreatDoor.NtpT

/- What the laws of stage 8 ask of package note: the contracts of its functions, gathered. -/
set_option linter.unusedSimpArgs false
set_option linter.unusedVariables false
namespace Go.Proofs.YthjpchnogllliaaGreatDoor.NtZ
open Go.RowKit Nums ScaM ScaV ScaB Val NotM NotK

/-- What the walks ask of the world. -/
abbrev Ld := Tld.Ld
theorem pkind (s : ByteArray) (hs : s.size ≤ 140737488351232) (w : World) (hL : Ld w) :
    Calls Tryz.prog 13 #[.string s] w fun e w' => e = .returned (.int .i64 (kindN s.data.toList)) ∧ Below w.heap.size w w' := NtpK.pkind s hs w hL
theorem pcheck (v : Value) (l : List Mn) (tg : Int) (w : World) (hL : Ld w) (hk : KnN w v l) (hl : l.length ≤ 9223372036854775807) (hok : ∀ m ∈ l, m.ok) :
    Calls Tryz.prog 12 #[v, .int .i64 tg] w fun e w' => e = .returned (.int .i64 (checkN (l.map Mn.nt) tg)) ∧ Below w.heap.size w w' := NtpE.pcheck v l tg w hL hk hl hok
theorem ptext (v : Value) (l : List Mn) (w : World) (hL : Ld w) (hk : KnN w v l) (hl : l.length ≤ 100000) (hok : ∀ m ∈ l, m.ok) :
    Calls Tryz.prog 9 #[v] w fun e w' => e = .returned (.string ⟨(noteText (l.map Mn.nt)).toArray⟩) ∧ Below w.heap.size w w' := NtpT.ptext v l w hL hk hl hok
end Go.Proofs.YthjpchnogllliaaGreatDoor.NtZ

/- awake of the laws of stage 8; comparing two values. -/
set_option linter.unusedSimpArgs false
set_option linter.unusedVariables false
namespace Go.Proofs.YthjpchnogllliaaGreatDoor.NtX
open Go.RowKit Nums UtfM UtfQ ScaM ScaV ScaB Val NotM NotK NtrB NtZ

theorem bt {a b c : World} (h : Below a.heap.size a b) (k : Below b.heap.size b c) : Below a.heap.size a c := h.trans (k.mono h.size)
def sAlias : ByteArray := ⟨#[97, 108, 105, 97, 115]⟩
def sMin : ByteArray := ⟨#[109, 105, 110]⟩
def sId : ByteArray := ⟨#[105, 100]⟩
def mA : Mn := ⟨⟨#[97, 108, 105, 97, 115]⟩, ⟨7, 0, ⟨#[105, 100]⟩, none, 0, 0, none, 0, 0, none, 0, 0, none, 0, 0⟩⟩
def mB : Mn := ⟨⟨#[109, 105, 110]⟩, ⟨3, 18446744073709551611, ⟨#[]⟩, none, 0, 0, none, 0, 0, none, 0, 0, none, 0, 0⟩⟩
theorem okA : mA.ok := by
  refine ⟨by decide, ?_, ?_, ?_, ?_, ?_, ?_, ?_⟩ <;> decide
theorem okB : mB.ok := by
  refine ⟨by decide, ?_, ?_, ?_, ?_, ?_, ?_, ?_⟩ <;> decide
theorem ok2 : ∀ m ∈ [mA, mB], m.ok := by
  intro m hm
  simp only [List.mem_cons, List.not_mem_nil, or_false] at hm
  rcases hm with rfl | rfl
  · exact okA
  · exact okB
theorem known2 (w : World) : KnN (w.alloc (.cells (fields mA ++ fields mB).toArray 44)) (.slice (some ⟨w.heap.size, 0, none⟩) 2 2) [mA, mB] := by
  refine ⟨_, 2, rfl, Nat.le_refl _, fun j m hm => ⟨_, _, rfl, by simp, C8.of fun q u hq => ?_⟩⟩
  rw [World.cell?_alloc_at _ _ _ _ rfl]
  have hq8 : q < 8 := by
    have := (List.getElem?_eq_some_iff.1 hq).1
    simpa [fields, cellsV] using this
  match j, hm with
  | 0, hm =>
    cases hm
    rw [Nat.zero_add, List.getElem?_toArray, List.getElem?_append_left (by simpa [fields, cellsV] using hq8)]
    exact hq
  | 1, hm =>
    cases hm
    rw [Nat.zero_add, List.getElem?_toArray, List.getElem?_append_right (by simp [fields, cellsV])]
    have : 1 * 8 + q - (fields mA).length = q := by simp [fields, cellsV]
    rw [this]
    exact hq
  | j + 2, hm => simp at hm
theorem a_text : noteText ([mA, mB].map Mn.nt) = [91, 97, 108, 105, 97, 115, 32, 61, 32, 34, 105, 100, 34, 44, 32, 109, 105, 110, 32, 61, 32, 45, 53, 93] := by kernel_rfl
theorem a_check : checkN ([mA, mB].map Mn.nt) 2 = 0 := by kernel_rfl
theorem a_check4 : checkN ([mA, mB].map Mn.nt) 4 = 1 := by kernel_rfl
theorem a_kind : kindN [115, 101, 99, 114, 101, 116] = 1 := by decide

set_option maxHeartbeats 2000000 in
set_option maxRecDepth 100000 in
theorem awake_any (w : World) (hL : Ld w) : Calls Tryz.prog 5 #[] w fun e w' => e = .returned (.bool true) ∧ Below w.heap.size w w' := by
  have K2 := Lib.hid (known2 w)
  go_enter Tryz.func5, Tryz.ntmps5
  go_wp2_with fail
  have hbA : Below w.heap.size w (w.alloc (.cells (fields mA ++ fields mB).toArray 44)) := (Below.refl _ _).alloc (Nat.le_refl _) _
  have HA := Lib.hid hbA
  clear hbA
  refine (ptext _ [mA, mB] _ (hL.below HA.out) K2.out (by decide) ok2).mono ?_
  rintro _ w1 ⟨rfl, hb1⟩
  rw [a_text]
  have K3 := Lib.hid (K2.out.below hb1)
  have H1 := Lib.hid (bt HA.out hb1)
  clear hb1
  go_wp2_with fail
  refine (pcheck _ [mA, mB] 2 _ (hL.below H1.out) K3.out (by decide) ok2).mono ?_
  rintro _ w2 ⟨rfl, hb2⟩
  rw [a_check]
  have K4 := Lib.hid (K3.out.below hb2)
  have H2 := Lib.hid (bt H1.out hb2)
  clear hb2
  go_wp2_with fail
  refine (pcheck _ [mA, mB] 4 _ (hL.below H2.out) K4.out (by decide) ok2).mono ?_
  rintro _ w3 ⟨rfl, hb3⟩
  rw [a_check4]
  have H3 := Lib.hid (bt H2.out hb3)
  clear hb3
  go_wp2_with fail
  refine (pkind ⟨#[115, 101, 99, 114, 101, 116]⟩ (by decide) _ (hL.below H3.out)).mono ?_
  rintro _ w4 ⟨rfl, hb4⟩
  rw [show kindN (⟨#[115, 101, 99, 114, 101, 116]⟩ : ByteArray).data.toList = 1 from a_kind]
  have H4 := Lib.hid (bt H3.out hb4)
  clear hb4
  go_wp2_with fail
  go_ret
  exact ⟨rfl, H4.out⟩
end Go.Proofs.YthjpchnogllliaaGreatDoor.NtX
