/- The reference of stage 8: Set. -/
import Derived.Test.YthjpchnogllliaaDoorNtrB
import Derived.Test.YthjpchnogllliaaDoorOwnN
set_option linter.unusedSimpArgs false
set_option linter.unusedVariables false
namespace Go.Proofs.YthjpchnogllliaaDoor.NtrD
open Go.RowKit Nums ScaM ScaV ScaB Val NotM NotK NtrA NtrB OwnN

/-- What is still to come. -/
def todo (x : Mn) (j : Int) (dn : Bool) (k : Nat) (r : List Mn) : List Mn := if dn = true then r else if 0 ≤ j then repl key x r else ins key x r
def fineS (x : Mn) (j : Int) (dn : Bool) (k : Nat) (r : List Mn) : Prop := if 0 ≤ j then (if dn = true then j < k else ixK (key x) k r = j) else (j = -1 ∧ ∀ y ∈ r, key y ≠ key x)
theorem ix_ge (n : List UInt8) (l : List Mn) (k : Nat) : ixK n k l = -1 ∨ (k : Int) ≤ ixK n k l := by
  rcases ix_find n l k with ⟨h, _⟩ | ⟨j, m, h, _⟩
  · exact .inl h
  · right; rw [h]; omega
theorem set_start (x : Mn) (l : List Mn) : setG key x l = todo x (ixK (key x) 0 l) false 0 l ∧ fineS x (ixK (key x) 0 l) false 0 l := by
  unfold setG todo fineS
  rcases ix_find (key x) l 0 with ⟨h1, h2⟩ | ⟨j, m, h1, h2, h3⟩
  · rw [h2, h1]
    rw [if_neg (by simp), if_neg (by decide), if_neg (by decide)]
    exact ⟨rfl, rfl, find_none.1 h2⟩
  · rw [h3, h1]
    rw [if_neg (by simp), if_pos (by omega), if_pos (by omega), if_neg (by simp)]
    exact ⟨rfl, rfl⟩
section
variable {x m : Mn} {j : Int} {k : Nat} {r : List Mn}
theorem st_done (h : fineS x j true k (m :: r)) : todo x j true k (m :: r) = m :: todo x j true (k + 1) r ∧ fineS x j true (k + 1) r ∧ (k : Int) ≠ j := by
  refine ⟨rfl, ?_, ?_⟩
  · unfold fineS at *
    split at h
    · rename_i hj
      rw [if_pos hj]
      rw [if_pos rfl] at h ⊢
      omega
    · rename_i hj
      rw [if_neg hj]
      exact ⟨h.1, fun y hy => h.2 y (by simp [hy])⟩
  · unfold fineS at h
    split at h
    · rw [if_pos rfl] at h; omega
    · have := h.1; omega
theorem st_hit (hj : 0 ≤ j) (h : fineS x j false k (m :: r)) (he : key m = key x) : todo x j false k (m :: r) = x :: todo x j true (k + 1) r ∧ fineS x j true (k + 1) r ∧ (k : Int) = j := by
  unfold fineS at *
  rw [if_pos hj] at h ⊢
  rw [if_neg (by simp), ixK, if_pos he] at h
  refine ⟨?_, by rw [if_pos rfl]; omega, h⟩
  unfold todo
  rw [if_neg (by simp), if_pos hj, if_pos rfl, repl, if_pos he]
theorem st_miss (hj : 0 ≤ j) (h : fineS x j false k (m :: r)) (he : key m ≠ key x) : todo x j false k (m :: r) = m :: todo x j false (k + 1) r ∧ fineS x j false (k + 1) r ∧ (k : Int) ≠ j := by
  unfold fineS at *
  rw [if_pos hj] at h ⊢
  rw [if_neg (by simp), ixK, if_neg he] at h
  refine ⟨?_, by rw [if_neg (by simp)]; exact h, ?_⟩
  · unfold todo
    rw [if_neg (by simp), if_pos hj, if_neg (by simp), if_pos hj, repl, if_neg he]
  · rcases ix_ge (key x) r (k + 1) with h1 | h1
    · omega
    · omega
theorem st_ins (hj : ¬ 0 ≤ j) (h : fineS x j false k (m :: r)) (hl : less (key x) (key m) = true) : todo x j false k (m :: r) = x :: m :: todo x j true (k + 1) r ∧ fineS x j true (k + 1) r := by
  unfold fineS at *
  rw [if_neg hj] at h ⊢
  refine ⟨?_, h.1, fun y hy => h.2 y (by simp [hy])⟩
  unfold todo
  rw [if_neg (by simp), if_neg hj, if_pos rfl, ins, if_pos hl]
theorem st_go (hj : ¬ 0 ≤ j) (h : fineS x j false k (m :: r)) (hl : less (key x) (key m) = false) : todo x j false k (m :: r) = m :: todo x j false (k + 1) r ∧ fineS x j false (k + 1) r := by
  unfold fineS at *
  rw [if_neg hj] at h ⊢
  refine ⟨?_, h.1, fun y hy => h.2 y (by simp [hy])⟩
  unfold todo
  rw [if_neg (by simp), if_neg hj, if_neg (by simp), if_neg hj, ins, if_neg (by rw [hl]; simp)]
end
theorem cons_app {α : Type} {S Out Out2 A B : List α} {m : α} (h : S = Out ++ A) (e : A = m :: B) (e2 : Out2 = Out ++ [m]) : S = Out2 ++ B := by
  rw [h, e, e2]; simp

set_option maxHeartbeats 4000000 in
set_option maxRecDepth 100000 in
theorem set_any (v : Value) (l : List Mn) (x : Mn) (w : World) (hk : KnN w v l) (hl : l.length ≤ 100000) :
    Calls Tryd.prog 21 #[v, nn x] w fun e w' => ∃ v', e = .returned v' ∧ KnN w' v' (setG key x l) ∧ Below w.heap.size w w' := by
  obtain ⟨i0, hi, hz0, hz1, hz2⟩ := info_parts infoN
  have HI : Hid (∀ W : World, Below w.heap.size w W → Calls Tryd.prog 31 #[v, .string x.nm] W fun e w' => e = .returned (.int .i64 (ixK x.nm.data.toList 0 l)) ∧ W = w') := Lib.hid (fun W hW => index_any v l x.nm W (hk.below hW) (by omega))
  obtain ⟨a1, cap1, rfl, hcap1, hcells1⟩ := hk
  have H1 := Lib.hid hcells1
  clear hcells1
  obtain ⟨S, hS⟩ : ∃ S, S = setG key x l := ⟨_, rfl⟩
  rw [← hS]
  obtain ⟨hs1, hs2⟩ := set_start x l
  rw [← hS] at hs1
  obtain ⟨J, hJ⟩ : ∃ J, ixK x.nm.data.toList 0 l = J := ⟨_, rfl⟩
  rw [show ixK (key x) 0 l = J from hJ] at hs1 hs2
  have hjj : J = -1 ∨ 0 ≤ J := by
    rcases ix_ge x.nm.data.toList l 0 with h | h
    · exact .inl (hJ.symm.trans h)
    · right; rw [← hJ]; omega
  obtain ⟨w0, hw0⟩ : ∃ w0, w0 = w.alloc (.cells #[.string x.nm, .int .i64 x.v.k, .int .u64 x.v.b, .string x.v.t, .slice x.v.a1 x.v.l1 x.v.c1, .slice x.v.a2 x.v.l2 x.v.c2, .slice x.v.a3 x.v.l3 x.v.c3, .slice x.v.a4 x.v.l4 x.v.c4] 42) := ⟨_, rfl⟩
  have hz0' : w0.heap.size = w.heap.size + 1 := by rw [hw0]; simp
  have Hw : Hid (Below w.heap.size w w0) := Lib.hid (by rw [hw0]; exact (Below.refl _ _).alloc (Nat.le_refl _) _)
  have HX8 : Hid (C8 w0 w.heap.size 0 x) := Lib.hid (by rw [hw0]; exact box8 w x _)
  have HJ := Lib.hid hJ
  have Hjj := Lib.hid hjj
  have Hs1 := Lib.hid hs1
  have Hs2 := Lib.hid hs2
  have Hw0 := Lib.hid hw0
  clear hS hs1 hs2 hJ hw0 hjj
  unfold nn
  go_enter Tryd.func21, Tryd.ntmps21
  go_wp2_with fail
  refine (HI.out _ ((Below.refl _ _).alloc (Nat.le_refl _) _)).mono ?_
  rintro _ wz ⟨rfl, rfl⟩
  rw [HJ.out, ← Hw0.out]
  go_wp2_with fail
  go_loopw [5, 7, 8] (fun ov dv iv wr => ∃ (k : Nat) (Out : List Mn) (dn : Bool) (v' : Value), k ≤ l.length ∧ ((dn = true ∧ Out.length ≤ k + 1) ∨ (dn = false ∧ Out.length ≤ k)) ∧ ov = v' ∧ dv = .bool dn ∧ iv = .int .i64 k ∧ Hid (OwnN wr (w.heap.size + 1) v' Out) ∧ Hid (Below (w.heap.size + 1) w0 wr) ∧ Hid (S = Out ++ todo x J dn k (l.drop k) ∧ fineS x J dn k (l.drop k))) (fun _ _ iv _ => l.length - (intOf iv).toNat)
  case atStart => exact ⟨0, [], false, _, by omega, .inr ⟨rfl, by simp⟩, rfl, rfl, rfl, Lib.hid (OwnN.nil _ _), Lib.hid (Below.refl _ _), Lib.hid ⟨by rw [List.drop_zero, List.nil_append]; exact Hs1.out, by rw [List.drop_zero]; exact Hs2.out⟩⟩
  case round =>
    obtain ⟨k, Out, dn, v', hk, hlen, rfl, rfl, rfl, HO, HB, HI2⟩ := hrel
    by_cases hlt : k < l.length
    · obtain ⟨m, hm⟩ : ∃ m, l[k]? = some m := ⟨_, List.getElem?_eq_getElem hlt⟩
      obtain ⟨kb, ko, ha, hb0, m8⟩ := H1.out k m hm
      subst ha
      have l8 := m8.below (Hw.out.trans (HB.out.mono (by omega))) hb0
      obtain ⟨c0, c1, c2, c3, c4, c5, c6, c7⟩ := l8
      have b8 := HX8.out.below HB.out (by omega)
      obtain ⟨x0, x1, x2, x3, x4, x5, x6, x7⟩ := b8
      obtain ⟨hS, hfn⟩ := HI2.out
      rw [drop_m hm] at hS hfn
      cases dn with
      | true =>
        have hlen2 : Out.length ≤ k + 1 := by
          rcases hlen with ⟨_, h⟩ | ⟨h, _⟩
          · exact h
          · cases h
        clear hlen
        obtain ⟨t1, t2, t3⟩ := st_done hfn
        have e1 : ((k : Int) == J) = false := by rw [beq_eq_false_iff_ne]; exact t3
        have HS := Lib.hid hS
        have T1 := Lib.hid t1
        have T2 := Lib.hid t2
        clear hS hfn t1 t2 t3 hm
        rcases Hjj.out with hj | hj
        · have e2 : decide (J < 0) = true := decide_eq_true (by omega)
          clear hj
          go_wp2_with fail
          go_quiet (fail)
          go_wp2_with (at_builtin; refine wpList_append_own _ rfl _ _ 22 rfl (w.heap.size + 1) 42 i0 (.agg #[.string ByteArray.empty, .int .i64 0, .int .u64 0, .string ByteArray.empty, .slice none 0 0, .slice none 0 0, .slice none 0 0, .slice none 0 0]) 8 144 Tryd.underlying22 hi hz0 hz1 hz2 rfl (by decide) _ Out.length _ rfl (World.ownsRow.alloc (HO.out.below (below_q (Below.refl _ wr) _)) _) ⟨wr.heap.size, 0, none⟩ 1 1 (fields m) rfl rfl ?c1 ?c2 ?c3 ?c4 ?c5 ?_)
          case c1 => exact new_cells _ m _ _ (by simp)
          case c2 => exact fields_flat m
          case c3 => unfold maxLen; omega
          case c4 => omega
          case c5 => have := HB.out.size; (try simp); omega
          intro v' w2 hown' hgrow _
          have hB2 : Below (w.heap.size + 1) w0 w2 := ((below_q HB.out _).alloc (by have := HB.out.size; (try simp); omega) _).grown hgrow (by have := HB.out.size; (try simp); omega) (fun g hg => (HO.out.lt g hg).1)
          obtain ⟨Out2, ho2⟩ : ∃ Out2, Out2 = Out ++ [m] := ⟨_, rfl⟩
          have hol2 : Out2.length = Out.length + 1 := by rw [ho2]; simp
          have HO2 : Hid (OwnN w2 (w.heap.size + 1) v' Out2) := Lib.hid (by
            rw [ho2]
            unfold OwnN
            rw [List.length_append, List.flatMap_append]
            first | exact hown' | simpa using hown')
          have HB2 := Lib.hid hB2
          have HE2 := Lib.hid ho2
          clear hown' hB2 hgrow ho2
          go_wp2_with fail
          exact ⟨⟨k + 1, Out2, true, _, by omega, .inl ⟨rfl, by omega⟩, rfl, rfl, by go_num, HO2, HB2, Lib.hid (⟨cons_app HS.out T1.out HE2.out, T2.out⟩)⟩, by simp [intOf]; omega⟩
        · have e2 : decide (J < 0) = false := decide_eq_false (by omega)
          clear hj
          go_wp2_with fail
          go_quiet (fail)
          go_wp2_with (at_builtin; refine wpList_append_own _ rfl _ _ 22 rfl (w.heap.size + 1) 42 i0 (.agg #[.string ByteArray.empty, .int .i64 0, .int .u64 0, .string ByteArray.empty, .slice none 0 0, .slice none 0 0, .slice none 0 0, .slice none 0 0]) 8 144 Tryd.underlying22 hi hz0 hz1 hz2 rfl (by decide) _ Out.length _ rfl (World.ownsRow.alloc (HO.out.below (below_q (Below.refl _ wr) _)) _) ⟨wr.heap.size, 0, none⟩ 1 1 (fields m) rfl rfl ?c1 ?c2 ?c3 ?c4 ?c5 ?_)
          case c1 => exact new_cells _ m _ _ (by simp)
          case c2 => exact fields_flat m
          case c3 => unfold maxLen; omega
          case c4 => omega
          case c5 => have := HB.out.size; (try simp); omega
          intro v' w2 hown' hgrow _
          have hB2 : Below (w.heap.size + 1) w0 w2 := ((below_q HB.out _).alloc (by have := HB.out.size; (try simp); omega) _).grown hgrow (by have := HB.out.size; (try simp); omega) (fun g hg => (HO.out.lt g hg).1)
          obtain ⟨Out2, ho2⟩ : ∃ Out2, Out2 = Out ++ [m] := ⟨_, rfl⟩
          have hol2 : Out2.length = Out.length + 1 := by rw [ho2]; simp
          have HO2 : Hid (OwnN w2 (w.heap.size + 1) v' Out2) := Lib.hid (by
            rw [ho2]
            unfold OwnN
            rw [List.length_append, List.flatMap_append]
            first | exact hown' | simpa using hown')
          have HB2 := Lib.hid hB2
          have HE2 := Lib.hid ho2
          clear hown' hB2 hgrow ho2
          go_wp2_with fail
          exact ⟨⟨k + 1, Out2, true, _, by omega, .inl ⟨rfl, by omega⟩, rfl, rfl, by go_num, HO2, HB2, Lib.hid (⟨cons_app HS.out T1.out HE2.out, T2.out⟩)⟩, by simp [intOf]; omega⟩
      | false =>
        have hlen2 : Out.length ≤ k := by
          rcases hlen with ⟨h, _⟩ | ⟨_, h⟩
          · cases h
          · exact h
        clear hlen
        rcases Hjj.out with hj | hj
        · have hj' : ¬ 0 ≤ J := by omega
          have e1 : ((k : Int) == J) = false := by rw [beq_eq_false_iff_ne]; omega
          have e2 : decide (J < 0) = true := decide_eq_true (by omega)
          have hne : key m ≠ key x := by
            unfold fineS at hfn
            rw [if_neg hj'] at hfn
            exact hfn.2 m (by simp)
          have e3 : (m.nm.toList == x.nm.toList) = false := str_eq m.nm x.nm (decide_eq_false hne)
          cases hl2 : less (key x) (key m) with
          | true =>
            obtain ⟨t1, t2⟩ := st_ins hj' hfn hl2
            have e4 : Op.bytesLess m.nm.toList x.nm.toList = false := by rw [ByteArray.toList_eq, ByteArray.toList_eq]; exact less_asymm hl2
            have HS := Lib.hid hS
            have T1 := Lib.hid t1
            have T2 := Lib.hid t2
            clear hS hfn t1 t2 hm hne hl2 hj hj'
            go_wp2_with fail
            go_quiet (fail)
            go_wp2_with (at_builtin; refine wpList_append_own _ rfl _ _ 22 rfl (w.heap.size + 1) 42 i0 (.agg #[.string ByteArray.empty, .int .i64 0, .int .u64 0, .string ByteArray.empty, .slice none 0 0, .slice none 0 0, .slice none 0 0, .slice none 0 0]) 8 144 Tryd.underlying22 hi hz0 hz1 hz2 rfl (by decide) _ Out.length _ rfl (World.ownsRow.alloc (HO.out.below (below_q (Below.refl _ wr) _)) _) ⟨wr.heap.size, 0, none⟩ 1 1 (fields x) rfl rfl ?c1 ?c2 ?c3 ?c4 ?c5 ?_)
            case c1 => exact new_cells _ x _ _ (by simp)
            case c2 => exact fields_flat x
            case c3 => unfold maxLen; omega
            case c4 => omega
            case c5 => have := HB.out.size; (try simp); omega
            intro v' w2 hown' hgrow _
            have hB2 : Below (w.heap.size + 1) w0 w2 := ((below_q HB.out _).alloc (by have := HB.out.size; (try simp); omega) _).grown hgrow (by have := HB.out.size; (try simp); omega) (fun g hg => (HO.out.lt g hg).1)
            obtain ⟨Out2, ho2⟩ : ∃ Out2, Out2 = Out ++ [x] := ⟨_, rfl⟩
            have hol2 : Out2.length = Out.length + 1 := by rw [ho2]; simp
            have HO2 : Hid (OwnN w2 (w.heap.size + 1) v' Out2) := Lib.hid (by
              rw [ho2]
              unfold OwnN
              rw [List.length_append, List.flatMap_append]
              first | exact hown' | simpa using hown')
            have HB2 := Lib.hid hB2
            have HE2 := Lib.hid ho2
            clear hown' hB2 hgrow ho2
            have hB2s := HB2.out.size
            clear c0 c1 c2 c3 c4 c5 c6 c7 x0 x1 x2 x3 x4 x5 x6 x7
            have l8 := m8.below (Hw.out.trans (HB2.out.mono (by omega))) hb0
            obtain ⟨c0, c1, c2, c3, c4, c5, c6, c7⟩ := l8
            have hob : Out2.length ≤ k + 1 := by omega
            clear hol2
            have Hcut : Hid (S = Out2 ++ m :: todo x J true (k + 1) (l.drop (k + 1))) := Lib.hid (cons_app HS.out T1.out HE2.out)
            go_wp2_with (at_builtin; refine wpList_append_own _ rfl _ _ 22 rfl (w.heap.size + 1) 42 i0 (.agg #[.string ByteArray.empty, .int .i64 0, .int .u64 0, .string ByteArray.empty, .slice none 0 0, .slice none 0 0, .slice none 0 0, .slice none 0 0]) 8 144 Tryd.underlying22 hi hz0 hz1 hz2 rfl (by decide) _ Out2.length _ rfl (World.ownsRow.alloc HO2.out _) ⟨w2.heap.size, 0, none⟩ 1 1 (fields m) rfl rfl ?c1 ?c2 ?c3 ?c4 ?c5 ?_)
            case c1 => exact new_cells _ m _ _ (by simp)
            case c2 => exact fields_flat m
            case c3 => unfold maxLen; omega
            case c4 => omega
            case c5 => have := HB2.out.size; (try simp); omega
            intro v'' w3 hown' hgrow _
            have hB3 : Below (w.heap.size + 1) w0 w3 := (HB2.out.alloc (by have := HB2.out.size; (try simp); omega) _).grown hgrow (by have := HB2.out.size; (try simp); omega) (fun g hg => (HO2.out.lt g hg).1)
            obtain ⟨Out3, ho3⟩ : ∃ Out3, Out3 = Out2 ++ [m] := ⟨_, rfl⟩
            have hol3 : Out3.length = Out2.length + 1 := by rw [ho3]; simp
            have HO3 : Hid (OwnN w3 (w.heap.size + 1) v'' Out3) := Lib.hid (by
              rw [ho3]
              unfold OwnN
              rw [List.length_append, List.flatMap_append]
              first | exact hown' | simpa using hown')
            have HB3 := Lib.hid hB3
            have HE3 := Lib.hid ho3
            clear hown' hB3 hgrow ho3
            go_wp2_with fail
            exact ⟨⟨k + 1, Out3, true, _, by omega, .inl ⟨rfl, by omega⟩, rfl, rfl, by go_num, HO3, HB3, Lib.hid (⟨cons_app Hcut.out rfl HE3.out, T2.out⟩)⟩, by simp [intOf]; omega⟩
          | false =>
            obtain ⟨t1, t2⟩ := st_go hj' hfn hl2
            have e4 : Op.bytesLess m.nm.toList x.nm.toList = true := by rw [ByteArray.toList_eq, ByteArray.toList_eq]; exact less_tri hl2 (Ne.symm hne)
            have HS := Lib.hid hS
            have T1 := Lib.hid t1
            have T2 := Lib.hid t2
            clear hS hfn t1 t2 hm hne hl2 hj hj'
            go_wp2_with fail
            go_quiet (fail)
            go_wp2_with (at_builtin; refine wpList_append_own _ rfl _ _ 22 rfl (w.heap.size + 1) 42 i0 (.agg #[.string ByteArray.empty, .int .i64 0, .int .u64 0, .string ByteArray.empty, .slice none 0 0, .slice none 0 0, .slice none 0 0, .slice none 0 0]) 8 144 Tryd.underlying22 hi hz0 hz1 hz2 rfl (by decide) _ Out.length _ rfl (World.ownsRow.alloc (HO.out.below (below_q (Below.refl _ wr) _)) _) ⟨wr.heap.size, 0, none⟩ 1 1 (fields m) rfl rfl ?c1 ?c2 ?c3 ?c4 ?c5 ?_)
            case c1 => exact new_cells _ m _ _ (by simp)
            case c2 => exact fields_flat m
            case c3 => unfold maxLen; omega
            case c4 => omega
            case c5 => have := HB.out.size; (try simp); omega
            intro v' w2 hown' hgrow _
            have hB2 : Below (w.heap.size + 1) w0 w2 := ((below_q HB.out _).alloc (by have := HB.out.size; (try simp); omega) _).grown hgrow (by have := HB.out.size; (try simp); omega) (fun g hg => (HO.out.lt g hg).1)
            obtain ⟨Out2, ho2⟩ : ∃ Out2, Out2 = Out ++ [m] := ⟨_, rfl⟩
            have hol2 : Out2.length = Out.length + 1 := by rw [ho2]; simp
            have HO2 : Hid (OwnN w2 (w.heap.size + 1) v' Out2) := Lib.hid (by
              rw [ho2]
              unfold OwnN
              rw [List.length_append, List.flatMap_append]
              first | exact hown' | simpa using hown')
            have HB2 := Lib.hid hB2
            have HE2 := Lib.hid ho2
            clear hown' hB2 hgrow ho2
            go_wp2_with fail
            exact ⟨⟨k + 1, Out2, false, _, by omega, .inr ⟨rfl, by omega⟩, rfl, rfl, by go_num, HO2, HB2, Lib.hid (⟨cons_app HS.out T1.out HE2.out, T2.out⟩)⟩, by simp [intOf]; omega⟩
        · have e2 : decide (J < 0) = false := decide_eq_false (by omega)
          by_cases he : key m = key x
          · obtain ⟨t1, t2, t3⟩ := st_hit hj hfn he
            have e1 : ((k : Int) == J) = true := by rw [beq_iff_eq]; exact t3
            have HS := Lib.hid hS
            have T1 := Lib.hid t1
            have T2 := Lib.hid t2
            clear hS hfn t1 t2 t3 hm he hj
            go_wp2_with (at_builtin; refine wpList_append_own _ rfl _ _ 22 rfl (w.heap.size + 1) 42 i0 (.agg #[.string ByteArray.empty, .int .i64 0, .int .u64 0, .string ByteArray.empty, .slice none 0 0, .slice none 0 0, .slice none 0 0, .slice none 0 0]) 8 144 Tryd.underlying22 hi hz0 hz1 hz2 rfl (by decide) _ Out.length _ rfl (World.ownsRow.alloc HO.out _) ⟨wr.heap.size, 0, none⟩ 1 1 (fields x) rfl rfl ?c1 ?c2 ?c3 ?c4 ?c5 ?_)
            case c1 => exact new_cells _ x _ _ (by simp)
            case c2 => exact fields_flat x
            case c3 => unfold maxLen; omega
            case c4 => omega
            case c5 => have := HB.out.size; (try simp); omega
            intro v' w2 hown' hgrow _
            have hB2 : Below (w.heap.size + 1) w0 w2 := (HB.out.alloc (by have := HB.out.size; (try simp); omega) _).grown hgrow (by have := HB.out.size; (try simp); omega) (fun g hg => (HO.out.lt g hg).1)
            obtain ⟨Out2, ho2⟩ : ∃ Out2, Out2 = Out ++ [x] := ⟨_, rfl⟩
            have hol2 : Out2.length = Out.length + 1 := by rw [ho2]; simp
            have HO2 : Hid (OwnN w2 (w.heap.size + 1) v' Out2) := Lib.hid (by
              rw [ho2]
              unfold OwnN
              rw [List.length_append, List.flatMap_append]
              first | exact hown' | simpa using hown')
            have HB2 := Lib.hid hB2
            have HE2 := Lib.hid ho2
            clear hown' hB2 hgrow ho2
            go_wp2_with fail
            exact ⟨⟨k + 1, Out2, true, _, by omega, .inl ⟨rfl, by omega⟩, rfl, rfl, by go_num, HO2, HB2, Lib.hid (⟨cons_app HS.out T1.out HE2.out, T2.out⟩)⟩, by simp [intOf]; omega⟩
          · obtain ⟨t1, t2, t3⟩ := st_miss hj hfn he
            have e1 : ((k : Int) == J) = false := by rw [beq_eq_false_iff_ne]; exact t3
            have HS := Lib.hid hS
            have T1 := Lib.hid t1
            have T2 := Lib.hid t2
            clear hS hfn t1 t2 t3 hm he hj
            go_wp2_with fail
            go_quiet (fail)
            go_wp2_with (at_builtin; refine wpList_append_own _ rfl _ _ 22 rfl (w.heap.size + 1) 42 i0 (.agg #[.string ByteArray.empty, .int .i64 0, .int .u64 0, .string ByteArray.empty, .slice none 0 0, .slice none 0 0, .slice none 0 0, .slice none 0 0]) 8 144 Tryd.underlying22 hi hz0 hz1 hz2 rfl (by decide) _ Out.length _ rfl (World.ownsRow.alloc (HO.out.below (below_q (Below.refl _ wr) _)) _) ⟨wr.heap.size, 0, none⟩ 1 1 (fields m) rfl rfl ?c1 ?c2 ?c3 ?c4 ?c5 ?_)
            case c1 => exact new_cells _ m _ _ (by simp)
            case c2 => exact fields_flat m
            case c3 => unfold maxLen; omega
            case c4 => omega
            case c5 => have := HB.out.size; (try simp); omega
            intro v' w2 hown' hgrow _
            have hB2 : Below (w.heap.size + 1) w0 w2 := ((below_q HB.out _).alloc (by have := HB.out.size; (try simp); omega) _).grown hgrow (by have := HB.out.size; (try simp); omega) (fun g hg => (HO.out.lt g hg).1)
            obtain ⟨Out2, ho2⟩ : ∃ Out2, Out2 = Out ++ [m] := ⟨_, rfl⟩
            have hol2 : Out2.length = Out.length + 1 := by rw [ho2]; simp
            have HO2 : Hid (OwnN w2 (w.heap.size + 1) v' Out2) := Lib.hid (by
              rw [ho2]
              unfold OwnN
              rw [List.length_append, List.flatMap_append]
              first | exact hown' | simpa using hown')
            have HB2 := Lib.hid hB2
            have HE2 := Lib.hid ho2
            clear hown' hB2 hgrow ho2
            go_wp2_with fail
            exact ⟨⟨k + 1, Out2, false, _, by omega, .inr ⟨rfl, by omega⟩, rfl, rfl, by go_num, HO2, HB2, Lib.hid (⟨cons_app HS.out T1.out HE2.out, T2.out⟩)⟩, by simp [intOf]; omega⟩
    · obtain rfl : k = l.length := by omega
      obtain ⟨hS, hfn⟩ := HI2.out
      rw [List.drop_of_length_le (Nat.le_refl _)] at hS hfn
      cases dn with
      | true =>
        have hS2 : S = Out := by rw [hS]; show Out ++ [] = Out; simp
        have HS := Lib.hid hS2
        clear hS hfn hS2
        go_wp2_with fail
        go_ret
        exact ⟨_, rfl, by rw [HS.out]; exact HO.out.known, Hw.out.trans (HB.out.mono (by omega))⟩
      | false =>
        have hlen2 : Out.length ≤ l.length := by
          rcases hlen with ⟨h, _⟩ | ⟨_, h⟩
          · cases h
          · exact h
        clear hlen
        have hj' : ¬ 0 ≤ J := by
          intro hj
          unfold fineS at hfn
          rw [if_pos hj, if_neg (by simp), ixK] at hfn
          omega
        have hS2 : S = Out ++ [x] := by
          rw [hS]
          unfold todo
          rw [if_neg (by simp), if_neg hj', ins]
        have HS := Lib.hid hS2
        clear hS hfn hS2 hj'
        have b8 := HX8.out.below HB.out (by omega)
        obtain ⟨x0, x1, x2, x3, x4, x5, x6, x7⟩ := b8
        go_wp2_with (at_builtin; refine wpList_append_own _ rfl _ _ 22 rfl (w.heap.size + 1) 42 i0 (.agg #[.string ByteArray.empty, .int .i64 0, .int .u64 0, .string ByteArray.empty, .slice none 0 0, .slice none 0 0, .slice none 0 0, .slice none 0 0]) 8 144 Tryd.underlying22 hi hz0 hz1 hz2 rfl (by decide) _ Out.length _ rfl (World.ownsRow.alloc HO.out _) ⟨wr.heap.size, 0, none⟩ 1 1 (fields x) rfl rfl ?c1 ?c2 ?c3 ?c4 ?c5 ?_)
        case c1 => exact new_cells _ x _ _ (by simp)
        case c2 => exact fields_flat x
        case c3 => unfold maxLen; omega
        case c4 => omega
        case c5 => have := HB.out.size; (try simp); omega
        intro v' w2 hown' hgrow _
        have hB2 : Below (w.heap.size + 1) w0 w2 := (HB.out.alloc (by have := HB.out.size; (try simp); omega) _).grown hgrow (by have := HB.out.size; (try simp); omega) (fun g hg => (HO.out.lt g hg).1)
        obtain ⟨Out2, ho2⟩ : ∃ Out2, Out2 = Out ++ [x] := ⟨_, rfl⟩
        have hol2 : Out2.length = Out.length + 1 := by rw [ho2]; simp
        have HO2 : Hid (OwnN w2 (w.heap.size + 1) v' Out2) := Lib.hid (by
          rw [ho2]
          unfold OwnN
          rw [List.length_append, List.flatMap_append]
          first | exact hown' | simpa using hown')
        have HB2 := Lib.hid hB2
        have HE2 := Lib.hid ho2
        clear hown' hB2 hgrow ho2
        go_wp2_with fail
        go_ret
        exact ⟨_, rfl, by rw [HS.out, ← HE2.out]; exact HO2.out.known, Hw.out.trans (HB2.out.mono (by omega))⟩
end Go.Proofs.YthjpchnogllliaaDoor.NtrD
