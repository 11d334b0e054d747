import Derived.Test.YthjpchnogllliaaGreatDoorNotK
import Derived.Test.YthjpchnogllliaaGreatDoorScaC
import Derived.Test.YthjpchnogllliaaGreatDoorBox
import Derived.BigQuiet
import Derived.Laws.AppendOwn
import Derived.Laws.OwnMore
/- The reference of stage 8: the kind of a name, its targets, right values. -/
set_option linter.unusedSimpArgs false
set_option linter.unusedVariables false
namespace Go.Proofs.YthjpchnogllliaaGreatDoor.NtrA
open Go.RowKit Nums ScaM ScaV Val NotM NotK

theorem ret_i {a b : Int} (h : a = b) : Ending.returned (.int .i64 a) = .returned (.int .i64 b) := by rw [h]
theorem ret_b {a b : Bool} (h : a = b) : Ending.returned (.bool a) = .returned (.bool b) := by rw [h]
set_option maxHeartbeats 2000000 in
set_option maxRecDepth 100000 in
theorem kind_any (s : ByteArray) (w : World) :
    Calls Tryz.prog 19 #[.string s] w fun e w' => e = .returned (.int .i64 (kindN s.data.toList)) ∧ w = w' := by
  obtain ⟨K, hK⟩ : ∃ K, K = kindN s.data.toList := ⟨_, rfl⟩
  rw [← hK]
  rw [← ByteArray.toList_eq] at hK
  have HK := Lib.hid hK
  clear hK
  go_enter Tryz.func19, Tryz.ntmps19
  go_wp2_with fail
  all_goals go_ret
  all_goals
    refine ⟨ret_i ?_, rfl⟩
    rw [HK.out]
    clear HK
    simp_all [kindN, knB, knT, knU, knI]
set_option maxHeartbeats 2000000 in
set_option maxRecDepth 100000 in
theorem right_any (m : Mn) (hb : m.v.b ≤ 18446744073709551615) (w : World) :
    Calls Tryz.prog 25 #[nn m] w fun e w' => e = .returned (.bool (rightB m.nt)) ∧ Below w.heap.size w w' := by
  obtain ⟨B, hB⟩ : ∃ B, B = rightB m.nt := ⟨_, rfl⟩
  rw [← hB]
  obtain ⟨K, hK⟩ : ∃ K, kindN m.nm.data.toList = K := ⟨_, rfl⟩
  have hB2 : B = (K != 0 && (m.v.k == K && fitsB K (sc m.v))) := by
    rw [hB, ← hK]; rfl
  have HK := Lib.hid hK
  have H8 := Lib.hid (box8 w m 44)
  clear hB hK
  obtain ⟨F, hF⟩ : ∃ F, fitsB K (sc m.v) = F := ⟨_, rfl⟩
  rw [hF] at hB2
  have HF := Lib.hid hF
  clear hF
  unfold nn
  cases e0 : (K != 0) with
  | false =>
    rw [e0] at hB2
    have HB := Lib.hid hB2
    clear hB2
    go_enter Tryz.func25, Tryz.ntmps25
    go_wp2_with fail
    refine (kind_any m.nm _).mono ?_
    rintro _ wz ⟨rfl, rfl⟩
    rw [HK.out]
    go_wp2_with fail
    go_ret
    exact ⟨by rw [HB.out]; rfl, (Below.refl _ _).alloc (Nat.le_refl _) _⟩
  | true =>
    cases e1 : (m.v.k == K) with
    | false =>
      rw [e0, e1] at hB2
      have HB := Lib.hid hB2
      clear hB2
      go_enter Tryz.func25, Tryz.ntmps25
      go_wp2_with fail
      refine (kind_any m.nm _).mono ?_
      rintro _ wz ⟨rfl, rfl⟩
      rw [HK.out]
      go_wp2_with fail
      go_ret
      exact ⟨by rw [HB.out]; rfl, (Below.refl _ _).alloc (Nat.le_refl _) _⟩
    | true =>
      rw [e0, e1] at hB2
      have HB := Lib.hid hB2
      clear hB2
      go_enter Tryz.func25, Tryz.ntmps25
      go_wp2_with fail
      refine (kind_any m.nm _).mono ?_
      rintro _ wz ⟨rfl, rfl⟩
      rw [HK.out]
      go_wp2_with fail
      refine (ScaC.fits_any K m.v hb _).mono ?_
      rintro _ w1 ⟨rfl, hb1⟩
      rw [HF.out]
      go_wp2_with fail
      go_ret
      exact ⟨by rw [HB.out]; simp, ((Below.refl _ _).alloc (Nat.le_refl _) _).trans (hb1.mono (by simp))⟩
end Go.Proofs.YthjpchnogllliaaGreatDoor.NtrA

/- The reference of stage 8: the place of a name, Find, Flag, Same, Check. -/
set_option linter.unusedSimpArgs false
set_option linter.unusedVariables false
namespace Go.Proofs.YthjpchnogllliaaGreatDoor.NtrB
open Go.RowKit Nums ScaM ScaV ScaB Val NotM NotK NtrA Box

/-- The place of the first annotation with a name, -1 if there is none. -/
def ixK (n : List UInt8) : Nat → List Mn → Int
  | _, [] => -1
  | k, m :: r => if m.nm.data.toList = n then (k : Int) else ixK n (k + 1) r
abbrev key (m : Mn) : List UInt8 := m.nm.data.toList
theorem ix_find (n : List UInt8) : ∀ (l : List Mn) (k : Nat), (ixK n k l = -1 ∧ findG key n l = none) ∨ ∃ (j : Nat) (m : Mn), ixK n k l = ((k + j : Nat) : Int) ∧ l[j]? = some m ∧ findG key n l = some m
  | [], k => .inl ⟨rfl, rfl⟩
  | m :: r, k => by
    by_cases h : m.nm.data.toList = n
    · right
      exact ⟨0, m, by rw [ixK, if_pos h]; rfl, rfl, by rw [findG, if_pos h]⟩
    · rw [ixK, if_neg h, findG, if_neg h]
      rcases ix_find n r (k + 1) with h1 | ⟨j, x, h1, h2, h3⟩
      · exact .inl h1
      · right
        exact ⟨j + 1, x, by rw [h1]; congr 1; omega, by simpa using h2, h3⟩
theorem str_eq (a b : ByteArray) {v : Bool} (h : decide (a.data.toList = b.data.toList) = v) : (a.toList == b.toList) = v := by
  rw [← h, ByteArray.toList_eq, ByteArray.toList_eq, Bool.eq_iff_iff, beq_iff_eq, decide_eq_true_eq]
theorem str_ne (a b : ByteArray) {v : Bool} (h : decide (a.data.toList = b.data.toList) = v) : (a.toList != b.toList) = !v := by
  rw [← h, ByteArray.toList_eq, ByteArray.toList_eq, Bool.eq_iff_iff, bne_iff_ne, Bool.not_eq_true', decide_eq_false_iff_not]
theorem drop_m {l : List Mn} {k : Nat} {m : Mn} (h : l[k]? = some m) : l.drop k = m :: l.drop (k + 1) := by
  obtain ⟨h1, h2⟩ := List.getElem?_eq_some_iff.1 h
  rw [List.drop_eq_getElem_cons h1, h2]
/-- What Find returns. -/
def findV (n : List UInt8) (l : List Mn) : SV × Bool := match findG key n l with
  | none => (zv 0, false)
  | some m => (m.v, true)
theorem below7s {B : Nat} {a w : World} (h : Below B a w) {g : Nat} (hg : B ≤ g) (v0 v1 v2 v3 v4 v5 v6 : Value) : Below B a (((((((w.setCell ⟨g, 0, none⟩ v0).setCell ⟨g, 1, none⟩ v1).setCell ⟨g, 2, none⟩ v2).setCell ⟨g, 3, none⟩ v3).setCell ⟨g, 4, none⟩ v4).setCell ⟨g, 5, none⟩ v5).setCell ⟨g, 6, none⟩ v6) :=
  ((((((h.setCell (p := ⟨g, 0, none⟩) hg _).setCell (p := ⟨g, 1, none⟩) hg _).setCell (p := ⟨g, 2, none⟩) hg _).setCell (p := ⟨g, 3, none⟩) hg _).setCell (p := ⟨g, 4, none⟩) hg _).setCell (p := ⟨g, 5, none⟩) hg _).setCell (p := ⟨g, 6, none⟩) hg _
/-- Whether an annotation is set. -/
def flagB (n : List UInt8) (l : List Mn) : Bool := (findV n l).2 && (((findV n l).1.k == 1) && (((findV n l).1.b : Int) == 1))

/-- What Same compares. -/
def k4 (m : Mn) : List UInt8 × Int × Nat × List UInt8 := (m.nm.data.toList, m.v.k, m.v.b, m.v.t.data.toList)
def sameN (a b : List Mn) : Bool := decide (a.map k4 = b.map k4)
theorem map_no {a b : List Mn} {k : Nat} {x y : Mn} (hx : a[k]? = some x) (hy : b[k]? = some y) (hne : k4 x ≠ k4 y) : a.map k4 ≠ b.map k4 := by
  intro e
  have h1 : (a.map k4)[k]? = some (k4 x) := by rw [List.getElem?_map, hx]; rfl
  have h2 : (b.map k4)[k]? = some (k4 y) := by rw [List.getElem?_map, hy]; rfl
  rw [e, h2] at h1
  exact hne (Option.some.inj h1).symm
theorem map_yes {a b : List Mn} (hl : a.length = b.length) (h : ∀ (k : Nat) x y, a[k]? = some x → b[k]? = some y → k4 x = k4 y) : a.map k4 = b.map k4 := by
  apply List.ext_getElem?
  intro k
  rw [List.getElem?_map, List.getElem?_map]
  rcases Nat.lt_or_ge k a.length with hk | hk
  · have h1 : a[k]? = some a[k] := List.getElem?_eq_getElem hk
    have h2 : b[k]? = some (b[k]'(by omega)) := List.getElem?_eq_getElem (by omega)
    rw [h1, h2]
    exact congrArg some (h k _ _ h1 h2)
  · rw [List.getElem?_eq_none hk, List.getElem?_eq_none (by omega)]
theorem map_len {a b : List Mn} (hl : a.length ≠ b.length) : a.map k4 ≠ b.map k4 := by
  intro e
  have := congrArg List.length e
  rw [List.length_map, List.length_map] at this
  exact hl this
theorem below_q {B : Nat} {a w : World} (h : Below B a w) (n : Nat) : Below B a (w.drewN n) := ⟨h.os, h.tape, h.output, h.size, h.block⟩

set_option maxHeartbeats 4000000 in
set_option maxRecDepth 100000 in
theorem same_any (v1 v2 : Value) (la lb : List Mn) (w : World) (ha : KnN w v1 la) (hb : KnN w v2 lb) (hl : la.length ≤ 9223372036854775807) (hl2 : lb.length ≤ 9223372036854775807) :
    Calls Tryz.prog 8 #[v1, v2] w fun e w' => e = .returned (.bool (sameN la lb)) ∧ Below w.heap.size w w' := by
  obtain ⟨a1, cap1, rfl, hcap1, hcells1⟩ := ha
  obtain ⟨a2, cap2, rfl, hcap2, hcells2⟩ := hb
  have H1 := Lib.hid hcells1
  have H2 := Lib.hid hcells2
  clear hcells1 hcells2
  obtain ⟨B, hB⟩ : ∃ B, B = sameN la lb := ⟨_, rfl⟩
  rw [← hB]
  by_cases hlen : la.length = lb.length
  · have d1 : ((la.length : Int) != lb.length) = false := by rw [bne_eq_false_iff_eq]; omega
    have HB := Lib.hid hB
    clear hB
    go_enter Tryz.func8, Tryz.ntmps8
    go_wp2_with fail
    go_loopw [5] (fun iv wr => ∃ k : Nat, k ≤ la.length ∧ iv = .int .i64 k ∧ Hid (Below w.heap.size w wr) ∧ Hid (∀ (j : Nat) x y, la[j]? = some x → lb[j]? = some y → j < k → k4 x = k4 y)) (fun iv _ => la.length - (intOf iv).toNat)
    case atStart => exact ⟨0, by omega, rfl, Lib.hid (Below.refl _ _), Lib.hid (fun j x y _ _ hj => by omega)⟩
    case round =>
      obtain ⟨k, hk, rfl, Hb0, Hk⟩ := hrel
      by_cases hlt : k < la.length
      · have hlt2 : k < lb.length := by omega
        obtain ⟨x, hx⟩ : ∃ x, la[k]? = some x := ⟨_, List.getElem?_eq_getElem hlt⟩
        obtain ⟨y, hy⟩ : ∃ y, lb[k]? = some y := ⟨_, List.getElem?_eq_getElem hlt2⟩
        obtain ⟨kb1, ko1, rfl, hb1, h81⟩ := H1.out k x hx
        obtain ⟨kb2, ko2, rfl, hb2, h82⟩ := H2.out k y hy
        have g1 := h81.below Hb0.out hb1
        have g2 := h82.below Hb0.out hb2
        have c10 := g1.c0
        have c11 := g1.c1
        have c12 := g1.c2
        have c13 := g1.c3
        have c20 := g2.c0
        have c21 := g2.c1
        have c22 := g2.c2
        have c23 := g2.c3
        clear g1 g2 h81 h82
        have hnext : k4 x = k4 y → ∀ (j : Nat) x y, la[j]? = some x → lb[j]? = some y → j < k + 1 → k4 x = k4 y := by
          intro he j x2 y2 hx2 hy2 hj
          rcases Nat.lt_or_ge j k with h5 | h5
          · exact Hk.out j x2 y2 hx2 hy2 h5
          · obtain rfl : j = k := by omega
            rw [hx] at hx2
            rw [hy] at hy2
            cases hx2
            cases hy2
            exact he
        have Hx := Lib.hid hx
        have Hy := Lib.hid hy
        have Hnext := Lib.hid hnext
        clear hx hy hnext
        cases hn : decide (x.nm.data.toList = y.nm.data.toList) with
        | false =>
          have e1 : (x.nm.toList != y.nm.toList) = true := str_ne x.nm y.nm hn
          have e1b : (x.nm.toList == y.nm.toList) = false := str_eq x.nm y.nm hn
          have Hne := Lib.hid (of_decide_eq_false hn)
          clear hn
          have HBf := Lib.hid (show B = false by
            rw [HB.out, sameN, decide_eq_false_iff_not]
            refine map_no Hx.out Hy.out ?_
            intro e; exact Hne.out (congrArg (·.1) e))
          clear HB
          go_wp2_with fail
          go_quiet (fail)
          go_wp2_with fail
          go_ret
          exact ⟨by rw [HBf.out]; rfl, below_q Hb0.out _⟩
        | true =>
          have e1 : (x.nm.toList != y.nm.toList) = false := str_ne x.nm y.nm hn
          have e1b : (x.nm.toList == y.nm.toList) = true := str_eq x.nm y.nm hn
          by_cases hk1 : x.v.k = y.v.k
          · have e2 : (x.v.k != y.v.k) = false := by rw [bne_eq_false_iff_eq]; exact hk1
            by_cases hb1 : x.v.b = y.v.b
            · have e3 : ((x.v.b : Int) != (y.v.b : Int)) = false := by rw [bne_eq_false_iff_eq]; omega
              cases ht : decide (x.v.t.data.toList = y.v.t.data.toList) with
              | false =>
                have e4 : (x.v.t.toList != y.v.t.toList) = true := str_ne x.v.t y.v.t ht
                have e4b : (x.v.t.toList == y.v.t.toList) = false := str_eq x.v.t y.v.t ht
                have Hne := Lib.hid (of_decide_eq_false ht)
                clear hn hk1 hb1 ht
                have HBf := Lib.hid (show B = false by
                  rw [HB.out, sameN, decide_eq_false_iff_not]
                  refine map_no Hx.out Hy.out ?_
                  intro e; exact Hne.out (congrArg (·.2.2.2) e))
                clear HB
                go_wp2_with fail
                go_quiet (fail)
                go_wp2_with fail
                go_ret
                exact ⟨by rw [HBf.out]; rfl, below_q Hb0.out _⟩
              | true =>
                have e4 : (x.v.t.toList != y.v.t.toList) = false := str_ne x.v.t y.v.t ht
                have e4b : (x.v.t.toList == y.v.t.toList) = true := str_eq x.v.t y.v.t ht
                have Heq := Lib.hid (show k4 x = k4 y by unfold k4; rw [of_decide_eq_true hn, hk1, hb1, of_decide_eq_true ht])
                clear hn hk1 hb1 ht
                have Hn := Lib.hid (Hnext.out (Heq.out))
                clear Hnext
                go_wp2_with fail
                go_quiet (fail)
                go_wp2_with fail
                exact ⟨⟨k + 1, by omega, by go_num, Lib.hid (below_q Hb0.out _), Hn⟩, by simp [intOf]; omega⟩
            · have e3 : ((x.v.b : Int) != (y.v.b : Int)) = true := by rw [bne_iff_ne]; omega
              have Hne := Lib.hid hb1
              clear hn hk1 hb1
              have HBf := Lib.hid (show B = false by
                rw [HB.out, sameN, decide_eq_false_iff_not]
                refine map_no Hx.out Hy.out ?_
                intro e; exact Hne.out (congrArg (·.2.2.1) e))
              clear HB
              go_wp2_with fail
              go_quiet (fail)
              go_wp2_with fail
              go_ret
              exact ⟨by rw [HBf.out]; rfl, below_q Hb0.out _⟩
          · have e2 : (x.v.k != y.v.k) = true := by rw [bne_iff_ne]; exact hk1
            have Hne := Lib.hid hk1
            clear hn hk1
            have HBf := Lib.hid (show B = false by
              rw [HB.out, sameN, decide_eq_false_iff_not]
              refine map_no Hx.out Hy.out ?_
              intro e; exact Hne.out (congrArg (·.2.1) e))
            clear HB
            go_wp2_with fail
            go_quiet (fail)
            go_wp2_with fail
            go_ret
            exact ⟨by rw [HBf.out]; rfl, below_q Hb0.out _⟩
      · obtain rfl : k = la.length := by omega
        have HBt := Lib.hid (show B = true by
          rw [HB.out, sameN, decide_eq_true_eq]
          exact map_yes hlen (fun j x y hx hy => Hk.out j x y hx hy (List.getElem?_eq_some_iff.1 hx).1))
        clear HB
        go_wp2_with fail
        go_ret
        exact ⟨by rw [HBt.out]; rfl, Hb0.out⟩
  · have d1 : ((la.length : Int) != lb.length) = true := by rw [bne_iff_ne]; omega
    have HB := Lib.hid (show B = false by rw [hB, sameN, decide_eq_false_iff_not]; exact map_len hlen)
    clear hB
    go_enter Tryz.func8, Tryz.ntmps8
    go_wp2_with fail
    go_ret
    exact ⟨by rw [HB.out]; rfl, Below.refl _ _⟩
end Go.Proofs.YthjpchnogllliaaGreatDoor.NtrB

/- The reference of stage 8: Check. -/
set_option linter.unusedSimpArgs false
set_option linter.unusedVariables false
namespace Go.Proofs.YthjpchnogllliaaGreatDoor.NtrC
open Go.RowKit Nums ScaM ScaV ScaB Val NotM NotK NtrA NtrB Box

/-- The name before a place. -/
def prevN (l : List Mn) : Nat → Option (List UInt8)
  | 0 => none
  | k + 1 => (l[k]?).map key
theorem chk_drop {tg : Int} {l : List Mn} {k : Nat} {m : Mn} (h : l[k]? = some m) : chk tg (prevN l k) ((l.map Mn.nt).drop k) = if chk1 tg (prevN l k) m.nt ≠ 0 then chk1 tg (prevN l k) m.nt else chk tg (prevN l (k + 1)) ((l.map Mn.nt).drop (k + 1)) := by
  have h1 : (l.map Mn.nt)[k]? = some m.nt := by rw [List.getElem?_map, h]; rfl
  obtain ⟨h2, h3⟩ := List.getElem?_eq_some_iff.1 h1
  rw [List.drop_eq_getElem_cons h2, h3, chk]
  have : prevN l (k + 1) = some m.nt.nm := by
    show (l[k]?).map key = _
    rw [h]; rfl
  rw [this]
end Go.Proofs.YthjpchnogllliaaGreatDoor.NtrC

/- A slice of annotations that a call has made itself. -/
set_option linter.unusedSimpArgs false
set_option linter.unusedVariables false
namespace Go.Proofs.YthjpchnogllliaaGreatDoor.OwnN
open Go.RowKit Nums ScaM ScaV Val NotM NotK

def OwnN (w : World) (base : Nat) (v : Value) (l : List Mn) : Prop := w.ownsRow base 44 8 v l.length (l.flatMap fields)
theorem infoN : (Tryz.prog.info? 44).map (fun i => (i.zero, i.size, i.bytes)) = some (some (.agg #[.string ByteArray.empty, .int .i64 0, .int .u64 0, .string ByteArray.empty, .slice none 0 0, .slice none 0 0, .slice none 0 0, .slice none 0 0]), 8, 144) := by kernel_rfl
theorem fields_len (m : Mn) : (fields m).length = 8 := rfl
theorem flat_at : ∀ (l : List Mn) (j q : Nat) (m : Mn), l[j]? = some m → q < 8 → (l.flatMap fields)[j * 8 + q]? = (fields m)[q]?
  | [], j, q, m, h, _ => by simp at h
  | c :: l, 0, q, m, h, hq => by
    simp at h
    subst h
    rw [List.flatMap_cons, List.getElem?_append_left (by rw [fields_len]; omega), Nat.zero_mul, Nat.zero_add]
  | c :: l, j + 1, q, m, h, hq => by
    rw [List.flatMap_cons, List.getElem?_append_right (by rw [fields_len]; omega)]
    rw [fields_len, show (j + 1) * 8 + q - 8 = j * 8 + q by omega]
    exact flat_at l j q m (by simpa using h) hq
theorem flat_len : ∀ l : List Mn, (l.flatMap fields).length = l.length * 8
  | [] => rfl
  | c :: l => by
    rw [List.flatMap_cons, List.length_append, flat_len l, fields_len]
    simp only [List.length_cons]
    omega
section
variable {w w1 : World} {base : Nat} {v : Value} {l : List Mn}
theorem OwnN.nil (w : World) (base : Nat) : OwnN w base (.slice none 0 0) [] := World.ownsRow_nil _ _ _ _
theorem OwnN.below (h : OwnN w base v l) (hb : Below w.heap.size w w1) : OwnN w1 base v l := by
  refine ⟨h.1, h.2.imp id fun ⟨g, cap, cur, h1, h2, h3, h4⟩ => ⟨g, cap, cur, h1, h2, ?_, h4⟩⟩
  rw [hb.block g (Array.getElem?_eq_some_iff.1 h3).1]
  exact h3
theorem OwnN.lt (h : OwnN w base v l) : ∀ k, v.ownBlock = some k → base ≤ k ∧ k < w.heap.size := World.ownsRow.lt h
theorem OwnN.known (h : OwnN w base v l) : KnN w v l := by
  rcases h.2 with ⟨rfl, hn⟩ | ⟨g, cap, cur, rfl, hb, hg, hnc, hcm, hcs, htk⟩
  · have : l = [] := List.length_eq_zero_iff.1 hn
    subst this
    exact known_nil w
  · refine ⟨_, cap, rfl, hnc, fun j m hm => ⟨g, 0, rfl, (Array.getElem?_eq_some_iff.1 hg).1, ?_⟩⟩
    have hj := (List.getElem?_eq_some_iff.1 hm).1
    refine C8.of fun q u hq => ?_
    have hq8 : q < 8 := by
      have := (List.getElem?_eq_some_iff.1 hq).1
      rw [fields_len] at this
      exact this
    rw [Nat.zero_add, World.ownsRow.cellAt h (j * 8 + q) (by omega), flat_at l j q m hm hq8]
    exact hq
theorem fields_flat (m : Mn) : ∀ u ∈ fields m, u.oneCell' = true := by
  intro u hu
  simp only [fields, cellsV, List.mem_cons, List.not_mem_nil, or_false] at hu
  rcases hu with rfl | rfl | rfl | rfl | rfl | rfl | rfl | rfl <;> rfl
/-- The cells of a block that has just been made for one annotation. -/
theorem new_cells (w : World) (m : Mn) (T : TypeId) (k : Nat) (hk : k = w.heap.size) : ∀ (j : Nat) u, (fields m)[j]? = some u → (w.alloc (.cells (fields m).toArray T)).cell? ((⟨k, 0, none⟩ : Addr).add j) = some u := by
  intro j u hj
  subst hk
  have hadd : (⟨w.heap.size, 0, none⟩ : Addr).add j = ⟨w.heap.size, j, none⟩ := by
    unfold Addr.add
    split
    · rename_i h; rw [h]
    · simp
  rw [hadd, World.cell?_alloc_at _ _ _ _ rfl]
  simpa using hj
end
end Go.Proofs.YthjpchnogllliaaGreatDoor.OwnN
