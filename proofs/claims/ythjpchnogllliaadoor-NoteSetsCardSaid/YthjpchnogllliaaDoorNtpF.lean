import Derived.Test.YthjpchnogllliaaDoorNtpK
import Derived.Test.YthjpchnogllliaaDoorNtrB
import Derived.Test.YthjpchnogllliaaDoorNorP
/- The program of stage 8: the place of the first annotation that a function value accepts: by its name, by a greater name. -/
set_option linter.unusedSimpArgs false
set_option linter.unusedVariables false
namespace Go.Proofs.YthjpchnogllliaaDoor.NtpC
open Go.RowKit Nums ScaM ScaV ScaB Val NotM NotK NtrB

/-- The place of the first one that p accepts, -1 if there is none. -/
def ixB (p : Mn → Bool) : Nat → List Mn → Int
  | _, [] => -1
  | k, m :: r => if p m = true then (k : Int) else ixB p (k + 1) r
def nameIs (s : ByteArray) (m : Mn) : Bool := m.nm.toList == s.toList
def nameOver (s : ByteArray) (m : Mn) : Bool := !Op.bytesLess m.nm.toList s.toList && !(m.nm.toList == s.toList)
theorem ixB_is (s : ByteArray) : ∀ (l : List Mn) (k : Nat), ixB (nameIs s) k l = ixK s.data.toList k l
  | [], _ => rfl
  | m :: r, k => by
    unfold ixB ixK
    rw [ixB_is s r]
    cases h : decide (m.nm.data.toList = s.data.toList) with
    | true => rw [if_pos (of_decide_eq_true h), if_pos (show nameIs s m = true from str_eq m.nm s h)]
    | false => rw [if_neg (of_decide_eq_false h), if_neg (by rw [show nameIs s m = false from str_eq m.nm s h]; simp)]

set_option maxHeartbeats 4000000 in
set_option maxRecDepth 100000 in
theorem nameIs_calls (m : Mn) (b : Nat) (s : ByteArray) (w : World) (hs : w.cell? ⟨b, 0, none⟩ = some (.string s)) :
    Calls Tryd.prog 48 #[nn m, .pointer (some ⟨b, 0, none⟩)] w fun e w' => e = .returned (.bool (nameIs s m)) ∧ Below w.heap.size w w' := by
  have h8 := box8 w m 42
  have c0 := h8.c0
  have hlt := World.block_lt_of_cell? _ _ hs
  have hs2 : (w.alloc (.cells (fields m).toArray 42)).cell? ⟨b, 0, none⟩ = some (.string s) := ((((Below.refl _ w).alloc (Nat.le_refl _) (.cells (fields m).toArray 42)).cell (p := ⟨b, 0, none⟩) hlt)).trans hs
  have hne : (b == w.heap.size) = false := by rw [beq_eq_false_iff_ne]; show b ≠ w.heap.size; have : b < w.heap.size := hlt; omega
  clear h8
  unfold nn
  unfold fields cellsV at *
  go_enter Tryd.func48, Tryd.ntmps48
  go_wp2_with fail
  go_ret
  exact ⟨rfl, (Below.refl _ _).alloc (Nat.le_refl _) _⟩

set_option maxHeartbeats 4000000 in
set_option maxRecDepth 100000 in
theorem nameIs_at (v : Value) (l : List Mn) (b : Nat) (s : ByteArray) (w : World) (hk : KnN w v l) (hl : l.length ≤ 9223372036854775807) (hs : w.cell? ⟨b, 0, none⟩ = some (.string s)) :
    Calls Tryd.prog 47 #[v, .func (.func 48) #[] #[.pointer (some ⟨b, 0, none⟩)]] w fun e w' => e = .returned (.int .i64 (ixB (nameIs s) 0 l)) ∧ Below w.heap.size w w' := by
  obtain ⟨a1, cap1, rfl, hcap1, hcells1⟩ := hk
  have H1 := Lib.hid hcells1
  have HS := Lib.hid hs
  have hblt : b < w.heap.size := World.block_lt_of_cell? _ _ hs
  clear hcells1 hs
  obtain ⟨X, hX⟩ : ∃ X, X = ixB (nameIs s) 0 l := ⟨_, rfl⟩
  rw [← hX]
  have HX := Lib.hid hX
  clear hX
  go_enter Tryd.func47, Tryd.ntmps47
  go_wp2_with fail
  go_loopw [5, 8] (fun jv iv wr => ∃ k : Nat, k ≤ l.length ∧ iv = .int .i64 k ∧ Hid (Below w.heap.size w wr) ∧ Hid (X = ixB (nameIs s) k (l.drop k))) (fun jv iv _ => l.length - (intOf iv).toNat)
  case atStart => exact ⟨0, by omega, rfl, Lib.hid (Below.refl _ _), Lib.hid (by rw [List.drop_zero]; exact HX.out)⟩
  case round =>
    obtain ⟨k, hk, rfl, HB, Hk⟩ := hrel
    by_cases hlt : k < l.length
    · obtain ⟨m, hm⟩ : ∃ m, l[k]? = some m := ⟨_, List.getElem?_eq_getElem hlt⟩
      obtain ⟨kb, ko, rfl, hb1, h8⟩ := H1.out k m hm
      have g8 := h8.below HB.out hb1
      obtain ⟨c0, c1, c2, c3, c4, c5, c6, c7⟩ := g8
      have hx := Hk.out
      rw [drop_m hm, ixB] at hx
      have HC := Lib.hid (nameIs_calls m b s wr ((HB.out.cell (p := ⟨b, 0, none⟩) hblt).trans HS.out))
      clear h8 hm
      cases he : nameIs s m with
      | true =>
        rw [if_pos he] at hx
        have Hx := Lib.hid hx
        have HE := Lib.hid he
        clear hx he
        go_wp2_with fail
        refine (HC.out).mono ?_
        rintro _ w2 ⟨rfl, hb2⟩
        rw [HE.out]
        go_wp2_with fail
        go_ret
        exact ⟨by rw [Hx.out]; rfl, HB.out.trans (hb2.mono HB.out.size)⟩
      | false =>
        rw [if_neg (by rw [he]; simp)] at hx
        have Hx := Lib.hid hx
        have HE := Lib.hid he
        clear hx he
        go_wp2_with fail
        refine (HC.out).mono ?_
        rintro _ w2 ⟨rfl, hb2⟩
        rw [HE.out]
        go_wp2_with fail
        exact ⟨⟨k + 1, by omega, by go_num, Lib.hid (HB.out.trans (hb2.mono HB.out.size)), Hx⟩, by simp [intOf]; omega⟩
    · obtain rfl : k = l.length := by omega
      have hx := Hk.out
      rw [List.drop_of_length_le (Nat.le_refl _), ixB] at hx
      have Hx := Lib.hid hx
      clear hx
      go_wp2_with fail
      go_ret
      exact ⟨by rw [Hx.out]; rfl, HB.out⟩

set_option maxHeartbeats 4000000 in
set_option maxRecDepth 100000 in
theorem nameOver_calls (m : Mn) (b : Nat) (s : ByteArray) (w : World) (hs : w.cell? ⟨b, 0, none⟩ = some (.string s)) :
    Calls Tryd.prog 52 #[nn m, .pointer (some ⟨b, 0, none⟩)] w fun e w' => e = .returned (.bool (nameOver s m)) ∧ Below w.heap.size w w' := by
  have h8 := box8 w m 42
  have c0 := h8.c0
  have hlt := World.block_lt_of_cell? _ _ hs
  have hs2 : (w.alloc (.cells (fields m).toArray 42)).cell? ⟨b, 0, none⟩ = some (.string s) := ((((Below.refl _ w).alloc (Nat.le_refl _) (.cells (fields m).toArray 42)).cell (p := ⟨b, 0, none⟩) hlt)).trans hs
  have hne : (b == w.heap.size) = false := by rw [beq_eq_false_iff_ne]; show b ≠ w.heap.size; have : b < w.heap.size := hlt; omega
  clear h8
  unfold nn
  unfold fields cellsV at *
  go_enter Tryd.func52, Tryd.ntmps52
  go_wp2_with fail
  go_ret
  exact ⟨rfl, (Below.refl _ _).alloc (Nat.le_refl _) _⟩

set_option maxHeartbeats 4000000 in
set_option maxRecDepth 100000 in
theorem nameOver_at (v : Value) (l : List Mn) (b : Nat) (s : ByteArray) (w : World) (hk : KnN w v l) (hl : l.length ≤ 9223372036854775807) (hs : w.cell? ⟨b, 0, none⟩ = some (.string s)) :
    Calls Tryd.prog 47 #[v, .func (.func 52) #[] #[.pointer (some ⟨b, 0, none⟩)]] w fun e w' => e = .returned (.int .i64 (ixB (nameOver s) 0 l)) ∧ Below w.heap.size w w' := by
  obtain ⟨a1, cap1, rfl, hcap1, hcells1⟩ := hk
  have H1 := Lib.hid hcells1
  have HS := Lib.hid hs
  have hblt : b < w.heap.size := World.block_lt_of_cell? _ _ hs
  clear hcells1 hs
  obtain ⟨X, hX⟩ : ∃ X, X = ixB (nameOver s) 0 l := ⟨_, rfl⟩
  rw [← hX]
  have HX := Lib.hid hX
  clear hX
  go_enter Tryd.func47, Tryd.ntmps47
  go_wp2_with fail
  go_loopw [5, 8] (fun jv iv wr => ∃ k : Nat, k ≤ l.length ∧ iv = .int .i64 k ∧ Hid (Below w.heap.size w wr) ∧ Hid (X = ixB (nameOver s) k (l.drop k))) (fun jv iv _ => l.length - (intOf iv).toNat)
  case atStart => exact ⟨0, by omega, rfl, Lib.hid (Below.refl _ _), Lib.hid (by rw [List.drop_zero]; exact HX.out)⟩
  case round =>
    obtain ⟨k, hk, rfl, HB, Hk⟩ := hrel
    by_cases hlt : k < l.length
    · obtain ⟨m, hm⟩ : ∃ m, l[k]? = some m := ⟨_, List.getElem?_eq_getElem hlt⟩
      obtain ⟨kb, ko, rfl, hb1, h8⟩ := H1.out k m hm
      have g8 := h8.below HB.out hb1
      obtain ⟨c0, c1, c2, c3, c4, c5, c6, c7⟩ := g8
      have hx := Hk.out
      rw [drop_m hm, ixB] at hx
      have HC := Lib.hid (nameOver_calls m b s wr ((HB.out.cell (p := ⟨b, 0, none⟩) hblt).trans HS.out))
      clear h8 hm
      cases he : nameOver s m with
      | true =>
        rw [if_pos he] at hx
        have Hx := Lib.hid hx
        have HE := Lib.hid he
        clear hx he
        go_wp2_with fail
        refine (HC.out).mono ?_
        rintro _ w2 ⟨rfl, hb2⟩
        rw [HE.out]
        go_wp2_with fail
        go_ret
        exact ⟨by rw [Hx.out]; rfl, HB.out.trans (hb2.mono HB.out.size)⟩
      | false =>
        rw [if_neg (by rw [he]; simp)] at hx
        have Hx := Lib.hid hx
        have HE := Lib.hid he
        clear hx he
        go_wp2_with fail
        refine (HC.out).mono ?_
        rintro _ w2 ⟨rfl, hb2⟩
        rw [HE.out]
        go_wp2_with fail
        exact ⟨⟨k + 1, by omega, by go_num, Lib.hid (HB.out.trans (hb2.mono HB.out.size)), Hx⟩, by simp [intOf]; omega⟩
    · obtain rfl : k = l.length := by omega
      have hx := Hk.out
      rw [List.drop_of_length_le (Nat.le_refl _), ixB] at hx
      have Hx := Lib.hid hx
      clear hx
      go_wp2_with fail
      go_ret
      exact ⟨by rw [Hx.out]; rfl, HB.out⟩

set_option maxHeartbeats 4000000 in
set_option maxRecDepth 100000 in
theorem index_p (v : Value) (l : List Mn) (s : ByteArray) (w : World) (hk : KnN w v l) (hl : l.length ≤ 9223372036854775807) :
    Calls Tryd.prog 29 #[v, .string s] w fun e w' => e = .returned (.int .i64 (ixK s.data.toList 0 l)) ∧ Below w.heap.size w w' := by
  have hb0 : Below w.heap.size w (w.alloc (.cells #[.string s] 9)) := (Below.refl _ _).alloc (Nat.le_refl _) _
  have hc : (w.alloc (.cells #[.string s] 9)).cell? ⟨w.heap.size, 0, none⟩ = some (.string s) := by rw [World.cell?_alloc_at _ _ _ _ rfl]; rfl
  have H0 := Lib.hid (nameIs_at v l w.heap.size s _ (hk.below hb0) hl hc)
  have HB0 := Lib.hid hb0
  rw [ixB_is] at H0
  obtain ⟨a1, cap1, rfl, _, _⟩ := hk
  clear hb0 hc
  generalize ixK s.data.toList 0 l = X at *
  go_enter Tryd.func29, Tryd.ntmps29
  go_wp2_with fail
  refine (H0.out).mono ?_
  rintro _ w1 ⟨rfl, hb⟩
  go_wp2_with fail
  go_ret
  exact ⟨rfl, HB0.out.trans (hb.mono HB0.out.size)⟩
/-- Where a new one goes. -/
def plK (s : ByteArray) (l : List Mn) : Int := if ixB (nameOver s) 0 l < 0 then l.length else ixB (nameOver s) 0 l
set_option maxHeartbeats 4000000 in
set_option maxRecDepth 100000 in
theorem place_p (v : Value) (l : List Mn) (s : ByteArray) (w : World) (hk : KnN w v l) (hl : l.length ≤ 9223372036854775807) :
    Calls Tryd.prog 36 #[v, .string s] w fun e w' => e = .returned (.int .i64 (plK s l)) ∧ Below w.heap.size w w' := by
  have hb0 : Below w.heap.size w (w.alloc (.cells #[.string s] 9)) := (Below.refl _ _).alloc (Nat.le_refl _) _
  have hc : (w.alloc (.cells #[.string s] 9)).cell? ⟨w.heap.size, 0, none⟩ = some (.string s) := by rw [World.cell?_alloc_at _ _ _ _ rfl]; rfl
  have H0 := Lib.hid (nameOver_at v l w.heap.size s _ (hk.below hb0) hl hc)
  have HB0 := Lib.hid hb0
  obtain ⟨a1, cap1, rfl, _, _⟩ := hk
  unfold plK
  clear hb0 hc
  generalize ixB (nameOver s) 0 l = X at *
  by_cases hX : X < 0
  · rw [if_pos hX]
    have d1 : decide (X < 0) = true := decide_eq_true hX
    go_enter Tryd.func36, Tryd.ntmps36
    go_wp2_with fail
    refine (H0.out).mono ?_
    rintro _ w1 ⟨rfl, hb⟩
    go_wp2_with fail
    go_ret
    exact ⟨rfl, HB0.out.trans (hb.mono HB0.out.size)⟩
  · rw [if_neg hX]
    have d1 : decide (X < 0) = false := decide_eq_false hX
    go_enter Tryd.func36, Tryd.ntmps36
    go_wp2_with fail
    refine (H0.out).mono ?_
    rintro _ w1 ⟨rfl, hb⟩
    go_wp2_with fail
    go_ret
    exact ⟨rfl, HB0.out.trans (hb.mono HB0.out.size)⟩
end Go.Proofs.YthjpchnogllliaaDoor.NtpC

/- The program of stage 8: a value's copy; Find; Flag. -/
set_option linter.unusedSimpArgs false
set_option linter.unusedVariables false
namespace Go.Proofs.YthjpchnogllliaaDoor.NtpD
open Go.RowKit Nums ScaM ScaV ScaB Val NotM NotK NtrB NtpC Box CloM CloA CloB CloC NorP

/-- Annotations whose values lie in memory to their depth. -/
def Trs (w : World) (l : List Mn) : Prop := ∃ n, ∀ m ∈ l, Tree w (· < w.heap.size) n m.v
theorem tree_below {w w1 : World} {n : Nat} {v : SV} (h : Tree w (· < w.heap.size) n v) (hb : Below w.heap.size w w1) : Tree w1 (· < w1.heap.size) n v :=
  Tree.mono (fun b hb2 => Nat.lt_of_lt_of_le hb2 hb.size) (fun b hb2 => hb.block b hb2) h
theorem Trs.below {w w1 : World} {l : List Mn} (h : Trs w l) (hb : Below w.heap.size w w1) : Trs w1 l := by
  obtain ⟨n, h⟩ := h
  exact ⟨n, fun m hm => tree_below (h m hm) hb⟩
theorem norm_bits (s : Sc) : { normV s with b := s.b } = s := by
  unfold normV
  split
  · rfl
  · rfl
set_option maxHeartbeats 4000000 in
set_option maxRecDepth 100000 in
theorem clone_p (n : Nat) (v : SV) (w : World) (hv : Tree w (· < w.heap.size) n v) : Calls Tryd.prog 30 #[vv v] w fun e w' => ∃ v', e = .returned (vv v') ∧ sc v' = sc v ∧ Tree w' (fun b => w.heap.size ≤ b ∧ b < w'.heap.size) n v' ∧ Below w.heap.size w w' := by
  have hb0 : Below w.heap.size w ((w.alloc (.cells (cellsV v).toArray 34)).alloc (.cells #[.int .i64 0, .int .u64 0, .string ⟨#[]⟩, .slice none 0 0, .slice none 0 0, .slice none 0 0, .slice none 0 0] 34)) := ((Below.refl _ _).alloc (Nat.le_refl _) _).alloc (by simp) _
  have HN := Lib.hid (norm_p n v _ (tree_below hv hb0))
  have ok := hv.ok
  have Hb := Lib.hid ok.b
  have HB0 := Lib.hid hb0
  have hsb := norm_bits (sc v)
  have HSB := Lib.hid hsb
  clear hv ok hb0 hsb
  obtain ⟨k, b, t, a1, l1, c1, a2, l2, c2, a3, l3, c3, a4, l4, c4⟩ := v
  simp only [vv, cellsV] at *
  have BV0 := Lib.hid ((b7_new w (.int .i64 k) (.int .u64 b) (.string t) (.slice a1 l1 c1) (.slice a2 l2 c2) (.slice a3 l3 c3) (.slice a4 l4 c4) 34).alloc (.cells #[.int .i64 0, .int .u64 0, .string ⟨#[]⟩, .slice none 0 0, .slice none 0 0, .slice none 0 0, .slice none 0 0] 34))
  have BR0 := Lib.hid (b7_new (w.alloc (.cells #[.int .i64 k, .int .u64 b, .string t, .slice a1 l1 c1, .slice a2 l2 c2, .slice a3 l3 c3, .slice a4 l4 c4] 34)) (.int .i64 0) (.int .u64 0) (.string ⟨#[]⟩) (.slice none 0 0) (.slice none 0 0) (.slice none 0 0) (.slice none 0 0) 34)
  rw [World.size_alloc] at BR0
  go_enter Tryd.func30, Tryd.ntmps30
  go_wp2_with fail
  refine (HN.out).mono ?_
  rintro _ w1 ⟨v', rfl, hsc, htr, hb⟩
  obtain ⟨xk, xb, xt, xa1, xl1, xc1, xa2, xl2, xc2, xa3, xl3, xc3, xa4, xl4, xc4⟩ := v'
  simp only [vv]
  have BV := (BV0.out.below hb).alloc (.cells #[.int .i64 xk, .int .u64 xb, .string xt, .slice xa1 xl1 xc1, .slice xa2 xl2 xc2, .slice xa3 xl3 xc3, .slice xa4 xl4 xc4] 34)
  have BR := (BR0.out.below hb).alloc (.cells #[.int .i64 xk, .int .u64 xb, .string xt, .slice xa1 xl1 xc1, .slice xa2 xl2 xc2, .slice xa3 xl3 xc3, .slice xa4 xl4 xc4] 34)
  have BX := b7_new w1 (.int .i64 xk) (.int .u64 xb) (.string xt) (.slice xa1 xl1 xc1) (.slice xa2 xl2 xc2) (.slice xa3 xl3 xc3) (.slice xa4 xl4 xc4) 34
  have hsz : w.heap.size + 1 < w1.heap.size := by have := hb.size; simp at this; omega
  have HT := Lib.hid htr
  have HS := Lib.hid hsc
  have HB1 := Lib.hid (HB0.out.trans (hb.mono (by simp; omega)))
  have HB := Lib.hid hb
  clear htr hsc hb
  clear BX
  have BX := b7_new w1 (.int .i64 xk) (.int .u64 b) (.string xt) (.slice xa1 xl1 xc1) (.slice xa2 xl2 xc2) (.slice xa3 xl3 xc3) (.slice xa4 xl4 xc4) 34
  have BR2 := Lib.hid ((BR0.out.below HB.out).alloc (.cells #[.int .i64 xk, .int .u64 b, .string xt, .slice xa1 xl1 xc1, .slice xa2 xl2 xc2, .slice xa3 xl3 xc3, .slice xa4 xl4 xc4] 34))
  obtain ⟨_, p0, p1, p2, p3, p4, p5, p6, pf⟩ := BV
  clear BR
  go_upto_region 3 with fail
  clear p0 p1 p2 p3 p4 p5 p6 pf
  have ha : Below w1.heap.size w1 (w1.alloc (.cells #[.int .i64 xk, .int .u64 b, .string xt, .slice xa1 xl1 xc1, .slice xa2 xl2 xc2, .slice xa3 xl3 xc3, .slice xa4 xl4 xc4] 34)) := (Below.refl _ _).alloc (Nat.le_refl _) _
  have hBR := BR2.out
  clear BR2
  generalize (w1.alloc (.cells #[.int .i64 xk, .int .u64 b, .string xt, .slice xa1 xl1 xc1, .slice xa2 xl2 xc2, .slice xa3 xl3 xc3, .slice xa4 xl4 xc4] 34)) = W at *
  have BR2 := Lib.hid hBR
  have Ha := Lib.hid ha
  clear ha
  obtain ⟨_, x0, x1, x2, x3, x4, x5, x6, xf⟩ := BX
  obtain ⟨_, r0, r1, r2, r3, r4, r5, r6, rf⟩ := hBR
  go_wp2_with fail
  clear x0 x1 x2 x3 x4 x5 x6 xf r0 r1 r2 r3 r4 r5 r6 rf
  have BF := (((((((BR2.out.set0 (.int .i64 xk)).set1 (.int .u64 b)).set2 (.string xt)).set3 (.slice xa1 xl1 xc1)).set4 (.slice xa2 xl2 xc2)).set5 (.slice xa3 xl3 xc3)).set6 (.slice xa4 xl4 xc4))
  obtain ⟨_, q0, q1, q2, q3, q4, q5, q6, _⟩ := BF
  have e1 : sc ⟨xk, b, xt, xa1, xl1, xc1, xa2, xl2, xc2, xa3, xl3, xc3, xa4, xl4, xc4⟩ = sc ⟨k, b, t, a1, l1, c1, a2, l2, c2, a3, l3, c3, a4, l4, c4⟩ := by
    have h1 := HS.out
    have h2 := HSB.out
    rw [← h1] at h2
    exact h2
  have hsz2 : w.heap.size + 1 < w1.heap.size := hsz
  exact bodyPost_ret (v := .agg #[.int .i64 xk, .int .u64 b, .string xt, .slice xa1 xl1 xc1, .slice xa2 xl2 xc2, .slice xa3 xl3 xc3, .slice xa4 xl4 xc4]) (by simp [results, Tryd.results30, go_sem, q0, q1, q2, q3, q4, q5, q6]) rfl ⟨⟨xk, b, xt, xa1, xl1, xc1, xa2, xl2, xc2, xa3, xl3, xc3, xa4, xl4, xc4⟩, rfl, e1,
    Tree_bits (v := ⟨xk, xb, xt, xa1, xl1, xc1, xa2, xl2, xc2, xa3, xl3, xc3, xa4, xl4, xc4⟩) b Hb.out (tree_fin (w := w) (by simp) HT.out (((((((((Agr.refl w w1).below Ha.out).set (by omega) _ _).set (by omega) _ _).set (by omega) _ _).set (by omega) _ _).set (by omega) _ _).set (by omega) _ _).set (by omega) _ _)),
    below7s (HB1.out.trans (Ha.out.mono HB1.out.size)) (by omega) _ _ _ _ _ _ _⟩
end Go.Proofs.YthjpchnogllliaaDoor.NtpD

/- The program of stage 8: Find, Flag, Same. -/
set_option linter.unusedSimpArgs false
set_option linter.unusedVariables false
namespace Go.Proofs.YthjpchnogllliaaDoor.NtpF
open Go.RowKit Nums ScaM ScaV ScaB Val NotM NotK NtrB NtpC NtpD Box

set_option maxHeartbeats 4000000 in
set_option maxRecDepth 100000 in
theorem pfind (v : Value) (l : List Mn) (s : ByteArray) (w : World) (hL : Tld.Ld w) (hk : KnN w v l) (hl : l.length ≤ 9223372036854775807) (ht : Trs w l) :
    Calls Tryd.prog 13 #[v, .string s] w fun e w' => ∃ X ok, e = .returned (.tuple #[vv X, .bool ok]) ∧ sc X = sc (findV s.data.toList l).1 ∧ ok = (findV s.data.toList l).2 ∧ Below w.heap.size w w' := by
  have hb0 : Below w.heap.size w (w.alloc (.cells #[.int .i64 0, .int .u64 0, .string ⟨#[]⟩, .slice none 0 0, .slice none 0 0, .slice none 0 0, .slice none 0 0] 34)) := (Below.refl _ _).alloc (Nat.le_refl _) _
  have HI := Lib.hid (index_p v l s _ (hk.below hb0) hl)
  have HB0 := Lib.hid hb0
  have BX := Lib.hid (b7_new w (.int .i64 0) (.int .u64 0) (.string ⟨#[]⟩) (.slice none 0 0) (.slice none 0 0) (.slice none 0 0) (.slice none 0 0) 34)
  have HK := Lib.hid hk
  have HTr := Lib.hid ht
  obtain ⟨a1, cap1, rfl, hcap1, hcells1⟩ := hk
  have H1 := Lib.hid hcells1
  clear hcells1 hb0 ht hL
  obtain ⟨Y, hY⟩ : ∃ Y, Y = findV s.data.toList l := ⟨_, rfl⟩
  rw [← hY]
  unfold findV at hY
  rcases ix_find s.data.toList l 0 with ⟨h1, h2⟩ | ⟨j, m, h1, h2, h3⟩
  · rw [h2] at hY
    simp only at hY
    rw [h1] at HI
    have HY := Lib.hid hY
    clear h1 h2 hY
    go_enter Tryd.func13, Tryd.ntmps13
    go_wp2_with fail
    refine (HI.out).mono ?_
    rintro _ w1 ⟨rfl, hb⟩
    have B1 := BX.out.below hb
    have HB1 := Lib.hid (HB0.out.trans (hb.mono HB0.out.size))
    have ⟨_, p0, p1, p2, p3, p4, p5, p6, pf⟩ := B1
    clear hb
    go_wp2_with fail
    have BF := (((((((B1.set0 (.int .i64 0)).set1 (.int .u64 0)).set2 (.string ⟨#[]⟩)).set3 (.slice none 0 0)).set4 (.slice none 0 0)).set5 (.slice none 0 0)).set6 (.slice none 0 0))
    obtain ⟨_, q0, q1, q2, q3, q4, q5, q6, _⟩ := BF
    exact bodyPost_ret (v := .tuple #[.agg #[.int .i64 0, .int .u64 0, .string ⟨#[]⟩, .slice none 0 0, .slice none 0 0, .slice none 0 0, .slice none 0 0], .bool false]) (by simp [results, Tryd.results13, go_sem, q0, q1, q2, q3, q4, q5, q6]) rfl ⟨zv 0, false, rfl, by rw [HY.out], by rw [HY.out], below7s HB1.out (Nat.le_refl _) _ _ _ _ _ _ _⟩
  · rw [h3] at hY
    simp only at hY
    rw [h1, Nat.zero_add] at HI
    have hjl := (List.getElem?_eq_some_iff.1 h2).1
    obtain ⟨kb, ko, rfl, hb1, h8⟩ := H1.out j m h2
    obtain ⟨n, htree⟩ := HTr.out
    have HT := Lib.hid (htree m (List.mem_of_getElem? h2))
    have HY := Lib.hid hY
    have d0 : decide ((j : Int) < 0) = false := decide_eq_false (by omega)
    have H8 := Lib.hid h8
    clear h1 h2 h3 hY htree h8
    go_enter Tryd.func13, Tryd.ntmps13
    go_wp2_with fail
    refine (HI.out).mono ?_
    rintro _ w1 ⟨rfl, hb⟩
    have B1 := Lib.hid (BX.out.below hb)
    have HB1 := Lib.hid (HB0.out.trans (hb.mono HB0.out.size))
    have hwlt : w.heap.size < w1.heap.size := by have := hb.size; simp at this; omega
    have g8 := H8.out.below HB1.out hb1
    obtain ⟨c0, c1, c2, c3, c4, c5, c6, c7⟩ := g8
    clear hb
    go_wp2_with fail
    refine (clone_p n m.v _ (tree_below HT.out HB1.out)).mono ?_
    rintro _ w2 ⟨X, rfl, hsc, htr, hb2⟩
    have B2 := B1.out.below hb2
    have HB2 := Lib.hid (HB1.out.trans (hb2.mono HB1.out.size))
    obtain ⟨xk, xb, xt, xa1, xl1, xc1, xa2, xl2, xc2, xa3, xl3, xc3, xa4, xl4, xc4⟩ := X
    simp only [vv]
    have HS := Lib.hid hsc
    have ⟨_, p0, p1, p2, p3, p4, p5, p6, pf⟩ := B2
    clear hb2 htr hsc c0 c1 c2 c3 c4 c5 c6 c7
    go_wp2_with fail
    have BF := (((((((B2.set0 (.int .i64 xk)).set1 (.int .u64 xb)).set2 (.string xt)).set3 (.slice xa1 xl1 xc1)).set4 (.slice xa2 xl2 xc2)).set5 (.slice xa3 xl3 xc3)).set6 (.slice xa4 xl4 xc4))
    obtain ⟨_, q0, q1, q2, q3, q4, q5, q6, _⟩ := BF
    exact bodyPost_ret (v := .tuple #[.agg #[.int .i64 xk, .int .u64 xb, .string xt, .slice xa1 xl1 xc1, .slice xa2 xl2 xc2, .slice xa3 xl3 xc3, .slice xa4 xl4 xc4], .bool true]) (by simp [results, Tryd.results13, go_sem, q0, q1, q2, q3, q4, q5, q6]) rfl ⟨⟨xk, xb, xt, xa1, xl1, xc1, xa2, xl2, xc2, xa3, xl3, xc3, xa4, xl4, xc4⟩, true, rfl, by rw [HY.out]; exact HS.out, by rw [HY.out], below7s HB2.out (Nat.le_refl _) _ _ _ _ _ _ _⟩

set_option maxHeartbeats 4000000 in
set_option maxRecDepth 100000 in
theorem pflag (v : Value) (l : List Mn) (s : ByteArray) (w : World) (hL : Tld.Ld w) (hk : KnN w v l) (hl : l.length ≤ 9223372036854775807) :
    Calls Tryd.prog 16 #[v, .string s] w fun e w' => e = .returned (.bool (flagB s.data.toList l)) ∧ Below w.heap.size w w' := by
  have HI := Lib.hid (index_p v l s w hk hl)
  obtain ⟨a1, cap1, rfl, hcap1, hcells1⟩ := hk
  have H1 := Lib.hid hcells1
  clear hcells1 hL
  obtain ⟨Y, hY⟩ : ∃ Y, Y = flagB s.data.toList l := ⟨_, rfl⟩
  rw [← hY]
  unfold flagB findV at hY
  rcases ix_find s.data.toList l 0 with ⟨h1, h2⟩ | ⟨j, m, h1, h2, h3⟩
  · rw [h2] at hY
    simp only [Bool.false_and] at hY
    rw [h1] at HI
    have HY := Lib.hid hY
    clear h1 h2 hY
    go_enter Tryd.func16, Tryd.ntmps16
    go_wp2_with fail
    refine (HI.out).mono ?_
    rintro _ w1 ⟨rfl, hb⟩
    go_wp2_with fail
    go_ret
    exact ⟨by rw [HY.out]; rfl, hb⟩
  · rw [h3] at hY
    simp only [Bool.true_and] at hY
    rw [h1, Nat.zero_add] at HI
    have hjl := (List.getElem?_eq_some_iff.1 h2).1
    obtain ⟨kb, ko, rfl, hb1, h8⟩ := H1.out j m h2
    have H8 := Lib.hid h8
    have d0 : decide ((0 : Int) ≤ (j : Int)) = true := decide_eq_true (by omega)
    clear h1 h2 h3 h8
    cases e1 : (m.v.k == 1) with
    | false =>
      rw [e1, Bool.false_and] at hY
      have HY := Lib.hid hY
      clear hY
      go_enter Tryd.func16, Tryd.ntmps16
      go_wp2_with fail
      refine (HI.out).mono ?_
      rintro _ w1 ⟨rfl, hb⟩
      have g8 := H8.out.below hb hb1
      obtain ⟨c0, c1, c2, c3, c4, c5, c6, c7⟩ := g8
      go_wp2_with fail
      go_ret
      exact ⟨by rw [HY.out]; rfl, hb⟩
    | true =>
      rw [e1, Bool.true_and] at hY
      cases e2 : ((m.v.b : Int) == 1) with
      | false =>
        rw [e2] at hY
        have HY := Lib.hid hY
        clear hY
        go_enter Tryd.func16, Tryd.ntmps16
        go_wp2_with fail
        refine (HI.out).mono ?_
        rintro _ w1 ⟨rfl, hb⟩
        have g8 := H8.out.below hb hb1
        obtain ⟨c0, c1, c2, c3, c4, c5, c6, c7⟩ := g8
        go_wp2_with fail
        go_ret
        exact ⟨by rw [HY.out]; rfl, hb⟩
      | true =>
        rw [e2] at hY
        have HY := Lib.hid hY
        clear hY
        go_enter Tryd.func16, Tryd.ntmps16
        go_wp2_with fail
        refine (HI.out).mono ?_
        rintro _ w1 ⟨rfl, hb⟩
        have g8 := H8.out.below hb hb1
        obtain ⟨c0, c1, c2, c3, c4, c5, c6, c7⟩ := g8
        go_wp2_with fail
        go_ret
        exact ⟨by rw [HY.out]; rfl, hb⟩

set_option maxHeartbeats 4000000 in
set_option maxRecDepth 100000 in
theorem sameNote_p (x y : Mn) (w : World) : Calls Tryd.prog 33 #[nn x, nn y] w fun e w' => e = .returned (.bool (decide (k4 x = k4 y))) ∧ Below w.heap.size w w' := by
  obtain ⟨B, hB⟩ : ∃ B, B = decide (k4 x = k4 y) := ⟨_, rfl⟩
  rw [← hB]
  unfold nn
  cases hn : decide (x.nm.data.toList = y.nm.data.toList) with
  | false =>
    have e1b : (x.nm.toList == y.nm.toList) = false := str_eq x.nm y.nm hn
    have hBf : B = false := by
      rw [hB, decide_eq_false_iff_not]
      intro e; exact of_decide_eq_false hn (congrArg (·.1) e)
    have HB := Lib.hid hBf
    clear hn hB hBf
    go_enter Tryd.func33, Tryd.ntmps33
    go_wp2_with fail
    go_ret
    exact ⟨by rw [HB.out]; rfl, ((Below.refl _ _).alloc (Nat.le_refl _) _).alloc (by simp) _⟩
  | true =>
    have e1b : (x.nm.toList == y.nm.toList) = true := str_eq x.nm y.nm hn
    by_cases hk1 : x.v.k = y.v.k
    · have e2 : (x.v.k == y.v.k) = true := by rw [beq_iff_eq]; exact hk1
      by_cases hb1 : x.v.b = y.v.b
      · have e3 : ((x.v.b : Int) == (y.v.b : Int)) = true := by rw [beq_iff_eq]; omega
        cases ht : decide (x.v.t.data.toList = y.v.t.data.toList) with
        | false =>
          have e4b : (x.v.t.toList == y.v.t.toList) = false := str_eq x.v.t y.v.t ht
          have hBf : B = false := by
            rw [hB, decide_eq_false_iff_not]
            intro e; exact of_decide_eq_false ht (congrArg (·.2.2.2) e)
          have HB := Lib.hid hBf
          clear hn hB hBf ht hk1 hb1
          go_enter Tryd.func33, Tryd.ntmps33
          go_wp2_with fail
          go_ret
          exact ⟨by rw [HB.out]; rfl, ((Below.refl _ _).alloc (Nat.le_refl _) _).alloc (by simp) _⟩
        | true =>
          have e4b : (x.v.t.toList == y.v.t.toList) = true := str_eq x.v.t y.v.t ht
          have hBf : B = true := by
            rw [hB, decide_eq_true_eq]
            unfold k4; rw [of_decide_eq_true hn, hk1, hb1, of_decide_eq_true ht]
          have HB := Lib.hid hBf
          clear hn hB hBf ht hk1 hb1
          go_enter Tryd.func33, Tryd.ntmps33
          go_wp2_with fail
          go_ret
          exact ⟨by rw [HB.out]; rfl, ((Below.refl _ _).alloc (Nat.le_refl _) _).alloc (by simp) _⟩
      · have e3 : ((x.v.b : Int) == (y.v.b : Int)) = false := by rw [beq_eq_false_iff_ne]; omega
        have hBf : B = false := by
          rw [hB, decide_eq_false_iff_not]
          intro e; exact hb1 (congrArg (·.2.2.1) e)
        have HB := Lib.hid hBf
        clear hn hB hBf hk1 hb1
        go_enter Tryd.func33, Tryd.ntmps33
        go_wp2_with fail
        go_ret
        exact ⟨by rw [HB.out]; rfl, ((Below.refl _ _).alloc (Nat.le_refl _) _).alloc (by simp) _⟩
    · have e2 : (x.v.k == y.v.k) = false := by rw [beq_eq_false_iff_ne]; exact hk1
      have hBf : B = false := by
        rw [hB, decide_eq_false_iff_not]
        intro e; exact hk1 (congrArg (·.2.1) e)
      have HB := Lib.hid hBf
      clear hn hB hBf hk1
      go_enter Tryd.func33, Tryd.ntmps33
      go_wp2_with fail
      go_ret
      exact ⟨by rw [HB.out]; rfl, ((Below.refl _ _).alloc (Nat.le_refl _) _).alloc (by simp) _⟩

set_option maxHeartbeats 4000000 in
set_option maxRecDepth 100000 in
theorem equal_p (v1 v2 : Value) (la lb : List Mn) (w : World) (ha : KnN w v1 la) (hb : KnN w v2 lb) (hl : la.length ≤ 9223372036854775807) (hl2 : lb.length ≤ 9223372036854775807) :
    Calls Tryd.prog 32 #[v1, v2, .func (.func 33) #[] #[]] w fun e w' => e = .returned (.bool (sameN la lb)) ∧ Below w.heap.size w w' := by
  obtain ⟨a1, cap1, rfl, hcap1, hcells1⟩ := ha
  obtain ⟨a2, cap2, rfl, hcap2, hcells2⟩ := hb
  have H1 := Lib.hid hcells1
  have H2 := Lib.hid hcells2
  clear hcells1 hcells2
  obtain ⟨B, hB⟩ : ∃ B, B = sameN la lb := ⟨_, rfl⟩
  rw [← hB]
  by_cases hlen : la.length = lb.length
  · have d1 : ((la.length : Int) != lb.length) = false := by rw [bne_eq_false_iff_eq]; omega
    have HB := Lib.hid hB
    have Hlen := Lib.hid hlen
    clear hB hlen
    go_enter Tryd.func32, Tryd.ntmps32
    go_wp2_with fail
    go_loopw [17, 7, 8, 9] (fun iv _ _ _ wr => ∃ k : Nat, k ≤ la.length ∧ iv = .int .i64 k ∧ Hid (Below w.heap.size w wr) ∧ Hid (∀ (j : Nat) x y, la[j]? = some x → lb[j]? = some y → j < k → k4 x = k4 y)) (fun iv _ _ _ _ => la.length - (intOf iv).toNat)
    case atStart => exact ⟨0, by omega, rfl, Lib.hid (Below.refl _ _), Lib.hid (fun j x y _ _ hj => by omega)⟩
    case round =>
      obtain ⟨k, hk, rfl, Hb0, Hk⟩ := hrel
      by_cases hlt : k < la.length
      · have Hlt2 : Hid (k < lb.length) := Lib.hid (by have := Hlen.out; omega)
        obtain ⟨x, hx⟩ : ∃ x, la[k]? = some x := ⟨_, List.getElem?_eq_getElem hlt⟩
        obtain ⟨y, hy⟩ : ∃ y, lb[k]? = some y := ⟨_, List.getElem?_eq_getElem Hlt2.out⟩
        obtain ⟨kb1, ko1, rfl, hb1, h81⟩ := H1.out k x hx
        obtain ⟨kb2, ko2, rfl, hb2, h82⟩ := H2.out k y hy
        have hA1 : Below wr.heap.size wr (wr.alloc (.cells (fields x).toArray 42)) := (Below.refl _ _).alloc (Nat.le_refl _) _
        have HA2 : Hid (Below wr.heap.size wr ((wr.alloc (.cells (fields x).toArray 42)).alloc (.cells (fields y).toArray 42))) := Lib.hid (hA1.alloc hA1.size _)
        have g1 := h81.below Hb0.out hb1
        have g2 := (h82.below Hb0.out hb2).below hA1 (Nat.lt_of_lt_of_le hb2 Hb0.out.size)
        have HX := Lib.hid ((box8 wr x 42).below ((Below.refl _ _).alloc (Nat.le_refl _) (.cells (fields y).toArray 42)) (by simp))
        have HY := Lib.hid (box8 (wr.alloc (.cells (fields x).toArray 42)) y 42)
        have hne2 : (kb2 == wr.heap.size) = false := by rw [beq_eq_false_iff_ne]; have := Hb0.out.size; omega
        obtain ⟨c0, c1, c2, c3, c4, c5, c6, c7⟩ := g1
        obtain ⟨d0, d1', d2, d3, d4, d5, d6, d7⟩ := g2
        have hnext : k4 x = k4 y → ∀ (j : Nat) x y, la[j]? = some x → lb[j]? = some y → j < k + 1 → k4 x = k4 y := by
          intro he j x2 y2 hx2 hy2 hj
          rcases Nat.lt_or_ge j k with h5 | h5
          · exact Hk.out j x2 y2 hx2 hy2 h5
          · obtain rfl : j = k := by omega
            rw [hx] at hx2
            rw [hy] at hy2
            cases hx2
            cases hy2
            exact he
        have Hx := Lib.hid hx
        have Hy := Lib.hid hy
        have Hnext := Lib.hid hnext
        have HC := Lib.hid fun (W : World) => sameNote_p x y W
        have hlt2 := Hlt2.out
        clear hx hy hnext h81 h82 hA1
        unfold fields cellsV at *
        cases hD : decide (k4 x = k4 y) with
        | false =>
          have HBf := Lib.hid (show B = false by
            rw [HB.out, sameN, decide_eq_false_iff_not]
            exact map_no Hx.out Hy.out (of_decide_eq_false hD))
          have HD := Lib.hid hD
          clear hD
          go_wp2_with fail
          refine (HC.out _).mono ?_
          rintro _ w2 ⟨rfl, hb2c⟩
          rw [HD.out]
          have HB2 := Lib.hid (Hb0.out.trans ((HA2.out.trans (hb2c.mono HA2.out.size)).mono Hb0.out.size))
          clear c0 c1 c2 c3 c4 c5 c6 c7 d0 d1' d2 d3 d4 d5 d6 d7 hb2c
          go_wp2_with fail
          go_ret
          exact ⟨by rw [HBf.out]; rfl, HB2.out⟩
        | true =>
          have Hn := Lib.hid (Hnext.out (of_decide_eq_true hD))
          have HD := Lib.hid hD
          clear hD Hnext
          go_wp2_with fail
          refine (HC.out _).mono ?_
          rintro _ w2 ⟨rfl, hb2c⟩
          rw [HD.out]
          have HB2 := Lib.hid (Hb0.out.trans ((HA2.out.trans (hb2c.mono HA2.out.size)).mono Hb0.out.size))
          clear c0 c1 c2 c3 c4 c5 c6 c7 d0 d1' d2 d3 d4 d5 d6 d7 hb2c
          go_wp2_with fail
          exact ⟨⟨k + 1, by omega, by go_num, HB2, Hn⟩, by simp [intOf]; omega⟩
      · have HBt := Lib.hid (show B = true by
          rw [HB.out, sameN, decide_eq_true_eq]
          exact map_yes Hlen.out (fun j x y hx hy => Hk.out j x y hx hy (by have := (List.getElem?_eq_some_iff.1 hx).1; omega)))
        obtain rfl : k = la.length := by omega
        clear HB Hk
        go_wp2_with fail
        go_ret
        exact ⟨by rw [HBt.out]; rfl, Hb0.out⟩
  · have d1 : ((la.length : Int) != lb.length) = true := by rw [bne_iff_ne]; omega
    have HB := Lib.hid (show B = false by rw [hB, sameN, decide_eq_false_iff_not]; exact map_len hlen)
    clear hB
    go_enter Tryd.func32, Tryd.ntmps32
    go_wp2_with fail
    go_ret
    exact ⟨by rw [HB.out]; rfl, Below.refl _ _⟩

set_option maxHeartbeats 4000000 in
set_option maxRecDepth 100000 in
theorem psame (v1 v2 : Value) (la lb : List Mn) (w : World) (hL : Tld.Ld w) (ha : KnN w v1 la) (hb : KnN w v2 lb) (hl : la.length ≤ 9223372036854775807) (hl2 : lb.length ≤ 9223372036854775807) :
    Calls Tryd.prog 18 #[v1, v2] w fun e w' => e = .returned (.bool (sameN la lb)) ∧ Below w.heap.size w w' := by
  have HE := Lib.hid (equal_p v1 v2 la lb w ha hb hl hl2)
  generalize sameN la lb = B at *
  clear ha hb
  go_enter Tryd.func18, Tryd.ntmps18
  go_wp2_with fail
  refine (HE.out).mono ?_
  rintro _ w1 ⟨rfl, hb⟩
  go_wp2_with fail
  go_ret
  exact ⟨rfl, hb⟩
end Go.Proofs.YthjpchnogllliaaDoor.NtpF
