import Derived.Test.YthjpchnogllliaaDoorNtpK
import Derived.Test.YthjpchnogllliaaDoorNtrB
import Derived.Test.YthjpchnogllliaaDoorNorP
/- The program of stage 8: the place of the first annotation that a function value accepts: by its name, by a greater name. -/
set_option linter.unusedSimpArgs false
set_option linter.unusedVariables false
namespace Go.Proofs.YthjpchnogllliaaDoor.NtpC
open Go.RowKit Nums ScaM ScaV ScaB Val NotM NotK NtrB

/-- The place of the first one that p accepts, -1 if there is none. -/
def ixB (p : Mn → Bool) : Nat → List Mn → Int
  | _, [] => -1
  | k, m :: r => if p m = true then (k : Int) else ixB p (k + 1) r
def nameIs (s : ByteArray) (m : Mn) : Bool := m.nm.toList == s.toList
def nameOver (s : ByteArray) (m : Mn) : Bool := !Op.bytesLess m.nm.toList s.toList && !(m.nm.toList == s.toList)
theorem ixB_is (s : ByteArray) : ∀ (l : List Mn) (k : Nat), ixB (nameIs s) k l = ixK s.data.toList k l
  | [], _ => rfl
  | m :: r, k => by
    unfold ixB ixK
    rw [ixB_is s r]
    cases h : decide (m.nm.data.toList = s.data.toList) with
    | true => rw [if_pos (of_decide_eq_true h), if_pos (show nameIs s m = true from str_eq m.nm s h)]
    | false => rw [if_neg (of_decide_eq_false h), if_neg (by rw [show nameIs s m = false from str_eq m.nm s h]; simp)]

set_option maxHeartbeats 4000000 in
set_option maxRecDepth 100000 in
theorem nameIs_calls (m : Mn) (b : Nat) (s : ByteArray) (w : World) (hs : w.cell? ⟨b, 0, none⟩ = some (.string s)) :
    Calls Tryd.prog 48 #[nn m, .pointer (some ⟨b, 0, none⟩)] w fun e w' => e = .returned (.bool (nameIs s m)) ∧ Below w.heap.size w w' := by
  have h8 := box8 w m 42
  have c0 := h8.c0
  have hlt := World.block_lt_of_cell? _ _ hs
  have hs2 : (w.alloc (.cells (fields m).toArray 42)).cell? ⟨b, 0, none⟩ = some (.string s) := ((((Below.refl _ w).alloc (Nat.le_refl _) (.cells (fields m).toArray 42)).cell (p := ⟨b, 0, none⟩) hlt)).trans hs
  have hne : (b == w.heap.size) = false := by rw [beq_eq_false_iff_ne]; show b ≠ w.heap.size; have : b < w.heap.size := hlt; omega
  clear h8
  unfold nn
  unfold fields cellsV at *
  go_enter Tryd.func48, Tryd.ntmps48
  go_wp2_with fail
  go_ret
  exact ⟨rfl, (Below.refl _ _).alloc (Nat.le_refl _) _⟩

set_option maxHeartbeats 4000000 in
set_option maxRecDepth 100000 in
theorem nameIs_at (v : Value) (l : List Mn) (b : Nat) (s : ByteArray) (w : World) (hk : KnN w v l) (hl : l.length ≤ 9223372036854775807) (hs : w.cell? ⟨b, 0, none⟩ = some (.string s)) :
    Calls Tryd.prog 47 #[v, .func (.func 48) #[] #[.pointer (some ⟨b, 0, none⟩)]] w fun e w' => e = .returned (.int .i64 (ixB (nameIs s) 0 l)) ∧ Below w.heap.size w w' := by
  obtain ⟨a1, cap1, rfl, hcap1, hcells1⟩ := hk
  have H1 := Lib.hid hcells1
  have HS := Lib.hid hs
  have hblt : b < w.heap.size := World.block_lt_of_cell? _ _ hs
  clear hcells1 hs
  obtain ⟨X, hX⟩ : ∃ X, X = ixB (nameIs s) 0 l := ⟨_, rfl⟩
  rw [← hX]
  have HX := Lib.hid hX
  clear hX
  go_enter Tryd.func47, Tryd.ntmps47
  go_wp2_with fail
  go_loopw [5, 8] (fun jv iv wr => ∃ k : Nat, k ≤ l.length ∧ iv = .int .i64 k ∧ Hid (Below w.heap.size w wr) ∧ Hid (X = ixB (nameIs s) k (l.drop k))) (fun jv iv _ => l.length - (intOf iv).toNat)
  case atStart => exact ⟨0, by omega, rfl, Lib.hid (Below.refl _ _), Lib.hid (by rw [List.drop_zero]; exact HX.out)⟩
  case round =>
    obtain ⟨k, hk, rfl, HB, Hk⟩ := hrel
    by_cases hlt : k < l.length
    · obtain ⟨m, hm⟩ : ∃ m, l[k]? = some m := ⟨_, List.getElem?_eq_getElem hlt⟩
      obtain ⟨kb, ko, rfl, hb1, h8⟩ := H1.out k m hm
      have g8 := h8.below HB.out hb1
      obtain ⟨c0, c1, c2, c3, c4, c5, c6, c7⟩ := g8
      have hx := Hk.out
      rw [drop_m hm, ixB] at hx
      have HC := Lib.hid (nameIs_calls m b s wr ((HB.out.cell (p := ⟨b, 0, none⟩) hblt).trans HS.out))
      clear h8 hm
      cases he : nameIs s m with
      | true =>
        rw [if_pos he] at hx
        have Hx := Lib.hid hx
        have HE := Lib.hid he
        clear hx he
        go_wp2_with fail
        refine (HC.out).mono ?_
        rintro _ w2 ⟨rfl, hb2⟩
        rw [HE.out]
        go_wp2_with fail
        go_ret
        exact ⟨by rw [Hx.out]; rfl, HB.out.trans (hb2.mono HB.out.size)⟩
      | false =>
        rw [if_neg (by rw [he]; simp)] at hx
        have Hx := Lib.hid hx
        have HE := Lib.hid he
        clear hx he
        go_wp2_with fail
        refine (HC.out).mono ?_
        rintro _ w2 ⟨rfl, hb2⟩
        rw [HE.out]
        go_wp2_with fail
        exact ⟨⟨k + 1, by omega, by go_num, Lib.hid (HB.out.trans (hb2.mono HB.out.size)), Hx⟩, by simp [intOf]; omega⟩
    · obtain rfl : k = l.length := by omega
      have hx := Hk.out
      rw [List.drop_of_length_le (Nat.le_refl _), ixB] at hx
      have Hx := Lib.hid hx
      clear hx
      go_wp2_with fail
      go_ret
      exact ⟨by rw [Hx.out]; rfl, HB.out⟩

set_option maxHeartbeats 4000000 in
set_option maxRecDepth 100000 in
theorem nameOver_calls (m : Mn) (b : Nat) (s : ByteArray) (w : World) (hs : w.cell? ⟨b, 0, none⟩ = some (.string s)) :
    Calls Tryd.prog 52 #[nn m, .pointer (some ⟨b, 0, none⟩)] w fun e w' => e = .returned (.bool (nameOver s m)) ∧ Below w.heap.size w w' := by
  have h8 := box8 w m 42
  have c0 := h8.c0
  have hlt := World.block_lt_of_cell? _ _ hs
  have hs2 : (w.alloc (.cells (fields m).toArray 42)).cell? ⟨b, 0, none⟩ = some (.string s) := ((((Below.refl _ w).alloc (Nat.le_refl _) (.cells (fields m).toArray 42)).cell (p := ⟨b, 0, none⟩) hlt)).trans hs
  have hne : (b == w.heap.size) = false := by rw [beq_eq_false_iff_ne]; show b ≠ w.heap.size; have : b < w.heap.size := hlt; omega
  clear h8
  unfold nn
  unfold fields cellsV at *
  go_enter Tryd.func52, Tryd.ntmps52
  go_wp2_with fail
  go_ret
  exact ⟨rfl, (Below.refl _ _).alloc (Nat.le_refl _) _⟩

set_option maxHeartbeats 4000000 in
set_option maxRecDepth 100000 in
theorem nameOver_at (v : Value) (l : List Mn) (b : Nat) (s : ByteArray) (w : World) (hk : KnN w v l) (hl : l.length ≤ 9223372036854775807) (hs : w.cell? ⟨b, 0, none⟩ = some (.string s)) :
    Calls Tryd.prog 47 #[v, .func (.func 52) #[] #[.pointer (some ⟨b, 0, none⟩)]] w fun e w' => e = .returned (.int .i64 (ixB (nameOver s) 0 l)) ∧ Below w.heap.size w w' := by
  obtain ⟨a1, cap1, rfl, hcap1, hcells1⟩ := hk
  have H1 := Lib.hid hcells1
  have HS := Lib.hid hs
  have hblt : b < w.heap.size := World.block_lt_of_cell? _ _ hs
  clear hcells1 hs
  obtain ⟨X, hX⟩ : ∃ X, X = ixB (nameOver s) 0 l := ⟨_, rfl⟩
  rw [← hX]
  have HX := Lib.hid hX
  clear hX
  go_enter Tryd.func47, Tryd.ntmps47
  go_wp2_with fail
  go_loopw [5, 8] (fun jv iv wr => ∃ k : Nat, k ≤ l.length ∧ iv = .int .i64 k ∧ Hid (Below w.heap.size w wr) ∧ Hid (X = ixB (nameOver s) k (l.drop k))) (fun jv iv _ => l.length - (intOf iv).toNat)
  case atStart => exact ⟨0, by omega, rfl, Lib.hid (Below.refl _ _), Lib.hid (by rw [List.drop_zero]; exact HX.out)⟩
  case round =>
    obtain ⟨k, hk, rfl, HB, Hk⟩ := hrel
    by_cases hlt : k < l.length
    · obtain ⟨m, hm⟩ : ∃ m, l[k]? = some m := ⟨_, List.getElem?_eq_getElem hlt⟩
      obtain ⟨kb, ko, rfl, hb1, h8⟩ := H1.out k m hm
      have g8 := h8.below HB.out hb1
      obtain ⟨c0, c1, c2, c3, c4, c5, c6, c7⟩ := g8
      have hx := Hk.out
      rw [drop_m hm, ixB] at hx
      have HC := Lib.hid (nameOver_calls m b s wr ((HB.out.cell (p := ⟨b, 0, none⟩) hblt).trans HS.out))
      clear h8 hm
      cases he : nameOver s m with
      | true =>
        rw [if_pos he] at hx
        have Hx := Lib.hid hx
        have HE := Lib.hid he
        clear hx he
        go_wp2_with fail
        refine (HC.out).mono ?_
        rintro _ w2 ⟨rfl, hb2⟩
        rw [HE.out]
        go_wp2_with fail
        go_ret
        exact ⟨by rw [Hx.out]; rfl, HB.out.trans (hb2.mono HB.out.size)⟩
      | false =>
        rw [if_neg (by rw [he]; simp)] at hx
        have Hx := Lib.hid hx
        have HE := Lib.hid he
        clear hx he
        go_wp2_with fail
        refine (HC.out).mono ?_
        rintro _ w2 ⟨rfl, hb2⟩
        rw [HE.out]
        go_wp2_with fail
        exact ⟨⟨k + 1, by omega, by go_num, Lib.hid (HB.out.trans (hb2.mono HB.out.size)), Hx⟩, by simp [intOf]; omega⟩
    · obtain rfl : k = l.length := by omega
      have hx := Hk.out
      rw [List.drop_of_length_le (Nat.le_refl _), ixB] at hx
      have Hx := Lib.hid hx
      clear hx
      go_wp2_with fail
      go_ret
      exact ⟨by rw [Hx.out]; rfl, HB.out⟩

set_option maxHeartbeats 4000000 in
set_option maxRecDepth 100000 in
theorem index_p (v : Value) (l : List Mn) (s : ByteArray) (w : World) (hk : KnN w v l) (hl : l.length ≤ 9223372036854775807) :
    Calls Tryd.prog 29 #[v, .string s] w fun e w' => e = .returned (.int .i64 (ixK s.data.toList 0 l)) ∧ Below w.heap.size w w' := by
  have hb0 : Below w.heap.size w (w.alloc (.cells #[.string s] 9)) := (Below.refl _ _).alloc (Nat.le_refl _) _
  have hc : (w.alloc (.cells #[.string s] 9)).cell? ⟨w.heap.size, 0, none⟩ = some (.string s) := by rw [World.cell?_alloc_at _ _ _ _ rfl]; rfl
  have H0 := Lib.hid (nameIs_at v l w.heap.size s _ (hk.below hb0) hl hc)
  have HB0 := Lib.hid hb0
  rw [ixB_is] at H0
  obtain ⟨a1, cap1, rfl, _, _⟩ := hk
  clear hb0 hc
  generalize ixK s.data.toList 0 l = X at *
  go_enter Tryd.func29, Tryd.ntmps29
  go_wp2_with fail
  refine (H0.out).mono ?_
  rintro _ w1 ⟨rfl, hb⟩
  go_wp2_with fail
  go_ret
  exact ⟨rfl, HB0.out.trans (hb.mono HB0.out.size)⟩
/-- Where a new one goes. -/
def plK (s : ByteArray) (l : List Mn) : Int := if ixB (nameOver s) 0 l < 0 then l.length else ixB (nameOver s) 0 l
set_option maxHeartbeats 4000000 in
set_option maxRecDepth 100000 in
theorem place_p (v : Value) (l : List Mn) (s : ByteArray) (w : World) (hk : KnN w v l) (hl : l.length ≤ 9223372036854775807) :
    Calls Tryd.prog 36 #[v, .string s] w fun e w' => e = .returned (.int .i64 (plK s l)) ∧ Below w.heap.size w w' := by
  have hb0 : Below w.heap.size w (w.alloc (.cells #[.string s] 9)) := (Below.refl _ _).alloc (Nat.le_refl _) _
  have hc : (w.alloc (.cells #[.string s] 9)).cell? ⟨w.heap.size, 0, none⟩ = some (.string s) := by rw [World.cell?_alloc_at _ _ _ _ rfl]; rfl
  have H0 := Lib.hid (nameOver_at v l w.heap.size s _ (hk.below hb0) hl hc)
  have HB0 := Lib.hid hb0
  obtain ⟨a1, cap1, rfl, _, _⟩ := hk
  unfold plK
  clear hb0 hc
  generalize ixB (nameOver s) 0 l = X at *
  by_cases hX : X < 0
  · rw [if_pos hX]
    have d1 : decide (X < 0) = true := decide_eq_true hX
    go_enter Tryd.func36, Tryd.ntmps36
    go_wp2_with fail
    refine (H0.out).mono ?_
    rintro _ w1 ⟨rfl, hb⟩
    go_wp2_with fail
    go_ret
    exact ⟨rfl, HB0.out.trans (hb.mono HB0.out.size)⟩
  · rw [if_neg hX]
    have d1 : decide (X < 0) = false := decide_eq_false hX
    go_enter Tryd.func36, Tryd.ntmps36
    go_wp2_with fail
    refine (H0.out).mono ?_
    rintro _ w1 ⟨rfl, hb⟩
    go_wp2_with fail
    go_ret
    exact ⟨rfl, HB0.out.trans (hb.mono HB0.out.size)⟩
end Go.Proofs.YthjpchnogllliaaDoor.NtpC

/- The program of stage 8: a value's copy; Find; Flag. -/
set_option linter.unusedSimpArgs false
set_option linter.unusedVariables false
namespace Go.Proofs.YthjpchnogllliaaDoor.NtpD
open Go.RowKit Nums ScaM ScaV ScaB Val NotM NotK NtrB NtpC Box CloM CloA CloB CloC NorP

/-- Annotations whose values lie in memory to their depth. -/
def Trs (w : World) (l : List Mn) : Prop := ∃ n, ∀ m ∈ l, Tree w (· < w.heap.size) n m.v
theorem tree_below {w w1 : World} {n : Nat} {v : SV} (h : Tree w (· < w.heap.size) n v) (hb : Below w.heap.size w w1) : Tree w1 (· < w1.heap.size) n v :=
  Tree.mono (fun b hb2 => Nat.lt_of_lt_of_le hb2 hb.size) (fun b hb2 => hb.block b hb2) h
theorem Trs.below {w w1 : World} {l : List Mn} (h : Trs w l) (hb : Below w.heap.size w w1) : Trs w1 l := by
  obtain ⟨n, h⟩ := h
  exact ⟨n, fun m hm => tree_below (h m hm) hb⟩
theorem norm_bits (s : Sc) : { normV s with b := s.b } = s := by
  unfold normV
  split
  · rfl
  · rfl
set_option maxHeartbeats 4000000 in
set_option maxRecDepth 100000 in
theorem clone_p (n : Nat) (v : SV) (w : World) (hv : Tree w (· < w.heap.size) n v) : Calls Tryd.prog 30 #[vv v] w fun e w' => ∃ v', e = .returned (vv v') ∧ sc v' = sc v ∧ Tree w' (fun b => w.heap.size ≤ b ∧ b < w'.heap.size) n v' ∧ Below w.heap.size w w' := by
  have hb0 : Below w.heap.size w ((w.alloc (.cells (cellsV v).toArray 34)).alloc (.cells #[.int .i64 0, .int .u64 0, .string ⟨#[]⟩, .slice none 0 0, .slice none 0 0, .slice none 0 0, .slice none 0 0] 34)) := ((Below.refl _ _).alloc (Nat.le_refl _) _).alloc (by simp) _
  have HN := Lib.hid (norm_p n v _ (tree_below hv hb0))
  have ok := hv.ok
  have Hb := Lib.hid ok.b
  have HB0 := Lib.hid hb0
  have hsb := norm_bits (sc v)
  have HSB := Lib.hid hsb
  clear hv ok hb0 hsb
  obtain ⟨k, b, t, a1, l1, c1, a2, l2, c2, a3, l3, c3, a4, l4, c4⟩ := v
  simp only [vv, cellsV] at *
  have BV0 := Lib.hid ((b7_new w (.int .i64 k) (.int .u64 b) (.string t) (.slice a1 l1 c1) (.slice a2 l2 c2) (.slice a3 l3 c3) (.slice a4 l4 c4) 34).alloc (.cells #[.int .i64 0, .int .u64 0, .string ⟨#[]⟩, .slice none 0 0, .slice none 0 0, .slice none 0 0, .slice none 0 0] 34))
  have BR0 := Lib.hid (b7_new (w.alloc (.cells #[.int .i64 k, .int .u64 b, .string t, .slice a1 l1 c1, .slice a2 l2 c2, .slice a3 l3 c3, .slice a4 l4 c4] 34)) (.int .i64 0) (.int .u64 0) (.string ⟨#[]⟩) (.slice none 0 0) (.slice none 0 0) (.slice none 0 0) (.slice none 0 0) 34)
  rw [World.size_alloc] at BR0
  go_enter Tryd.func30, Tryd.ntmps30
  go_wp2_with fail
  refine (HN.out).mono ?_
  rintro _ w1 ⟨v', rfl, hsc, htr, hb⟩
  obtain ⟨xk, xb, xt, xa1, xl1, xc1, xa2, xl2, xc2, xa3, xl3, xc3, xa4, xl4, xc4⟩ := v'
  simp only [vv]
  have BV := (BV0.out.below hb).alloc (.cells #[.int .i64 xk, .int .u64 xb, .string xt, .slice xa1 xl1 xc1, .slice xa2 xl2 xc2, .slice xa3 xl3 xc3, .slice xa4 xl4 xc4] 34)
  have BR := (BR0.out.below hb).alloc (.cells #[.int .i64 xk, .int .u64 xb, .string xt, .slice xa1 xl1 xc1, .slice xa2 xl2 xc2, .slice xa3 xl3 xc3, .slice xa4 xl4 xc4] 34)
  have BX := b7_new w1 (.int .i64 xk) (.int .u64 xb) (.string xt) (.slice xa1 xl1 xc1) (.slice xa2 xl2 xc2) (.slice xa3 xl3 xc3) (.slice xa4 xl4 xc4) 34
  have hsz : w.heap.size + 1 < w1.heap.size := by have := hb.size; simp at this; omega
  have HT := Lib.hid htr
  have HS := Lib.hid hsc
  have HB1 := Lib.hid (HB0.out.trans (hb.mono (by simp; omega)))
  have HB := Lib.hid hb
  clear htr hsc hb
  clear BX
  have BX := b7_new w1 (.int .i64 xk) (.int .u64 b) (.string xt) (.slice xa1 xl1 xc1) (.slice xa2 xl2 xc2) (.slice xa3 xl3 xc3) (.slice xa4 xl4 xc4) 34
  have BR2 := Lib.hid ((BR0.out.below HB.out).alloc (.cells #[.int .i64 xk, .int .u64 b, .string xt, .slice xa1 xl1 xc1, .slice xa2 xl2 xc2, .slice xa3 xl3 xc3, .slice xa4 xl4 xc4] 34))
  obtain ⟨_, p0, p1, p2, p3, p4, p5, p6, pf⟩ := BV
  clear BR
  go_upto_region 3 with fail
  clear p0 p1 p2 p3 p4 p5 p6 pf
  have ha : Below w1.heap.size w1 (w1.alloc (.cells #[.int .i64 xk, .int .u64 b, .string xt, .slice xa1 xl1 xc1, .slice xa2 xl2 xc2, .slice xa3 xl3 xc3, .slice xa4 xl4 xc4] 34)) := (Below.refl _ _).alloc (Nat.le_refl _) _
  have hBR := BR2.out
  clear BR2
  generalize (w1.alloc (.cells #[.int .i64 xk, .int .u64 b, .string xt, .slice xa1 xl1 xc1, .slice xa2 xl2 xc2, .slice xa3 xl3 xc3, .slice xa4 xl4 xc4] 34)) = W at *
  have BR2 := Lib.hid hBR
  have Ha := Lib.hid ha
  clear ha
  obtain ⟨_, x0, x1, x2, x3, x4, x5, x6, xf⟩ := BX
  obtain ⟨_, r0, r1, r2, r3, r4, r5, r6, rf⟩ := hBR
  go_wp2_with fail
  clear x0 x1 x2 x3 x4 x5 x6 xf r0 r1 r2 r3 r4 r5 r6 rf
  have BF := (((((((BR2.out.set0 (.int .i64 xk)).set1 (.int .u64 b)).set2 (.string xt)).set3 (.slice xa1 xl1 xc1)).set4 (.slice xa2 xl2 xc2)).set5 (.slice xa3 xl3 xc3)).set6 (.slice xa4 xl4 xc4))
  obtain ⟨_, q0, q1, q2, q3, q4, q5, q6, _⟩ := BF
  have e1 : sc ⟨xk, b, xt, xa1, xl1, xc1, xa2, xl2, xc2, xa3, xl3, xc3, xa4, xl4, xc4⟩ = sc ⟨k, b, t, a1, l1, c1, a2, l2, c2, a3, l3, c3, a4, l4, c4⟩ := by
    have h1 := HS.out
    have h2 := HSB.out
    rw [← h1] at h2
    exact h2
  have hsz2 : w.heap.size + 1 < w1.heap.size := hsz
  exact bodyPost_ret (v := .agg #[.int .i64 xk, .int .u64 b, .string xt, .slice xa1 xl1 xc1, .slice xa2 xl2 xc2, .slice xa3 xl3 xc3, .slice xa4 xl4 xc4]) (by simp [results, Tryd.results30, go_sem, q0, q1, q2, q3, q4, q5, q6]) rfl ⟨⟨xk, b, xt, xa1, xl1, xc1, xa2, xl2, xc2, xa3, xl3, xc3, xa4, xl4, xc4⟩, rfl, e1,
    Tree_bits (v := ⟨xk, xb, xt, xa1, xl1, xc1, xa2, xl2, xc2, xa3, xl3, xc3, xa4, xl4, xc4⟩) b Hb.out (tree_fin (w := w) (by simp) HT.out (((((((((Agr.refl w w1).below Ha.out).set (by omega) _ _).set (by omega) _ _).set (by omega) _ _).set (by omega) _ _).set (by omega) _ _).set (by omega) _ _).set (by omega) _ _)),
    below7s (HB1.out.trans (Ha.out.mono HB1.out.size)) (by omega) _ _ _ _ _ _ _⟩
end Go.Proofs.YthjpchnogllliaaDoor.NtpD
