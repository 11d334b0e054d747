/- The library's FormatUint at base 16. -/
import Derived.Test.YthjpchnogllliaaDoorDigH
import Derived.Test.YthjpchnogllliaaDoorBytT
import Derived.Test.YthjpchnogllliaaDoorNums
import Derived.Test.YthjpchnogllliaaDoorShelf
import Derived.Deep.OwnRows
import Derived.Lib.LaidTab
import Derived.Laws.BitsAllLaws
import Derived.Lib.Hide
set_option linter.unusedSimpArgs false
set_option linter.unusedVariables false
namespace Go.Proofs.YthjpchnogllliaaDoor.HexU
open Go.RowKit Byt BytT Nums DigH

def tzTab : List Int := [0, 1, 56, 2, 57, 49, 28, 3, 61, 58, 42, 50, 38, 29, 17, 4, 62, 47, 59, 36, 45, 43, 51, 22, 53, 39, 33, 30, 24, 18, 12, 5, 63, 55, 48, 27, 60, 41, 37, 16, 46, 35, 44, 21, 52, 32, 23, 11, 54, 26, 40, 15, 34, 20, 31, 10, 25, 14, 19, 9, 13, 8, 7, 6]
/-- The table of package bits. -/
def Tz (w : World) : Prop := Lib.TabIs Tryd.prog w "math/bits.deBruijn64tab" .u8 tzTab
theorem tz_var {P : Program} {w w' : World} {n : String} {cs : Array Value} (hb : Below w.heap.size w w') (h : w.var? P n = some cs) : w'.var? P n = some cs := by
  unfold World.var? at *
  rw [Option.bind_eq_some_iff] at h
  obtain ⟨g, hg, h⟩ := h
  rw [hg]
  show (match w'.heap[g]? with | some (.cells cs _ _) => some cs | _ => none) = some cs
  cases e : w.heap[g]? with
  | none => simp [e] at h
  | some o =>
    have hlt : g < w.heap.size := (Array.getElem?_eq_some_iff.1 e).1
    rw [hb.block g hlt, e]
    rw [e] at h
    exact h
theorem Tz.below {w w' : World} (h : Tz w) (hb : Below w.heap.size w w') : Tz w' := tz_var hb h
/-- The cell that 16 leads to. -/
theorem Tz.tz16 {w : World} (h : Tz w) : w.cell? ⟨3, 15, none⟩ = some (.int .u8 4) := by
  rw [World.var?_cell (g := 3) (by kernel_rfl) h]
  rfl

theorem ret_fb {v : Value} {a b : ByteArray} (h : a = b) : Ending.returned (.tuple #[v, .string a]) = .returned (.tuple #[v, .string b]) := by rw [h]
theorem ret_s {a b : ByteArray} (h : a = b) : Ending.returned (.string a) = .returned (.string b) := by rw [h]

set_option maxRecDepth 100000 in
theorem two_any (w : World) : Calls Tryd.prog 111 #[.int .i64 16] w fun e w' => e = .returned (.bool true) ∧ w = w' := by
  have k : bits BinOp.and .i64 16 15 = 0 := by decide
  go_enter Tryd.func111, Tryd.ntmps111
  go_wp2_with (simp only [k])
  go_ret
  exact ⟨rfl, rfl⟩

set_option maxRecDepth 100000 in
theorem tz64_any (w : World) (hL : Tz w) : Calls Tryd.prog 115 #[.int .u64 16] w fun e w' => e = .returned (.int .i64 4) ∧ w = w' := by
  have hc := hL.tz16
  clear hL
  have k : bits BinOp.and .u64 16 (IntKind.u64.wrap (-16)) = 16 := by decide +kernel
  have k2 : IntKind.u64.wrap (16 * 285870213051353865) / 288230376151711744 = 15 := by decide +kernel
  go_enter Tryd.func115, Tryd.ntmps115
  go_wp2_with (first | simp only [k] | simp only [k2])
  go_ret
  exact ⟨rfl, rfl⟩
set_option maxRecDepth 100000 in
theorem tz_any (w : World) (hL : Tz w) : Calls Tryd.prog 112 #[.int .u64 16] w fun e w' => e = .returned (.int .i64 4) ∧ w = w' := by
  have HC := Lib.hid (tz64_any w hL)
  clear hL
  go_enter Tryd.func112, Tryd.ntmps112
  go_wp2_with (first | (refine HC.out.mono ?_; rintro _ w1 ⟨rfl, rfl⟩))
  go_ret
  exact ⟨rfl, rfl⟩

theorem slice65 (W : World) (a : Addr) (m : Nat) (hm : m < 65) : (Instr.sliceAt 129 (.pointer (some a)) (some (.int .i64 (m : Int))) none none).run Tryd.prog W = .ok (.slice (some (a.add m)) (65 - m) (65 - m)) W := by
  have hl : Tryd.prog.arrayLen 129 = 65 := by kernel_rfl
  have he : Tryd.prog.elem 129 = 5 := by kernel_rfl
  have hs : (Go.sizeOf 5).run Tryd.prog W = .ok 1 W := by
    obtain ⟨i, hi, _, h1, _⟩ := info_parts info
    simp [sizeOf, typeInfo, hi, h1]
  rw [run_sliceAt_array_l W 129 a (by rw [hl, he]; exact Tryd.underlying129) .i64 (m : Int) (by omega) (by rw [hl]; omega), he, hs]
  have ne : ¬ 65 = m := by omega
  simp [slicedAt, hl, ne]
theorem conv_at {P : Program} {w : World} {t e : TypeId} (T : ByteTy P t e) {d : TypeId} (hd : P.underlying d = some .string) (g o n c : Nat) (l : List UInt8) (hn : n = l.length)
    (hc : ∀ i, i < l.length → w.cell? ⟨g, o + i, none⟩ = some (bv (l.getD i 0))) : (convert t d (.slice (some ⟨g, o, none⟩) n c)).run P w = .ok (.string ⟨l.toArray⟩) w := by
  subst hn
  rw [run_convert_bytes_arg (P := P) w t e T.ht T.he g o l.length c (l.map fun c => (c.toNat : Int)) (by simp) (fun i hi => by
    rw [hc i hi]
    simp [bv, List.getD, hi]) d hd]
  congr 3
  unfold strOfNums
  congr 2
  rw [List.map_map]
  conv => rhs; rw [← List.map_id l]
  apply List.map_congr_left
  intro c _
  simp
theorem dig36f : ∀ k : Fin 16, ((⟨#[48, 49, 50, 51, 52, 53, 54, 55, 56, 57, 97, 98, 99, 100, 101, 102, 103, 104, 105, 106, 107, 108, 109, 110, 111, 112, 113, 114, 115, 116, 117, 118, 119, 120, 121, 122]⟩ : ByteArray)[k.val]'(Nat.lt_of_lt_of_le k.isLt (by decide))).toNat = (hxd k.val).toNat := by decide
theorem dig36 {r : Nat} (h : r < 16) : ((⟨#[48, 49, 50, 51, 52, 53, 54, 55, 56, 57, 97, 98, 99, 100, 101, 102, 103, 104, 105, 106, 107, 108, 109, 110, 111, 112, 113, 114, 115, 116, 117, 118, 119, 120, 121, 122]⟩ : ByteArray)[r]'(Nat.lt_of_lt_of_le h (by decide))).toNat = (hxd r).toNat := dig36f ⟨r, h⟩
set_option maxRecDepth 100000 in
set_option maxHeartbeats 1000000 in
theorem bits_any (u : Nat) (hu : u ≤ 18446744073709551615) (w : World) (hL : Tz w) : Calls Tryd.prog 100 #[.slice none 0 0, .int .u64 u, .int .i64 16, .bool false, .bool false] w fun e w' => e = .returned (.tuple #[.slice none 0 0, .string ⟨(hexd u).toArray⟩]) ∧ Below w.heap.size w w' := by
  have H1 := Lib.hid fun w => two_any w
  have H2 := Lib.hid fun (w' : World) hb => tz_any w' (hL.below hb)
  clear hL
  go_enter Tryd.func100, Tryd.ntmps100
  go_wp2_with (first | (refine (H1.out _).mono ?_; rintro _ w1 ⟨rfl, rfl⟩) | (refine (H2.out _ ((Below.refl _ _).alloc (Nat.le_refl _) _)).mono ?_; rintro _ w2 ⟨rfl, rfl⟩))
  go_loopw [1, 13] (fun x i wr => ∃ (n q : Nat) (f : Nat → Value) (D : List UInt8), x = .int .u64 q ∧ i = .int .i64 n ∧ wr.rowIs w.heap.size 129 65 f ∧ n + D.length = 65 ∧ D.length ≤ 15 ∧ q < 16 ^ (16 - D.length) ∧ (∀ j, j < D.length → f (n + j) = bv (D.getD j 0)) ∧ Hid (hexd u = hexd q ++ D) ∧ Below w.heap.size w wr) (fun x _ _ => (intOf x).toNat)
  case atStart => exact ⟨65, u, _, [], rfl, rfl, World.rowIs_alloc _ (Array.replicate 65 (Value.int .u8 0)) _ (fun _ => .int .u8 0) (by intro i hi; rw [Array.getElem?_replicate]; simp at hi; simp [hi]), rfl, by simp, by simp; omega, by simp, Lib.hid (by simp), (Below.refl _ _).alloc (Nat.le_refl _) _⟩
  case round =>
    obtain ⟨n, q, f, D, rfl, rfl, hrow, hn, hD, hq, hf, hh, hbel⟩ := hrel
    have hq64 : q < 18446744073709551616 := by
      have : 16 ^ (16 - D.length) ≤ 16 ^ 16 := Nat.pow_le_pow_right (by decide) (by omega)
      omega
    clear H1 H2
    by_cases hlt : q < 16
    · have Hf := Lib.hid hf
      obtain ⟨m, rfl⟩ : ∃ m, n = m + 1 := ⟨n - 1, by omega⟩
      have hc := hrow.cell (i := m) (by omega)
      have hz := hrow.frozen m
      have hq36 : q < 36 := by omega
      have hdq := dig36 hlt
      have hrow2 := hrow.set m (.int .u8 ((hxd q).toNat : Int))
      have hsl : ∀ W, (Instr.sliceAt 129 (.pointer (some ⟨w.heap.size, 0, none⟩)) (some (.int .i64 (m : Int))) none none).run Tryd.prog W = .ok (.slice (some ⟨w.heap.size, m, none⟩) (D.length + 1) (D.length + 1)) W := fun W => by
        rw [slice65 W ⟨w.heap.size, 0, none⟩ m (by omega), show 65 - m = D.length + 1 by omega]
        have hm0 : ¬ m = 0 := by omega
        simp [Addr.add, hm0]
      have hcv := conv_at (w := wr.setCell ⟨w.heap.size, m, none⟩ (.int .u8 ((hxd q).toNat : Int))) bytesT Tryd.underlying9 w.heap.size m (D.length + 1) (D.length + 1) (hxd q :: D) (by simp) (by
        intro i hi
        rw [List.length_cons] at hi
        rw [hrow2.cell (by omega)]
        cases i with
        | zero => simp [bv]
        | succ i =>
          have ne : ¬ m + (i + 1) = m := by omega
          simp only [ne, if_false]
          rw [show m + (i + 1) = m + 1 + i by omega, hf i (by omega)]
          simp)
      have hres : Hid (hexd u = hxd q :: D) := Lib.hid (by rw [hh.out, hexd_small hlt]; simp)
      have hb2 := hbel.setCell (p := ⟨w.heap.size, m, none⟩) (Nat.le_refl w.heap.size) (.int .u8 ((hxd q).toNat : Int))
      clear hf hq hrow2 hh
      go_wp2_with fail
      go_ret2
      exact ⟨ret_fb (by rw [hres.out]), hb2⟩
    · have Hf := Lib.hid hf
      have Hq := Lib.hid hq
      have hlen : D.length ≤ 14 := by
        by_cases h15 : D.length = 15
        · rw [h15] at hq; omega
        · omega
      obtain ⟨r, hr⟩ : ∃ r, q % 16 = r := ⟨_, rfl⟩
      have k1 : bits BinOp.and .u64 (q : Int) 15 = (r : Int) := by
        have := u64_and_nat q 15 hq64 (by decide)
        rw [nat_mask4, hr] at this
        exact this
      obtain ⟨m, rfl⟩ : ∃ m, n = m + 1 := ⟨n - 1, by omega⟩
      have hc := hrow.cell (i := m) (by omega)
      have hz := hrow.frozen m
      have hr16 : r < 36 := by omega
      have HR := Lib.hid hr
      clear hf hq hr
      go_wp2_with (simp only [k1])
      refine ⟨⟨m, q / 16, _, hxd r :: D, by go_num, rfl, hrow.set _ _, by rw [List.length_cons]; omega, by rw [List.length_cons]; omega, ?_, ?_, Lib.hid (by rw [hh.out, hexd_large hlt, HR.out]; simp), hbel.setCell (Nat.le_refl _) _⟩, by simp [intOf]; omega⟩
      · have e : 16 ^ (16 - D.length) = 16 ^ (16 - (D.length + 1)) * 16 := by rw [← Nat.pow_succ]; congr 1; omega
        have := Hq.out
        rw [List.length_cons]
        omega
      · intro j hj
        rw [List.length_cons] at hj
        cases j with
        | zero => simp [bv, dig36 (show r < 16 by have := HR.out; omega)]
        | succ j =>
          have ne : ¬ m + (j + 1) = m := by omega
          simp only [ne, if_false]
          rw [show m + (j + 1) = m + 1 + j by omega, Hf.out j (by omega)]
          simp

set_option maxRecDepth 100000 in
set_option maxHeartbeats 1000000 in
theorem fmtI_any (u : Nat) (hu : u ≤ 18446744073709551615) (w : World) (hL : Tz w) : Calls Tryd.prog 82 #[.int .u64 u, .int .i64 16] w fun e w' => e = .returned (.string ⟨(hexd u).toArray⟩) ∧ Below w.heap.size w w' := by
  have H1 := Lib.hid fun w hL => bits_any u hu w hL
  go_enter Tryd.func82, Tryd.ntmps82
  go_wp2_with (refine (H1.out _ hL).mono ?_; rintro _ w1 ⟨rfl, hb⟩)
  go_ret
  exact ⟨rfl, hb⟩
set_option maxRecDepth 100000 in
set_option maxHeartbeats 1000000 in
theorem fmt_any (u : Nat) (hu : u ≤ 18446744073709551615) (w : World) (hL : Tz w) : Calls Tryd.prog 60 #[.int .u64 u, .int .i64 16] w fun e w' => e = .returned (.string ⟨(hexd u).toArray⟩) ∧ Below w.heap.size w w' := by
  have H1 := Lib.hid fun w hL => fmtI_any u hu w hL
  go_enter Tryd.func60, Tryd.ntmps60
  go_wp2_with (refine (H1.out _ hL).mono ?_; rintro _ w1 ⟨rfl, hb⟩)
  go_ret
  exact ⟨rfl, hb⟩
theorem repeat_zero : ∀ c, Lib.repeatL [48] c = List.replicate c (48 : UInt8)
  | 0 => rfl
  | c + 1 => by
    show [48] ++ Lib.repeatL [48] c = _
    rw [repeat_zero c, List.replicate_succ]; rfl
theorem str_cat (l m : List UInt8) : (⟨l.toArray⟩ : ByteArray) ++ ⟨m.toArray⟩ = ⟨(l ++ m).toArray⟩ := by
  apply ByteArray.ext; simp

end Go.Proofs.YthjpchnogllliaaDoor.HexU
