import Derived.Test.YthjpchnogllliaaGreatDoorShelf
import Derived.Test.YthjpchnogllliaaGreatDoorRows
import Derived.Test.YthjpchnogllliaaGreatDoorBytT
import Derived.Shelf.Strconv.Itoa3
import Derived.Lib.ItoaMem
import Derived.WalkKit
import Derived.ProofKit
import Derived.Lib.Hide
import Derived.Test.YthjpchnogllliaaGreatDoorDigH
import Derived.Test.YthjpchnogllliaaGreatDoorNums
import Derived.Deep.OwnRows
import Derived.Lib.LaidTab
import Derived.Laws.BitsAllLaws
import Derived.Test.YthjpchnogllliaaGreatDoorScpE
import Derived.Test.YthjpchnogllliaaGreatDoorRtM
import Derived.Test.YthjpchnogllliaaGreatDoorUtfP
/- The library's FormatUint at base 10. -/
set_option linter.unusedSimpArgs false
set_option linter.unusedVariables false
namespace Go.Proofs.YthjpchnogllliaaGreatDoor.FmtU
open Go.RowKit Go.Sort Go.Lib

theorem holds0 (w : World) (T : TypeId) (nd : Nat) (hs : nd ≤ 24) : Holds (fun (b : UInt8) => Value.int .u8 (b.toNat : Int)) (w.alloc (.cells Lib.zeros24 T)) w.heap.size 0 (Array.replicate nd (0 : UInt8)) := fun j hj => by
  have hj' : j < nd := by simpa using hj
  refine ⟨?_, World.frozen?_alloc_new _ _ _ _⟩
  rw [World.cell?_alloc_new, Nat.zero_add, Lib.zeros24_at _ (by omega), getElem!_pos _ j hj]
  simp
theorem fin0 (w : World) (o : Obj) (dk : Array UInt8) (k : Nat) : Below w.heap.size w ((putRow (fun (b : UInt8) => Value.int .u8 (b.toNat : Int)) (w.alloc o) w.heap.size 0 dk).drewN k) := by
  have e : ∃ os, (putRow (fun (b : UInt8) => Value.int .u8 (b.toNat : Int)) (w.alloc o) w.heap.size 0 dk).drewN k = grow (w.drewN k) os := by
    rw [alloc_eq_grow]
    obtain ⟨os', _, e⟩ := putRow_grow_new (fun (b : UInt8) => Value.int .u8 (b.toNat : Int)) w #[o] w.heap.size 0 dk (Nat.le_refl _)
    exact ⟨os', by rw [e]; rfl⟩
  obtain ⟨os, e⟩ := e
  rw [e]
  exact ⟨rfl, rfl, rfl, by rw [Sort.size_grow]; exact Nat.le_add_right _ _, fun b hb => Sort.heap_grow_old (w.drewN k) os hb⟩

set_option maxHeartbeats 4000000 in
set_option maxRecDepth 100000 in
theorem fmtI_any (u : Nat) (hu : u ≤ 18446744073709551615) (w : World) (htab : Lib.TabIs Tryz.prog w "internal/strconv.uint64pow10" .u64 Lib.pow10Tab) : Calls Tryz.prog 79 #[.int .u64 u, .int .i64 10] w fun e w' => e = .returned (.string ⟨(Lib.decDigits u).toArray⟩) ∧ Below w.heap.size w w' := by
  by_cases hs : u < 100
  · have HS := Lib.hid fun w => Tryz.internal_strconv_small u hs w
    go_enter Tryz.func79, Tryz.ntmps79
    go_wp2_with (refine (HS.out _).mono ?_; rintro e w' ⟨rfl, rfl⟩)
    go_ret
    exact ⟨rfl, Below.refl _ _⟩
  · have hu1 : 1 ≤ u := by omega
    have hu64 : u < 18446744073709551616 := by omega
    have hnd20 : Lib.nDigits u ≤ 20 := by have := Lib.numDigits_eq u hu1 hu64; split at this <;> omega
    have hal : Tryz.prog.arrayLen 118 = 24 := by kernel_rfl
    have hel : Tryz.prog.elem 118 = 5 := by kernel_rfl
    have hsz : ∀ W, (Go.sizeOf 5).run Tryz.prog W = .ok 1 W := fun W => by
      obtain ⟨i, hi, _, h1, _⟩ := info_parts BytT.info
      simp [sizeOf, typeInfo, hi, h1]
    have hsl : ∀ W, (Instr.sliceAt 118 (.pointer (some ⟨w.heap.size, 0, none⟩)) none (some (.int .i64 (Lib.nDigits u : Int))) none).run Tryz.prog W = .ok (.slice (some ⟨w.heap.size, 0, none⟩) (Lib.nDigits u) 24) W := fun W => by
      rw [run_sliceAt_array_h W 118 ⟨w.heap.size, 0, none⟩ (by rw [hal, hel]; exact Tryz.underlying118) .i64 (Lib.nDigits u : Int) (by omega) (by rw [hal]; omega), hel, hsz W]
      simp [slicedAt, hal, Addr.add]
    have hH0 := holds0 w 118 (Lib.nDigits u) (by omega)
    have hfmt := Tryz.internal_strconv_formatBase10 w.heap.size 0 24 u (Array.replicate (Lib.nDigits u) 0) (w.alloc (.cells Lib.zeros24 118)) hH0 (by rw [Array.size_replicate]; exact Lib.lt_pow_nDigits u) hu64 (by rw [Array.size_replicate]; omega)
    rw [Array.size_replicate] at hfmt
    have HN := Lib.hid (Tryz.internal_strconv_numDigits u hu1 hu64 (w.alloc (.cells Lib.zeros24 118)) (Lib.tabIs_alloc htab _))
    have HH0 := Lib.hid hH0
    have HF := Lib.hid hfmt
    clear hH0 hal hel hsz hfmt
    go_enter Tryz.func79, Tryz.ntmps79
    go_wp2_with fail
    refine HN.out.mono ?_
    rintro e w' ⟨rfl, rfl⟩
    go_wp2_with fail
    refine HF.out.mono ?_
    rintro e w' ⟨rfl, k, v', dk, rfl, hF⟩
    have hcv : (convert 57 9 (.slice (some ⟨w.heap.size, 0, none⟩) (Lib.nDigits u) 24)).run Tryz.prog ((putRow (fun (b : UInt8) => Value.int .u8 (b.toNat : Int)) (w.alloc (.cells Lib.zeros24 118)) w.heap.size 0 dk).drewN k) = .ok (.string ⟨(Lib.decDigits u).toArray⟩) ((putRow (fun (b : UInt8) => Value.int .u8 (b.toNat : Int)) (w.alloc (.cells Lib.zeros24 118)) w.heap.size 0 dk).drewN k) := by
      have h := run_convert_bytes_back (P := Tryz.prog) ((putRow (fun (b : UInt8) => Value.int .u8 (b.toNat : Int)) (w.alloc (.cells Lib.zeros24 118)) w.heap.size 0 dk).drewN k) 57 9 5 ⟨w.heap.size, 0, none⟩ 24 (Lib.decDigits u) Tryz.underlying57 Tryz.underlying5 Tryz.underlying9 (fun j hj => by
        rw [Lib.row_is_numeral hF j hj, Lib.add_plain, World.cell?_drewN]
        exact cell?_putRow (fun (b : UInt8) => Value.int .u8 (b.toNat : Int)) _ w.heap.size 0 _ dk HH0.out (by rw [hF.size, Array.size_replicate]) j (by rw [hF.size]; rw [Lib.decDigits_length] at hj; exact hj))
      rw [Lib.decDigits_length] at h
      exact h
    have hb := fin0 w (.cells Lib.zeros24 118) dk k
    go_wp2_with fail
    go_ret
    exact ⟨rfl, hb⟩
set_option maxRecDepth 100000 in
theorem fmtU_any (u : Nat) (hu : u ≤ 18446744073709551615) (w : World) (htab : Lib.TabIs Tryz.prog w "internal/strconv.uint64pow10" .u64 Lib.pow10Tab) : Calls Tryz.prog 45 #[.int .u64 u, .int .i64 10] w fun e w' => e = .returned (.string ⟨(Lib.decDigits u).toArray⟩) ∧ Below w.heap.size w w' := by
  have H1 := Lib.hid fun w htab => fmtI_any u hu w htab
  go_enter Tryz.func45, Tryz.ntmps45
  go_wp2_with (refine (H1.out _ htab).mono ?_; rintro _ w1 ⟨rfl, hb⟩)
  go_ret
  exact ⟨rfl, hb⟩
end Go.Proofs.YthjpchnogllliaaGreatDoor.FmtU

/- The library's FormatUint at base 16. -/
set_option linter.unusedSimpArgs false
set_option linter.unusedVariables false
namespace Go.Proofs.YthjpchnogllliaaGreatDoor.HexU
open Go.RowKit Byt BytT Nums DigH

def tzTab : List Int := [0, 1, 56, 2, 57, 49, 28, 3, 61, 58, 42, 50, 38, 29, 17, 4, 62, 47, 59, 36, 45, 43, 51, 22, 53, 39, 33, 30, 24, 18, 12, 5, 63, 55, 48, 27, 60, 41, 37, 16, 46, 35, 44, 21, 52, 32, 23, 11, 54, 26, 40, 15, 34, 20, 31, 10, 25, 14, 19, 9, 13, 8, 7, 6]
/-- The table of package bits. -/
def Tz (w : World) : Prop := Lib.TabIs Tryz.prog w "math/bits.deBruijn64tab" .u8 tzTab
theorem tz_var {P : Program} {w w' : World} {n : String} {cs : Array Value} (hb : Below w.heap.size w w') (h : w.var? P n = some cs) : w'.var? P n = some cs := by
  unfold World.var? at *
  rw [Option.bind_eq_some_iff] at h
  obtain ⟨g, hg, h⟩ := h
  rw [hg]
  show (match w'.heap[g]? with | some (.cells cs _ _) => some cs | _ => none) = some cs
  cases e : w.heap[g]? with
  | none => simp [e] at h
  | some o =>
    have hlt : g < w.heap.size := (Array.getElem?_eq_some_iff.1 e).1
    rw [hb.block g hlt, e]
    rw [e] at h
    exact h
theorem Tz.below {w w' : World} (h : Tz w) (hb : Below w.heap.size w w') : Tz w' := tz_var hb h
/-- The cell that 16 leads to. -/
theorem Tz.tz16 {w : World} (h : Tz w) : w.cell? ⟨5, 15, none⟩ = some (.int .u8 4) := by
  rw [World.var?_cell (g := 5) (by kernel_rfl) h]
  rfl

theorem ret_fb {v : Value} {a b : ByteArray} (h : a = b) : Ending.returned (.tuple #[v, .string a]) = .returned (.tuple #[v, .string b]) := by rw [h]
theorem ret_s {a b : ByteArray} (h : a = b) : Ending.returned (.string a) = .returned (.string b) := by rw [h]

set_option maxRecDepth 100000 in
theorem two_any (w : World) : Calls Tryz.prog 127 #[.int .i64 16] w fun e w' => e = .returned (.bool true) ∧ w = w' := by
  have k : bits BinOp.and .i64 16 15 = 0 := by decide
  go_enter Tryz.func127, Tryz.ntmps127
  go_wp2_with (simp only [k])
  go_ret
  exact ⟨rfl, rfl⟩

set_option maxRecDepth 100000 in
theorem tz64_any (w : World) (hL : Tz w) : Calls Tryz.prog 148 #[.int .u64 16] w fun e w' => e = .returned (.int .i64 4) ∧ w = w' := by
  have hc := hL.tz16
  clear hL
  have k : bits BinOp.and .u64 16 (IntKind.u64.wrap (-16)) = 16 := by decide +kernel
  have k2 : IntKind.u64.wrap (16 * 285870213051353865) / 288230376151711744 = 15 := by decide +kernel
  go_enter Tryz.func148, Tryz.ntmps148
  go_wp2_with (first | simp only [k] | simp only [k2])
  go_ret
  exact ⟨rfl, rfl⟩
set_option maxRecDepth 100000 in
theorem tz_any (w : World) (hL : Tz w) : Calls Tryz.prog 128 #[.int .u64 16] w fun e w' => e = .returned (.int .i64 4) ∧ w = w' := by
  have HC := Lib.hid (tz64_any w hL)
  clear hL
  go_enter Tryz.func128, Tryz.ntmps128
  go_wp2_with (first | (refine HC.out.mono ?_; rintro _ w1 ⟨rfl, rfl⟩))
  go_ret
  exact ⟨rfl, rfl⟩

theorem slice65 (W : World) (a : Addr) (m : Nat) (hm : m < 65) : (Instr.sliceAt 144 (.pointer (some a)) (some (.int .i64 (m : Int))) none none).run Tryz.prog W = .ok (.slice (some (a.add m)) (65 - m) (65 - m)) W := by
  have hl : Tryz.prog.arrayLen 144 = 65 := by kernel_rfl
  have he : Tryz.prog.elem 144 = 5 := by kernel_rfl
  have hs : (Go.sizeOf 5).run Tryz.prog W = .ok 1 W := by
    obtain ⟨i, hi, _, h1, _⟩ := info_parts info
    simp [sizeOf, typeInfo, hi, h1]
  rw [run_sliceAt_array_l W 144 a (by rw [hl, he]; exact Tryz.underlying144) .i64 (m : Int) (by omega) (by rw [hl]; omega), he, hs]
  have ne : ¬ 65 = m := by omega
  simp [slicedAt, hl, ne]
theorem conv_at {P : Program} {w : World} {t e : TypeId} (T : ByteTy P t e) {d : TypeId} (hd : P.underlying d = some .string) (g o n c : Nat) (l : List UInt8) (hn : n = l.length)
    (hc : ∀ i, i < l.length → w.cell? ⟨g, o + i, none⟩ = some (bv (l.getD i 0))) : (convert t d (.slice (some ⟨g, o, none⟩) n c)).run P w = .ok (.string ⟨l.toArray⟩) w := by
  subst hn
  rw [run_convert_bytes_arg (P := P) w t e T.ht T.he g o l.length c (l.map fun c => (c.toNat : Int)) (by simp) (fun i hi => by
    rw [hc i hi]
    simp [bv, List.getD, hi]) d hd]
  congr 3
  unfold strOfNums
  congr 2
  rw [List.map_map]
  conv => rhs; rw [← List.map_id l]
  apply List.map_congr_left
  intro c _
  simp
theorem dig36f : ∀ k : Fin 16, ((⟨#[48, 49, 50, 51, 52, 53, 54, 55, 56, 57, 97, 98, 99, 100, 101, 102, 103, 104, 105, 106, 107, 108, 109, 110, 111, 112, 113, 114, 115, 116, 117, 118, 119, 120, 121, 122]⟩ : ByteArray)[k.val]'(Nat.lt_of_lt_of_le k.isLt (by decide))).toNat = (hxd k.val).toNat := by decide
theorem dig36 {r : Nat} (h : r < 16) : ((⟨#[48, 49, 50, 51, 52, 53, 54, 55, 56, 57, 97, 98, 99, 100, 101, 102, 103, 104, 105, 106, 107, 108, 109, 110, 111, 112, 113, 114, 115, 116, 117, 118, 119, 120, 121, 122]⟩ : ByteArray)[r]'(Nat.lt_of_lt_of_le h (by decide))).toNat = (hxd r).toNat := dig36f ⟨r, h⟩
set_option maxRecDepth 100000 in
set_option maxHeartbeats 1000000 in
theorem bits_any (u : Nat) (hu : u ≤ 18446744073709551615) (w : World) (hL : Tz w) : Calls Tryz.prog 101 #[.slice none 0 0, .int .u64 u, .int .i64 16, .bool false, .bool false] w fun e w' => e = .returned (.tuple #[.slice none 0 0, .string ⟨(hexd u).toArray⟩]) ∧ Below w.heap.size w w' := by
  have H1 := Lib.hid fun w => two_any w
  have H2 := Lib.hid fun (w' : World) hb => tz_any w' (hL.below hb)
  clear hL
  go_enter Tryz.func101, Tryz.ntmps101
  go_wp2_with (first | (refine (H1.out _).mono ?_; rintro _ w1 ⟨rfl, rfl⟩) | (refine (H2.out _ ((Below.refl _ _).alloc (Nat.le_refl _) _)).mono ?_; rintro _ w2 ⟨rfl, rfl⟩))
  go_loopw [1, 13] (fun x i wr => ∃ (n q : Nat) (f : Nat → Value) (D : List UInt8), x = .int .u64 q ∧ i = .int .i64 n ∧ wr.rowIs w.heap.size 144 65 f ∧ n + D.length = 65 ∧ D.length ≤ 15 ∧ q < 16 ^ (16 - D.length) ∧ (∀ j, j < D.length → f (n + j) = bv (D.getD j 0)) ∧ Hid (hexd u = hexd q ++ D) ∧ Below w.heap.size w wr) (fun x _ _ => (intOf x).toNat)
  case atStart => exact ⟨65, u, _, [], rfl, rfl, World.rowIs_alloc _ (Array.replicate 65 (Value.int .u8 0)) _ (fun _ => .int .u8 0) (by intro i hi; rw [Array.getElem?_replicate]; simp at hi; simp [hi]), rfl, by simp, by simp; omega, by simp, Lib.hid (by simp), (Below.refl _ _).alloc (Nat.le_refl _) _⟩
  case round =>
    obtain ⟨n, q, f, D, rfl, rfl, hrow, hn, hD, hq, hf, hh, hbel⟩ := hrel
    have hq64 : q < 18446744073709551616 := by
      have : 16 ^ (16 - D.length) ≤ 16 ^ 16 := Nat.pow_le_pow_right (by decide) (by omega)
      omega
    clear H1 H2
    by_cases hlt : q < 16
    · have Hf := Lib.hid hf
      obtain ⟨m, rfl⟩ : ∃ m, n = m + 1 := ⟨n - 1, by omega⟩
      have hc := hrow.cell (i := m) (by omega)
      have hz := hrow.frozen m
      have hq36 : q < 36 := by omega
      have hdq := dig36 hlt
      have hrow2 := hrow.set m (.int .u8 ((hxd q).toNat : Int))
      have hsl : ∀ W, (Instr.sliceAt 144 (.pointer (some ⟨w.heap.size, 0, none⟩)) (some (.int .i64 (m : Int))) none none).run Tryz.prog W = .ok (.slice (some ⟨w.heap.size, m, none⟩) (D.length + 1) (D.length + 1)) W := fun W => by
        rw [slice65 W ⟨w.heap.size, 0, none⟩ m (by omega), show 65 - m = D.length + 1 by omega]
        have hm0 : ¬ m = 0 := by omega
        simp [Addr.add, hm0]
      have hcv := conv_at (w := wr.setCell ⟨w.heap.size, m, none⟩ (.int .u8 ((hxd q).toNat : Int))) bytesT Tryz.underlying9 w.heap.size m (D.length + 1) (D.length + 1) (hxd q :: D) (by simp) (by
        intro i hi
        rw [List.length_cons] at hi
        rw [hrow2.cell (by omega)]
        cases i with
        | zero => simp [bv]
        | succ i =>
          have ne : ¬ m + (i + 1) = m := by omega
          simp only [ne, if_false]
          rw [show m + (i + 1) = m + 1 + i by omega, hf i (by omega)]
          simp)
      have hres : Hid (hexd u = hxd q :: D) := Lib.hid (by rw [hh.out, hexd_small hlt]; simp)
      have hb2 := hbel.setCell (p := ⟨w.heap.size, m, none⟩) (Nat.le_refl w.heap.size) (.int .u8 ((hxd q).toNat : Int))
      clear hf hq hrow2 hh
      go_wp2_with fail
      go_ret2
      exact ⟨ret_fb (by rw [hres.out]), hb2⟩
    · have Hf := Lib.hid hf
      have Hq := Lib.hid hq
      have hlen : D.length ≤ 14 := by
        by_cases h15 : D.length = 15
        · rw [h15] at hq; omega
        · omega
      obtain ⟨r, hr⟩ : ∃ r, q % 16 = r := ⟨_, rfl⟩
      have k1 : bits BinOp.and .u64 (q : Int) 15 = (r : Int) := by
        have := u64_and_nat q 15 hq64 (by decide)
        rw [nat_mask4, hr] at this
        exact this
      obtain ⟨m, rfl⟩ : ∃ m, n = m + 1 := ⟨n - 1, by omega⟩
      have hc := hrow.cell (i := m) (by omega)
      have hz := hrow.frozen m
      have hr16 : r < 36 := by omega
      have HR := Lib.hid hr
      clear hf hq hr
      go_wp2_with (simp only [k1])
      refine ⟨⟨m, q / 16, _, hxd r :: D, by go_num, rfl, hrow.set _ _, by rw [List.length_cons]; omega, by rw [List.length_cons]; omega, ?_, ?_, Lib.hid (by rw [hh.out, hexd_large hlt, HR.out]; simp), hbel.setCell (Nat.le_refl _) _⟩, by simp [intOf]; omega⟩
      · have e : 16 ^ (16 - D.length) = 16 ^ (16 - (D.length + 1)) * 16 := by rw [← Nat.pow_succ]; congr 1; omega
        have := Hq.out
        rw [List.length_cons]
        omega
      · intro j hj
        rw [List.length_cons] at hj
        cases j with
        | zero => simp [bv, dig36 (show r < 16 by have := HR.out; omega)]
        | succ j =>
          have ne : ¬ m + (j + 1) = m := by omega
          simp only [ne, if_false]
          rw [show m + (j + 1) = m + 1 + j by omega, Hf.out j (by omega)]
          simp

set_option maxRecDepth 100000 in
set_option maxHeartbeats 1000000 in
theorem fmtI_any (u : Nat) (hu : u ≤ 18446744073709551615) (w : World) (hL : Tz w) : Calls Tryz.prog 79 #[.int .u64 u, .int .i64 16] w fun e w' => e = .returned (.string ⟨(hexd u).toArray⟩) ∧ Below w.heap.size w w' := by
  have H1 := Lib.hid fun w hL => bits_any u hu w hL
  go_enter Tryz.func79, Tryz.ntmps79
  go_wp2_with (refine (H1.out _ hL).mono ?_; rintro _ w1 ⟨rfl, hb⟩)
  go_ret
  exact ⟨rfl, hb⟩
set_option maxRecDepth 100000 in
set_option maxHeartbeats 1000000 in
theorem fmt_any (u : Nat) (hu : u ≤ 18446744073709551615) (w : World) (hL : Tz w) : Calls Tryz.prog 45 #[.int .u64 u, .int .i64 16] w fun e w' => e = .returned (.string ⟨(hexd u).toArray⟩) ∧ Below w.heap.size w w' := by
  have H1 := Lib.hid fun w hL => fmtI_any u hu w hL
  go_enter Tryz.func45, Tryz.ntmps45
  go_wp2_with (refine (H1.out _ hL).mono ?_; rintro _ w1 ⟨rfl, hb⟩)
  go_ret
  exact ⟨rfl, hb⟩
theorem repeat_zero : ∀ c, Lib.repeatL [48] c = List.replicate c (48 : UInt8)
  | 0 => rfl
  | c + 1 => by
    show [48] ++ Lib.repeatL [48] c = _
    rw [repeat_zero c, List.replicate_succ]; rfl
theorem str_cat (l m : List UInt8) : (⟨l.toArray⟩ : ByteArray) ++ ⟨m.toArray⟩ = ⟨(l ++ m).toArray⟩ := by
  apply ByteArray.ext; simp

end Go.Proofs.YthjpchnogllliaaGreatDoor.HexU

/- The program's Text (package scalar) at every kind. -/
set_option linter.unusedSimpArgs false
set_option linter.unusedVariables false
namespace Go.Proofs.YthjpchnogllliaaGreatDoor.TxtP
open Go.RowKit Nums Byt UtfM UtfS UtfQ ScaM ScaV ScaA ScaB ScaC ScaT ScaW ScpM ScpA ScpB ScpC ScpD ScpE Ld Box TxtM HexU

theorem fits_lenP {v : SV} (h : fitsB v.k (sc v) = true) (ht : txB v.k = true) : v.t.size ≤ 4096 := by
  unfold fitsB at h
  rw [if_pos ht] at h
  simp only [Bool.and_eq_true, decide_eq_true_eq] at h
  exact h.2.1.2
theorem cat_str (l m : List UInt8) : (⟨l.toArray⟩ : ByteArray) ++ ⟨m.toArray⟩ = ⟨(l ++ m).toArray⟩ := by
  apply ByteArray.ext; simp
theorem ret_s {a b : ByteArray} (h : a = b) : Ending.returned (.string a) = .returned (.string b) := by rw [h]

set_option maxRecDepth 100000 in
theorem fb_any (x : Bool) (w : World) : Calls Tryz.prog 39 #[.bool x] w fun e w' => e = .returned (.string ⟨(if x then [116, 114, 117, 101] else [102, 97, 108, 115, 101] : List UInt8).toArray⟩) ∧ w = w' := by
  cases x with
  | true =>
    go_enter Tryz.func39, Tryz.ntmps39
    go_wp2
    go_ret
    exact ⟨rfl, rfl⟩
  | false =>
    go_enter Tryz.func39, Tryz.ntmps39
    go_wp2
    go_ret
    exact ⟨rfl, rfl⟩

set_option maxHeartbeats 2000000 in
set_option maxRecDepth 100000 in
theorem text_bool (v : SV) (hb : v.b ≤ 18446744073709551615) (ht : v.t.size ≤ 140737488355328) (hl : v.l1 + v.l2 + v.l3 + v.l4 ≤ 9223372036854775807) (hf : fitsB v.k (sc v) = true) (hk : v.k = 1) (w : World) (hL : Ld w) :
    Calls Tryz.prog 23 #[vv v] w fun e w' => e = .returned (.string ⟨(textV (sc v)).toArray⟩) ∧ Below w.heap.size w w' := by
  have hv : textV (sc v) = if v.b = 1 then [116, 114, 117, 101] else [102, 97, 108, 115, 101] := by
    unfold textV
    rw [show (sc v).k = v.k from rfl, hf, if_neg (by simp), if_pos hk]; rfl
  have HV : Hid (textV (sc v) = if v.b = 1 then [116, 114, 117, 101] else [102, 97, 108, 115, 101]) := Lib.hid hv
  clear hv
  have H := Lib.hid fun w => fits_p v.k v hb ht hl w
  have HF := Lib.hid hf
  clear hb ht hl hf
  obtain ⟨k, b, t, a1, l1, c1, a2, l2, c2, a3, l3, c3, a4, l4, c4⟩ := v
  simp only [vv] at *
  subst hk
  by_cases e : b = 1
  · have e1 : ((b : Int) == 1) = true := by simp [e]
    have HV2 := Lib.hid (HV.out.trans (if_pos e))
    clear e
    go_enter Tryz.func23, Tryz.ntmps23
    go_wp2_with fail
    refine (H.out _).mono ?_
    rintro _ w1 ⟨rfl, hb⟩
    rw [HF.out]
    obtain ⟨lc, lf⟩ := bcell hb
    have hL1 := (hL.below (below_box _ _)).below hb
    go_wp2_with (first | (go_at_call 39; refine (fb_any true _).mono ?_; rintro _ w2 ⟨rfl, rfl⟩))
    go_ret
    exact ⟨ret_s (by rw [HV2.out]), bt (below_box _ _) hb⟩
  · have e1 : ((b : Int) == 1) = false := by rw [beq_eq_false_iff_ne]; omega
    have HV2 := Lib.hid (HV.out.trans (if_neg e))
    clear e
    go_enter Tryz.func23, Tryz.ntmps23
    go_wp2_with fail
    refine (H.out _).mono ?_
    rintro _ w1 ⟨rfl, hb⟩
    rw [HF.out]
    obtain ⟨lc, lf⟩ := bcell hb
    have hL1 := (hL.below (below_box _ _)).below hb
    go_wp2_with (first | (go_at_call 39; refine (fb_any false _).mono ?_; rintro _ w2 ⟨rfl, rfl⟩))
    go_ret
    exact ⟨ret_s (by rw [HV2.out]), bt (below_box _ _) hb⟩

set_option maxHeartbeats 2000000 in
set_option maxRecDepth 100000 in
theorem text_plain (v : SV) (hb : v.b ≤ 18446744073709551615) (ht : v.t.size ≤ 140737488355328) (hl : v.l1 + v.l2 + v.l3 + v.l4 ≤ 9223372036854775807) (hf : fitsB v.k (sc v) = true) (hk : v.k = 4 ∨ v.k = 5 ∨ v.k = 9) (w : World) (hL : Ld w) :
    Calls Tryz.prog 23 #[vv v] w fun e w' => e = .returned (.string ⟨(textV (sc v)).toArray⟩) ∧ Below w.heap.size w w' := by
  have hv : textV (sc v) = Lib.decDigits v.b := by
    rw [dec_digits]
    unfold textV
    rw [show (sc v).k = v.k from rfl, hf, if_neg (by simp), if_neg (by omega), if_neg (by omega), if_neg (by omega), if_neg (by omega), if_neg (by omega)]; rfl
  rw [hv]
  have HU := Lib.hid fun w hL => FmtU.fmtU_any v.b hb w hL
  have HS : Hid (sgB v.k = false) := Lib.hid (by rcases hk with e | e | e <;> rw [e] <;> rfl)
  clear hv
  have H := Lib.hid fun w => fits_p v.k v hb ht hl w
  have HF := Lib.hid hf
  clear hb ht hl hf
  obtain ⟨k, b, t, a1, l1, c1, a2, l2, c2, a3, l3, c3, a4, l4, c4⟩ := v
  simp only [vv] at *
  rcases hk with rfl | rfl | rfl
  all_goals
    go_enter Tryz.func23, Tryz.ntmps23
    go_wp2_with fail
    refine (H.out _).mono ?_
    rintro _ w1 ⟨rfl, hb⟩
    rw [HF.out]
    obtain ⟨lc, lf⟩ := bcell hb
    have hL1 := (hL.below (below_box _ _)).below hb
    go_wp2_with (first | (go_at_call 43; refine (signed_p _ _).mono ?_; rintro _ w2 ⟨rfl, rfl⟩; rw [HS.out]))
    refine (HU.out _ hL1.tab).mono ?_
    rintro _ w2 ⟨rfl, hb2⟩
    go_wp2_with fail
    go_ret
    exact ⟨rfl, bt (bt (below_box _ _) hb) hb2⟩

set_option maxHeartbeats 2000000 in
set_option maxRecDepth 100000 in
theorem text_text (v : SV) (hb : v.b ≤ 18446744073709551615) (ht : v.t.size ≤ 140737488355328) (hl : v.l1 + v.l2 + v.l3 + v.l4 ≤ 9223372036854775807) (hf : fitsB v.k (sc v) = true) (hk : v.k = 7) (w : World) (hL : Ld w) :
    Calls Tryz.prog 23 #[vv v] w fun e w' => e = .returned (.string ⟨(textV (sc v)).toArray⟩) ∧ Below w.heap.size w w' := by
  have hv : textV (sc v) = quote v.t.data.toList := by
    unfold textV
    rw [show (sc v).k = v.k from rfl, hf, if_neg (by simp), if_neg (by omega), if_neg (by omega), if_neg (by omega), if_pos hk]; rfl
  rw [hv]
  have hlen : v.t.size ≤ 4096 := fits_lenP hf (by rw [hk]; rfl)
  have HQ := Lib.hid fun w => UtfP.quote_any v.t (by omega) w
  clear hv hlen
  have H := Lib.hid fun w => fits_p v.k v hb ht hl w
  have HF := Lib.hid hf
  clear hb ht hl hf
  obtain ⟨k, b, t, a1, l1, c1, a2, l2, c2, a3, l3, c3, a4, l4, c4⟩ := v
  simp only [vv] at *
  subst hk
  go_enter Tryz.func23, Tryz.ntmps23
  go_wp2_with fail
  refine (H.out _).mono ?_
  rintro _ w1 ⟨rfl, hb⟩
  rw [HF.out]
  obtain ⟨lc, lf⟩ := bcell hb
  have hL1 := (hL.below (below_box _ _)).below hb
  go_wp2_with (first | (go_at_call 41; refine (HQ.out _).mono ?_; rintro _ w2 ⟨rfl, hb2⟩))
  go_ret
  exact ⟨rfl, bt (bt (below_box _ _) hb) hb2⟩

set_option maxHeartbeats 2000000 in
set_option maxRecDepth 100000 in
theorem text_bytes (v : SV) (hb : v.b ≤ 18446744073709551615) (ht : v.t.size ≤ 140737488355328) (hl : v.l1 + v.l2 + v.l3 + v.l4 ≤ 9223372036854775807) (hf : fitsB v.k (sc v) = true) (hk : v.k = 8) (w : World) (hL : Ld w) :
    Calls Tryz.prog 23 #[vv v] w fun e w' => e = .returned (.string ⟨(textV (sc v)).toArray⟩) ∧ Below w.heap.size w w' := by
  have hv : textV (sc v) = 120 :: quote (hexL v.t.data.toList) := by
    unfold textV
    rw [show (sc v).k = v.k from rfl, hf, if_neg (by simp), if_neg (by omega), if_neg (by omega), if_neg (by omega), if_neg (by omega), if_pos hk]; rfl
  have hlen : v.t.size ≤ 4096 := fits_lenP hf (by rw [hk]; rfl)
  have HX := Lib.hid fun w => UtfH.hex_any v.t (by omega) w
  obtain ⟨q, hq⟩ : ∃ q : ByteArray, q = ⟨(hexL v.t.data.toList).toArray⟩ := ⟨_, rfl⟩
  have hql : q.data.toList = hexL v.t.data.toList := by rw [hq]
  have hqs : q.size ≤ 8192 := by
    have e : q.data.toList.length = q.size := rfl
    rw [hql, hexL_len] at e
    have : v.t.data.toList.length = v.t.size := rfl
    omega
  rw [← hq] at HX
  have hQ := fun w => UtfP.quote_any q (by omega) w
  obtain ⟨z, hz⟩ : ∃ z : ByteArray, z = ⟨(quote q.data.toList).toArray⟩ := ⟨_, rfl⟩
  have hDs : 1 + z.size ≤ 9223372036854775807 := by rw [hz, size_mk, quote_len]; have := body_le q.data.toList; have e2 : q.data.toList.length = q.size := rfl; omega
  rw [← hz] at hQ
  have HQ := Lib.hid hQ
  have HV : Hid ((⟨#[120]⟩ : ByteArray) ++ z = ⟨(textV (sc v)).toArray⟩) := Lib.hid (by
    rw [hv, hz, hql, show (⟨#[120]⟩ : ByteArray) = ⟨([120] : List UInt8).toArray⟩ from rfl, cat_str]; rfl)
  clear hv hlen hq hql hz hQ
  have H := Lib.hid fun w => fits_p v.k v hb ht hl w
  have HF := Lib.hid hf
  clear hb ht hl hf
  obtain ⟨k, b, t, a1, l1, c1, a2, l2, c2, a3, l3, c3, a4, l4, c4⟩ := v
  simp only [vv] at *
  subst hk
  go_enter Tryz.func23, Tryz.ntmps23
  go_wp2_with fail
  refine (H.out _).mono ?_
  rintro _ w1 ⟨rfl, hb⟩
  rw [HF.out]
  obtain ⟨lc, lf⟩ := bcell hb
  have hL1 := (hL.below (below_box _ _)).below hb
  go_wp2_with (first | (go_at_call 42; refine (HX.out _).mono ?_; rintro _ w2 ⟨rfl, hb2⟩))
  all_goals try (refine (HQ.out _).mono ?_; rintro _ w3 ⟨rfl, hb3⟩)
  go_wp2_with fail
  go_ret
  exact ⟨ret_s HV.out, bt (bt (bt (below_box _ _) hb) hb2) hb3⟩

set_option maxHeartbeats 2000000 in
set_option maxRecDepth 100000 in
theorem dtext_any (b : Nat) (hb : b ≤ 18446744073709551615) (w : World) (hL : Ld w) :
    Calls Tryz.prog 40 #[.int .u64 b] w fun e w' => e = .returned (.string ⟨(if clsN b = 0 then [110, 97, 110] else if clsN b = 1 then (if sgnN ≤ b then [45, 105, 110, 102] else [105, 110, 102]) else [48, 120] ++ hex16 b : List UInt8).toArray⟩) ∧ Below w.heap.size w w' := by
  have HC := Lib.hid fun w => class_p b hb w
  by_cases h0 : clsN b = 0
  · rw [if_pos h0]
    rw [h0] at HC
    clear h0
    go_enter Tryz.func40, Tryz.ntmps40
    go_wp2_with (first | (go_at_call 73; refine (HC.out _).mono ?_; rintro _ w2 ⟨rfl, rfl⟩))
    go_ret
    exact ⟨rfl, Below.refl _ _⟩
  · rw [if_neg h0]
    obtain ⟨c, hc⟩ : ∃ c, c = clsN b := ⟨_, rfl⟩
    rw [← hc] at HC
    have hc0 : (c == 0) = false := by rw [hc, beq_eq_false_iff_ne]; exact h0
    by_cases h1 : clsN b = 1
    · rw [if_pos h1]
      by_cases hs : sgnN ≤ b
      · rw [if_pos hs]
        have hbe := cls_ninf h1 hs hb
        have e1 : ((b : Int) == 9218868437227405312) = false := by rw [hbe]; decide
        have e2 : ((b : Int) == 18442240474082181120) = true := by rw [hbe]; decide
        clear hs hbe h1 h0 hc
        go_enter Tryz.func40, Tryz.ntmps40
        go_wp2_with (first | (go_at_call 73; refine (HC.out _).mono ?_; rintro _ w2 ⟨rfl, rfl⟩))
        go_ret
        exact ⟨rfl, Below.refl _ _⟩
      · rw [if_neg hs]
        have hbe := cls_inf h1 hs
        have e1 : ((b : Int) == 9218868437227405312) = true := by rw [hbe]; decide
        clear hs hbe h1 h0 hc
        go_enter Tryz.func40, Tryz.ntmps40
        go_wp2_with (first | (go_at_call 73; refine (HC.out _).mono ?_; rintro _ w2 ⟨rfl, rfl⟩))
        go_ret
        exact ⟨rfl, Below.refl _ _⟩
    · rw [if_neg h1]
      obtain ⟨n1, n2⟩ := cls_no h1
      have e1 : ((b : Int) == 9218868437227405312) = false := by rw [beq_eq_false_iff_ne]; unfold infN at n1; omega
      have e2 : ((b : Int) == 18442240474082181120) = false := by rw [beq_eq_false_iff_ne]; unfold sgnN infN at n2; omega
      have HF := Lib.hid fun w hz => fmt_any b hb w hz
      obtain ⟨m, hm⟩ : ∃ m, m = 16 - (DigH.hexd b).length := ⟨_, rfl⟩
      have h16 := DigH.hexd_16 hb
      have hz : (⟨(DigH.hexd b).toArray⟩ : ByteArray).size = 16 - m := by rw [size_mk]; omega
      have H2 := Lib.hid fun w => Tryz.strings_Repeat ⟨#[48]⟩ m w (by omega) (by simp [ByteArray.size]; omega)
      have hx : (⟨(Lib.repeatL [48] m).toArray⟩ : ByteArray).size = m := by rw [size_mk, repeat_zero, List.length_replicate]
      have hr : Hid (((⟨#[48, 120]⟩ : ByteArray) ++ (⟨(Lib.repeatL [48] m).toArray⟩ : ByteArray)) ++ ⟨(DigH.hexd b).toArray⟩ = ⟨([48, 120] ++ hex16 b).toArray⟩) := Lib.hid (by
        rw [show (⟨#[48, 120]⟩ : ByteArray) = ⟨([48, 120] : List UInt8).toArray⟩ from rfl, cat_str, cat_str, repeat_zero, hm, List.append_assoc, DigH.hex16_pad hb, hex16_same])
      have hm16 : m ≤ 16 := by omega
      have hi : (16 : Int) - ((16 - m : Nat) : Int) = (m : Int) := by omega
      generalize (⟨(DigH.hexd b).toArray⟩ : ByteArray) = q at *
      clear hm h16 n1 n2 h1 h0 hc
      have hT : Tz w := hL.tz
      go_enter Tryz.func40, Tryz.ntmps40
      go_wp2_with (first | (go_at_call 73; refine (HC.out _).mono ?_; rintro _ w2 ⟨rfl, rfl⟩))
      refine (HF.out _ hT).mono ?_
      rintro _ w1 ⟨rfl, hb1⟩
      go_wp2_with fail
      refine (H2.out _).mono ?_
      rintro _ w2 ⟨rfl, hb2⟩
      go_wp2_with fail
      go_ret
      exact ⟨ret_s hr.out, bt hb1 hb2⟩

set_option maxHeartbeats 2000000 in
set_option maxRecDepth 100000 in
theorem text_double (v : SV) (hb : v.b ≤ 18446744073709551615) (ht : v.t.size ≤ 140737488355328) (hl : v.l1 + v.l2 + v.l3 + v.l4 ≤ 9223372036854775807) (hf : fitsB v.k (sc v) = true) (hk : v.k = 6) (w : World) (hL : Ld w) :
    Calls Tryz.prog 23 #[vv v] w fun e w' => e = .returned (.string ⟨(textV (sc v)).toArray⟩) ∧ Below w.heap.size w w' := by
  have hv : textV (sc v) = if clsN v.b = 0 then [110, 97, 110] else if clsN v.b = 1 then (if sgnN ≤ v.b then [45, 105, 110, 102] else [105, 110, 102]) else [48, 120] ++ hex16 v.b := by
    unfold textV
    rw [show (sc v).k = v.k from rfl, hf, if_neg (by simp), if_neg (by omega), if_neg (by omega), if_pos hk]; rfl
  have hd := fun w hL => dtext_any v.b hb w hL
  rw [← hv] at hd
  have HD := Lib.hid hd
  clear hv hd
  generalize textV (sc v) = T at *
  have H := Lib.hid fun w => fits_p v.k v hb ht hl w
  have HF := Lib.hid hf
  clear hb ht hl hf
  obtain ⟨k, b, t, a1, l1, c1, a2, l2, c2, a3, l3, c3, a4, l4, c4⟩ := v
  simp only [vv] at *
  subst hk
  go_enter Tryz.func23, Tryz.ntmps23
  go_wp2_with fail
  refine (H.out _).mono ?_
  rintro _ w1 ⟨rfl, hb⟩
  rw [HF.out]
  obtain ⟨lc, lf⟩ := bcell hb
  have hL1 := (hL.below (below_box _ _)).below hb
  go_wp2_with (first | (go_at_call 40; refine (HD.out _ hL1).mono ?_; rintro _ w2 ⟨rfl, hb2⟩))
  go_ret
  exact ⟨rfl, bt (bt (below_box _ _) hb) hb2⟩

/-- Text. -/
theorem text_p (v : SV) (hb : v.b ≤ 18446744073709551615) (ht : v.t.size ≤ 140737488355328) (hl : v.l1 + v.l2 + v.l3 + v.l4 ≤ 9223372036854775807) (w : World) (hL : Ld w) :
    Calls Tryz.prog 23 #[vv v] w fun e w' => e = .returned (.string ⟨(textV (sc v)).toArray⟩) ∧ Below w.heap.size w w' := by
  cases hf : fitsB v.k (sc v) with
  | false =>
    have hv : textV (sc v) = [] := by unfold textV; rw [show (sc v).k = v.k from rfl, hf]; rfl
    rw [hv]
    exact text_not v hb ht hl hf w
  | true =>
    have hr : 1 ≤ v.k ∧ v.k ≤ 9 := by
      have h := hf
      unfold fitsB isB at h
      simp only [Bool.and_eq_true, decide_eq_true_eq] at h
      omega
    rcases (by omega : v.k = 1 ∨ (v.k = 2 ∨ v.k = 3) ∨ (v.k = 4 ∨ v.k = 5 ∨ v.k = 9) ∨ v.k = 6 ∨ v.k = 7 ∨ v.k = 8) with h | h | h | h | h | h
    · exact text_bool v hb ht hl hf h w hL
    · have hsg : sgB v.k = true := by rcases h with e | e <;> rw [e] <;> rfl
      have := text_sg v hb ht hl hf hsg w hL
      have hv : textV (sc v) = Lib.itoa (sI v.b) := by
        unfold textV
        rw [show (sc v).k = v.k from rfl, hf, if_neg (by simp), if_neg (by omega), if_pos h]
        show (if sgnN ≤ v.b then 45 :: dec (18446744073709551616 - v.b) else dec v.b) = _
        by_cases hs : sgnN ≤ v.b
        · rw [if_pos hs, itoa_down hs hb]
        · rw [if_neg hs, itoa_up hs]
      rw [hv]
      exact this
    · exact text_plain v hb ht hl hf h w hL
    · exact text_double v hb ht hl hf h w hL
    · exact text_text v hb ht hl hf h w hL
    · exact text_bytes v hb ht hl hf h w hL
end Go.Proofs.YthjpchnogllliaaGreatDoor.TxtP
