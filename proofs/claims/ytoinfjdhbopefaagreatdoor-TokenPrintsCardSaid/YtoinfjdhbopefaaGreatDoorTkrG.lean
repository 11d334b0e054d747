import Derived.Test.YtoinfjdhbopefaaGreatDoorNums
import Derived.ProofKit
import Derived.Test.YtoinfjdhbopefaaGreatDoorTkrC
import Derived.Test.YtoinfjdhbopefaaGreatDoorUtfL
import Derived.BigQuiet
import Derived.Test.YtoinfjdhbopefaaGreatDoorTkpM
import Derived.Laws.AppendOwn
import Derived.Laws.OwnMore
/- A block of four cells: what it holds in worlds that have only grown. -/
set_option linter.unusedSimpArgs false
set_option linter.unusedVariables false
namespace Go.Proofs.YtoinfjdhbopefaaGreatDoor.Box4
open Go.RowKit

structure B4 (w : World) (k : Nat) (v0 v1 v2 v3 : Value) : Prop where
  lt : k < w.heap.size
  c0 : w.cell? ⟨k, 0, none⟩ = some v0
  c1 : w.cell? ⟨k, 1, none⟩ = some v1
  c2 : w.cell? ⟨k, 2, none⟩ = some v2
  c3 : w.cell? ⟨k, 3, none⟩ = some v3
  fz : ∀ o, w.frozen? ⟨k, o, none⟩ = false
theorem b4_new (w : World) (v0 v1 v2 v3 : Value) (T : TypeId) : B4 (w.alloc (.cells #[v0, v1, v2, v3] T)) w.heap.size v0 v1 v2 v3 := by
  refine ⟨by simp, ?_, ?_, ?_, ?_, fun o => by simp⟩ <;> (rw [World.cell?_alloc_at _ _ _ _ rfl]; rfl)
section
variable {w w1 : World} {k : Nat} {v0 v1 v2 v3 : Value}
theorem B4.belowB {B : Nat} (h : B4 w k v0 v1 v2 v3) (hk : k < B) (hb : Below B w w1) : B4 w1 k v0 v1 v2 v3 := by
  have hc : ∀ o, w1.cell? ⟨k, o, none⟩ = w.cell? ⟨k, o, none⟩ := fun o => hb.cell (p := ⟨k, o, none⟩) hk
  exact ⟨Nat.lt_of_lt_of_le h.lt hb.size, (hc _).trans h.c0, (hc _).trans h.c1, (hc _).trans h.c2, (hc _).trans h.c3, fun o => (hb.frozen (p := ⟨k, o, none⟩) hk).trans (h.fz o)⟩
theorem B4.below (h : B4 w k v0 v1 v2 v3) (hb : Below w.heap.size w w1) : B4 w1 k v0 v1 v2 v3 := h.belowB h.lt hb
theorem B4.alloc (h : B4 w k v0 v1 v2 v3) (o : Obj) : B4 (w.alloc o) k v0 v1 v2 v3 := h.below ((Below.refl _ _).alloc (Nat.le_refl _) o)
theorem B4.drew (h : B4 w k v0 v1 v2 v3) : B4 w.drew k v0 v1 v2 v3 := h.below (Below.refl _ _).drew
theorem B4.cells (h : B4 w k v0 v1 v2 v3) : w.cell? ⟨k, 0, none⟩ = some v0 ∧ w.cell? ⟨k, 1, none⟩ = some v1 ∧ w.cell? ⟨k, 2, none⟩ = some v2 ∧ w.cell? ⟨k, 3, none⟩ = some v3 := ⟨h.c0, h.c1, h.c2, h.c3⟩
end
end Go.Proofs.YtoinfjdhbopefaaGreatDoor.Box4

/- The reference of stage 7: the token that begins at a place. -/
set_option linter.unusedSimpArgs false
set_option linter.unusedVariables false
namespace Go.Proofs.YtoinfjdhbopefaaGreatDoor.TkrD
open Go.RowKit Nums IdnM IdnC TokM TokD TokS IdrA TkrA TkrB TkrC Box4

/-- A token in memory, on the line ln. -/
def tv (k : Tok) (ln : Int) : Value := .agg #[.int .i64 k.kind, .string ⟨k.text.toArray⟩, .int .i64 k.num, .int .i64 ln]
def noTok : Tok := ⟨0, [], 0⟩
/-- What integer and one return: a token, where it ends, and the error. -/
def Res (x : Except Nat (Tok × Nat)) (i : Nat) (v : Value) : Prop := ∃ (k : Tok) (n er : Nat), v = .tuple #[tv k 0, .int .i64 ((i + n : Nat) : Int), .int .i64 (er : Int)] ∧ ((∃ m, x = .ok m ∧ m = (k, n) ∧ er = 0) ∨ (x = .error er))
def RB (x : Except Nat (Tok × Nat)) (i : Nat) (w : World) (e : Ending) (w' : World) : Prop := ∃ v, e = .returned v ∧ Res x i v ∧ Below w.heap.size w w'
theorem rb_ok {x : Except Nat (Tok × Nat)} {i n : Nat} {k : Tok} {w w' : World} {t : ByteArray} {kd nu z : Int} (h : x = .ok (k, n)) (h1 : k.kind = kd) (h2 : k.text = t.data.toList) (h3 : k.num = nu) (hz : z = ((i + n : Nat) : Int)) (hb : Below w.heap.size w w') :
    RB x i w (.returned (.tuple #[.agg #[.int .i64 kd, .string t, .int .i64 nu, .int .i64 0], .int .i64 z, .int .i64 0])) w' := by
  refine ⟨_, rfl, ⟨k, n, 0, ?_, .inl ⟨_, h, rfl, rfl⟩⟩, hb⟩
  rw [hz, ← h1, ← h3]
  simp only [tv, h2]
  rfl
theorem rb_err {x : Except Nat (Tok × Nat)} {i n er : Nat} {w w' : World} {z : Int} (h : x = .error er) (hz : z = ((i + n : Nat) : Int)) (hb : Below w.heap.size w w') :
    RB x i w (.returned (.tuple #[.agg #[.int .i64 0, .string ⟨#[]⟩, .int .i64 0, .int .i64 0], .int .i64 z, .int .i64 (er : Int)])) w' := by
  refine ⟨_, rfl, ⟨noTok, n, er, ?_, .inr h⟩, hb⟩
  rw [hz]
  rfl
theorem rb_err2 {x : Except Nat (Tok × Nat)} {i n er : Nat} {w w' : World} {z kd nu : Int} {t : ByteArray} (h : x = .error er) (hz : z = ((i + n : Nat) : Int)) (hb : Below w.heap.size w w') :
    RB x i w (.returned (.tuple #[.agg #[.int .i64 kd, .string t, .int .i64 nu, .int .i64 0], .int .i64 z, .int .i64 (er : Int)])) w' := by
  refine ⟨_, rfl, ⟨⟨kd, t.data.toList, nu⟩, n, er, ?_, .inr h⟩, hb⟩
  rw [hz]
  rfl
theorem rb_raw {x : Except Nat (Tok × Nat)} {i n er : Nat} {k : Tok} {w w' : World} {z : Int} (h : (∃ m, x = .ok m ∧ m = (k, n) ∧ er = 0) ∨ x = .error er) (hz : z = ((i + n : Nat) : Int)) (hb : Below w.heap.size w w') :
    RB x i w (.returned (.tuple #[.agg #[.int .i64 k.kind, .string ⟨k.text.toArray⟩, .int .i64 k.num, .int .i64 0], .int .i64 z, .int .i64 (er : Int)])) w' := by
  refine ⟨_, rfl, ⟨k, n, er, ?_, h⟩, hb⟩
  rw [hz]
  rfl
theorem below4 {B : Nat} {a w : World} (h : Below B a w) {g : Nat} (hg : B ≤ g) (v0 v1 v2 v3 : Value) : Below B a ((((w.setCell ⟨g, 0, none⟩ v0).setCell ⟨g, 1, none⟩ v1).setCell ⟨g, 2, none⟩ v2).setCell ⟨g, 3, none⟩ v3) :=
  (((h.setCell (p := ⟨g, 0, none⟩) hg _).setCell (p := ⟨g, 1, none⟩) hg _).setCell (p := ⟨g, 2, none⟩) hg _).setCell (p := ⟨g, 3, none⟩) hg _

theorem dlen_step {s : ByteArray} {k : Nat} (h : k < s.size) (hi : dg (atB s k) = true) : dlen (s.data.toList.drop k) = dlen (s.data.toList.drop (k + 1)) + 1 := by
  rw [drop_at h]
  unfold dlen
  rw [List.takeWhile_cons_of_pos hi]
  rfl
theorem dlen_stop {s : ByteArray} {k : Nat} (hi : dg (atB s k) = false) : dlen (s.data.toList.drop k) = 0 := by
  rcases Nat.lt_or_ge k s.size with h | h
  · rw [drop_at h]
    unfold dlen
    rw [List.takeWhile_cons_of_neg (by rw [hi]; simp)]
    rfl
  · rw [drop_end h]; rfl
theorem dg_in {s : ByteArray} {k : Nat} (h : dg (atB s k) = true) : k < s.size := by
  rcases Nat.lt_or_ge k s.size with h1 | h1
  · exact h1
  · rw [atB_ge h1] at h; exact absurd h (by decide)
theorem ext_take (s : ByteArray) (i n : Nat) : (s.extract i (i + n)).data.toList = (s.data.toList.drop i).take n := by
  have : (s.extract i (i + n)).data.toList = (s.data.toList.take (i + n)).drop i := by
    simp only [ByteArray.data_extract, Array.toList_extract, List.extract_eq_take_drop]
    rw [List.drop_take]
  rw [this, List.drop_take, show i + n - i = n by omega]

/-- The integer that begins with a digit. -/
def intE (l : List UInt8) : Except Nat (Tok × Nat) := match l.drop (dlen l) with
  | [] => (number (l.take (dlen l))).map fun n => (⟨2, [], n⟩, dlen l)
  | c :: _ => if wch c then .error 2 else (number (l.take (dlen l))).map fun n => (⟨2, [], n⟩, dlen l)
theorem intE_bad {l : List UInt8} {c : UInt8} {r : List UInt8} (e : l.drop (dlen l) = c :: r) (h : wch c = true) : intE l = .error 2 := by
  unfold intE
  rw [e]
  exact if_pos h
theorem intE_num {l : List UInt8} (h : ∀ c r, l.drop (dlen l) = c :: r → wch c = false) : intE l = (number (l.take (dlen l))).map fun n => (⟨2, [], n⟩, dlen l) := by
  unfold intE
  split
  · rfl
  · rename_i c r e
    rw [h c r e]
    rfl
theorem one_intE {b : UInt8} {t : List UInt8} (h : nm (b :: t) = 0) (hd : dg b = true) : one (b :: t) = intE (b :: t) := by
  cases e : (b :: t).drop (dlen (b :: t)) with
  | nil =>
    have hn : ∀ c r, (b :: t).drop (dlen (b :: t)) = c :: r → wch c = false := fun c r e2 => by rw [e] at e2; cases e2
    rw [one_int h hd hn, intE_num hn]
  | cons c r =>
    cases hw : wch c with
    | true => rw [one_int_bad h hd e hw, intE_bad e hw]
    | false =>
      have hn : ∀ c r, (b :: t).drop (dlen (b :: t)) = c :: r → wch c = false := fun c2 r2 e2 => by rw [e] at e2; cases e2; exact hw
      rw [one_int h hd hn, intE_num hn]

set_option maxHeartbeats 2000000 in
set_option maxRecDepth 100000 in
theorem integer_any (s : ByteArray) (i : Nat) (hs : s.size ≤ 4294967296) (hi : i ≤ s.size) (w : World) :
    Calls Tryz.prog 38 #[.string s, .int .i64 (i : Int)] w fun e w' => RB (intE (s.data.toList.drop i)) i w e w' := by
  obtain ⟨D, hD⟩ : ∃ D, D = dlen (s.data.toList.drop i) := ⟨_, rfl⟩
  have hDle : i + D ≤ s.size := by
    have h1 := dlen_le (s.data.toList.drop i)
    have h2 : (s.data.toList.drop i).length = s.size - i := List.length_drop
    omega
  obtain ⟨X, hX⟩ : ∃ X, X = intE (s.data.toList.drop i) := ⟨_, rfl⟩
  rw [← hX]
  have HX := Lib.hid hX
  have HD := Lib.hid hD
  clear hX hD
  go_enter Tryz.func38, Tryz.ntmps38
  go_wp2_with fail
  go_loop [7] (fun kv => ∃ k : Nat, i ≤ k ∧ k ≤ i + D ∧ kv = .int .i64 k ∧ Hid (D = (k - i) + dlen (s.data.toList.drop k))) (fun kv => s.size - (intOf kv).toNat)
  case atStart => exact ⟨i, Nat.le_refl _, by omega, rfl, Lib.hid (by rw [HD.out]; omega)⟩
  case round =>
    obtain ⟨k, hik, hkD, rfl, Hk⟩ := hrel
    cases hd : dg (atB s k) with
    | true =>
      have hks := dg_in hd
      have hst := dlen_step hks hd
      have Hn : Hid (D = (k + 1 - i) + dlen (s.data.toList.drop (k + 1))) := Lib.hid (by have := Hk.out; omega)
      have hkD2 : k + 1 ≤ i + D := by have := Hk.out; omega
      have H1 := Lib.hid hd
      clear hst hd
      go_wp2_with fail
      refine (at_any s k _).mono ?_
      rintro _ wz ⟨rfl, rfl⟩
      go_wp2_with fail
      refine (digit_any _ _).mono ?_
      rintro _ wz ⟨rfl, rfl⟩
      rw [H1.out]
      go_wp2_with fail
      exact ⟨⟨k + 1, by omega, by omega, by go_num, Hn⟩, by simp [intOf]; omega⟩
    | false =>
      have h0 := dlen_stop hd
      have hkeq : k = i + D := by have := Hk.out; omega
      have hdd : (s.data.toList.drop i).drop D = s.data.toList.drop k := by rw [List.drop_drop, hkeq]
      have H1 := Lib.hid hd
      have Hkeq := Lib.hid hkeq
      clear h0 hd hkeq
      cases h2 : ltr (atB s k) with
      | true =>
        have hXe : X = .error 2 := by
          have hks := at_in (ltr_inn h2)
          rw [HX.out]
          refine intE_bad (c := atB s k) (r := s.data.toList.drop (k + 1)) ?_ ?_
          · rw [← HD.out, hdd, drop_at hks]
          · unfold wch; rw [h2]; rfl
        have HXe := Lib.hid hXe
        have H2 := Lib.hid h2
        clear hXe h2 hdd
        go_wp2_with fail
        refine (at_any s k _).mono ?_
        rintro _ wz ⟨rfl, rfl⟩
        go_wp2_with fail
        refine (digit_any _ _).mono ?_
        rintro _ wz ⟨rfl, rfl⟩
        rw [H1.out]
        go_wp2_with fail
        refine (at_any s k _).mono ?_
        rintro _ wz ⟨rfl, rfl⟩
        go_wp2_with fail
        refine (letter_any _ _).mono ?_
        rintro _ wz ⟨rfl, rfl⟩
        rw [H2.out]
        go_wp2_with fail
        exact bodyPost_ret (v := .tuple #[.agg #[.int .i64 0, .string ⟨#[]⟩, .int .i64 0, .int .i64 0], .int .i64 k, .int .i64 2]) (by simp [results, Tryz.results38, go_sem]) rfl (rb_err (er := 2) (n := D) HXe.out (by rw [Hkeq.out]) ((Below.refl _ _).alloc (Nat.le_refl _) _))
      | false =>
        cases h3 : decide ((atB s k).toNat = 95) with
        | true =>
          have t3 : (((atB s k).toNat : Int) == 95) = true := beq_of (n := 95) h3
          have hXe : X = .error 2 := by
            have hks : k < s.size := by
              rcases Nat.lt_or_ge k s.size with h | h
              · exact h
              · rw [atB_ge h] at h3; exact absurd h3 (by decide)
            rw [HX.out]
            refine intE_bad (c := atB s k) (r := s.data.toList.drop (k + 1)) ?_ ?_
            · rw [← HD.out, hdd, drop_at hks]
            · have h95 : atB s k = 95 := UInt8.toNat_inj.1 (by simpa using h3)
              unfold wch; rw [h95]; rfl
          have HXe := Lib.hid hXe
          have H2 := Lib.hid h2
          clear hXe h2 h3 hdd
          go_wp2_with fail
          refine (at_any s k _).mono ?_
          rintro _ wz ⟨rfl, rfl⟩
          go_wp2_with fail
          refine (digit_any _ _).mono ?_
          rintro _ wz ⟨rfl, rfl⟩
          rw [H1.out]
          go_wp2_with fail
          refine (at_any s k _).mono ?_
          rintro _ wz ⟨rfl, rfl⟩
          go_wp2_with fail
          refine (letter_any _ _).mono ?_
          rintro _ wz ⟨rfl, rfl⟩
          rw [H2.out]
          go_wp2_with fail
          refine (at_any s k _).mono ?_
          rintro _ wz ⟨rfl, rfl⟩
          go_wp2_with fail
          exact bodyPost_ret (v := .tuple #[.agg #[.int .i64 0, .string ⟨#[]⟩, .int .i64 0, .int .i64 0], .int .i64 k, .int .i64 2]) (by simp [results, Tryz.results38, go_sem]) rfl (rb_err (er := 2) (n := D) HXe.out (by rw [Hkeq.out]) ((Below.refl _ _).alloc (Nat.le_refl _) _))
        | false =>
          have t3 : (((atB s k).toNat : Int) == 95) = false := beq_of (n := 95) h3
          have hks : k ≤ s.size := by omega
          have hki : (k : Int) ≤ s.size := by omega
          have hik2 : (i : Int) ≤ k := by omega
          have hXn : X = (number ((s.data.toList.drop i).take D)).map fun n => (⟨2, [], n⟩, D) := by
            rw [HX.out, HD.out]
            refine intE_num (fun c r e => ?_)
            rw [← HD.out, hdd] at e
            have hlt : k < s.size := by
              rcases Nat.lt_or_ge k s.size with h | h
              · exact h
              · rw [drop_end h] at e; cases e
            rw [drop_at hlt] at e
            cases e
            unfold wch
            rw [h2]
            have h95 : ¬ atB s k = 95 := by
              intro e2
              rw [e2] at h3
              exact absurd h3 (by decide)
            simp [h95]
          obtain ⟨Y, hY⟩ : ∃ Y, Y = s.extract i k := ⟨_, rfl⟩
          have hYd : Y.data.toList = (s.data.toList.drop i).take D := by rw [hY, Hkeq.out, ext_take]
          have hYs : Y.size ≤ 4294967296 := by rw [hY, ByteArray.size_extract]; omega
          have hYg : ∀ (j : Nat) (h : j < Y.size), dg Y[j] = true := by
            intro j hj
            have hm : Y[j] ∈ Y.data.toList := List.getElem_mem (l := Y.data.toList) hj
            rw [hYd, HD.out, dlen_take] at hm
            have := all_takeWhile dg (s.data.toList.drop i)
            rw [List.all_eq_true] at this
            exact this _ hm
          have HY := Lib.hid hY
          have HYd := Lib.hid hYd
          have HXn := Lib.hid hXn
          have H2 := Lib.hid h2
          clear hXn h2 h3 hdd hY hYd
          go_wp2_with fail
          refine (at_any s k _).mono ?_
          rintro _ wz ⟨rfl, rfl⟩
          go_wp2_with fail
          refine (digit_any _ _).mono ?_
          rintro _ wz ⟨rfl, rfl⟩
          rw [H1.out]
          go_wp2_with fail
          refine (at_any s k _).mono ?_
          rintro _ wz ⟨rfl, rfl⟩
          go_wp2_with fail
          refine (letter_any _ _).mono ?_
          rintro _ wz ⟨rfl, rfl⟩
          rw [H2.out]
          go_wp2_with fail
          refine (at_any s k _).mono ?_
          rintro _ wz ⟨rfl, rfl⟩
          go_wp2_with fail
          rw [← HY.out]
          refine (number_any Y hYs hYg _).mono ?_
          rintro _ wz ⟨rfl, rfl⟩
          rw [HYd.out]
          have HXm := HXn.out
          cases hnum : number ((s.data.toList.drop i).take D) with
          | ok n =>
            rw [hnum] at HXm
            have HXo := Lib.hid HXm
            have hnt : numT ((s.data.toList.drop i).take D) = (n, 0) := by unfold numT; rw [hnum]
            rw [hnt]
            clear HXm hnum hnt
            go_wp2_with fail
            exact bodyPost_ret (v := .tuple #[.agg #[.int .i64 2, .string ⟨#[]⟩, .int .i64 n, .int .i64 0], .int .i64 k, .int .i64 0]) (by simp [results, Tryz.results38, go_sem]) rfl (rb_ok (n := D) HXo.out rfl rfl rfl (by rw [Hkeq.out]) ((Below.refl _ _).alloc (Nat.le_refl _) _))
          | error er =>
            rw [hnum] at HXm
            have HXo := Lib.hid HXm
            have hnt : numT ((s.data.toList.drop i).take D) = (0, er) := by unfold numT; rw [hnum]
            rw [hnt]
            clear HXm hnum hnt
            go_wp2_with fail
            exact bodyPost_ret (v := .tuple #[.agg #[.int .i64 2, .string ⟨#[]⟩, .int .i64 0, .int .i64 0], .int .i64 k, .int .i64 er]) (by simp [results, Tryz.results38, go_sem]) rfl (rb_err2 (n := D) HXo.out (by rw [Hkeq.out]) ((Below.refl _ _).alloc (Nat.le_refl _) _))
set_option maxHeartbeats 2000000 in
set_option maxRecDepth 100000 in
theorem one_any (s : ByteArray) (i : Nat) (hs : s.size ≤ 4294967296) (hi : i < s.size) (w : World) :
    Calls Tryz.prog 18 #[.string s, .int .i64 (i : Int)] w fun e w' => RB (one (s.data.toList.drop i)) i w e w' := by
  obtain ⟨X, hX⟩ : ∃ X, X = one (s.data.toList.drop i) := ⟨_, rfl⟩
  rw [← hX]
  have hat := atB_lt hi
  have hdr := drop_at hi
  have hnle := nm_le (s.data.toList.drop i)
  have hdl : (s.data.toList.drop i).length = s.size - i := List.length_drop
  by_cases h0 : nm (s.data.toList.drop i) = 0
  · have hii : decide ((i : Int) < i) = false := decide_eq_false (by omega)
    have hi2 : i ≤ s.size := by omega
    have Hn0 := Lib.hid h0
    cases hd : dg s[i] with
    | true =>
      have hXi : X = intE (s.data.toList.drop i) := by
        rw [hX, hdr]
        rw [hdr] at h0
        exact one_intE h0 (by rw [hat]; exact hd)
      have HX := Lib.hid hXi
      have Hd := Lib.hid hd
      clear hX hat hdr hnle hdl h0 hd hXi
      go_enter Tryz.func18, Tryz.ntmps18
      go_wp2_with fail
      refine (name_any s i hs hi2 _).mono ?_
      rintro _ wz ⟨rfl, rfl⟩
      rw [Hn0.out, Nat.add_zero]
      go_wp2_with fail
      refine (digit_any s[i] _).mono ?_
      rintro _ wz ⟨rfl, rfl⟩
      rw [Hd.out]
      go_wp2_with fail
      refine (integer_any s i hs hi2 _).mono ?_
      rintro _ w1 ⟨v, rfl, ⟨k, n, er, rfl, hsp⟩, hb⟩
      have B := (b4_new w (.int .i64 0) (.string ⟨#[]⟩) (.int .i64 0) (.int .i64 0) 35).below hb
      obtain ⟨_, p0, p1, p2, p3, pf⟩ := B
      have Hsp := Lib.hid hsp
      have hb1 := ((Below.refl _ _).alloc (Nat.le_refl _) _).trans (hb.mono (by simp))
      clear hsp hb
      unfold tv
      go_wp2_with fail
      exact bodyPost_ret (v := .tuple #[.agg #[.int .i64 k.kind, .string ⟨k.text.toArray⟩, .int .i64 k.num, .int .i64 0], .int .i64 ((i : Int) + n), .int .i64 er]) (by simp [results, Tryz.results18, go_sem, p0, p1, p2, p3]) rfl (rb_raw (by rw [HX.out]; exact Hsp.out) (by simp) (below4 hb1 (Nat.le_refl _) _ _ _ _))
    | false =>
      by_cases hq : s[i] = 34
      · have hqn : ((s[i].toNat : Int) == 34) = true := by rw [hq]; rfl
        have hii3 : (i : Int) ≤ s.size := by omega
        obtain ⟨Z, hZ⟩ : ∃ Z, Z = s.extract i s.size := ⟨_, rfl⟩
        have hZd : Z.data.toList = s.data.toList.drop i := by
          rw [hZ]
          simp
          rw [List.take_of_length_le (by simp)]
        have hZs : Z.size ≤ 35184372088000 := by rw [hZ, ByteArray.size_extract]; omega
        have hX2 : X = if (UtfQ.unquote (s.data.toList.drop i)).2.2 = 0 then .ok (⟨3, (UtfQ.unquote (s.data.toList.drop i)).1, 0⟩, (UtfQ.unquote (s.data.toList.drop i)).2.1) else .error 2 := by
          rw [hX, hdr, hat, hq]
          rw [hdr, hat, hq] at h0
          exact one_text h0
        rcases UtfQ.unquote_cases (s.data.toList.drop i) with hu | ⟨t, n, hu, hn2, hnl, hqt⟩
        · have hXe : X = .error 2 := by rw [hX2, hu]; rfl
          have HXe := Lib.hid hXe
          have HZ := Lib.hid hZ
          have HZd := Lib.hid hZd
          have Hu := Lib.hid hu
          have Hd := Lib.hid hd
          clear hX hX2 hat hdr hnle hdl h0 hd hXe hZ hZd hu hq
          go_enter Tryz.func18, Tryz.ntmps18
          go_wp2_with fail
          refine (name_any s i hs hi2 _).mono ?_
          rintro _ wz ⟨rfl, rfl⟩
          rw [Hn0.out, Nat.add_zero]
          go_wp2_with fail
          refine (digit_any s[i] _).mono ?_
          rintro _ wz ⟨rfl, rfl⟩
          rw [Hd.out]
          go_wp2_with fail
          rw [← HZ.out]
          refine (UtfL.rUnquote_any Z hZs _).mono ?_
          rintro _ w1 ⟨rfl, hb⟩
          rw [HZd.out, Hu.out]
          have B := (b4_new w (.int .i64 0) (.string ⟨#[]⟩) (.int .i64 0) (.int .i64 0) 35).below hb
          obtain ⟨_, p0, p1, p2, p3, pf⟩ := B
          have hb1 := ((Below.refl _ _).alloc (Nat.le_refl _) _).trans (hb.mono (by simp))
          clear hb
          go_wp2_with fail
          exact bodyPost_ret (v := .tuple #[.agg #[.int .i64 0, .string ⟨#[]⟩, .int .i64 0, .int .i64 0], .int .i64 i, .int .i64 2]) (by simp [results, Tryz.results18, go_sem, p0, p1, p2, p3]) rfl (rb_err (er := 2) (n := 0) HXe.out rfl (below4 hb1 (Nat.le_refl _) _ _ _ _))
        · have hXe : X = .ok (⟨3, t, 0⟩, n) := by rw [hX2, hu]; rfl
          have hin : (i : Int) + n ≤ 9223372036854775807 := by omega
          have HXe := Lib.hid hXe
          have HZ := Lib.hid hZ
          have HZd := Lib.hid hZd
          have Hu := Lib.hid hu
          have Hd := Lib.hid hd
          clear hX hX2 hat hdr hnle hdl h0 hd hXe hZ hZd hu hq hqt
          go_enter Tryz.func18, Tryz.ntmps18
          go_wp2_with fail
          refine (name_any s i hs hi2 _).mono ?_
          rintro _ wz ⟨rfl, rfl⟩
          rw [Hn0.out, Nat.add_zero]
          go_wp2_with fail
          refine (digit_any s[i] _).mono ?_
          rintro _ wz ⟨rfl, rfl⟩
          rw [Hd.out]
          go_wp2_with fail
          rw [← HZ.out]
          refine (UtfL.rUnquote_any Z hZs _).mono ?_
          rintro _ w1 ⟨rfl, hb⟩
          rw [HZd.out, Hu.out]
          have B := (b4_new w (.int .i64 0) (.string ⟨#[]⟩) (.int .i64 0) (.int .i64 0) 35).below hb
          obtain ⟨_, p0, p1, p2, p3, pf⟩ := B
          have hb1 := ((Below.refl _ _).alloc (Nat.le_refl _) _).trans (hb.mono (by simp))
          clear hb
          go_wp2_with fail
          exact bodyPost_ret (v := .tuple #[.agg #[.int .i64 3, .string ⟨t.toArray⟩, .int .i64 0, .int .i64 0], .int .i64 ((i : Int) + n), .int .i64 0]) (by simp [results, Tryz.results18, go_sem, p0, p1, p2, p3]) rfl (rb_ok (n := n) HXe.out rfl rfl rfl (by simp) (below4 hb1 (Nat.le_refl _) _ _ _ _))
      · have hqn : ((s[i].toNat : Int) == 34) = false := by
          rw [beq_eq_false_iff_ne]
          intro e
          exact hq (UInt8.toNat_inj.1 (show s[i].toNat = 34 by omega))
        have hii3 : (i : Int) + 1 ≤ s.size := by omega
        obtain ⟨Z, hZ⟩ : ∃ Z, Z = s.extract i (i + 1) := ⟨_, rfl⟩
        have hZd : Z.data.toList = [s[i]] := by rw [hZ, ext_one hi]
        have hsg : signB Z.data.toList = signs.contains s[i] := by rw [hZd]; rfl
        have hX2 : X = if signs.contains s[i] then .ok (⟨4, [s[i]], 0⟩, 1) else .error 2 := by
          rw [hX, hdr, hat]
          rw [hdr, hat] at h0
          exact one_sign h0 hd hq
        cases hc : signs.contains s[i] with
        | false =>
          have hXe : X = .error 2 := by rw [hX2, hc]; rfl
          have HXe := Lib.hid hXe
          have HZ := Lib.hid hZ
          have Hsg := Lib.hid (hsg.trans hc)
          have Hd := Lib.hid hd
          clear hX hX2 hat hdr hnle hdl h0 hd hXe hZ hZd hsg hc hq
          go_enter Tryz.func18, Tryz.ntmps18
          go_wp2_with fail
          refine (name_any s i hs hi2 _).mono ?_
          rintro _ wz ⟨rfl, rfl⟩
          rw [Hn0.out, Nat.add_zero]
          go_wp2_with fail
          refine (digit_any s[i] _).mono ?_
          rintro _ wz ⟨rfl, rfl⟩
          rw [Hd.out]
          go_wp2_with fail
          rw [← HZ.out]
          refine (sign_any Z _).mono ?_
          rintro _ w1 ⟨rfl, hb⟩
          rw [Hsg.out]
          have B := (b4_new w (.int .i64 0) (.string ⟨#[]⟩) (.int .i64 0) (.int .i64 0) 35).below hb
          obtain ⟨_, p0, p1, p2, p3, pf⟩ := B
          have hb1 := ((Below.refl _ _).alloc (Nat.le_refl _) _).trans (hb.mono (by simp))
          clear hb
          go_wp2_with fail
          exact bodyPost_ret (v := .tuple #[.agg #[.int .i64 0, .string ⟨#[]⟩, .int .i64 0, .int .i64 0], .int .i64 i, .int .i64 2]) (by simp [results, Tryz.results18, go_sem, p0, p1, p2, p3]) rfl (rb_err (er := 2) (n := 0) HXe.out rfl (below4 hb1 (Nat.le_refl _) _ _ _ _))
        | true =>
          have hXe : X = .ok (⟨4, [s[i]], 0⟩, 1) := by rw [hX2, hc]; rfl
          have HXe := Lib.hid hXe
          have HZ := Lib.hid hZ
          have HZd := Lib.hid hZd
          have Hsg := Lib.hid (hsg.trans hc)
          have Hd := Lib.hid hd
          clear hX hX2 hat hdr hnle hdl h0 hd hXe hZ hZd hsg hc hq
          go_enter Tryz.func18, Tryz.ntmps18
          go_wp2_with fail
          refine (name_any s i hs hi2 _).mono ?_
          rintro _ wz ⟨rfl, rfl⟩
          rw [Hn0.out, Nat.add_zero]
          go_wp2_with fail
          refine (digit_any s[i] _).mono ?_
          rintro _ wz ⟨rfl, rfl⟩
          rw [Hd.out]
          go_wp2_with fail
          rw [← HZ.out]
          refine (sign_any Z _).mono ?_
          rintro _ w1 ⟨rfl, hb⟩
          rw [Hsg.out]
          have B := (b4_new w (.int .i64 0) (.string ⟨#[]⟩) (.int .i64 0) (.int .i64 0) 35).below hb
          obtain ⟨_, p0, p1, p2, p3, pf⟩ := B
          have hb1 := ((Below.refl _ _).alloc (Nat.le_refl _) _).trans (hb.mono (by simp))
          clear hb
          go_wp2_with fail
          exact bodyPost_ret (v := .tuple #[.agg #[.int .i64 4, .string (s.extract i (i + 1)), .int .i64 0, .int .i64 0], .int .i64 ((i : Int) + 1), .int .i64 0]) (by simp [results, Tryz.results18, go_sem, p0, p1, p2, p3]) rfl (rb_ok (n := 1) HXe.out rfl (by rw [← HZ.out, HZd.out]) rfl (by simp) (below4 hb1 (Nat.le_refl _) _ _ _ _))
  · obtain ⟨m, hm⟩ : ∃ m, m = nm (s.data.toList.drop i) := ⟨_, rfl⟩
    rw [← hm] at h0 hnle
    have hii : decide ((i : Int) < (i : Int) + m) = true := decide_eq_true (by omega)
    have him : (i : Int) + m ≤ s.size := by omega
    have him2 : i + m ≤ s.size := by omega
    have hi2 : i ≤ s.size := by omega
    obtain ⟨Y, hY⟩ : ∃ Y, Y = s.extract i (i + m) := ⟨_, rfl⟩
    have hYd : Y.data.toList = (s.data.toList.drop i).take m := by rw [hY, ext_take]
    have hX2 : X = if fitN Y.data.toList then .ok (⟨1, Y.data.toList, 0⟩, m) else .error 8 := by
      rw [hX, hYd, hm, hdr]
      rw [hm, hdr] at h0
      exact one_name h0
    cases hf : fitN Y.data.toList with
    | false =>
      have hXe : X = .error 8 := by rw [hX2, hf]; rfl
      have HXe := Lib.hid hXe
      have Hm := Lib.hid hm
      have HY := Lib.hid hY
      have Hf := Lib.hid hf
      clear hX hX2 hXe hm hY hYd hf hat hdr hnle hdl h0
      go_enter Tryz.func18, Tryz.ntmps18
      go_wp2_with fail
      refine (name_any s i hs hi2 _).mono ?_
      rintro _ wz ⟨rfl, rfl⟩
      rw [← Hm.out]
      go_wp2_with fail
      rw [← HY.out]
      refine (fitting_any Y _).mono ?_
      rintro _ wz ⟨rfl, rfl⟩
      rw [Hf.out]
      go_wp2_with fail
      exact bodyPost_ret (v := .tuple #[.agg #[.int .i64 0, .string ⟨#[]⟩, .int .i64 0, .int .i64 0], .int .i64 ((i : Int) + m), .int .i64 8]) (by simp [results, Tryz.results18, go_sem]) rfl (rb_err (er := 8) (n := m) HXe.out (by simp) ((Below.refl _ _).alloc (Nat.le_refl _) _))
    | true =>
      have hXe : X = .ok (⟨1, Y.data.toList, 0⟩, m) := by rw [hX2, hf]; rfl
      have HXe := Lib.hid hXe
      have Hm := Lib.hid hm
      have HY := Lib.hid hY
      have Hf := Lib.hid hf
      clear hX hX2 hXe hm hY hYd hf hat hdr hnle hdl h0
      go_enter Tryz.func18, Tryz.ntmps18
      go_wp2_with fail
      refine (name_any s i hs hi2 _).mono ?_
      rintro _ wz ⟨rfl, rfl⟩
      rw [← Hm.out]
      go_wp2_with fail
      rw [← HY.out]
      refine (fitting_any Y _).mono ?_
      rintro _ wz ⟨rfl, rfl⟩
      rw [Hf.out]
      go_wp2_with fail
      exact bodyPost_ret (v := .tuple #[.agg #[.int .i64 1, .string (s.extract i (i + m)), .int .i64 0, .int .i64 0], .int .i64 ((i : Int) + m), .int .i64 0]) (by simp [results, Tryz.results18, go_sem]) rfl (rb_ok (n := m) HXe.out rfl (by rw [← HY.out]) rfl (by simp) ((Below.refl _ _).alloc (Nat.le_refl _) _))
end Go.Proofs.YtoinfjdhbopefaaGreatDoor.TkrD

/- The reference of stage 7: a token as it is written; whether a token is a sign or name. -/
set_option linter.unusedSimpArgs false
set_option linter.unusedVariables false
namespace Go.Proofs.YtoinfjdhbopefaaGreatDoor.TkrE
open Go.RowKit Nums IdnM IdnC TokM TokD TokS IdrA TkrA TkrB TkrC TkrD Box4

theorem wrap_uI (n : Int) (h1 : -9223372036854775808 ≤ n) (h2 : n ≤ 9223372036854775807) : IntKind.u64.wrap n = (uI n : Int) := by
  rw [IntKind.wrap_u64]
  unfold uI
  split <;> omega
theorem uI_le (n : Int) (h1 : -9223372036854775808 ≤ n) (h2 : n ≤ 9223372036854775807) : uI n ≤ 18446744073709551615 := by
  unfold uI
  split <;> omega
theorem below_drewN {B : Nat} {a w : World} (h : Below B a w) (n : Nat) : Below B a (w.drewN n) := ⟨h.os, h.tape, h.output, h.size, h.block⟩
theorem nm_size (t : ByteArray) : nm t.data.toList ≤ t.size := nm_le _
theorem data_ne {t : ByteArray} (h : t.size ≠ 0) : t.data.toList ≠ [] := fun e => h (List.length_eq_zero_iff.2 e)
theorem data_nil {t : ByteArray} (h : t.size = 0) : t.data.toList = [] := List.length_eq_zero_iff.1 h
theorem w_int {nu : Int} : wrtn ⟨2, [], nu⟩ = ScaM.dec (uI nu) := rfl
theorem w_intx {x : List UInt8} {nu : Int} (h : x ≠ []) : wrtn ⟨2, x, nu⟩ = [] := by
  unfold wrtn
  rw [if_pos rfl]
  exact if_neg h
theorem w_num {kd nu : Int} {x : List UInt8} (h : kd ≠ 2) (h0 : nu ≠ 0) : wrtn ⟨kd, x, nu⟩ = [] := by
  unfold wrtn
  rw [if_neg h]
  exact if_pos h0
theorem w_sign {x : List UInt8} : wrtn ⟨4, x, 0⟩ = if signB x then x else [] := by
  unfold wrtn signB
  match x with
  | [] => rfl
  | [b] => rfl
  | _ :: _ :: _ => rfl
theorem w_other {kd : Int} {x : List UInt8} (h2 : kd ≠ 2) (h3 : kd ≠ 3) (h4 : kd ≠ 4) (h1 : kd ≠ 1) : wrtn ⟨kd, x, 0⟩ = [] := by
  unfold wrtn
  rw [if_neg h2, if_neg (by simp), if_neg h3, if_neg h4, if_neg h1]

set_option maxHeartbeats 2000000 in
set_option maxRecDepth 100000 in
theorem written_any (kd nu ln : Int) (t : ByteArray) (ht : t.size ≤ 4294967296) (h1 : -9223372036854775808 ≤ nu) (h2 : nu ≤ 9223372036854775807) (w : World) :
    Calls Tryz.prog 25 #[.agg #[.int .i64 kd, .string t, .int .i64 nu, .int .i64 ln]] w fun e w' => e = .returned (.string ⟨(wrtn ⟨kd, t.data.toList, nu⟩).toArray⟩) ∧ Below w.heap.size w w' := by
  obtain ⟨W, hW⟩ : ∃ W, W = wrtn ⟨kd, t.data.toList, nu⟩ := ⟨_, rfl⟩
  rw [← hW]
  by_cases k2 : kd = 2
  · subst k2
    by_cases hz : t.size = 0
    · have he : t.toList.isEmpty = true := empty_yes hz
      have hwu := wrap_uI nu h1 h2
      have hul := uI_le nu h1 h2
      have hW2 : W = ScaM.dec (uI nu) := by rw [hW, data_nil hz]; rfl
      have HW := Lib.hid hW2
      clear hW hW2 h1 h2
      generalize uI nu = u at *
      go_enter Tryz.func25, Tryz.ntmps25
      go_wp2_with fail
      refine (decimal_any u hul _).mono ?_
      rintro _ w1 ⟨rfl, hb⟩
      rw [← HW.out]
      go_wp2_with fail
      go_ret
      exact ⟨rfl, ((Below.refl _ _).alloc (Nat.le_refl _) _).trans (hb.mono (by simp))⟩
    · have he : t.toList.isEmpty = false := empty_no hz
      have HW := Lib.hid (hW.trans (w_intx (data_ne hz)))
      clear hW
      go_enter Tryz.func25, Tryz.ntmps25
      go_wp2_with fail
      go_ret
      exact ⟨by rw [HW.out]; rfl, (Below.refl _ _).alloc (Nat.le_refl _) _⟩
  · have e2 : (kd == 2) = false := by rw [beq_eq_false_iff_ne]; exact k2
    by_cases hn : nu = 0
    · have en : (nu != 0) = false := by rw [hn]; rfl
      rw [hn] at hW
      by_cases k3 : kd = 3
      · have e3 : (kd == 3) = true := by rw [k3]; rfl
        rw [k3] at hW
        have HW := Lib.hid hW
        clear hW k2 k3 hn
        go_enter Tryz.func25, Tryz.ntmps25
        go_wp2_with fail
        refine (UtfK.rQuote_any t (by omega) _).mono ?_
        rintro _ w1 ⟨rfl, hb⟩
        go_wp2_with fail
        go_ret
        exact ⟨by rw [HW.out]; rfl, ((Below.refl _ _).alloc (Nat.le_refl _) _).trans (hb.mono (by simp))⟩
      · have e3 : (kd == 3) = false := by rw [beq_eq_false_iff_ne]; exact k3
        by_cases k4 : kd = 4
        · have e4 : (kd == 4) = true := by rw [k4]; rfl
          have e1 : (kd == 1) = false := by rw [k4]; rfl
          rw [k4, w_sign] at hW
          cases hs : signB t.data.toList with
          | true =>
            rw [hs, if_pos rfl] at hW
            have HW := Lib.hid hW
            have Hs := Lib.hid hs
            clear hW k2 k3 k4 hn hs
            go_enter Tryz.func25, Tryz.ntmps25
            go_wp2_with fail
            refine (sign_any t _).mono ?_
            rintro _ w1 ⟨rfl, hb⟩
            rw [Hs.out]
            have B := (b4_new w (.int .i64 kd) (.string t) (.int .i64 nu) (.int .i64 ln) 35).below hb
            obtain ⟨_, p0, p1, p2, p3, pf⟩ := B
            go_wp2_with fail
            go_ret
            exact ⟨by rw [HW.out]; rfl, ((Below.refl _ _).alloc (Nat.le_refl _) _).trans (hb.mono (by simp))⟩
          | false =>
            rw [hs, if_neg (by simp)] at hW
            have HW := Lib.hid hW
            have Hs := Lib.hid hs
            clear hW k2 k3 k4 hn hs
            go_enter Tryz.func25, Tryz.ntmps25
            go_wp2_with fail
            refine (sign_any t _).mono ?_
            rintro _ w1 ⟨rfl, hb⟩
            rw [Hs.out]
            have B := (b4_new w (.int .i64 kd) (.string t) (.int .i64 nu) (.int .i64 ln) 35).below hb
            obtain ⟨_, p0, p1, p2, p3, pf⟩ := B
            have hb1 := ((Below.refl _ _).alloc (Nat.le_refl _) _).trans (hb.mono (by simp))
            clear hb
            go_wp2_with fail
            go_quiet (fail)
            go_wp2_with fail
            go_ret
            exact ⟨by rw [HW.out]; rfl, below_drewN hb1 _⟩
        · have e4 : (kd == 4) = false := by rw [beq_eq_false_iff_ne]; exact k4
          by_cases k1 : kd = 1
          · have e1 : (kd == 1) = true := by rw [k1]; rfl
            rw [k1, wrtn_name] at hW
            obtain ⟨m, hm⟩ : ∃ m, m = nm t.data.toList := ⟨_, rfl⟩
            have hml := nm_size t
            rw [← hm] at hW hml
            have Hm := Lib.hid hm
            clear k2 k3 k4 k1 hn hm
            have hlen : t.data.toList.length = t.size := rfl
            have HNm : Hid (∀ W, Calls Tryz.prog 35 #[.string t, .int .i64 0] W fun e w' => e = .returned (.int .i64 (m : Int)) ∧ w' = W) := Lib.hid (fun W => (name_any t 0 (by omega) (by omega) W).mono fun e w' ⟨a1, a2⟩ => ⟨by rw [a1, List.drop_zero, Nat.zero_add, ← Hm.out], a2.symm⟩)
            obtain ⟨ft, hft⟩ : ∃ ft, ft = fitN t.data.toList := ⟨_, rfl⟩
            have HFt : Hid (∀ W, Calls Tryz.prog 36 #[.string t] W fun e w' => e = .returned (.bool ft) ∧ w' = W) := Lib.hid (fun W => (fitting_any t W).mono fun e w' ⟨a1, a2⟩ => ⟨by rw [a1, hft], a2.symm⟩)
            rw [← hft] at hW
            clear hft
            by_cases hmt : m = t.size
            · have em : ((m : Int) == t.size) = true := by rw [beq_iff_eq, hmt]
              by_cases hz : t.size = 0
              · have he : t.toList.isEmpty = true := empty_yes hz
                rw [if_neg (fun c => c.2.1 (data_nil hz))] at hW
                clear hz
                have HW := Lib.hid hW
                clear hW hmt hml
                go_enter Tryz.func25, Tryz.ntmps25
                go_wp2_with fail
                go_quiet (first | (go_at_call 35; exact Calls.quiet_of_same (HNm.out _)) | (go_at_call 36; exact Calls.quiet_of_same (HFt.out _)))
                go_wp2_with fail
                go_ret
                exact ⟨by rw [HW.out]; rfl, below_drewN ((Below.refl _ _).alloc (Nat.le_refl _) _) _⟩
              · have he : t.toList.isEmpty = false := empty_no hz
                cases ft with
                | true =>
                  rw [if_pos ⟨hmt.trans hlen.symm, data_ne hz, rfl⟩] at hW
                  have HW := Lib.hid hW
                  clear hW hmt hml
                  go_enter Tryz.func25, Tryz.ntmps25
                  go_wp2_with fail
                  go_quiet (first | (go_at_call 35; exact Calls.quiet_of_same (HNm.out _)) | (go_at_call 36; exact Calls.quiet_of_same (HFt.out _)))
                  go_wp2_with fail
                  go_ret
                  exact ⟨by rw [HW.out]; rfl, below_drewN ((Below.refl _ _).alloc (Nat.le_refl _) _) _⟩
                | false =>
                  rw [if_neg (fun c => by have := c.2.2; simp at this)] at hW
                  have HW := Lib.hid hW
                  clear hW hmt hml
                  go_enter Tryz.func25, Tryz.ntmps25
                  go_wp2_with fail
                  go_quiet (first | (go_at_call 35; exact Calls.quiet_of_same (HNm.out _)) | (go_at_call 36; exact Calls.quiet_of_same (HFt.out _)))
                  go_wp2_with fail
                  go_ret
                  exact ⟨by rw [HW.out]; rfl, below_drewN ((Below.refl _ _).alloc (Nat.le_refl _) _) _⟩
            · have em : ((m : Int) == t.size) = false := by rw [beq_eq_false_iff_ne]; omega
              rw [if_neg (fun c => hmt (c.1.trans hlen))] at hW
              have HW := Lib.hid hW
              clear hW hmt hml
              go_enter Tryz.func25, Tryz.ntmps25
              go_wp2_with fail
              go_quiet (first | (go_at_call 35; exact Calls.quiet_of_same (HNm.out _)) | (go_at_call 36; exact Calls.quiet_of_same (HFt.out _)))
              go_wp2_with fail
              go_ret
              exact ⟨by rw [HW.out]; rfl, below_drewN ((Below.refl _ _).alloc (Nat.le_refl _) _) _⟩
          · have e1 : (kd == 1) = false := by rw [beq_eq_false_iff_ne]; exact k1
            rw [w_other k2 k3 k4 k1] at hW
            have HW := Lib.hid hW
            clear hW k2 k3 k4 k1 hn
            go_enter Tryz.func25, Tryz.ntmps25
            go_wp2_with fail
            go_quiet (fail)
            go_wp2_with fail
            go_ret
            exact ⟨by rw [HW.out]; rfl, below_drewN ((Below.refl _ _).alloc (Nat.le_refl _) _) _⟩
    · have en : (nu != 0) = true := by rw [bne_iff_ne]; exact hn
      have HW := Lib.hid (hW.trans (w_num k2 hn))
      clear hW k2 hn
      go_enter Tryz.func25, Tryz.ntmps25
      go_wp2_with fail
      go_ret
      exact ⟨by rw [HW.out]; rfl, (Below.refl _ _).alloc (Nat.le_refl _) _⟩
end Go.Proofs.YtoinfjdhbopefaaGreatDoor.TkrE

/- The reference of stage 7: comparing tokens. -/
set_option linter.unusedSimpArgs false
set_option linter.unusedVariables false
namespace Go.Proofs.YtoinfjdhbopefaaGreatDoor.TkrF
open Go.RowKit Nums IdnM IdnC TokM TokD TokS IdrA TkrA TkrB TkrC TkrD TkrE Box4

/-- A token of a slice, as it lies in memory. -/
structure Mt where
  kd : Int
  t : ByteArray
  nu : Int
  ln : Int
def Mt.tok (m : Mt) : Tok := ⟨m.kd, m.t.data.toList, m.nu⟩
def Mt.rng (m : Mt) : Prop := m.t.size ≤ 9223372036854775807 ∧ (-9223372036854775808 ≤ m.kd ∧ m.kd ≤ 9223372036854775807) ∧ (-9223372036854775808 ≤ m.nu ∧ m.nu ≤ 9223372036854775807) ∧ (-9223372036854775808 ≤ m.ln ∧ m.ln ≤ 9223372036854775807)
def Mt.ok (m : Mt) : Prop := m.t.size ≤ 140737488351232 ∧ (-9223372036854775808 ≤ m.kd ∧ m.kd ≤ 9223372036854775807) ∧ (-9223372036854775808 ≤ m.nu ∧ m.nu ≤ 9223372036854775807) ∧ (-9223372036854775808 ≤ m.ln ∧ m.ln ≤ 9223372036854775807)
/-- A slice of tokens that is read. -/
def KnT (w : World) (v : Value) (l : List Mt) : Prop := ∃ a cap, v = .slice a l.length cap ∧ l.length ≤ cap ∧ ∀ (j : Nat) m, l[j]? = some m → ∃ b o, a = some ⟨b, o, none⟩ ∧ b < w.heap.size ∧
  w.cell? ⟨b, o + j * 4, none⟩ = some (.int .i64 m.kd) ∧ w.cell? ⟨b, o + j * 4 + 1, none⟩ = some (.string m.t) ∧ w.cell? ⟨b, o + j * 4 + 2, none⟩ = some (.int .i64 m.nu) ∧ w.cell? ⟨b, o + j * 4 + 3, none⟩ = some (.int .i64 m.ln)
theorem KnT.below {w w1 : World} {v : Value} {l : List Mt} (h : KnT w v l) (hb : Below w.heap.size w w1) : KnT w1 v l := by
  obtain ⟨a, cap, rfl, hc, h⟩ := h
  refine ⟨a, cap, rfl, hc, fun j m hm => ?_⟩
  obtain ⟨b, o, rfl, hlt, c0, c1, c2, c3⟩ := h j m hm
  have hcell : ∀ q, w1.cell? ⟨b, q, none⟩ = w.cell? ⟨b, q, none⟩ := fun q => hb.cell (p := ⟨b, q, none⟩) hlt
  exact ⟨b, o, rfl, Nat.lt_of_lt_of_le hlt hb.size, (hcell _).trans c0, (hcell _).trans c1, (hcell _).trans c2, (hcell _).trans c3⟩

/-- Whether a token is this sign or name. -/
def isB (k : Tok) (s : List UInt8) : Bool := (decide (k.kind = 4) || decide (k.kind = 1)) && decide (k.text = s)
def same (a b : List Mt) : Bool := decide (a.map Mt.tok = b.map Mt.tok)
def lines (a b : List Mt) : Bool := decide (a.map Mt.ln = b.map Mt.ln)
theorem map_no {α : Type} (f : Mt → α) {a b : List Mt} {k : Nat} {x y : Mt} (hx : a[k]? = some x) (hy : b[k]? = some y) (hne : f x ≠ f y) : a.map f ≠ b.map f := by
  intro e
  have h1 : (a.map f)[k]? = some (f x) := by rw [List.getElem?_map, hx]; rfl
  have h2 : (b.map f)[k]? = some (f y) := by rw [List.getElem?_map, hy]; rfl
  rw [e, h2] at h1
  exact hne (Option.some.inj h1).symm
theorem map_yes {α : Type} (f : Mt → α) {a b : List Mt} (hl : a.length = b.length) (h : ∀ (k : Nat) x y, a[k]? = some x → b[k]? = some y → f x = f y) : a.map f = b.map f := by
  apply List.ext_getElem?
  intro k
  rw [List.getElem?_map, List.getElem?_map]
  rcases Nat.lt_or_ge k a.length with hk | hk
  · have h1 : a[k]? = some a[k] := List.getElem?_eq_getElem hk
    have h2 : b[k]? = some (b[k]'(by omega)) := List.getElem?_eq_getElem (by omega)
    rw [h1, h2]
    exact congrArg some (h k _ _ h1 h2)
  · rw [List.getElem?_eq_none hk, List.getElem?_eq_none (by omega)]
theorem map_len {α : Type} (f : Mt → α) {a b : List Mt} (hl : a.length ≠ b.length) : a.map f ≠ b.map f := by
  intro e
  have := congrArg List.length e
  rw [List.length_map, List.length_map] at this
  exact hl this
theorem str_ne (a b : ByteArray) {v : Bool} (h : decide (a.data.toList = b.data.toList) = v) : (a.toList != b.toList) = !v := by
  rw [← h, ByteArray.toList_eq, ByteArray.toList_eq, Bool.eq_iff_iff, bne_iff_ne, Bool.not_eq_true', decide_eq_false_iff_not]
theorem str_eq (a b : ByteArray) {v : Bool} (h : decide (a.data.toList = b.data.toList) = v) : (a.toList == b.toList) = v := by
  rw [← h, ByteArray.toList_eq, ByteArray.toList_eq, Bool.eq_iff_iff, beq_iff_eq, decide_eq_true_eq]

set_option maxHeartbeats 2000000 in
set_option maxRecDepth 100000 in
theorem same_any (v1 v2 : Value) (la lb : List Mt) (w : World) (ha : KnT w v1 la) (hb : KnT w v2 lb) (hl : la.length ≤ 9223372036854775807) (hl2 : lb.length ≤ 9223372036854775807) :
    Calls Tryz.prog 8 #[v1, v2] w fun e w' => e = .returned (.bool (same la lb)) ∧ Below w.heap.size w w' := by
  obtain ⟨a1, cap1, rfl, hcap1, hcells1⟩ := ha
  obtain ⟨a2, cap2, rfl, hcap2, hcells2⟩ := hb
  have H1 := Lib.hid hcells1
  have H2 := Lib.hid hcells2
  clear hcells1 hcells2
  obtain ⟨B, hB⟩ : ∃ B, B = same la lb := ⟨_, rfl⟩
  rw [← hB]
  by_cases hlen : la.length = lb.length
  · have d1 : ((la.length : Int) != lb.length) = false := by rw [bne_eq_false_iff_eq]; omega
    have HB := Lib.hid hB
    clear hB
    go_enter Tryz.func8, Tryz.ntmps8
    go_wp2_with fail
    go_loopw [5] (fun iv wr => ∃ k : Nat, k ≤ la.length ∧ iv = .int .i64 k ∧ Hid (Below w.heap.size w wr) ∧ Hid (∀ (j : Nat) x y, la[j]? = some x → lb[j]? = some y → j < k → Mt.tok x = Mt.tok y)) (fun iv _ => la.length - (intOf iv).toNat)
    case atStart => exact ⟨0, by omega, rfl, Lib.hid (Below.refl _ _), Lib.hid (fun j x y _ _ hj => by omega)⟩
    case round =>
      obtain ⟨k, hk, rfl, Hb0, Hk⟩ := hrel
      by_cases hlt : k < la.length
      · have hlt2 : k < lb.length := by omega
        obtain ⟨x, hx⟩ : ∃ x, la[k]? = some x := ⟨_, List.getElem?_eq_getElem hlt⟩
        obtain ⟨y, hy⟩ : ∃ y, lb[k]? = some y := ⟨_, List.getElem?_eq_getElem hlt2⟩
        obtain ⟨kb1, ko1, rfl, hb1, c10, c11, c12, c13⟩ := H1.out k x hx
        obtain ⟨kb2, ko2, rfl, hb2, c20, c21, c22, c23⟩ := H2.out k y hy
        have cc1 : ∀ q, wr.cell? ⟨kb1, q, none⟩ = w.cell? ⟨kb1, q, none⟩ := fun q => Hb0.out.cell (p := ⟨kb1, q, none⟩) hb1
        have cc2 : ∀ q, wr.cell? ⟨kb2, q, none⟩ = w.cell? ⟨kb2, q, none⟩ := fun q => Hb0.out.cell (p := ⟨kb2, q, none⟩) hb2
        replace c10 := (cc1 _).trans c10
        replace c11 := (cc1 _).trans c11
        replace c12 := (cc1 _).trans c12
        replace c13 := (cc1 _).trans c13
        replace c20 := (cc2 _).trans c20
        replace c21 := (cc2 _).trans c21
        replace c22 := (cc2 _).trans c22
        replace c23 := (cc2 _).trans c23
        clear cc1 cc2
        have hnext : Mt.tok x = Mt.tok y → ∀ (j : Nat) x y, la[j]? = some x → lb[j]? = some y → j < k + 1 → Mt.tok x = Mt.tok y := by
          intro he j x2 y2 hx2 hy2 hj
          rcases Nat.lt_or_ge j k with h5 | h5
          · exact Hk.out j x2 y2 hx2 hy2 h5
          · obtain rfl : j = k := by omega
            rw [hx] at hx2
            rw [hy] at hy2
            cases hx2
            cases hy2
            exact he
        have Hx := Lib.hid hx
        have Hy := Lib.hid hy
        have Hnext := Lib.hid hnext
        clear hx hy hnext
        obtain ⟨k1, t1, n1, l1⟩ := x
        obtain ⟨k2, t2, n2, l2⟩ := y
        simp only at c10 c11 c12 c13 c20 c21 c22 c23
        by_cases hk1 : k1 = k2
        · have e1 : (k1 != k2) = false := by rw [bne_eq_false_iff_eq]; exact hk1
          cases ht : decide (t1.data.toList = t2.data.toList) with
          | true =>
            have e2 : (t1.toList != t2.toList) = false := str_ne t1 t2 ht
            have e2b : (t1.toList == t2.toList) = true := str_eq t1 t2 ht
            by_cases hn1 : n1 = n2
            · have e3 : (n1 != n2) = false := by rw [bne_eq_false_iff_eq]; exact hn1
              have htt : t1.data.toList = t2.data.toList := by simpa using ht
              have Heq := Lib.hid (show Mt.tok ⟨k1, t1, n1, l1⟩ = Mt.tok ⟨k2, t2, n2, l2⟩ by simp only [Mt.tok, hk1, htt, hn1])
              clear hk1 ht hn1 htt
              have Hn := Lib.hid (Hnext.out (Heq.out))
              clear Hnext
              go_wp2_with fail
              go_quiet (fail)
              go_wp2_with fail
              exact ⟨⟨k + 1, by omega, by go_num, Lib.hid (below_drewN Hb0.out _), Hn⟩, by simp [intOf]; omega⟩
            · have e3 : (n1 != n2) = true := by rw [bne_iff_ne]; exact hn1
              have Hne := Lib.hid hn1
              clear hk1 ht hn1
              have HBf := Lib.hid (show B = false by
                rw [HB.out, same, decide_eq_false_iff_not]
                refine map_no Mt.tok Hx.out Hy.out ?_
                intro e; injection e with _ _ e3; exact Hne.out e3)
              clear HB
              go_wp2_with fail
              go_quiet (fail)
              go_wp2_with fail
              go_ret
              exact ⟨by rw [HBf.out]; rfl, below_drewN Hb0.out _⟩
          | false =>
            have e2 : (t1.toList != t2.toList) = true := str_ne t1 t2 ht
            have e2b : (t1.toList == t2.toList) = false := str_eq t1 t2 ht
            have Hne := Lib.hid (show t1.data.toList ≠ t2.data.toList by simpa using ht)
            clear hk1 ht
            have HBf := Lib.hid (show B = false by
              rw [HB.out, same, decide_eq_false_iff_not]
              refine map_no Mt.tok Hx.out Hy.out ?_
              intro e; injection e with _ e2 _; exact Hne.out e2)
            clear HB
            go_wp2_with fail
            go_quiet (fail)
            go_wp2_with fail
            go_ret
            exact ⟨by rw [HBf.out]; rfl, below_drewN Hb0.out _⟩
        · have e1 : (k1 != k2) = true := by rw [bne_iff_ne]; exact hk1
          have Hne := Lib.hid hk1
          clear hk1
          have HBf := Lib.hid (show B = false by
            rw [HB.out, same, decide_eq_false_iff_not]
            refine map_no Mt.tok Hx.out Hy.out ?_
            intro e; injection e with e1 _ _; exact Hne.out e1)
          clear HB
          go_wp2_with fail
          go_quiet (fail)
          go_wp2_with fail
          go_ret
          exact ⟨by rw [HBf.out]; rfl, below_drewN Hb0.out _⟩
      · obtain rfl : k = la.length := by omega
        have HBt := Lib.hid (show B = true by
          rw [HB.out, same, decide_eq_true_eq]
          exact map_yes Mt.tok hlen (fun j x y hx hy => Hk.out j x y hx hy (List.getElem?_eq_some_iff.1 hx).1))
        clear HB
        go_wp2_with fail
        go_ret
        exact ⟨by rw [HBt.out]; rfl, Hb0.out⟩
  · have d1 : ((la.length : Int) != lb.length) = true := by rw [bne_iff_ne]; omega
    have HB := Lib.hid (show B = false by rw [hB, same, decide_eq_false_iff_not]; exact map_len Mt.tok hlen)
    clear hB
    go_enter Tryz.func8, Tryz.ntmps8
    go_wp2_with fail
    go_ret
    exact ⟨by rw [HB.out]; rfl, Below.refl _ _⟩

set_option maxHeartbeats 2000000 in
set_option maxRecDepth 100000 in
theorem lines_any (v1 v2 : Value) (la lb : List Mt) (w : World) (ha : KnT w v1 la) (hb : KnT w v2 lb) (hl : la.length ≤ 9223372036854775807) (hl2 : lb.length ≤ 9223372036854775807) :
    Calls Tryz.prog 9 #[v1, v2] w fun e w' => e = .returned (.bool (lines la lb)) ∧ Below w.heap.size w w' := by
  obtain ⟨a1, cap1, rfl, hcap1, hcells1⟩ := ha
  obtain ⟨a2, cap2, rfl, hcap2, hcells2⟩ := hb
  have H1 := Lib.hid hcells1
  have H2 := Lib.hid hcells2
  clear hcells1 hcells2
  obtain ⟨B, hB⟩ : ∃ B, B = lines la lb := ⟨_, rfl⟩
  rw [← hB]
  by_cases hlen : la.length = lb.length
  · have d1 : ((la.length : Int) != lb.length) = false := by rw [bne_eq_false_iff_eq]; omega
    have HB := Lib.hid hB
    clear hB
    go_enter Tryz.func9, Tryz.ntmps9
    go_wp2_with fail
    go_loopw [5] (fun iv wr => ∃ k : Nat, k ≤ la.length ∧ iv = .int .i64 k ∧ Hid (Below w.heap.size w wr) ∧ Hid (∀ (j : Nat) x y, la[j]? = some x → lb[j]? = some y → j < k → Mt.ln x = Mt.ln y)) (fun iv _ => la.length - (intOf iv).toNat)
    case atStart => exact ⟨0, by omega, rfl, Lib.hid (Below.refl _ _), Lib.hid (fun j x y _ _ hj => by omega)⟩
    case round =>
      obtain ⟨k, hk, rfl, Hb0, Hk⟩ := hrel
      by_cases hlt : k < la.length
      · have hlt2 : k < lb.length := by omega
        obtain ⟨x, hx⟩ : ∃ x, la[k]? = some x := ⟨_, List.getElem?_eq_getElem hlt⟩
        obtain ⟨y, hy⟩ : ∃ y, lb[k]? = some y := ⟨_, List.getElem?_eq_getElem hlt2⟩
        obtain ⟨kb1, ko1, rfl, hb1, c10, c11, c12, c13⟩ := H1.out k x hx
        obtain ⟨kb2, ko2, rfl, hb2, c20, c21, c22, c23⟩ := H2.out k y hy
        have cc1 : ∀ q, wr.cell? ⟨kb1, q, none⟩ = w.cell? ⟨kb1, q, none⟩ := fun q => Hb0.out.cell (p := ⟨kb1, q, none⟩) hb1
        have cc2 : ∀ q, wr.cell? ⟨kb2, q, none⟩ = w.cell? ⟨kb2, q, none⟩ := fun q => Hb0.out.cell (p := ⟨kb2, q, none⟩) hb2
        replace c10 := (cc1 _).trans c10
        replace c11 := (cc1 _).trans c11
        replace c12 := (cc1 _).trans c12
        replace c13 := (cc1 _).trans c13
        replace c20 := (cc2 _).trans c20
        replace c21 := (cc2 _).trans c21
        replace c22 := (cc2 _).trans c22
        replace c23 := (cc2 _).trans c23
        clear cc1 cc2
        have hnext : Mt.ln x = Mt.ln y → ∀ (j : Nat) x y, la[j]? = some x → lb[j]? = some y → j < k + 1 → Mt.ln x = Mt.ln y := by
          intro he j x2 y2 hx2 hy2 hj
          rcases Nat.lt_or_ge j k with h5 | h5
          · exact Hk.out j x2 y2 hx2 hy2 h5
          · obtain rfl : j = k := by omega
            rw [hx] at hx2
            rw [hy] at hy2
            cases hx2
            cases hy2
            exact he
        have Hx := Lib.hid hx
        have Hy := Lib.hid hy
        have Hnext := Lib.hid hnext
        clear hx hy hnext
        obtain ⟨k1, t1, n1, l1⟩ := x
        obtain ⟨k2, t2, n2, l2⟩ := y
        simp only at c10 c11 c12 c13 c20 c21 c22 c23
        by_cases hl1 : l1 = l2
        · have e1 : (l1 != l2) = false := by rw [bne_eq_false_iff_eq]; exact hl1
          have Heq := Lib.hid hl1
          clear hl1
          have Hn := Lib.hid (Hnext.out (Heq.out))
          clear Hnext
          go_wp2_with fail
          go_quiet (fail)
          go_wp2_with fail
          exact ⟨⟨k + 1, by omega, by go_num, Lib.hid (below_drewN Hb0.out _), Hn⟩, by simp [intOf]; omega⟩
        · have e1 : (l1 != l2) = true := by rw [bne_iff_ne]; exact hl1
          have Hne := Lib.hid hl1
          clear hl1
          have HBf := Lib.hid (show B = false by
            rw [HB.out, lines, decide_eq_false_iff_not]
            refine map_no Mt.ln Hx.out Hy.out ?_
            exact Hne.out)
          clear HB
          go_wp2_with fail
          go_quiet (fail)
          go_wp2_with fail
          go_ret
          exact ⟨by rw [HBf.out]; rfl, below_drewN Hb0.out _⟩
      · obtain rfl : k = la.length := by omega
        have HBt := Lib.hid (show B = true by
          rw [HB.out, lines, decide_eq_true_eq]
          exact map_yes Mt.ln hlen (fun j x y hx hy => Hk.out j x y hx hy (List.getElem?_eq_some_iff.1 hx).1))
        clear HB
        go_wp2_with fail
        go_ret
        exact ⟨by rw [HBt.out]; rfl, Hb0.out⟩
  · have d1 : ((la.length : Int) != lb.length) = true := by rw [bne_iff_ne]; omega
    have HB := Lib.hid (show B = false by rw [hB, lines, decide_eq_false_iff_not]; exact map_len Mt.ln hlen)
    clear hB
    go_enter Tryz.func9, Tryz.ntmps9
    go_wp2_with fail
    go_ret
    exact ⟨by rw [HB.out]; rfl, Below.refl _ _⟩
end Go.Proofs.YtoinfjdhbopefaaGreatDoor.TkrF

/- A slice of tokens that a call has made itself; what a scan leaves. -/
set_option linter.unusedSimpArgs false
set_option linter.unusedVariables false
namespace Go.Proofs.YtoinfjdhbopefaaGreatDoor.OwnT
open Go.RowKit Nums TokM TokS TokU TkrD TkrF

def fields (m : Mt) : List Value := [.int .i64 m.kd, .string m.t, .int .i64 m.nu, .int .i64 m.ln]
def OwnT (w : World) (base : Nat) (v : Value) (l : List Mt) : Prop := w.ownsRow base 35 4 v l.length (l.flatMap fields)
theorem infoT : (Tryz.prog.info? 35).map (fun i => (i.zero, i.size, i.bytes)) = some (some (.agg #[.int .i64 0, .string ByteArray.empty, .int .i64 0, .int .i64 0]), 4, 40) := by kernel_rfl
theorem flat_len : ∀ l : List Mt, (l.flatMap fields).length = l.length * 4
  | [] => rfl
  | c :: l => by
    rw [List.flatMap_cons, List.length_append, flat_len l]
    simp [fields]; omega
theorem flat_at : ∀ (l : List Mt) (j q : Nat) (m : Mt), l[j]? = some m → q < 4 → (l.flatMap fields)[j * 4 + q]? = (fields m)[q]?
  | [], j, q, m, h, _ => by simp at h
  | c :: l, 0, q, m, h, hq => by
    simp at h
    subst h
    rw [List.flatMap_cons, List.getElem?_append_left (by simp [fields]; omega), Nat.zero_mul, Nat.zero_add]
  | c :: l, j + 1, q, m, h, hq => by
    rw [List.flatMap_cons, List.getElem?_append_right (by simp [fields]; omega)]
    have hf : (fields c).length = 4 := rfl
    rw [hf, show (j + 1) * 4 + q - 4 = j * 4 + q by omega]
    exact flat_at l j q m (by simpa using h) hq
section
variable {w w1 : World} {base : Nat} {v : Value} {l : List Mt}
theorem OwnT.nil (w : World) (base : Nat) : OwnT w base (.slice none 0 0) [] := World.ownsRow_nil _ _ _ _
theorem OwnT.below (h : OwnT w base v l) (hb : Below w.heap.size w w1) : OwnT w1 base v l := by
  refine ⟨h.1, h.2.imp id fun ⟨g, cap, cur, h1, h2, h3, h4⟩ => ⟨g, cap, cur, h1, h2, ?_, h4⟩⟩
  rw [hb.block g (Array.getElem?_eq_some_iff.1 h3).1]
  exact h3
theorem OwnT.set (h : OwnT w base v l) {k : Nat} (hk : v.ownBlock ≠ some k) (j : Nat) (u : Value) : OwnT (w.setCell ⟨k, j, none⟩ u) base v l := by
  refine ⟨h.1, h.2.imp id fun ⟨g, cap, cur, h1, h2, h3, h4⟩ => ⟨g, cap, cur, h1, h2, ?_, h4⟩⟩
  rw [Below.heap_setCell w _ _ g (by subst h1; simpa [Value.ownBlock] using hk)]
  exact h3
theorem OwnT.lt (h : OwnT w base v l) : ∀ k, v.ownBlock = some k → base ≤ k ∧ k < w.heap.size := World.ownsRow.lt h
theorem OwnT.known (h : OwnT w base v l) : KnT w v l := by
  rcases h.2 with ⟨rfl, hn⟩ | ⟨g, cap, cur, rfl, hb, hg, hnc, hcm, hcs, htk⟩
  · have : l = [] := List.length_eq_zero_iff.1 hn
    subst this
    exact ⟨none, 0, rfl, Nat.le_refl _, fun j m hm => by simp at hm⟩
  · refine ⟨_, cap, rfl, hnc, fun j m hm => ⟨g, 0, rfl, (Array.getElem?_eq_some_iff.1 hg).1, ?_⟩⟩
    have hj := (List.getElem?_eq_some_iff.1 hm).1
    have hc : ∀ q, q < 4 → w.cell? ⟨g, 0 + j * 4 + q, none⟩ = (fields m)[q]? := fun q hq => by
      rw [Nat.zero_add, World.ownsRow.cellAt h (j * 4 + q) (by omega), flat_at l j q m hm hq]
    exact ⟨hc 0 (by omega), hc 1 (by omega), hc 2 (by omega), hc 3 (by omega)⟩
end
/-- A token as it lies in memory. -/
def mk (p : Tok × Nat) : Mt := ⟨p.1.kind, ⟨p.1.text.toArray⟩, p.1.num, (p.2 : Int)⟩
theorem mk_tok (p : Tok × Nat) : (mk p).tok = p.1 := rfl
/-- What a scan leaves: its tokens, a line and an error. -/
def SR (s : ByteArray) (w : World) (v : Value) (line er : Int) : Prop :=
  if 16384 < s.size then KnT w v [] ∧ line = 0 ∧ er = 3 else match scanT 1 s.data.toList with
    | .error e => KnT w v [] ∧ line = e.1 ∧ er = e.2
    | .ok P => line = 0 ∧ er = 0 ∧ KnT w v (P.map mk) ∧ ∀ p ∈ P, (mk p).ok
def SB (s : ByteArray) (w : World) (e : Ending) (w' : World) : Prop := ∃ v line er, e = .returned (.tuple #[v, .int .i64 line, .int .i64 er]) ∧ SR s w' v line er ∧ Below w.heap.size w w'
theorem known_nil (w : World) : KnT w (.slice none 0 0) [] := ⟨none, 0, rfl, Nat.le_refl _, fun j m hm => by simp at hm⟩
end Go.Proofs.YtoinfjdhbopefaaGreatDoor.OwnT

/- The reference of stage 7: dividing a text into tokens. -/
set_option linter.unusedSimpArgs false
set_option linter.unusedVariables false
namespace Go.Proofs.YtoinfjdhbopefaaGreatDoor.TkrH
open Go.RowKit Nums IdnM IdnC TokM TokD TokS TokT TokU IdrA TkrA TkrB TkrC TkrD TkrE TkrF OwnT Box4

theorem one_kind {l : List UInt8} {k : Tok} {n : Nat} (h : one l = .ok (k, n)) : 1 ≤ k.kind ∧ k.kind ≤ 4 ∧ k.text.length ≤ l.length := by
  cases l with
  | nil => simp [one] at h
  | cons b t =>
    by_cases h0 : nm (b :: t) = 0
    · cases hd : dg b with
      | true =>
        rw [one_intE h0 hd] at h
        have key : ∀ x : Except Nat Int, (x.map fun n => ((⟨2, [], n⟩ : Tok), dlen (b :: t))) = .ok (k, n) → 1 ≤ k.kind ∧ k.kind ≤ 4 ∧ k.text.length ≤ (b :: t).length := by
          intro x hx
          cases x with
          | error e => cases hx
          | ok m =>
            simp only [Except.map, Except.ok.injEq, Prod.mk.injEq] at hx
            obtain ⟨rfl, _⟩ := hx
            exact ⟨by show (1 : Int) ≤ 2; decide, by show (2 : Int) ≤ 4; decide, Nat.zero_le _⟩
        cases e : (b :: t).drop (dlen (b :: t)) with
        | nil => rw [intE_num (fun c r e2 => by rw [e] at e2; cases e2)] at h; exact key _ h
        | cons c r =>
          cases hw : wch c with
          | true => rw [intE_bad e hw] at h; cases h
          | false => rw [intE_num (fun c2 r2 e2 => by rw [e] at e2; cases e2; exact hw)] at h; exact key _ h
      | false =>
        by_cases hq : b = 34
        · subst hq
          rw [one_text h0] at h
          split at h
          · simp only [Except.ok.injEq, Prod.mk.injEq] at h
            obtain ⟨rfl, _⟩ := h
            refine ⟨by show (1 : Int) ≤ 3; decide, by show (3 : Int) ≤ 4; decide, ?_⟩
            show (UtfQ.unquote (34 :: t)).1.length ≤ _
            rcases UtfQ.unquote_cases (34 :: t) with hu | ⟨s, m, hu, h2, h3, h4⟩
            · rw [hu]; exact Nat.zero_le _
            · rw [hu]
              have h5 := congrArg List.length h4
              rw [UtfQ.quote_len, List.length_take] at h5
              have h6 := (UtfQ.body_le s).1
              show s.length ≤ _
              omega
          · cases h
        · rw [one_sign h0 hd hq] at h
          split at h
          · simp only [Except.ok.injEq, Prod.mk.injEq] at h
            obtain ⟨rfl, _⟩ := h
            exact ⟨by show (1 : Int) ≤ 4; decide, by show (4 : Int) ≤ 4; decide, by simp⟩
          · cases h
    · rw [one_name h0] at h
      split at h
      · simp only [Except.ok.injEq, Prod.mk.injEq] at h
        obtain ⟨rfl, _⟩ := h
        exact ⟨by show (1 : Int) ≤ 1; decide, by show (1 : Int) ≤ 4; decide, (List.take_sublist _ _).length_le⟩
      · cases h
theorem mk_ok {l : List UInt8} {k : Tok} {n ln : Nat} (h : one l = .ok (k, n)) (hl : l.length ≤ 4294967296) (hln : ln ≤ 4294967299) : (mk (k, ln)).ok := by
  obtain ⟨h1, h2, h3⟩ := one_kind h
  have h4 := one_in h
  refine ⟨?_, ?_, h4, ?_⟩
  · show k.text.toArray.size ≤ _
    simp
    omega
  · show -9223372036854775808 ≤ k.kind ∧ k.kind ≤ 9223372036854775807
    omega
  · show -9223372036854775808 ≤ (ln : Int) ∧ (ln : Int) ≤ 9223372036854775807
    omega

def pre (P : List (Tok × Nat)) (x : Except (Nat × Nat) (List (Tok × Nat))) : Except (Nat × Nat) (List (Tok × Nat)) := x.map fun r => P ++ r
theorem pre_cons (P : List (Tok × Nat)) (p : Tok × Nat) (x : Except (Nat × Nat) (List (Tok × Nat))) : pre P (x.map fun r => p :: r) = pre (P ++ [p]) x := by
  cases x with
  | error e => rfl
  | ok r => simp [pre, Except.map]
theorem drop_at' {s : ByteArray} {k : Nat} (h : k < s.size) : s.data.toList.drop k = s[k] :: s.data.toList.drop (k + 1) := List.drop_eq_getElem_cons (show k < s.data.toList.length from h)
theorem eqb {b : UInt8} {n : Nat} (hn : n < 256) : ((b.toNat : Int) == (n : Int)) = decide (b = UInt8.ofNat n) := by
  rw [Bool.eq_iff_iff, beq_iff_eq, decide_eq_true_eq]
  constructor
  · intro h
    apply UInt8.toNat_inj.1
    rw [UInt8.toNat_ofNat']
    omega
  · rintro rfl
    rw [UInt8.toNat_ofNat']
    omega

theorem at_47 {s : ByteArray} {k : Nat} (h : atB s k = 47) : k < s.size := by
  rcases Nat.lt_or_ge k s.size with h1 | h1
  · exact h1
  · rw [atB_ge h1] at h; exact absurd h (by decide)
set_option maxHeartbeats 4000000 in
set_option maxRecDepth 100000 in
theorem scan_any (s : ByteArray) (w : World) :
    Calls Tryz.prog 7 #[.string s] w fun e w' => SB s w e w' := by
  obtain ⟨i0, hi, hz0, hz1, hz2⟩ := info_parts infoT
  by_cases hbig : 16384 < s.size
  · have d1 : decide ((16384 : Int) < s.size) = true := decide_eq_true (by omega)
    have Hbig := Lib.hid hbig
    clear hbig
    go_enter Tryz.func7, Tryz.ntmps7
    go_wp2_with fail
    go_ret3
    exact ⟨_, _, _, rfl, by unfold SR; rw [if_pos Hbig.out]; exact ⟨known_nil _, rfl, rfl⟩, Below.refl _ _⟩
  · have d1 : decide ((16384 : Int) < s.size) = false := decide_eq_false (by omega)
    have hs : s.size ≤ 4294967000 := by omega
    obtain ⟨X, hX⟩ : ∃ X, X = scanT 1 s.data.toList := ⟨_, rfl⟩
    have HX := Lib.hid hX
    have Hbig := Lib.hid hbig
    clear hbig hX
    go_enter Tryz.func7, Tryz.ntmps7
    go_wp2_with fail
    go_loopw [5, 6, 7] (fun lv nv kv wr => ∃ (k ln : Nat) (v : Value) (P : List (Tok × Nat)), k ≤ s.size ∧ ln ≤ k + 1 ∧ P.length ≤ k ∧ lv = v ∧ nv = .int .i64 ln ∧ kv = .int .i64 k ∧ Hid (OwnT wr w.heap.size v (P.map mk)) ∧ Hid (Below w.heap.size w wr) ∧ Hid (X = pre P (scanT ln (s.data.toList.drop k))) ∧ Hid (∀ p ∈ P, (mk p).ok)) (fun _ _ kv _ => s.size - (intOf kv).toNat)
    case atStart =>
      refine ⟨0, 1, _, [], by omega, by omega, by simp, rfl, rfl, rfl, Lib.hid (OwnT.nil _ _), Lib.hid (Below.refl _ _), Lib.hid ?_, Lib.hid (by simp)⟩
      rw [List.drop_zero, ← HX.out]
      cases X <;> rfl
    case round =>
      obtain ⟨k, ln, v, P, hk, hln, hP, rfl, rfl, rfl, HO, HB, Hs, Hok⟩ := hrel
      by_cases hlt : k < s.size
      · have hdr := drop_at' hlt
        have hsc := Hs.out
        rw [hdr] at hsc
        have t10 : ((s[k].toNat : Int) == 10) = decide (s[k] = 10) := eqb (n := 10) (by decide)
        have t32 : ((s[k].toNat : Int) == 32) = decide (s[k] = 32) := eqb (n := 32) (by decide)
        have t9 : ((s[k].toNat : Int) == 9) = decide (s[k] = 9) := eqb (n := 9) (by decide)
        have t13 : ((s[k].toNat : Int) == 13) = decide (s[k] = 13) := eqb (n := 13) (by decide)
        have t47 : ((s[k].toNat : Int) == 47) = decide (s[k] = 47) := eqb (n := 47) (by decide)
        by_cases h10 : s[k] = 10
        · rw [h10, scan_lf] at hsc
          rw [decide_eq_true h10] at t10
          have Hsc := Lib.hid hsc
          clear hsc hdr t32 t9 t13 t47 h10
          go_wp2_with fail
          exact ⟨⟨k + 1, ln + 1, _, P, by omega, by omega, by omega, rfl, by go_num, by go_num, HO, HB, Hsc, Hok⟩, by simp [intOf]; omega⟩
        · rw [decide_eq_false h10] at t10
          cases hw : ws s[k] with
          | true =>
            rw [scan_ws _ _ hw] at hsc
            have Hsc := Lib.hid hsc
            simp only [ws, Bool.or_eq_true, decide_eq_true_eq] at hw
            clear hsc hdr t47 h10
            by_cases h32 : s[k] = 32
            · rw [decide_eq_true h32] at t32
              clear hw h32 t9 t13
              go_wp2_with fail
              exact ⟨⟨k + 1, ln, _, P, by omega, by omega, by omega, rfl, rfl, by go_num, HO, HB, Hsc, Hok⟩, by simp [intOf]; omega⟩
            · rw [decide_eq_false h32] at t32
              by_cases h9 : s[k] = 9
              · rw [decide_eq_true h9] at t9
                clear hw h32 h9 t13
                go_wp2_with fail
                exact ⟨⟨k + 1, ln, _, P, by omega, by omega, by omega, rfl, rfl, by go_num, HO, HB, Hsc, Hok⟩, by simp [intOf]; omega⟩
              · rw [decide_eq_false h9] at t9
                have h13 : s[k] = 13 := by
                  rcases hw with (h | h) | h
                  · exact absurd h h32
                  · exact absurd h h9
                  · exact h
                rw [decide_eq_true h13] at t13
                clear hw h32 h9 h13
                go_wp2_with fail
                exact ⟨⟨k + 1, ln, _, P, by omega, by omega, by omega, rfl, rfl, by go_num, HO, HB, Hsc, Hok⟩, by simp [intOf]; omega⟩
          | false =>
            have hw2 := hw
            simp only [ws, Bool.or_eq_false_iff, decide_eq_false_iff_not] at hw2
            obtain ⟨⟨h32, h9⟩, h13⟩ := hw2
            rw [decide_eq_false h32] at t32
            rw [decide_eq_false h9] at t9
            rw [decide_eq_false h13] at t13
            clear h32 h9 h13
            by_cases hcm : s[k] = 47 ∧ (s.data.toList.drop (k + 1)).head? = some 47
            · rw [scan_com _ _ hcm] at hsc
              obtain ⟨h47, hnext⟩ := hcm
              rw [decide_eq_true h47] at t47
              have hk1 : k + 1 < s.size := by
                rcases Nat.lt_or_ge (k + 1) s.size with h | h
                · exact h
                · rw [drop_end h] at hnext; cases hnext
              have hat : atB s (k + 1) = 47 := by
                rw [drop_at hk1] at hnext
                exact Option.some.inj hnext
              have tat : (((atB s (k + 1)).toNat : Int) == 47) = true := by rw [hat]; rfl
              have hne10 : ∀ (W : Nat), s[k] ≠ 10 := fun _ => h10
              have Hne10 := Lib.hid h10
              rw [← hdr] at hsc
              have Hsc := Lib.hid hsc
              clear hsc hdr hat hnext h10 h47 hw hne10
              go_wp2_with fail
              refine (at_z s _ (k + 1) (by omega) _).mono ?_
              rintro _ wz ⟨rfl, rfl⟩
              go_wp2_with fail
              go_loop [7] (fun jv => ∃ j : Nat, k ≤ j ∧ j ≤ s.size ∧ jv = .int .i64 j ∧ Hid (skipc (s.data.toList.drop k) = skipc (s.data.toList.drop j))) (fun jv => s.size - (intOf jv).toNat)
              case atStart => exact ⟨k, Nat.le_refl _, by omega, rfl, Lib.hid rfl⟩
              case round =>
                obtain ⟨j, hkj, hjs, rfl, Hj⟩ := hrel
                by_cases hjlt : j < s.size
                · have hdj := drop_at' hjlt
                  have u10 : ((s[j].toNat : Int) != 10) = !decide (s[j] = 10) := by
                    rw [Bool.eq_iff_iff, bne_iff_ne, Bool.not_eq_true', decide_eq_false_iff_not]
                    constructor
                    · intro h e; exact h (by rw [e]; rfl)
                    · intro h e; exact h (UInt8.toNat_inj.1 (show s[j].toNat = 10 by omega))
                  by_cases hj10 : s[j] = 10
                  · rw [decide_eq_true hj10] at u10
                    have hsk : skipc (s.data.toList.drop k) = s.data.toList.drop j := by
                      rw [Hj.out, hdj, hj10]
                      unfold skipc
                      rw [List.dropWhile_cons_of_neg (by simp)]
                    have hkj2 : k < j := by
                      rcases Nat.lt_or_ge k j with h | h
                      · exact h
                      · obtain rfl : j = k := by omega
                        exact absurd hj10 Hne10.out
                    have Hs2 : Hid (X = pre P (scanT ln (s.data.toList.drop j))) := Lib.hid (by rw [← hsk]; exact Hsc.out)
                    clear hsk hdj hj10
                    go_wp2_with fail
                    exact ⟨⟨j, ln, _, P, by omega, by omega, by omega, rfl, rfl, rfl, HO, HB, Hs2, Hok⟩, by simp [intOf]; omega⟩
                  · rw [decide_eq_false hj10] at u10
                    have Hj2 : Hid (skipc (s.data.toList.drop k) = skipc (s.data.toList.drop (j + 1))) := Lib.hid (by
                      rw [Hj.out, hdj]
                      show (s[j] :: s.data.toList.drop (j + 1)).dropWhile _ = _
                      rw [List.dropWhile_cons_of_pos (by simpa using hj10)]
                      rfl)
                    clear hdj hj10
                    go_wp2_with fail
                    exact ⟨⟨j + 1, by omega, by omega, by go_num, Hj2⟩, by simp [intOf]; omega⟩
                · obtain rfl : j = s.size := by omega
                  have hsk : skipc (s.data.toList.drop k) = s.data.toList.drop s.size := by
                    rw [Hj.out, drop_end (Nat.le_refl _)]
                    rfl
                  have Hs2 : Hid (X = pre P (scanT ln (s.data.toList.drop s.size))) := Lib.hid (by rw [← hsk]; exact Hsc.out)
                  clear hsk
                  go_wp2_with fail
                  exact ⟨⟨s.size, ln, _, P, by omega, by omega, by omega, rfl, rfl, rfl, HO, HB, Hs2, Hok⟩, by simp [intOf]; omega⟩
            · have Hne10 := Lib.hid h10
              have Hws := Lib.hid hw
              have Hcm := Lib.hid hcm
              have Hdr := Lib.hid hdr
              have Hsc := Lib.hid hsc
              have hsplit : s[k] = 47 ∧ atB s (k + 1) ≠ 47 ∨ s[k] ≠ 47 := by
                by_cases h47 : s[k] = 47
                · left
                  refine ⟨h47, fun e => hcm ⟨h47, ?_⟩⟩
                  rw [drop_at (at_47 e), e]
                  rfl
                · exact .inr h47
              clear hsc hdr h10 hw hcm
              rcases hsplit with ⟨h47, hat⟩ | h47
              · rw [decide_eq_true h47] at t47
                have tat : (((atB s (k + 1)).toNat : Int) == 47) = false := beq_of (n := 47) (by
                  rw [decide_eq_false_iff_not]
                  intro e
                  exact hat (UInt8.toNat_inj.1 e))
                clear h47 hat
                go_wp2_with fail
                refine (at_z s _ (k + 1) (by omega) _).mono ?_
                rintro _ wz ⟨rfl, rfl⟩
                go_wp2_with fail
                refine (one_any s k (by omega) hlt _).mono ?_
                rintro _ w1 ⟨vv, rfl, ⟨kk, n, er, rfl, hsp⟩, hb1⟩
                have Hb1 := Lib.hid (HB.out.trans (hb1.mono HB.out.size))
                have HO1 := Lib.hid (HO.out.below hb1)
                have hwr := HB.out.size
                have hw1 := hb1.size
                clear hb1
                rcases hsp with ⟨m, hm, rfl, rfl⟩ | herr
                · have Hone := Lib.hid hm
                  have hwn := one_wrtn hm
                  have hdl : (s.data.toList.drop k).length = s.size - k := List.length_drop
                  have hn1 : 1 ≤ n := hwn.2.1
                  have hn2 : k + n ≤ s.size := by have := hwn.2.2; omega
                  have hmk := mk_ok (ln := ln) hm (by omega) (by omega)
                  have Hmk := Lib.hid hmk
                  clear hm hwn hmk
                  unfold tv
                  go_wp2_with (at_builtin; refine wpList_append_own _ rfl _ _ 23 rfl w.heap.size 35 i0 (.agg #[.int .i64 0, .string ByteArray.empty, .int .i64 0, .int .i64 0]) 4 40 Tryz.underlying23 hi hz0 hz1 hz2 rfl (by decide) _ (P.map mk).length _ rfl (World.ownsRow.alloc (World.ownsRow.alloc HO1.out _) _) ⟨w1.heap.size + 1, 0, none⟩ 1 1 [.int .i64 kk.kind, .string ⟨kk.text.toArray⟩, .int .i64 kk.num, .int .i64 ln] rfl rfl ?c1 ?c2 ?c3 ?c4 ?c5 ?_)
                  case c1 =>
                    intro j u hj
                    have hc := Lib.cell_of_heap (heap_alloc_new (w1.alloc (.cells #[.int .i64 kk.kind, .string ⟨kk.text.toArray⟩, .int .i64 kk.num, .int .i64 ln] 35)) (.cells #[.int .i64 kk.kind, .string ⟨kk.text.toArray⟩, .int .i64 kk.num, .int .i64 ln] 35))
                    have hsz : (w1.alloc (.cells #[.int .i64 kk.kind, .string ⟨kk.text.toArray⟩, .int .i64 kk.num, .int .i64 ln] 35)).heap.size = w1.heap.size + 1 := by simp
                    rw [hsz] at hc
                    have hadd : (⟨w1.heap.size + 1, 0, none⟩ : Addr).add j = ⟨w1.heap.size + 1, j, none⟩ := by
                      unfold Addr.add
                      split
                      · rename_i h; rw [h]
                      · simp
                    rw [hadd, hc j]
                    match j, hj with
                    | 0, hj => exact hj
                    | 1, hj => exact hj
                    | 2, hj => exact hj
                    | 3, hj => exact hj
                    | j + 4, hj => simp at hj
                  case c2 =>
                    intro u hu
                    simp only [List.mem_cons, List.not_mem_nil, or_false] at hu
                    rcases hu with rfl | rfl | rfl | rfl <;> rfl
                  case c3 => unfold maxLen; rw [List.length_map]; omega
                  case c4 => rw [List.length_map]; omega
                  case c5 => simp; omega
                  intro v' w2 hown' hgrow _
                  have hb2 : Below w.heap.size w w2 := ((Hb1.out.alloc (by omega) _).alloc (by simp; omega) _).grown hgrow (by simp; omega) (fun g hg => (HO1.out.lt g hg).1)
                  have Hb2 := Lib.hid hb2
                  have HO2 : Hid (OwnT w2 w.heap.size v' ((P ++ [(kk, ln)]).map mk)) := Lib.hid (by
                    unfold OwnT
                    rw [List.map_append, List.length_append, List.flatMap_append, List.length_map]
                    exact hown')
                  have Hs2 : Hid (X = pre (P ++ [(kk, ln)]) (scanT ln (s.data.toList.drop (k + n)))) := Lib.hid (by
                    have h1 := Hsc.out
                    rw [← Hdr.out, scan_one Hone.out, pre_cons, List.drop_drop] at h1
                    exact h1)
                  have Hok2 : Hid (∀ p ∈ P ++ [(kk, ln)], (mk p).ok) := Lib.hid (fun p hp => by
                    rcases List.mem_append.1 hp with hp | hp
                    · exact Hok.out p hp
                    · simp at hp; subst hp; exact Hmk.out)
                  clear hown' hb2
                  go_wp2_with fail
                  exact ⟨⟨k + n, ln, _, P ++ [(kk, ln)], by omega, by omega, by rw [List.length_append]; simp; omega, rfl, rfl, by simp, HO2, Hb2, Hs2, Hok2⟩, by simp [intOf]; omega⟩
                · have her : ∀ (b : Nat), er ≠ 0 := fun _ => by
                    rw [Hdr.out] at herr
                    exact one_err herr
                  have hne : ((er : Int) != 0) = true := by
                    rw [bne_iff_ne]
                    have := her 0
                    omega
                  have hXe : X = .error (ln, er) := by
                    rw [Hsc.out, scan_err Hne10.out Hws.out Hcm.out (by rw [← Hdr.out]; exact herr)]
                    rfl
                  have HXe := Lib.hid hXe
                  clear hXe herr her
                  unfold tv
                  go_wp2_with fail
                  go_ret3
                  refine ⟨_, _, _, rfl, ?_, Hb1.out.alloc (by omega) _⟩
                  unfold SR
                  rw [if_neg Hbig.out, ← HX.out, HXe.out]
                  exact ⟨known_nil _, rfl, rfl⟩
              · rw [decide_eq_false h47] at t47
                clear h47
                go_wp2_with fail
                refine (one_any s k (by omega) hlt _).mono ?_
                rintro _ w1 ⟨vv, rfl, ⟨kk, n, er, rfl, hsp⟩, hb1⟩
                have Hb1 := Lib.hid (HB.out.trans (hb1.mono HB.out.size))
                have HO1 := Lib.hid (HO.out.below hb1)
                have hwr := HB.out.size
                have hw1 := hb1.size
                clear hb1
                rcases hsp with ⟨m, hm, rfl, rfl⟩ | herr
                · have Hone := Lib.hid hm
                  have hwn := one_wrtn hm
                  have hdl : (s.data.toList.drop k).length = s.size - k := List.length_drop
                  have hn1 : 1 ≤ n := hwn.2.1
                  have hn2 : k + n ≤ s.size := by have := hwn.2.2; omega
                  have hmk := mk_ok (ln := ln) hm (by omega) (by omega)
                  have Hmk := Lib.hid hmk
                  clear hm hwn hmk
                  unfold tv
                  go_wp2_with (at_builtin; refine wpList_append_own _ rfl _ _ 23 rfl w.heap.size 35 i0 (.agg #[.int .i64 0, .string ByteArray.empty, .int .i64 0, .int .i64 0]) 4 40 Tryz.underlying23 hi hz0 hz1 hz2 rfl (by decide) _ (P.map mk).length _ rfl (World.ownsRow.alloc (World.ownsRow.alloc HO1.out _) _) ⟨w1.heap.size + 1, 0, none⟩ 1 1 [.int .i64 kk.kind, .string ⟨kk.text.toArray⟩, .int .i64 kk.num, .int .i64 ln] rfl rfl ?c1 ?c2 ?c3 ?c4 ?c5 ?_)
                  case c1 =>
                    intro j u hj
                    have hc := Lib.cell_of_heap (heap_alloc_new (w1.alloc (.cells #[.int .i64 kk.kind, .string ⟨kk.text.toArray⟩, .int .i64 kk.num, .int .i64 ln] 35)) (.cells #[.int .i64 kk.kind, .string ⟨kk.text.toArray⟩, .int .i64 kk.num, .int .i64 ln] 35))
                    have hsz : (w1.alloc (.cells #[.int .i64 kk.kind, .string ⟨kk.text.toArray⟩, .int .i64 kk.num, .int .i64 ln] 35)).heap.size = w1.heap.size + 1 := by simp
                    rw [hsz] at hc
                    have hadd : (⟨w1.heap.size + 1, 0, none⟩ : Addr).add j = ⟨w1.heap.size + 1, j, none⟩ := by
                      unfold Addr.add
                      split
                      · rename_i h; rw [h]
                      · simp
                    rw [hadd, hc j]
                    match j, hj with
                    | 0, hj => exact hj
                    | 1, hj => exact hj
                    | 2, hj => exact hj
                    | 3, hj => exact hj
                    | j + 4, hj => simp at hj
                  case c2 =>
                    intro u hu
                    simp only [List.mem_cons, List.not_mem_nil, or_false] at hu
                    rcases hu with rfl | rfl | rfl | rfl <;> rfl
                  case c3 => unfold maxLen; rw [List.length_map]; omega
                  case c4 => rw [List.length_map]; omega
                  case c5 => simp; omega
                  intro v' w2 hown' hgrow _
                  have hb2 : Below w.heap.size w w2 := ((Hb1.out.alloc (by omega) _).alloc (by simp; omega) _).grown hgrow (by simp; omega) (fun g hg => (HO1.out.lt g hg).1)
                  have Hb2 := Lib.hid hb2
                  have HO2 : Hid (OwnT w2 w.heap.size v' ((P ++ [(kk, ln)]).map mk)) := Lib.hid (by
                    unfold OwnT
                    rw [List.map_append, List.length_append, List.flatMap_append, List.length_map]
                    exact hown')
                  have Hs2 : Hid (X = pre (P ++ [(kk, ln)]) (scanT ln (s.data.toList.drop (k + n)))) := Lib.hid (by
                    have h1 := Hsc.out
                    rw [← Hdr.out, scan_one Hone.out, pre_cons, List.drop_drop] at h1
                    exact h1)
                  have Hok2 : Hid (∀ p ∈ P ++ [(kk, ln)], (mk p).ok) := Lib.hid (fun p hp => by
                    rcases List.mem_append.1 hp with hp | hp
                    · exact Hok.out p hp
                    · simp at hp; subst hp; exact Hmk.out)
                  clear hown' hb2
                  go_wp2_with fail
                  exact ⟨⟨k + n, ln, _, P ++ [(kk, ln)], by omega, by omega, by rw [List.length_append]; simp; omega, rfl, rfl, by simp, HO2, Hb2, Hs2, Hok2⟩, by simp [intOf]; omega⟩
                · have her : ∀ (b : Nat), er ≠ 0 := fun _ => by
                    rw [Hdr.out] at herr
                    exact one_err herr
                  have hne : ((er : Int) != 0) = true := by
                    rw [bne_iff_ne]
                    have := her 0
                    omega
                  have hXe : X = .error (ln, er) := by
                    rw [Hsc.out, scan_err Hne10.out Hws.out Hcm.out (by rw [← Hdr.out]; exact herr)]
                    rfl
                  have HXe := Lib.hid hXe
                  clear hXe herr her
                  unfold tv
                  go_wp2_with fail
                  go_ret3
                  refine ⟨_, _, _, rfl, ?_, Hb1.out.alloc (by omega) _⟩
                  unfold SR
                  rw [if_neg Hbig.out, ← HX.out, HXe.out]
                  exact ⟨known_nil _, rfl, rfl⟩
      · obtain rfl : k = s.size := by omega
        have hXe : X = .ok P := by
          rw [Hs.out, List.drop_of_length_le (show s.data.toList.length ≤ s.size from Nat.le_refl _), TokS.scan_nil]
          simp [pre, Except.map]
        have HXe := Lib.hid hXe
        clear hXe
        go_wp2_with fail
        go_ret3
        refine ⟨_, _, _, rfl, ?_, HB.out⟩
        unfold SR
        rw [if_neg Hbig.out, ← HX.out, HXe.out]
        exact ⟨rfl, rfl, HO.out.known, Hok.out⟩
end Go.Proofs.YtoinfjdhbopefaaGreatDoor.TkrH

/- The reference of stage 7: tokens as a text. -/
set_option linter.unusedSimpArgs false
set_option linter.unusedVariables false
namespace Go.Proofs.YtoinfjdhbopefaaGreatDoor.TkrG
open Go.RowKit Nums IdnM IdnC TokM TokD TokS TokU IdrA TkrA TkrB TkrC TkrD TkrE TkrF Box4

theorem wrtn_len (k : Tok) : (wrtn k).length ≤ 4 * k.text.length + 22 ∨ k.kind = 2 := by
  by_cases h2 : k.kind = 2
  · exact .inr h2
  · left
    unfold wrtn
    rw [if_neg h2]
    split
    · simp
    · split
      · rw [UtfQ.quote_len]
        have := (UtfQ.body_le k.text).2
        omega
      · split
        · match k.text with
          | [] => simp
          | [b] => simp only []; split <;> simp
          | _ :: _ :: _ => simp
        · split
          · split
            · omega
            · simp
          · simp
theorem wrtn_len2 (k : Tok) (h : inI k) : (wrtn k).length ≤ 4 * k.text.length + 22 := by
  rcases wrtn_len k with h1 | h1
  · exact h1
  · obtain ⟨kd, x, nu⟩ := k
    simp only at h1
    subst h1
    by_cases hx : x = []
    · subst hx
      rw [w_int]
      have := ScaM.dec_len 19 (uI nu) (by have := uI_le nu h.1 h.2; omega)
      simp only [List.length_nil]
      omega
    · rw [w_intx hx]; simp
theorem all_no {l : List Tok} {k : Tok} (hm : k ∈ l) (h : wrtn k = []) : TokU.print l = [] := by
  unfold TokU.print
  rw [if_neg]
  rw [Bool.and_eq_true, List.all_eq_true]
  rintro ⟨h1, _⟩
  exact wrt_iff.1 (h1 k hm) h
theorem long_no {l : List Tok} (h : 16384 < (pr l).length) : TokU.print l = [] := by
  unfold TokU.print
  rw [if_neg]
  rw [Bool.and_eq_true, decide_eq_true_eq]
  rintro ⟨_, h1⟩
  omega
theorem ends_of (m : Mt) (S : ByteArray) (hS : S.data.toList = wrtn m.tok) : endsLine m.tok = ((m.kd == 4) && ((S.toList == [59]) || (S.toList == [123]) || (S.toList == [125]))) := by
  unfold endsLine
  rw [ByteArray.toList_eq, hS]
  show (decide (m.kd = 4) && _) = _
  rw [Bool.eq_iff_iff]
  simp only [Bool.and_eq_true, Bool.or_eq_true, decide_eq_true_eq, beq_iff_eq]

set_option maxHeartbeats 2000000 in
set_option maxRecDepth 100000 in
theorem print_any (v : Value) (l : List Mt) (w : World) (hk : KnT w v l) (hl : l.length ≤ 4294967296) (hok : ∀ m ∈ l, m.t.size ≤ 4294967296 ∧ inI m.tok) :
    Calls Tryz.prog 13 #[v] w fun e w' => e = .returned (.string ⟨(TokU.print (l.map Mt.tok)).toArray⟩) ∧ Below w.heap.size w w' := by
  obtain ⟨a1, cap1, rfl, hcap1, hcells1⟩ := hk
  have H1 := Lib.hid hcells1
  have Hok := Lib.hid hok
  clear hcells1 hok
  obtain ⟨X, hX⟩ : ∃ X, X = TokU.print (l.map Mt.tok) := ⟨_, rfl⟩
  rw [← hX]
  have HX := Lib.hid hX
  clear hX
  go_enter Tryz.func13, Tryz.ntmps13
  go_wp2_with fail
  go_loopw [3, 4] (fun ov iv wr => ∃ (k : Nat) (O : ByteArray), k ≤ l.length ∧ ov = .string O ∧ iv = .int .i64 k ∧ O.size ≤ 16384 ∧ Hid (Below w.heap.size w wr) ∧ Hid (O.data.toList ++ pr ((l.map Mt.tok).drop k) = pr (l.map Mt.tok)) ∧ Hid (∀ (j : Nat) m, l[j]? = some m → j < k → wrtn m.tok ≠ [])) (fun _ iv _ => l.length - (intOf iv).toNat)
  case atStart => exact ⟨0, ⟨#[]⟩, by omega, rfl, rfl, by decide, Lib.hid (Below.refl _ _), Lib.hid rfl, Lib.hid (fun j m _ hj => by omega)⟩
  case round =>
    obtain ⟨k, O, hkl, rfl, rfl, hO, HB, Hpr, Hw⟩ := hrel
    by_cases hlt : k < l.length
    · obtain ⟨m, hm⟩ : ∃ m, l[k]? = some m := ⟨_, List.getElem?_eq_getElem hlt⟩
      obtain ⟨kb, ko, rfl, hb1, c0, c1, c2, c3⟩ := H1.out k m hm
      obtain ⟨ht, hi⟩ := Hok.out m (List.mem_of_getElem? hm)
      have cc : ∀ q, wr.cell? ⟨kb, q, none⟩ = w.cell? ⟨kb, q, none⟩ := fun q => HB.out.cell (p := ⟨kb, q, none⟩) hb1
      replace c0 := (cc _).trans c0
      replace c1 := (cc _).trans c1
      replace c2 := (cc _).trans c2
      replace c3 := (cc _).trans c3
      clear cc
      have hdr : (l.map Mt.tok).drop k = m.tok :: (l.map Mt.tok).drop (k + 1) := by
        have h1 : (l.map Mt.tok)[k]? = some m.tok := by rw [List.getElem?_map, hm]; rfl
        obtain ⟨h2, h3⟩ := List.getElem?_eq_some_iff.1 h1
        rw [List.drop_eq_getElem_cons h2, h3]
      have hp := Hpr.out
      rw [hdr, pr] at hp
      have hwl := wrtn_len2 m.tok hi
      obtain ⟨S, hS⟩ : ∃ S : ByteArray, S = ⟨(wrtn m.tok).toArray⟩ := ⟨_, rfl⟩
      have hSd : S.data.toList = wrtn m.tok := by rw [hS]
      have hSl : S.size = (wrtn m.tok).length := by rw [← hSd]; rfl
      have htl : m.tok.text.length = m.t.size := rfl
      have hmem : m.tok ∈ l.map Mt.tok := List.mem_map.2 ⟨m, List.mem_of_getElem? hm, rfl⟩
      have hsum : O.size + S.size ≤ 1099511627776 := by omega
      have hends := ends_of m S hSd
      have hrest : (!((l.map Mt.tok).drop (k + 1)).isEmpty) = decide (k + 1 < l.length) := by
        by_cases h : k + 1 < l.length
        · have h2 : (l.map Mt.tok).drop (k + 1) ≠ [] := by
            intro e
            have h3 := congrArg List.length e
            simp at h3
            omega
          rw [decide_eq_true h]
          cases hd : (l.map Mt.tok).drop (k + 1) with
          | nil => exact absurd hd h2
          | cons _ _ => rfl
        · rw [List.drop_of_length_le (by simp; omega), decide_eq_false h]; rfl
      have Hm := Lib.hid hm
      have Hmem := Lib.hid hmem
      have HS := Lib.hid hS
      have HSd := Lib.hid hSd
      by_cases hne : wrtn m.tok = []
      · have he : S.toList.isEmpty = true := empty_yes (by rw [hSl, hne]; rfl)
        have HXe := Lib.hid (show X = [] by rw [HX.out]; exact all_no Hmem.out hne)
        clear HX hp hdr hends hrest hSl hSd hS hm hmem hne hwl htl
        go_wp2_with fail
        refine (written_any m.kd m.nu m.ln m.t ht hi.1 hi.2 _).mono ?_
        rintro _ w1 ⟨rfl, hb⟩
        rw [show (⟨(wrtn ⟨m.kd, m.t.data.toList, m.nu⟩).toArray⟩ : ByteArray) = S from HS.out.symm]
        have Hb1 := Lib.hid (HB.out.trans (hb.mono HB.out.size))
        replace c0 := (hb.cell (p := ⟨kb, ko + k * 4, none⟩) (Nat.lt_of_lt_of_le hb1 HB.out.size)).trans c0
        clear hb c1 c2 c3
        go_wp2_with fail
        go_ret
        exact ⟨by rw [HXe.out]; rfl, Hb1.out⟩
      · have hSn : S.size ≠ 0 := by
          rw [hSl]
          exact fun e => hne (List.length_eq_zero_iff.1 e)
        have he : S.toList.isEmpty = false := empty_no hSn
        have Hne := Lib.hid hne
        clear hdr hSl hSd hS hm hmem hne hwl htl hSn
        cases e4 : (m.kd == 4) with
        | false =>
          by_cases hlast : k + 1 < l.length
          · have dl : decide ((k : Int) + 1 < l.length) = true := decide_eq_true (by omega)
            have hsep : sepOf m.tok (!((l.map Mt.tok).drop (k + 1)).isEmpty) = [32] := by
              unfold sepOf
              rw [if_neg (by rw [hends, e4, Bool.false_and]; simp), hrest, decide_eq_true hlast]
              rfl
            clear hends hrest hlast
            have hs1 : O.size + S.size ≤ 9223372036854775807 := by omega
            have hs2 : (O ++ S).size + (⟨#[32]⟩ : ByteArray).size ≤ 9223372036854775807 := by rw [ByteArray.size_append]; show O.size + S.size + 1 ≤ _; omega
            have hosz : ((O ++ S) ++ (⟨#[32]⟩ : ByteArray)).size = O.size + S.size + 1 := by rw [ByteArray.size_append, ByteArray.size_append]; rfl
            have hnx : ((O ++ S) ++ (⟨#[32]⟩ : ByteArray)).data.toList ++ pr ((l.map Mt.tok).drop (k + 1)) = pr (l.map Mt.tok) := by
              rw [append_toList, append_toList, HSd.out, ← hp, hsep]
              simp
            by_cases hbig : 16384 < ((O ++ S) ++ (⟨#[32]⟩ : ByteArray)).size
            · have dbig : decide ((16384 : Int) < ((O ++ S) ++ (⟨#[32]⟩ : ByteArray)).size) = true := decide_eq_true (by omega)
              have dbig2 : decide ((16384 : Int) < (O.size : Int) + S.size + 1) = true := decide_eq_true (by omega)
              have dbig3 : decide (16384 < O.size + S.size + 1) = true := decide_eq_true (by omega)
              have HXe := Lib.hid (show X = [] by
                rw [HX.out]
                refine long_no ?_
                rw [← hnx, List.length_append]
                have : ((O ++ S) ++ (⟨#[32]⟩ : ByteArray)).data.toList.length = ((O ++ S) ++ (⟨#[32]⟩ : ByteArray)).size := rfl
                omega)
              clear HX hnx hp hsep
              go_wp2_with fail
              refine (written_any m.kd m.nu m.ln m.t ht hi.1 hi.2 _).mono ?_
              rintro _ w1 ⟨rfl, hb⟩
              rw [show (⟨(wrtn ⟨m.kd, m.t.data.toList, m.nu⟩).toArray⟩ : ByteArray) = S from HS.out.symm]
              have Hb1 := Lib.hid (HB.out.trans (hb.mono HB.out.size))
              replace c0 := (hb.cell (p := ⟨kb, ko + k * 4, none⟩) (Nat.lt_of_lt_of_le hb1 HB.out.size)).trans c0
              clear hb c1 c2 c3
              go_wp2_with fail
              go_ret
              exact ⟨by rw [HXe.out]; rfl, Hb1.out⟩
            · have dbig : decide ((16384 : Int) < ((O ++ S) ++ (⟨#[32]⟩ : ByteArray)).size) = false := decide_eq_false (by omega)
              have dbig2 : decide ((16384 : Int) < (O.size : Int) + S.size + 1) = false := decide_eq_false (by omega)
              have dbig3 : decide (16384 < O.size + S.size + 1) = false := decide_eq_false (by omega)
              have Hnx := Lib.hid hnx
              have Hosz := Lib.hid (show ((O ++ S) ++ (⟨#[32]⟩ : ByteArray)).size ≤ 16384 by omega)
              have Hwn : Hid (∀ (j : Nat) m2, l[j]? = some m2 → j < k + 1 → wrtn m2.tok ≠ []) := Lib.hid (fun j m2 hm2 hj => by
                rcases Nat.lt_or_ge j k with h5 | h5
                · exact Hw.out j m2 hm2 h5
                · obtain rfl : j = k := by omega
                  rw [Hm.out] at hm2
                  cases hm2
                  exact Hne.out)
              clear hnx hp hsep hosz hbig
              go_wp2_with fail
              refine (written_any m.kd m.nu m.ln m.t ht hi.1 hi.2 _).mono ?_
              rintro _ w1 ⟨rfl, hb⟩
              rw [show (⟨(wrtn ⟨m.kd, m.t.data.toList, m.nu⟩).toArray⟩ : ByteArray) = S from HS.out.symm]
              have Hb1 := Lib.hid (HB.out.trans (hb.mono HB.out.size))
              replace c0 := (hb.cell (p := ⟨kb, ko + k * 4, none⟩) (Nat.lt_of_lt_of_le hb1 HB.out.size)).trans c0
              clear hb c1 c2 c3
              go_wp2_with fail
              exact ⟨⟨k + 1, ((O ++ S) ++ (⟨#[32]⟩ : ByteArray)), by omega, rfl, by go_num, Hosz.out, Hb1, Hnx, Hwn⟩, by simp [intOf]; omega⟩
          · have dl : decide ((k : Int) + 1 < l.length) = false := decide_eq_false (by omega)
            have hsep : sepOf m.tok (!((l.map Mt.tok).drop (k + 1)).isEmpty) = [] := by
              unfold sepOf
              rw [if_neg (by rw [hends, e4, Bool.false_and]; simp), hrest, decide_eq_false hlast]
              rfl
            clear hends hrest hlast
            have hs1 : O.size + S.size ≤ 9223372036854775807 := by omega
            have hosz : (O ++ S).size = O.size + S.size := by rw [ByteArray.size_append]
            have hnx : (O ++ S).data.toList ++ pr ((l.map Mt.tok).drop (k + 1)) = pr (l.map Mt.tok) := by
              rw [append_toList, HSd.out, ← hp, hsep]
              simp
            by_cases hbig : 16384 < (O ++ S).size
            · have dbig : decide ((16384 : Int) < (O ++ S).size) = true := decide_eq_true (by omega)
              have dbig2 : decide ((16384 : Int) < (O.size : Int) + S.size) = true := decide_eq_true (by omega)
              have dbig3 : decide (16384 < O.size + S.size) = true := decide_eq_true (by omega)
              have HXe := Lib.hid (show X = [] by
                rw [HX.out]
                refine long_no ?_
                rw [← hnx, List.length_append]
                have : (O ++ S).data.toList.length = (O ++ S).size := rfl
                omega)
              clear HX hnx hp hsep
              go_wp2_with fail
              refine (written_any m.kd m.nu m.ln m.t ht hi.1 hi.2 _).mono ?_
              rintro _ w1 ⟨rfl, hb⟩
              rw [show (⟨(wrtn ⟨m.kd, m.t.data.toList, m.nu⟩).toArray⟩ : ByteArray) = S from HS.out.symm]
              have Hb1 := Lib.hid (HB.out.trans (hb.mono HB.out.size))
              replace c0 := (hb.cell (p := ⟨kb, ko + k * 4, none⟩) (Nat.lt_of_lt_of_le hb1 HB.out.size)).trans c0
              clear hb c1 c2 c3
              go_wp2_with fail
              go_ret
              exact ⟨by rw [HXe.out]; rfl, Hb1.out⟩
            · have dbig : decide ((16384 : Int) < (O ++ S).size) = false := decide_eq_false (by omega)
              have dbig2 : decide ((16384 : Int) < (O.size : Int) + S.size) = false := decide_eq_false (by omega)
              have dbig3 : decide (16384 < O.size + S.size) = false := decide_eq_false (by omega)
              have Hnx := Lib.hid hnx
              have Hosz := Lib.hid (show (O ++ S).size ≤ 16384 by omega)
              have Hwn : Hid (∀ (j : Nat) m2, l[j]? = some m2 → j < k + 1 → wrtn m2.tok ≠ []) := Lib.hid (fun j m2 hm2 hj => by
                rcases Nat.lt_or_ge j k with h5 | h5
                · exact Hw.out j m2 hm2 h5
                · obtain rfl : j = k := by omega
                  rw [Hm.out] at hm2
                  cases hm2
                  exact Hne.out)
              clear hnx hp hsep hosz hbig
              go_wp2_with fail
              refine (written_any m.kd m.nu m.ln m.t ht hi.1 hi.2 _).mono ?_
              rintro _ w1 ⟨rfl, hb⟩
              rw [show (⟨(wrtn ⟨m.kd, m.t.data.toList, m.nu⟩).toArray⟩ : ByteArray) = S from HS.out.symm]
              have Hb1 := Lib.hid (HB.out.trans (hb.mono HB.out.size))
              replace c0 := (hb.cell (p := ⟨kb, ko + k * 4, none⟩) (Nat.lt_of_lt_of_le hb1 HB.out.size)).trans c0
              clear hb c1 c2 c3
              go_wp2_with fail
              exact ⟨⟨k + 1, (O ++ S), by omega, rfl, by go_num, Hosz.out, Hb1, Hnx, Hwn⟩, by simp [intOf]; omega⟩
        | true =>
          cases e59 : (S.toList == [59]) with
          | true =>
            have hsep : sepOf m.tok (!((l.map Mt.tok).drop (k + 1)).isEmpty) = [10] := by
              unfold sepOf
              rw [if_pos]
              rw [hends, e4, e59]; rfl
            clear hends hrest
            have hs1 : O.size + S.size ≤ 9223372036854775807 := by omega
            have hs2 : (O ++ S).size + (⟨#[10]⟩ : ByteArray).size ≤ 9223372036854775807 := by rw [ByteArray.size_append]; show O.size + S.size + 1 ≤ _; omega
            have hosz : ((O ++ S) ++ (⟨#[10]⟩ : ByteArray)).size = O.size + S.size + 1 := by rw [ByteArray.size_append, ByteArray.size_append]; rfl
            have hnx : ((O ++ S) ++ (⟨#[10]⟩ : ByteArray)).data.toList ++ pr ((l.map Mt.tok).drop (k + 1)) = pr (l.map Mt.tok) := by
              rw [append_toList, append_toList, HSd.out, ← hp, hsep]
              simp
            by_cases hbig : 16384 < ((O ++ S) ++ (⟨#[10]⟩ : ByteArray)).size
            · have dbig : decide ((16384 : Int) < ((O ++ S) ++ (⟨#[10]⟩ : ByteArray)).size) = true := decide_eq_true (by omega)
              have dbig2 : decide ((16384 : Int) < (O.size : Int) + S.size + 1) = true := decide_eq_true (by omega)
              have dbig3 : decide (16384 < O.size + S.size + 1) = true := decide_eq_true (by omega)
              have HXe := Lib.hid (show X = [] by
                rw [HX.out]
                refine long_no ?_
                rw [← hnx, List.length_append]
                have : ((O ++ S) ++ (⟨#[10]⟩ : ByteArray)).data.toList.length = ((O ++ S) ++ (⟨#[10]⟩ : ByteArray)).size := rfl
                omega)
              clear HX hnx hp hsep
              go_wp2_with fail
              refine (written_any m.kd m.nu m.ln m.t ht hi.1 hi.2 _).mono ?_
              rintro _ w1 ⟨rfl, hb⟩
              rw [show (⟨(wrtn ⟨m.kd, m.t.data.toList, m.nu⟩).toArray⟩ : ByteArray) = S from HS.out.symm]
              have Hb1 := Lib.hid (HB.out.trans (hb.mono HB.out.size))
              replace c0 := (hb.cell (p := ⟨kb, ko + k * 4, none⟩) (Nat.lt_of_lt_of_le hb1 HB.out.size)).trans c0
              clear hb c1 c2 c3
              go_wp2_with fail
              go_ret
              exact ⟨by rw [HXe.out]; rfl, Hb1.out⟩
            · have dbig : decide ((16384 : Int) < ((O ++ S) ++ (⟨#[10]⟩ : ByteArray)).size) = false := decide_eq_false (by omega)
              have dbig2 : decide ((16384 : Int) < (O.size : Int) + S.size + 1) = false := decide_eq_false (by omega)
              have dbig3 : decide (16384 < O.size + S.size + 1) = false := decide_eq_false (by omega)
              have Hnx := Lib.hid hnx
              have Hosz := Lib.hid (show ((O ++ S) ++ (⟨#[10]⟩ : ByteArray)).size ≤ 16384 by omega)
              have Hwn : Hid (∀ (j : Nat) m2, l[j]? = some m2 → j < k + 1 → wrtn m2.tok ≠ []) := Lib.hid (fun j m2 hm2 hj => by
                rcases Nat.lt_or_ge j k with h5 | h5
                · exact Hw.out j m2 hm2 h5
                · obtain rfl : j = k := by omega
                  rw [Hm.out] at hm2
                  cases hm2
                  exact Hne.out)
              clear hnx hp hsep hosz hbig
              go_wp2_with fail
              refine (written_any m.kd m.nu m.ln m.t ht hi.1 hi.2 _).mono ?_
              rintro _ w1 ⟨rfl, hb⟩
              rw [show (⟨(wrtn ⟨m.kd, m.t.data.toList, m.nu⟩).toArray⟩ : ByteArray) = S from HS.out.symm]
              have Hb1 := Lib.hid (HB.out.trans (hb.mono HB.out.size))
              replace c0 := (hb.cell (p := ⟨kb, ko + k * 4, none⟩) (Nat.lt_of_lt_of_le hb1 HB.out.size)).trans c0
              clear hb c1 c2 c3
              go_wp2_with fail
              exact ⟨⟨k + 1, ((O ++ S) ++ (⟨#[10]⟩ : ByteArray)), by omega, rfl, by go_num, Hosz.out, Hb1, Hnx, Hwn⟩, by simp [intOf]; omega⟩
          | false =>
            cases e123 : (S.toList == [123]) with
            | true =>
              have hsep : sepOf m.tok (!((l.map Mt.tok).drop (k + 1)).isEmpty) = [10] := by
                unfold sepOf
                rw [if_pos]
                rw [hends, e4, e59, e123]; rfl
              clear hends hrest
              have hs1 : O.size + S.size ≤ 9223372036854775807 := by omega
              have hs2 : (O ++ S).size + (⟨#[10]⟩ : ByteArray).size ≤ 9223372036854775807 := by rw [ByteArray.size_append]; show O.size + S.size + 1 ≤ _; omega
              have hosz : ((O ++ S) ++ (⟨#[10]⟩ : ByteArray)).size = O.size + S.size + 1 := by rw [ByteArray.size_append, ByteArray.size_append]; rfl
              have hnx : ((O ++ S) ++ (⟨#[10]⟩ : ByteArray)).data.toList ++ pr ((l.map Mt.tok).drop (k + 1)) = pr (l.map Mt.tok) := by
                rw [append_toList, append_toList, HSd.out, ← hp, hsep]
                simp
              by_cases hbig : 16384 < ((O ++ S) ++ (⟨#[10]⟩ : ByteArray)).size
              · have dbig : decide ((16384 : Int) < ((O ++ S) ++ (⟨#[10]⟩ : ByteArray)).size) = true := decide_eq_true (by omega)
                have dbig2 : decide ((16384 : Int) < (O.size : Int) + S.size + 1) = true := decide_eq_true (by omega)
                have dbig3 : decide (16384 < O.size + S.size + 1) = true := decide_eq_true (by omega)
                have HXe := Lib.hid (show X = [] by
                  rw [HX.out]
                  refine long_no ?_
                  rw [← hnx, List.length_append]
                  have : ((O ++ S) ++ (⟨#[10]⟩ : ByteArray)).data.toList.length = ((O ++ S) ++ (⟨#[10]⟩ : ByteArray)).size := rfl
                  omega)
                clear HX hnx hp hsep
                go_wp2_with fail
                refine (written_any m.kd m.nu m.ln m.t ht hi.1 hi.2 _).mono ?_
                rintro _ w1 ⟨rfl, hb⟩
                rw [show (⟨(wrtn ⟨m.kd, m.t.data.toList, m.nu⟩).toArray⟩ : ByteArray) = S from HS.out.symm]
                have Hb1 := Lib.hid (HB.out.trans (hb.mono HB.out.size))
                replace c0 := (hb.cell (p := ⟨kb, ko + k * 4, none⟩) (Nat.lt_of_lt_of_le hb1 HB.out.size)).trans c0
                clear hb c1 c2 c3
                go_wp2_with fail
                go_ret
                exact ⟨by rw [HXe.out]; rfl, Hb1.out⟩
              · have dbig : decide ((16384 : Int) < ((O ++ S) ++ (⟨#[10]⟩ : ByteArray)).size) = false := decide_eq_false (by omega)
                have dbig2 : decide ((16384 : Int) < (O.size : Int) + S.size + 1) = false := decide_eq_false (by omega)
                have dbig3 : decide (16384 < O.size + S.size + 1) = false := decide_eq_false (by omega)
                have Hnx := Lib.hid hnx
                have Hosz := Lib.hid (show ((O ++ S) ++ (⟨#[10]⟩ : ByteArray)).size ≤ 16384 by omega)
                have Hwn : Hid (∀ (j : Nat) m2, l[j]? = some m2 → j < k + 1 → wrtn m2.tok ≠ []) := Lib.hid (fun j m2 hm2 hj => by
                  rcases Nat.lt_or_ge j k with h5 | h5
                  · exact Hw.out j m2 hm2 h5
                  · obtain rfl : j = k := by omega
                    rw [Hm.out] at hm2
                    cases hm2
                    exact Hne.out)
                clear hnx hp hsep hosz hbig
                go_wp2_with fail
                refine (written_any m.kd m.nu m.ln m.t ht hi.1 hi.2 _).mono ?_
                rintro _ w1 ⟨rfl, hb⟩
                rw [show (⟨(wrtn ⟨m.kd, m.t.data.toList, m.nu⟩).toArray⟩ : ByteArray) = S from HS.out.symm]
                have Hb1 := Lib.hid (HB.out.trans (hb.mono HB.out.size))
                replace c0 := (hb.cell (p := ⟨kb, ko + k * 4, none⟩) (Nat.lt_of_lt_of_le hb1 HB.out.size)).trans c0
                clear hb c1 c2 c3
                go_wp2_with fail
                exact ⟨⟨k + 1, ((O ++ S) ++ (⟨#[10]⟩ : ByteArray)), by omega, rfl, by go_num, Hosz.out, Hb1, Hnx, Hwn⟩, by simp [intOf]; omega⟩
            | false =>
              cases e125 : (S.toList == [125]) with
              | true =>
                have hsep : sepOf m.tok (!((l.map Mt.tok).drop (k + 1)).isEmpty) = [10] := by
                  unfold sepOf
                  rw [if_pos]
                  rw [hends, e4, e59, e123, e125]; rfl
                clear hends hrest
                have hs1 : O.size + S.size ≤ 9223372036854775807 := by omega
                have hs2 : (O ++ S).size + (⟨#[10]⟩ : ByteArray).size ≤ 9223372036854775807 := by rw [ByteArray.size_append]; show O.size + S.size + 1 ≤ _; omega
                have hosz : ((O ++ S) ++ (⟨#[10]⟩ : ByteArray)).size = O.size + S.size + 1 := by rw [ByteArray.size_append, ByteArray.size_append]; rfl
                have hnx : ((O ++ S) ++ (⟨#[10]⟩ : ByteArray)).data.toList ++ pr ((l.map Mt.tok).drop (k + 1)) = pr (l.map Mt.tok) := by
                  rw [append_toList, append_toList, HSd.out, ← hp, hsep]
                  simp
                by_cases hbig : 16384 < ((O ++ S) ++ (⟨#[10]⟩ : ByteArray)).size
                · have dbig : decide ((16384 : Int) < ((O ++ S) ++ (⟨#[10]⟩ : ByteArray)).size) = true := decide_eq_true (by omega)
                  have dbig2 : decide ((16384 : Int) < (O.size : Int) + S.size + 1) = true := decide_eq_true (by omega)
                  have dbig3 : decide (16384 < O.size + S.size + 1) = true := decide_eq_true (by omega)
                  have HXe := Lib.hid (show X = [] by
                    rw [HX.out]
                    refine long_no ?_
                    rw [← hnx, List.length_append]
                    have : ((O ++ S) ++ (⟨#[10]⟩ : ByteArray)).data.toList.length = ((O ++ S) ++ (⟨#[10]⟩ : ByteArray)).size := rfl
                    omega)
                  clear HX hnx hp hsep
                  go_wp2_with fail
                  refine (written_any m.kd m.nu m.ln m.t ht hi.1 hi.2 _).mono ?_
                  rintro _ w1 ⟨rfl, hb⟩
                  rw [show (⟨(wrtn ⟨m.kd, m.t.data.toList, m.nu⟩).toArray⟩ : ByteArray) = S from HS.out.symm]
                  have Hb1 := Lib.hid (HB.out.trans (hb.mono HB.out.size))
                  replace c0 := (hb.cell (p := ⟨kb, ko + k * 4, none⟩) (Nat.lt_of_lt_of_le hb1 HB.out.size)).trans c0
                  clear hb c1 c2 c3
                  go_wp2_with fail
                  go_ret
                  exact ⟨by rw [HXe.out]; rfl, Hb1.out⟩
                · have dbig : decide ((16384 : Int) < ((O ++ S) ++ (⟨#[10]⟩ : ByteArray)).size) = false := decide_eq_false (by omega)
                  have dbig2 : decide ((16384 : Int) < (O.size : Int) + S.size + 1) = false := decide_eq_false (by omega)
                  have dbig3 : decide (16384 < O.size + S.size + 1) = false := decide_eq_false (by omega)
                  have Hnx := Lib.hid hnx
                  have Hosz := Lib.hid (show ((O ++ S) ++ (⟨#[10]⟩ : ByteArray)).size ≤ 16384 by omega)
                  have Hwn : Hid (∀ (j : Nat) m2, l[j]? = some m2 → j < k + 1 → wrtn m2.tok ≠ []) := Lib.hid (fun j m2 hm2 hj => by
                    rcases Nat.lt_or_ge j k with h5 | h5
                    · exact Hw.out j m2 hm2 h5
                    · obtain rfl : j = k := by omega
                      rw [Hm.out] at hm2
                      cases hm2
                      exact Hne.out)
                  clear hnx hp hsep hosz hbig
                  go_wp2_with fail
                  refine (written_any m.kd m.nu m.ln m.t ht hi.1 hi.2 _).mono ?_
                  rintro _ w1 ⟨rfl, hb⟩
                  rw [show (⟨(wrtn ⟨m.kd, m.t.data.toList, m.nu⟩).toArray⟩ : ByteArray) = S from HS.out.symm]
                  have Hb1 := Lib.hid (HB.out.trans (hb.mono HB.out.size))
                  replace c0 := (hb.cell (p := ⟨kb, ko + k * 4, none⟩) (Nat.lt_of_lt_of_le hb1 HB.out.size)).trans c0
                  clear hb c1 c2 c3
                  go_wp2_with fail
                  exact ⟨⟨k + 1, ((O ++ S) ++ (⟨#[10]⟩ : ByteArray)), by omega, rfl, by go_num, Hosz.out, Hb1, Hnx, Hwn⟩, by simp [intOf]; omega⟩
              | false =>
                by_cases hlast : k + 1 < l.length
                · have dl : decide ((k : Int) + 1 < l.length) = true := decide_eq_true (by omega)
                  have hsep : sepOf m.tok (!((l.map Mt.tok).drop (k + 1)).isEmpty) = [32] := by
                    unfold sepOf
                    rw [if_neg (by rw [hends, e4, e59, e123, e125, Bool.true_and, Bool.or_self, Bool.or_self]; simp), hrest, decide_eq_true hlast]
                    rfl
                  clear hends hrest hlast
                  have hs1 : O.size + S.size ≤ 9223372036854775807 := by omega
                  have hs2 : (O ++ S).size + (⟨#[32]⟩ : ByteArray).size ≤ 9223372036854775807 := by rw [ByteArray.size_append]; show O.size + S.size + 1 ≤ _; omega
                  have hosz : ((O ++ S) ++ (⟨#[32]⟩ : ByteArray)).size = O.size + S.size + 1 := by rw [ByteArray.size_append, ByteArray.size_append]; rfl
                  have hnx : ((O ++ S) ++ (⟨#[32]⟩ : ByteArray)).data.toList ++ pr ((l.map Mt.tok).drop (k + 1)) = pr (l.map Mt.tok) := by
                    rw [append_toList, append_toList, HSd.out, ← hp, hsep]
                    simp
                  by_cases hbig : 16384 < ((O ++ S) ++ (⟨#[32]⟩ : ByteArray)).size
                  · have dbig : decide ((16384 : Int) < ((O ++ S) ++ (⟨#[32]⟩ : ByteArray)).size) = true := decide_eq_true (by omega)
                    have dbig2 : decide ((16384 : Int) < (O.size : Int) + S.size + 1) = true := decide_eq_true (by omega)
                    have dbig3 : decide (16384 < O.size + S.size + 1) = true := decide_eq_true (by omega)
                    have HXe := Lib.hid (show X = [] by
                      rw [HX.out]
                      refine long_no ?_
                      rw [← hnx, List.length_append]
                      have : ((O ++ S) ++ (⟨#[32]⟩ : ByteArray)).data.toList.length = ((O ++ S) ++ (⟨#[32]⟩ : ByteArray)).size := rfl
                      omega)
                    clear HX hnx hp hsep
                    go_wp2_with fail
                    refine (written_any m.kd m.nu m.ln m.t ht hi.1 hi.2 _).mono ?_
                    rintro _ w1 ⟨rfl, hb⟩
                    rw [show (⟨(wrtn ⟨m.kd, m.t.data.toList, m.nu⟩).toArray⟩ : ByteArray) = S from HS.out.symm]
                    have Hb1 := Lib.hid (HB.out.trans (hb.mono HB.out.size))
                    replace c0 := (hb.cell (p := ⟨kb, ko + k * 4, none⟩) (Nat.lt_of_lt_of_le hb1 HB.out.size)).trans c0
                    clear hb c1 c2 c3
                    go_wp2_with fail
                    go_ret
                    exact ⟨by rw [HXe.out]; rfl, Hb1.out⟩
                  · have dbig : decide ((16384 : Int) < ((O ++ S) ++ (⟨#[32]⟩ : ByteArray)).size) = false := decide_eq_false (by omega)
                    have dbig2 : decide ((16384 : Int) < (O.size : Int) + S.size + 1) = false := decide_eq_false (by omega)
                    have dbig3 : decide (16384 < O.size + S.size + 1) = false := decide_eq_false (by omega)
                    have Hnx := Lib.hid hnx
                    have Hosz := Lib.hid (show ((O ++ S) ++ (⟨#[32]⟩ : ByteArray)).size ≤ 16384 by omega)
                    have Hwn : Hid (∀ (j : Nat) m2, l[j]? = some m2 → j < k + 1 → wrtn m2.tok ≠ []) := Lib.hid (fun j m2 hm2 hj => by
                      rcases Nat.lt_or_ge j k with h5 | h5
                      · exact Hw.out j m2 hm2 h5
                      · obtain rfl : j = k := by omega
                        rw [Hm.out] at hm2
                        cases hm2
                        exact Hne.out)
                    clear hnx hp hsep hosz hbig
                    go_wp2_with fail
                    refine (written_any m.kd m.nu m.ln m.t ht hi.1 hi.2 _).mono ?_
                    rintro _ w1 ⟨rfl, hb⟩
                    rw [show (⟨(wrtn ⟨m.kd, m.t.data.toList, m.nu⟩).toArray⟩ : ByteArray) = S from HS.out.symm]
                    have Hb1 := Lib.hid (HB.out.trans (hb.mono HB.out.size))
                    replace c0 := (hb.cell (p := ⟨kb, ko + k * 4, none⟩) (Nat.lt_of_lt_of_le hb1 HB.out.size)).trans c0
                    clear hb c1 c2 c3
                    go_wp2_with fail
                    exact ⟨⟨k + 1, ((O ++ S) ++ (⟨#[32]⟩ : ByteArray)), by omega, rfl, by go_num, Hosz.out, Hb1, Hnx, Hwn⟩, by simp [intOf]; omega⟩
                · have dl : decide ((k : Int) + 1 < l.length) = false := decide_eq_false (by omega)
                  have hsep : sepOf m.tok (!((l.map Mt.tok).drop (k + 1)).isEmpty) = [] := by
                    unfold sepOf
                    rw [if_neg (by rw [hends, e4, e59, e123, e125, Bool.true_and, Bool.or_self, Bool.or_self]; simp), hrest, decide_eq_false hlast]
                    rfl
                  clear hends hrest hlast
                  have hs1 : O.size + S.size ≤ 9223372036854775807 := by omega
                  have hosz : (O ++ S).size = O.size + S.size := by rw [ByteArray.size_append]
                  have hnx : (O ++ S).data.toList ++ pr ((l.map Mt.tok).drop (k + 1)) = pr (l.map Mt.tok) := by
                    rw [append_toList, HSd.out, ← hp, hsep]
                    simp
                  by_cases hbig : 16384 < (O ++ S).size
                  · have dbig : decide ((16384 : Int) < (O ++ S).size) = true := decide_eq_true (by omega)
                    have dbig2 : decide ((16384 : Int) < (O.size : Int) + S.size) = true := decide_eq_true (by omega)
                    have dbig3 : decide (16384 < O.size + S.size) = true := decide_eq_true (by omega)
                    have HXe := Lib.hid (show X = [] by
                      rw [HX.out]
                      refine long_no ?_
                      rw [← hnx, List.length_append]
                      have : (O ++ S).data.toList.length = (O ++ S).size := rfl
                      omega)
                    clear HX hnx hp hsep
                    go_wp2_with fail
                    refine (written_any m.kd m.nu m.ln m.t ht hi.1 hi.2 _).mono ?_
                    rintro _ w1 ⟨rfl, hb⟩
                    rw [show (⟨(wrtn ⟨m.kd, m.t.data.toList, m.nu⟩).toArray⟩ : ByteArray) = S from HS.out.symm]
                    have Hb1 := Lib.hid (HB.out.trans (hb.mono HB.out.size))
                    replace c0 := (hb.cell (p := ⟨kb, ko + k * 4, none⟩) (Nat.lt_of_lt_of_le hb1 HB.out.size)).trans c0
                    clear hb c1 c2 c3
                    go_wp2_with fail
                    go_ret
                    exact ⟨by rw [HXe.out]; rfl, Hb1.out⟩
                  · have dbig : decide ((16384 : Int) < (O ++ S).size) = false := decide_eq_false (by omega)
                    have dbig2 : decide ((16384 : Int) < (O.size : Int) + S.size) = false := decide_eq_false (by omega)
                    have dbig3 : decide (16384 < O.size + S.size) = false := decide_eq_false (by omega)
                    have Hnx := Lib.hid hnx
                    have Hosz := Lib.hid (show (O ++ S).size ≤ 16384 by omega)
                    have Hwn : Hid (∀ (j : Nat) m2, l[j]? = some m2 → j < k + 1 → wrtn m2.tok ≠ []) := Lib.hid (fun j m2 hm2 hj => by
                      rcases Nat.lt_or_ge j k with h5 | h5
                      · exact Hw.out j m2 hm2 h5
                      · obtain rfl : j = k := by omega
                        rw [Hm.out] at hm2
                        cases hm2
                        exact Hne.out)
                    clear hnx hp hsep hosz hbig
                    go_wp2_with fail
                    refine (written_any m.kd m.nu m.ln m.t ht hi.1 hi.2 _).mono ?_
                    rintro _ w1 ⟨rfl, hb⟩
                    rw [show (⟨(wrtn ⟨m.kd, m.t.data.toList, m.nu⟩).toArray⟩ : ByteArray) = S from HS.out.symm]
                    have Hb1 := Lib.hid (HB.out.trans (hb.mono HB.out.size))
                    replace c0 := (hb.cell (p := ⟨kb, ko + k * 4, none⟩) (Nat.lt_of_lt_of_le hb1 HB.out.size)).trans c0
                    clear hb c1 c2 c3
                    go_wp2_with fail
                    exact ⟨⟨k + 1, (O ++ S), by omega, rfl, by go_num, Hosz.out, Hb1, Hnx, Hwn⟩, by simp [intOf]; omega⟩
    · obtain rfl : k = l.length := by omega
      have hXe : X = O.data.toList := by
        have hp := Hpr.out
        rw [List.drop_of_length_le (by simp), pr, List.append_nil] at hp
        rw [HX.out, print_fine (by rw [← hp]; exact hO) (by
          intro x hx
          obtain ⟨m, hm, rfl⟩ := List.mem_map.1 hx
          obtain ⟨j, hj⟩ := List.getElem?_of_mem hm
          exact Hw.out j m hj (List.getElem?_eq_some_iff.1 hj).1), hp]
      have HXe := Lib.hid hXe
      clear hXe HX
      go_wp2_with fail
      go_ret
      exact ⟨by rw [HXe.out]; rfl, HB.out⟩
end Go.Proofs.YtoinfjdhbopefaaGreatDoor.TkrG
