/- The contract of text of the reference of package scalar: texts and bytes, read. -/
import Derived.Test.YtgjbpadhdnclnaaGreatDoorScaN
import Derived.Test.YtgjbpadhdnclnaaGreatDoorScaC
import Derived.Test.YtgjbpadhdnclnaaGreatDoorUtfB
set_option linter.unusedSimpArgs false
set_option linter.unusedVariables false
namespace Go.Proofs.YtgjbpadhdnclnaaGreatDoor.ScaT
open Go.RowKit Nums Byt UtfM UtfQ UtfH UtfS ScaM ScaV ScaA ScaB ScaC ScaD UtfR UtfB UtfK UtfL

/-- A value with a text and nothing else. -/
def tv (k : Int) (l : List UInt8) : SV := ⟨k, 0, ⟨l.toArray⟩, none, 0, 0, none, 0, 0, none, 0, 0, none, 0, 0⟩
/-- What becomes of the text read. -/
def kept (k : Int) (t : List UInt8) : SV × Int := if 4096 < t.length then (zv 0, 3) else (tv k t, 0)
def textS (k : Int) (l : List UInt8) : SV × Int :=
  if (unquote l).2.2 ≠ 0 ∨ (unquote l).2.1 ≠ l.length then (zv 0, 2)
  else if k = 8 then (if uhE (unquote l).1 ≠ 0 then (zv 0, 2) else kept k (uhT (unquote l).1))
  else if 0 ≤ bad (unquote l).1 then (zv 0, 7) else kept k (unquote l).1
theorem ret_ve {a b : Value} {e f : Int} (h : a = b) (h2 : e = f) : Ending.returned (.tuple #[a, .int .i64 e]) = .returned (.tuple #[b, .int .i64 f]) := by rw [h, h2]
theorem unquote_len (l : List UInt8) : (unquote l).1.length ≤ l.length := by
  unfold unquote
  have := unescape_len l
  split
  · simp
  · simp; omega
theorem unhexL_len (l : List UInt8) : ∀ r, unhexL l = some r → 2 * r.length = l.length := by
  generalize hn : l.length = n
  induction n using Nat.strongRecOn generalizing l with
  | _ n ih =>
    intro r hr
    match l with
    | [] => rw [unhexL] at hr; injection hr with hr; rw [← hr, ← hn]; rfl
    | [_] => rw [unhexL] at hr; cases hr
    | a :: b :: t =>
      rw [unhexL] at hr
      split at hr
      · cases hr
      · cases ht : unhexL t with
        | none => rw [ht] at hr; cases hr
        | some q =>
          rw [ht] at hr
          injection hr with hr
          have := ih t.length (by rw [← hn]; simp only [List.length_cons]; omega) t rfl q ht
          rw [← hr, ← hn]
          simp; omega
theorem uhT_len (l : List UInt8) : (uhT l).length ≤ l.length := by
  unfold uhT
  cases h : unhexL l with
  | none => simp
  | some r => have := unhexL_len l r h; simp; omega
/-- The result's box after a call: its seven cells. -/
def zb : Obj := .cells #[.int .i64 0, .int .u64 0, .string ⟨#[]⟩, .slice none 0 0, .slice none 0 0, .slice none 0 0, .slice none 0 0] 28
theorem cells0 {w w1 : World} (hb : Below (w.alloc zb).heap.size (w.alloc zb) w1) :
    (w1.cell? ⟨w.heap.size, 0, none⟩ = some (.int .i64 0) ∧ w1.cell? ⟨w.heap.size, 1, none⟩ = some (.int .u64 0) ∧ w1.cell? ⟨w.heap.size, 2, none⟩ = some (.string ⟨#[]⟩) ∧ w1.cell? ⟨w.heap.size, 3, none⟩ = some (.slice none 0 0)
      ∧ w1.cell? ⟨w.heap.size, 4, none⟩ = some (.slice none 0 0) ∧ w1.cell? ⟨w.heap.size, 5, none⟩ = some (.slice none 0 0) ∧ w1.cell? ⟨w.heap.size, 6, none⟩ = some (.slice none 0 0)) ∧ (∀ o, w1.frozen? ⟨w.heap.size, o, none⟩ = false) ∧ w.heap.size < w1.heap.size ∧ Below w.heap.size w w1 := by
  have hlt : w.heap.size < (w.alloc zb).heap.size := by simp
  have hc : ∀ o, w1.cell? ⟨w.heap.size, o, none⟩ = (w.alloc zb).cell? ⟨w.heap.size, o, none⟩ := fun o => hb.cell (p := ⟨w.heap.size, o, none⟩) hlt
  refine ⟨⟨?_, ?_, ?_, ?_, ?_, ?_, ?_⟩, fun o => (hb.frozen (p := ⟨w.heap.size, o, none⟩) hlt).trans (by simp [zb]), Nat.lt_of_lt_of_le hlt hb.size, bt (below_box _ _) hb⟩ <;> (rw [hc]; unfold zb; rw [World.cell?_alloc_at _ _ _ _ rfl]; rfl)
theorem below7 {B k : Nat} {a w : World} (h : Below B a w) (hk : B ≤ k) (v0 v1 v2 v3 v4 v5 v6 : Value) :
    Below B a (((((((w.setCell ⟨k, 0, none⟩ v0).setCell ⟨k, 1, none⟩ v1).setCell ⟨k, 2, none⟩ v2).setCell ⟨k, 3, none⟩ v3).setCell ⟨k, 4, none⟩ v4).setCell ⟨k, 5, none⟩ v5).setCell ⟨k, 6, none⟩ v6) :=
  ((((((h.setCell hk _).setCell hk _).setCell hk _).setCell hk _).setCell hk _).setCell hk _).setCell hk _

set_option maxHeartbeats 4000000 in
set_option maxRecDepth 100000 in
theorem text_any (k : Int) (s : ByteArray) (hs : s.size ≤ 35184372088000) (w : World) : Calls Tryz.prog 37 #[.int .i64 k, .string s] w fun e w' => e = .returned (.tuple #[vv (textS k s.data.toList).1, .int .i64 (textS k s.data.toList).2]) ∧ Below w.heap.size w w' := by
  have hlen := unquote_len s.data.toList
  have hsz : s.data.toList.length = s.size := rfl
  rw [hsz] at hlen
  obtain ⟨T, n, e, hu⟩ : ∃ T n e, unquote s.data.toList = (T, n, e) := ⟨_, _, _, rfl⟩
  have hT : T.length ≤ s.size := by rw [hu] at hlen; exact hlen
  have hsi : (s.size : Int) ≤ 35184372088000 := by omega
  have htx : ∀ x, textS k s.data.toList = x ↔ (if e ≠ 0 ∨ n ≠ s.size then ((zv 0, 2) : SV × Int) else if k = 8 then (if uhE T ≠ 0 then (zv 0, 2) else kept k (uhT T)) else if 0 ≤ bad T then (zv 0, 7) else kept k T) = x := by intro x; unfold textS; rw [hu, hsz]
  have Hu := Lib.hid hu
  clear hu hlen hsz
  by_cases he : e = 0
  · by_cases hn : n = s.size
    · have nb : ((n : Int) != s.size) = false := by rw [hn]; simp
      have eb : (e != 0) = false := by rw [he]; rfl
      by_cases h8 : k = 8
      · have kb : (k == 8) = true := by rw [h8]; rfl
        have hx2 : ∀ x, textS k s.data.toList = x ↔ (if uhE T ≠ 0 then ((zv 0, 2) : SV × Int) else kept k (uhT T)) = x := by intro x; rw [htx, if_neg (by intro h; rcases h with h | h; exact h he; exact h hn), if_pos h8]
        have hUs : (⟨(uhT T).toArray⟩ : ByteArray).size = (uhT T).length := by simp [ByteArray.size]
        have hTs : (⟨T.toArray⟩ : ByteArray).size = T.length := by simp [ByteArray.size]
        have hul := uhT_len T
        have hq := rUnhex_any ⟨T.toArray⟩ (by omega)
        obtain ⟨V, hV⟩ : ∃ V : ByteArray, V = ⟨(uhT T).toArray⟩ := ⟨_, rfl⟩
        obtain ⟨E, hE⟩ : ∃ E : Int, E = uhE T := ⟨_, rfl⟩
        have hVl : V.size = (uhT T).length := by rw [hV, hUs]
        have hVs : (V.size : Int) ≤ 35184372088000 := by omega
        simp only [List.toList_toArray] at hq
        rw [← hV, ← hE] at hq
        have HV := Lib.hid hV
        by_cases hE0 : E = 0
        · have Eb : (E != 0) = false := by rw [hE0]; rfl
          by_cases hbig : 4096 < V.size
          · have bb : decide ((4096 : Int) < V.size) = true := by simp; omega
            have hf : textS k s.data.toList = (zv 0, 3) := by rw [hx2, if_neg (by rw [← hE, hE0]; simp)]; unfold kept; rw [if_pos (by omega)]
            have Hf := Lib.hid hf
            clear hf hx2 htx hbig hVl hV hE hUs hTs hul hE0 h8 hn he
            go_enter Tryz.func37, Tryz.ntmps37
            go_wp2_with fail
            refine (rUnquote_any s hs _).mono ?_
            rintro _ w1 ⟨rfl, hb1⟩
            obtain ⟨⟨q0, q1, q2, q3, q4, q5, q6⟩, qf, qs, hb0⟩ := cells0 hb1
            rw [Hu.out]
            go_wp2_with fail
            refine (hq _).mono ?_
            rintro _ w2 ⟨rfl, hb2⟩
            have hb3 := bt hb1 hb2
            clear q0 q1 q2 q3 q4 q5 q6 qf qs hb0 hb1 hb2
            obtain ⟨⟨q0, q1, q2, q3, q4, q5, q6⟩, qf, qs, hb0⟩ := cells0 hb3
            go_wp2_with fail
            exact bodyPost_ret (v := .tuple #[.agg #[.int .i64 0, .int .u64 0, .string ⟨#[]⟩, .slice none 0 0, .slice none 0 0, .slice none 0 0, .slice none 0 0], .int .i64 3]) (by simp [results, Tryz.results37, go_sem, q0, q1, q2, q3, q4, q5, q6]) rfl ⟨ret_ve (by rw [Hf.out]; rfl) (by rw [Hf.out]), below7 hb0 (Nat.le_refl _) _ _ _ _ _ _ _⟩
          · have bb : decide ((4096 : Int) < V.size) = false := by simp; omega
            have hf : textS k s.data.toList = (tv k (uhT T), 0) := by rw [hx2, if_neg (by rw [← hE, hE0]; simp)]; unfold kept; rw [if_neg (by omega)]
            have Hf := Lib.hid hf
            clear hf hx2 htx hbig hVl hV hE hUs hTs hul hE0 h8 hn he
            go_enter Tryz.func37, Tryz.ntmps37
            go_wp2_with fail
            refine (rUnquote_any s hs _).mono ?_
            rintro _ w1 ⟨rfl, hb1⟩
            obtain ⟨⟨q0, q1, q2, q3, q4, q5, q6⟩, qf, qs, hb0⟩ := cells0 hb1
            rw [Hu.out]
            go_wp2_with fail
            refine (hq _).mono ?_
            rintro _ w2 ⟨rfl, hb2⟩
            have hb3 := bt hb1 hb2
            clear q0 q1 q2 q3 q4 q5 q6 qf qs hb0 hb1 hb2
            obtain ⟨⟨q0, q1, q2, q3, q4, q5, q6⟩, qf, qs, hb0⟩ := cells0 hb3
            go_wp2_with fail
            exact bodyPost_ret (v := .tuple #[.agg #[.int .i64 k, .int .u64 0, .string V, .slice none 0 0, .slice none 0 0, .slice none 0 0, .slice none 0 0], .int .i64 0]) (by simp [results, Tryz.results37, go_sem, q0, q1, q2, q3, q4, q5, q6]) rfl ⟨ret_ve (by rw [Hf.out]; rw [HV.out]; rfl) (by rw [Hf.out]), below7 hb0 (Nat.le_refl _) _ _ _ _ _ _ _⟩
        · have Eb : (E != 0) = true := by rw [bne_iff_ne]; exact hE0
          have hf : textS k s.data.toList = (zv 0, 2) := by rw [hx2, if_pos (by rw [← hE]; exact hE0)]
          have Hf := Lib.hid hf
          clear hf hx2 htx hVl hV hE hUs hTs hul hE0 h8 hn he
          go_enter Tryz.func37, Tryz.ntmps37
          go_wp2_with fail
          refine (rUnquote_any s hs _).mono ?_
          rintro _ w1 ⟨rfl, hb1⟩
          obtain ⟨⟨q0, q1, q2, q3, q4, q5, q6⟩, qf, qs, hb0⟩ := cells0 hb1
          rw [Hu.out]
          go_wp2_with fail
          refine (hq _).mono ?_
          rintro _ w2 ⟨rfl, hb2⟩
          have hb3 := bt hb1 hb2
          clear q0 q1 q2 q3 q4 q5 q6 qf qs hb0 hb1 hb2
          obtain ⟨⟨q0, q1, q2, q3, q4, q5, q6⟩, qf, qs, hb0⟩ := cells0 hb3
          go_wp2_with fail
          exact bodyPost_ret (v := .tuple #[.agg #[.int .i64 0, .int .u64 0, .string ⟨#[]⟩, .slice none 0 0, .slice none 0 0, .slice none 0 0, .slice none 0 0], .int .i64 2]) (by simp [results, Tryz.results37, go_sem, q0, q1, q2, q3, q4, q5, q6]) rfl ⟨ret_ve (by rw [Hf.out]; rfl) (by rw [Hf.out]), below7 hb0 (Nat.le_refl _) _ _ _ _ _ _ _⟩
      · have kb : (k == 8) = false := by rw [beq_eq_false_iff_ne]; exact h8
        have hx2 : ∀ x, textS k s.data.toList = x ↔ (if 0 ≤ bad T then ((zv 0, 7) : SV × Int) else kept k T) = x := by intro x; rw [htx, if_neg (by intro h; rcases h with h | h; exact h he; exact h hn), if_neg h8]
        have hTs : (⟨T.toArray⟩ : ByteArray).size = T.length := by simp [ByteArray.size]
        have hq := rValid_any ⟨T.toArray⟩ (by omega)
        simp only [List.toList_toArray] at hq
        by_cases hbd : bad T < 0
        · have bdd : decide (bad T < 0) = true := by simp [hbd]
          rw [bdd] at hq
          obtain ⟨V, hV⟩ : ∃ V : ByteArray, V = ⟨T.toArray⟩ := ⟨_, rfl⟩
          have hVl : V.size = T.length := by rw [hV, hTs]
          have hVs : (V.size : Int) ≤ 35184372088000 := by omega
          rw [← hV] at hq
          have HV := Lib.hid hV
          by_cases hbig : 4096 < V.size
          · have bb : decide ((4096 : Int) < V.size) = true := by simp; omega
            have hf : textS k s.data.toList = (zv 0, 3) := by rw [hx2, if_neg (by omega)]; unfold kept; rw [if_pos (by omega)]
            have Hf := Lib.hid hf
            clear hf hx2 htx hbig hVl hV hTs h8 hn he hbd bdd
            go_enter Tryz.func37, Tryz.ntmps37
            go_wp2_with fail
            refine (rUnquote_any s hs _).mono ?_
            rintro _ w1 ⟨rfl, hb1⟩
            obtain ⟨⟨q0, q1, q2, q3, q4, q5, q6⟩, qf, qs, hb0⟩ := cells0 hb1
            rw [Hu.out, ← HV.out]
            go_wp2_with fail
            refine (hq _).mono ?_
            rintro _ w2 ⟨rfl, rfl⟩
            go_wp2_with fail
            exact bodyPost_ret (v := .tuple #[.agg #[.int .i64 0, .int .u64 0, .string ⟨#[]⟩, .slice none 0 0, .slice none 0 0, .slice none 0 0, .slice none 0 0], .int .i64 3]) (by simp [results, Tryz.results37, go_sem, q0, q1, q2, q3, q4, q5, q6]) rfl ⟨ret_ve (by rw [Hf.out]; rfl) (by rw [Hf.out]), below7 hb0 (Nat.le_refl _) _ _ _ _ _ _ _⟩
          · have bb : decide ((4096 : Int) < V.size) = false := by simp; omega
            have hf : textS k s.data.toList = (tv k T, 0) := by rw [hx2, if_neg (by omega)]; unfold kept; rw [if_neg (by omega)]
            have Hf := Lib.hid hf
            clear hf hx2 htx hbig hVl hV hTs h8 hn he hbd bdd
            go_enter Tryz.func37, Tryz.ntmps37
            go_wp2_with fail
            refine (rUnquote_any s hs _).mono ?_
            rintro _ w1 ⟨rfl, hb1⟩
            obtain ⟨⟨q0, q1, q2, q3, q4, q5, q6⟩, qf, qs, hb0⟩ := cells0 hb1
            rw [Hu.out, ← HV.out]
            go_wp2_with fail
            refine (hq _).mono ?_
            rintro _ w2 ⟨rfl, rfl⟩
            go_wp2_with fail
            exact bodyPost_ret (v := .tuple #[.agg #[.int .i64 k, .int .u64 0, .string V, .slice none 0 0, .slice none 0 0, .slice none 0 0, .slice none 0 0], .int .i64 0]) (by simp [results, Tryz.results37, go_sem, q0, q1, q2, q3, q4, q5, q6]) rfl ⟨ret_ve (by rw [Hf.out]; rw [HV.out]; rfl) (by rw [Hf.out]), below7 hb0 (Nat.le_refl _) _ _ _ _ _ _ _⟩
        · have bdd : decide (bad T < 0) = false := by simp only [decide_eq_false_iff_not]; exact hbd
          rw [bdd] at hq
          have hf : textS k s.data.toList = (zv 0, 7) := by rw [hx2, if_pos (by omega)]
          have Hf := Lib.hid hf
          clear hf hx2 htx hTs h8 hn he hbd bdd
          go_enter Tryz.func37, Tryz.ntmps37
          go_wp2_with fail
          refine (rUnquote_any s hs _).mono ?_
          rintro _ w1 ⟨rfl, hb1⟩
          obtain ⟨⟨q0, q1, q2, q3, q4, q5, q6⟩, qf, qs, hb0⟩ := cells0 hb1
          rw [Hu.out]
          go_wp2_with fail
          refine (hq _).mono ?_
          rintro _ w2 ⟨rfl, rfl⟩
          go_wp2_with fail
          exact bodyPost_ret (v := .tuple #[.agg #[.int .i64 0, .int .u64 0, .string ⟨#[]⟩, .slice none 0 0, .slice none 0 0, .slice none 0 0, .slice none 0 0], .int .i64 7]) (by simp [results, Tryz.results37, go_sem, q0, q1, q2, q3, q4, q5, q6]) rfl ⟨ret_ve (by rw [Hf.out]; rfl) (by rw [Hf.out]), below7 hb0 (Nat.le_refl _) _ _ _ _ _ _ _⟩
    · have nb : ((n : Int) != s.size) = true := by rw [bne_iff_ne]; omega
      have eb : (e != 0) = false := by rw [he]; rfl
      have hf : textS k s.data.toList = (zv 0, 2) := by rw [htx, if_pos (.inr hn)]
      have Hf := Lib.hid hf
      clear hf htx hn he
      go_enter Tryz.func37, Tryz.ntmps37
      go_wp2_with fail
      refine (rUnquote_any s hs _).mono ?_
      rintro _ w1 ⟨rfl, hb1⟩
      obtain ⟨⟨q0, q1, q2, q3, q4, q5, q6⟩, qf, qs, hb0⟩ := cells0 hb1
      rw [Hu.out]
      go_wp2_with fail
      exact bodyPost_ret (v := .tuple #[.agg #[.int .i64 0, .int .u64 0, .string ⟨#[]⟩, .slice none 0 0, .slice none 0 0, .slice none 0 0, .slice none 0 0], .int .i64 2]) (by simp [results, Tryz.results37, go_sem, q0, q1, q2, q3, q4, q5, q6]) rfl ⟨ret_ve (by rw [Hf.out]; rfl) (by rw [Hf.out]), below7 hb0 (Nat.le_refl _) _ _ _ _ _ _ _⟩
  · have eb : (e != 0) = true := by rw [bne_iff_ne]; exact he
    have hf : textS k s.data.toList = (zv 0, 2) := by rw [htx, if_pos (.inl he)]
    have Hf := Lib.hid hf
    clear hf htx he
    go_enter Tryz.func37, Tryz.ntmps37
    go_wp2_with fail
    refine (rUnquote_any s hs _).mono ?_
    rintro _ w1 ⟨rfl, hb1⟩
    obtain ⟨⟨q0, q1, q2, q3, q4, q5, q6⟩, qf, qs, hb0⟩ := cells0 hb1
    rw [Hu.out]
    go_wp2_with fail
    exact bodyPost_ret (v := .tuple #[.agg #[.int .i64 0, .int .u64 0, .string ⟨#[]⟩, .slice none 0 0, .slice none 0 0, .slice none 0 0, .slice none 0 0], .int .i64 2]) (by simp [results, Tryz.results37, go_sem, q0, q1, q2, q3, q4, q5, q6]) rfl ⟨ret_ve (by rw [Hf.out]; rfl) (by rw [Hf.out]), below7 hb0 (Nat.le_refl _) _ _ _ _ _ _ _⟩
end Go.Proofs.YtgjbpadhdnclnaaGreatDoor.ScaT
