/- Package ident of the program: the two spellings. -/
import Derived.Test.YtpgikodjfidkkaaDoorIdpA
import Derived.Test.YtpgikodjfidkkaaDoorBldP
set_option linter.unusedSimpArgs false
set_option linter.unusedVariables false
namespace Go.Proofs.YtpgikodjfidkkaaDoor.IdpC
open Go.RowKit Nums IdnM IdnC Uld IdpA BldP

theorem pre_len (L : List (List UInt8)) (k : Nat) : ((L.take k).flatMap capF).length ≤ (L.flatMap capF).length := by
  have h : (L.take k ++ L.drop k).flatMap capF = L.flatMap capF := by rw [List.take_append_drop]
  rw [← h, List.flatMap_append, List.length_append]
  omega
theorem bytes_app (a b : List UInt8) : Lib.byteCells (a ++ b) = Lib.byteCells a ++ Lib.byteCells b := by simp [Lib.byteCells]
theorem bytes_one (b : UInt8) : Lib.byteCells [b] = [.int .u8 b.toNat] := rfl
theorem bytes_len (l : List UInt8) : (Lib.byteCells l).length = l.length := by simp [Lib.byteCells]
theorem classOf_r (b : UInt8) (r : Int) (hr : r = b.toNat ∨ r = wrap32 b.toNat) (w : World) :
    Calls Tryd.prog 31 #[.int .i32 r] w fun e w' => e = .returned (.int .i64 (cls b)) ∧ w = w' := by
  rcases hr with rfl | rfl
  · exact classOf_any b w
  · exact classOf_w b w
theorem kept_strs {w w1 : World} {b g : Nat} {cs : Array Value} (h : Kept b w w1) (hg : w.heap[g]? = some (.cells cs 9 (0, 0))) (hb : b < g) : w1.heap[g]? = some (.cells cs 9 (0, 0)) :=
  h g _ hg (fun e => by have := Option.some.inj e; omega) (fun c fz e => by injection e with _ e2; revert e2; decide)
theorem empty_ret : Ending.returned (Value.string ⟨([] : List UInt8).toArray⟩) = .returned (.string ⟨#[]⟩) := rfl
theorem first_byte {x : ByteArray} (h : 0 < x.size) : ∃ t, x.data.toList = x[0] :: t ∧ (x.extract 1 x.size).data.toList = t := by
  obtain ⟨b, t, ht⟩ : ∃ b t, x.data.toList = b :: t := List.exists_cons_of_length_pos (show 0 < x.data.toList.length from h)
  have hb : x[0] = b := by
    have h1 : x.data.toList[0]? = some x[0] := List.getElem?_eq_getElem (show 0 < x.data.toList.length from h)
    rw [ht] at h1
    exact (Option.some.inj h1).symm
  refine ⟨t, by rw [ht, hb], ?_⟩
  have h2 : (x.extract 1 x.size).data.toList = x.data.toList.drop 1 := by
    simp
    rw [List.take_of_length_le (by simp)]
  rw [h2, ht]
  rfl

set_option maxHeartbeats 2000000 in
set_option maxRecDepth 100000 in
theorem camel_any (s : ByteArray) (w : World) (hL : Ld w) :
    Calls Tryd.prog 26 #[.string s] w fun e w' => e = .returned (.string ⟨(camel s.data.toList).toArray⟩) ∧ Below w.heap.size w w' := by
  have hsl : s.data.toList.length = s.size := rfl
  obtain ⟨l, hl⟩ : ∃ l, l = camel s.data.toList := ⟨_, rfl⟩
  rw [← hl]
  cases hn : nmp s.data.toList with
  | false =>
    have hl2 : l = [] := by rw [hl, camel, hn]; rfl
    have Hn := Lib.hid hn
    have Hl := Lib.hid hl2
    clear hn hl hl2
    go_enter Tryd.func26, Tryd.ntmps26
    go_wp2_with fail
    refine (isPart_any s _).mono ?_
    rintro _ w1 ⟨rfl, rfl⟩
    rw [Hn.out]
    go_wp2_with fail
    go_ret
    refine ⟨?_, Below.refl _ _⟩
    rw [Hl.out]
    rfl
  | true =>
    have hs40 : s.size ≤ 40 := nmp_len hn
    have hl2 : l = cam true s.data.toList := by rw [hl, camel, hn]; rfl
    have hPd := Pcs_data 95 s
    obtain ⟨P, hP⟩ : ∃ P, P = Pcs 95 s := ⟨_, rfl⟩
    have hPl : P.length ≤ 4294967281 := by
      rw [hP, Pcs_len]
      have := Lib.countB_le ⟨#[95]⟩ (Nat.le_refl 1) s.size s (Nat.le_refl _)
      omega
    rw [← hP] at hPd
    have hall : (P.map (·.data.toList)).flatMap capF = l := by rw [hPd, cam_all, hl2]
    have hll : l.length ≤ 40 := by
      rw [hl2]
      exact Nat.le_trans (cam_len _ _) hs40
    have hpre : ∀ k, (((P.map (·.data.toList)).take k).flatMap capF).length ≤ 40 := fun k => Nat.le_trans (pre_len _ k) (by rw [hall]; exact hll)
    have Hpre := Lib.hid hpre
    have Hall := Lib.hid hall
    have HP := Lib.hid hP
    have Hn := Lib.hid hn
    clear hn hl hl2 hPd hall hP hpre
    go_enter Tryd.func26, Tryd.ntmps26
    go_wp2_with fail
    refine (isPart_any s _).mono ?_
    rintro _ w1 ⟨rfl, rfl⟩
    rw [Hn.out]
    go_wp2_with fail
    have hbA : Below w.heap.size w (w.alloc (.cells #[.pointer none, .slice none 0 0] 46)) := (Below.refl _ _).alloc (Nat.le_refl _) _
    refine (split_any 95 s (by omega) _ (hL.below hbA)).mono ?_
    rintro _ w1 ⟨g, rfl, hg, hg2, hcell, hb, hheap⟩
    rw [← HP.out] at hcell hheap ⊢
    have HIs := Lib.hid (is_below (is_new w) hb)
    have hb1 := hbA.trans (hb.mono hbA.size)
    have hg1 : w.heap.size < g := by have h := hg; simp at h; omega
    have Hheap := Lib.hid hheap
    clear hcell hheap hb hg hbA
    go_wp2_with fail
    go_loopw [13] (fun iv wr => ∃ k : Nat, k ≤ P.length ∧ iv = .int .i64 k ∧ Is w.heap.size w.heap.size (Lib.byteCells (((P.map (·.data.toList)).take k).flatMap capF)) wr ∧
      wr.heap[g]? = some (.cells (P.map Value.string).toArray 9 (0, 0)) ∧ Below w.heap.size w wr) (fun iv _ => P.length - (intOf iv).toNat)
    case atStart => exact ⟨0, by omega, rfl, HIs.out, Hheap.out, hb1⟩
    case round =>
      obtain ⟨k, hk, rfl, hIs, hheap, hbr⟩ := hrel
      have HIr := Lib.hid hIs
      have Hhr := Lib.hid hheap
      have hgr : g < wr.heap.size := (Array.getElem?_eq_some_iff.1 hheap).1
      clear hIs hheap
      by_cases hlt : k < P.length
      · obtain ⟨x, hx⟩ : ∃ x, P[k]? = some x := ⟨_, List.getElem?_eq_getElem hlt⟩
        have hc : wr.cell? ⟨g, k, none⟩ = some (.string x) := by
          rw [Lib.cell_of_heap Hhr.out, List.getElem?_toArray, List.getElem?_map, hx]; rfl
        have hnext : ((P.map (·.data.toList)).take (k + 1)).flatMap capF = ((P.map (·.data.toList)).take k).flatMap capF ++ capF x.data.toList := by
          rw [List.take_add_one, List.getElem?_map, hx]; simp
        have hlen := Hpre.out k
        have hlen1 := Hpre.out (k + 1)
        obtain ⟨C, hC⟩ : ∃ C, C = ((P.map (·.data.toList)).take k).flatMap capF := ⟨_, rfl⟩
        rw [← hC] at hnext hlen
        rw [hnext, List.length_append] at hlen1
        have HIr2 : Hid (Is w.heap.size w.heap.size (Lib.byteCells C) wr) := Lib.hid (by rw [hC]; exact HIr.out)
        have Hnext := Lib.hid hnext
        clear hnext hx hC HIr
        have hsz := hbr.size
        by_cases hz : x.size = 0
        · have he : x.toList.isEmpty = true := empty_yes hz
          have hx0 : capF x.data.toList = [] := by rw [List.length_eq_zero_iff.1 (show x.data.toList.length = 0 from hz)]; rfl
          have Hx0 := Lib.hid hx0
          clear hx0
          go_wp2_with fail
          exact ⟨⟨k + 1, by omega, by go_num, by rw [Hnext.out, Hx0.out, List.append_nil]; exact HIr2.out, Hhr.out, hbr⟩, by simp [intOf]; omega⟩
        · have he : x.toList.isEmpty = false := empty_no hz
          have hpos : 0 < x.size := by omega
          have h1x : (1 : Int) ≤ x.size := by omega
          obtain ⟨t, ht, ht2⟩ := first_byte hpos
          have htl : t.length + 1 ≤ 40 := by
            have h1 : (capF x.data.toList).length = t.length + 1 := by rw [ht]; rfl
            omega
          have hxs : (x.extract 1 x.size).size = t.length := by rw [← ht2]; rfl
          cases h1 : ((cls x[0] : Int) == 1) with
          | true =>
            have hsm : sm x[0] = true := (cls1_iff _).1 (by have := beq_iff_eq.1 h1; omega)
            have hcap : capF x.data.toList = (x[0] - 32) :: t := by rw [ht, capF, if_pos hsm]
            have hsub := sm_sub hsm
            have hsm2 := hsm
            simp only [sm, Bool.and_eq_true, decide_eq_true_eq] at hsm2
            have hwr : (x[0].toNat : Int) - 32 = ((x[0] - 32).toNat : Int) := by
              rw [hsub]; omega
            have Hcap := Lib.hid hcap
            have Ht2 := Lib.hid ht2
            have Hwr := Lib.hid hwr
            clear ht ht2 hcap hsub hwr hsm
            go_wp2_with fail
            refine (classOf_r x[0] _ (by first | exact .inl rfl | exact .inr rfl) _).mono ?_
            rintro _ w2 ⟨rfl, rfl⟩
            go_wp2_with fail
            refine (writeByte w.heap.size w.heap.size (Lib.byteCells C) _ _ HIr2.out (by rw [bytes_len]; omega) hsz).mono ?_
            rintro _ w3 ⟨rfl, hat, hb3, hk3⟩
            have hh3 := kept_strs hk3 Hhr.out hg1
            have hs3 := hb3.size
            have Hat := Lib.hid hat
            have Hh3 := Lib.hid hh3
            clear hat hk3 hh3
            go_wp2_with fail
            refine (writeString w.heap.size w.heap.size _ (x.extract 1 x.size) _ (.inr Hat.out) (by rw [List.length_append, bytes_len, hxs]; simp; omega) (by omega)).mono ?_
            rintro _ w4 ⟨rfl, hat, hb4, hk4⟩
            have hh4 := kept_strs hk4 Hh3.out hg1
            have Hat4 := Lib.hid hat
            have Hh4 := Lib.hid hh4
            clear hat hk4 hh4
            go_wp2_with fail
            refine ⟨⟨k + 1, by omega, by go_num, ?_, Hh4.out, hbr.trans (hb3.trans hb4)⟩, by simp [intOf]; omega⟩
            have h4 := Hat4.out
            rw [Hnext.out, Hcap.out, bytes_app, show (x[0] - 32) :: t = [(x[0] - 32)] ++ t from rfl, bytes_app, bytes_one, ← List.append_assoc, ← Ht2.out, ← Hwr.out]
            exact .inr h4
          | false =>
            have hcap : capF x.data.toList = x[0] :: t := by
              rw [ht, capF, if_neg]
              intro hs
              rw [(cls1_iff _).2 hs] at h1
              cases h1
            have Hcap := Lib.hid hcap
            have Ht2 := Lib.hid ht2
            clear ht ht2 hcap
            go_wp2_with fail
            refine (classOf_r x[0] _ (by first | exact .inl rfl | exact .inr rfl) _).mono ?_
            rintro _ w2 ⟨rfl, rfl⟩
            go_wp2_with fail
            refine (writeByte w.heap.size w.heap.size (Lib.byteCells C) _ _ HIr2.out (by rw [bytes_len]; omega) hsz).mono ?_
            rintro _ w3 ⟨rfl, hat, hb3, hk3⟩
            have hh3 := kept_strs hk3 Hhr.out hg1
            have hs3 := hb3.size
            have Hat := Lib.hid hat
            have Hh3 := Lib.hid hh3
            clear hat hk3 hh3
            go_wp2_with fail
            refine (writeString w.heap.size w.heap.size _ (x.extract 1 x.size) _ (.inr Hat.out) (by rw [List.length_append, bytes_len, hxs]; simp; omega) (by omega)).mono ?_
            rintro _ w4 ⟨rfl, hat, hb4, hk4⟩
            have hh4 := kept_strs hk4 Hh3.out hg1
            have Hat4 := Lib.hid hat
            have Hh4 := Lib.hid hh4
            clear hat hk4 hh4
            go_wp2_with fail
            refine ⟨⟨k + 1, by omega, by go_num, ?_, Hh4.out, hbr.trans (hb3.trans hb4)⟩, by simp [intOf]; omega⟩
            have h4 := Hat4.out
            rw [Hnext.out, Hcap.out, bytes_app, show x[0] :: t = [x[0]] ++ t from rfl, bytes_app, bytes_one, ← List.append_assoc, ← Ht2.out]
            exact .inr h4
      · obtain rfl : k = P.length := by omega
        have hC : ((P.map (·.data.toList)).take P.length).flatMap capF = l := by
          rw [List.take_of_length_le (by simp)]; exact Hall.out
        have HIr2 : Hid (Is w.heap.size w.heap.size (Lib.byteCells l) wr) := Lib.hid (by rw [← hC]; exact HIr.out)
        clear HIr hC
        have hsz := hbr.size
        go_wp2_with fail
        refine (Tryd.Builder_String_any w.heap.size w.heap.size l _ HIr2.out hsz).mono ?_
        rintro _ w2 ⟨rfl, hb2⟩
        go_wp2_with fail
        go_ret
        exact ⟨rfl, hbr.trans hb2⟩
theorem cp_add {b : UInt8} (h : cp b = true) : ((b.toNat : Int) + 32) = ((b + 32).toNat : Int) := by
  simp only [cp, Bool.and_eq_true, decide_eq_true_eq] at h
  rw [UInt8.toNat_add]
  have : (32 : UInt8).toNat = 32 := rfl
  rw [this]
  omega

set_option maxHeartbeats 2000000 in
set_option maxRecDepth 100000 in
theorem snake_any (s : ByteArray) (w : World) :
    Calls Tryd.prog 28 #[.string s] w fun e w' => e = .returned (.string ⟨(snake s.data.toList).toArray⟩) ∧ Below w.heap.size w w' := by
  have hsl : s.data.toList.length = s.size := rfl
  obtain ⟨l, hl⟩ : ∃ l, l = snake s.data.toList := ⟨_, rfl⟩
  rw [← hl]
  cases hn : nmp s.data.toList with
  | false =>
    have hl2 : l = [] := by rw [hl, snake, hn]; rfl
    have Hn := Lib.hid hn
    have Hl := Lib.hid hl2
    clear hn hl hl2
    go_enter Tryd.func28, Tryd.ntmps28
    go_wp2_with fail
    refine (isPart_any s _).mono ?_
    rintro _ w1 ⟨rfl, rfl⟩
    rw [Hn.out]
    go_wp2_with fail
    go_ret
    refine ⟨?_, Below.refl _ _⟩
    rw [Hl.out]
    rfl
  | true =>
    have hs40 : s.size ≤ 40 := nmp_len hn
    have hl2 : l = snk true s.data.toList := by rw [hl, snake, hn]; rfl
    have hll : l.length ≤ 80 := by
      rw [hl2]
      exact Nat.le_trans (snk_len _ _) (by omega)
    have Hl := Lib.hid hl2
    have Hn := Lib.hid hn
    clear hn hl hl2
    go_enter Tryd.func28, Tryd.ntmps28
    go_wp2_with fail
    refine (isPart_any s _).mono ?_
    rintro _ w1 ⟨rfl, rfl⟩
    rw [Hn.out]
    go_wp2_with fail
    have hbA : Below w.heap.size w (w.alloc (.cells #[.pointer none, .slice none 0 0] 46)) := (Below.refl _ _).alloc (Nat.le_refl _) _
    have HIs := Lib.hid (is_new w)
    go_loopw [11] (fun iv wr => ∃ (k : Nat) (C : List UInt8), k ≤ s.size ∧ iv = .int .i64 k ∧ Is w.heap.size w.heap.size (Lib.byteCells C) wr ∧ C ++ snk (k == 0) (s.data.toList.drop k) = l ∧ Below w.heap.size w wr) (fun iv _ => s.size - (intOf iv).toNat)
    case atStart => exact ⟨0, [], by omega, rfl, HIs.out, by rw [Hl.out]; rfl, hbA⟩
    case round =>
      obtain ⟨k, C, hk, rfl, hIs, hC, hbr⟩ := hrel
      have HIr := Lib.hid hIs
      have hsz := hbr.size
      have hCl : C.length ≤ 80 := by
        have := congrArg List.length hC
        rw [List.length_append] at this
        omega
      clear hIs
      by_cases hlt : k < s.size
      · have hdr : s.data.toList.drop k = s[k] :: s.data.toList.drop (k + 1) := List.drop_eq_getElem_cons (show k < s.data.toList.length from hlt)
        rw [hdr, snk] at hC
        have hk1 : ((k + 1 : Nat) == 0) = false := by simp
        cases h2 : ((cls s[k] : Int) == 2) with
        | true =>
          have hcp : cp s[k] = true := (cls2_iff _).1 (by have := beq_iff_eq.1 h2; omega)
          rw [if_pos hcp] at hC
          have hadd := cp_add hcp
          have hcp2 := hcp
          simp only [cp, Bool.and_eq_true, decide_eq_true_eq] at hcp2
          have Hadd := Lib.hid hadd
          clear hadd hcp hdr
          by_cases hk0 : k = 0
          · have d0 : decide (0 < k) = false := decide_eq_false (by omega)
            rw [show (k == 0) = true by rw [hk0]; rfl, if_pos rfl] at hC
            have hC2 : (C ++ [s[k] + 32]) ++ snk ((k + 1 : Nat) == 0) (s.data.toList.drop (k + 1)) = l := by rw [hk1, ← hC]; simp
            have HC := Lib.hid hC2
            clear hC hC2 hk0 hk1
            go_wp2_with fail
            refine (classOf_r s[k] _ (by first | exact .inl rfl | exact .inr rfl) _).mono ?_
            rintro _ w2 ⟨rfl, rfl⟩
            go_wp2_with fail
            refine (writeByte w.heap.size w.heap.size (Lib.byteCells C) _ _ HIr.out (by rw [bytes_len]; omega) hsz).mono ?_
            rintro _ w3 ⟨rfl, hat, hb3, hk3⟩
            have Hat := Lib.hid hat
            clear hat hk3
            go_wp2_with fail
            refine ⟨⟨k + 1, _, by omega, by go_num, ?_, HC.out, hbr.trans hb3⟩, by simp [intOf]; omega⟩
            have h4 := Hat.out
            rw [bytes_app, bytes_one, ← Hadd.out]
            exact .inr h4
          · have d0 : decide (0 < k) = true := decide_eq_true (by omega)
            rw [show (k == 0) = false by simp [hk0], if_neg (by simp)] at hC
            have hC2 : ((C ++ [95]) ++ [s[k] + 32]) ++ snk ((k + 1 : Nat) == 0) (s.data.toList.drop (k + 1)) = l := by rw [hk1, ← hC]; simp
            have HC := Lib.hid hC2
            clear hC hC2 hk0 hk1
            go_wp2_with fail
            refine (classOf_r s[k] _ (by first | exact .inl rfl | exact .inr rfl) _).mono ?_
            rintro _ w2 ⟨rfl, rfl⟩
            go_wp2_with fail
            refine (writeByte w.heap.size w.heap.size (Lib.byteCells C) _ _ HIr.out (by rw [bytes_len]; omega) hsz).mono ?_
            rintro _ w3 ⟨rfl, hat, hb3, hk3⟩
            have Hat := Lib.hid hat
            have hs3 := hb3.size
            clear hat hk3
            go_wp2_with fail
            refine (writeByte w.heap.size w.heap.size _ _ _ (.inr Hat.out) (by rw [List.length_append, bytes_len]; simp; omega) (by omega)).mono ?_
            rintro _ w4 ⟨rfl, hat, hb4, hk4⟩
            have Hat4 := Lib.hid hat
            clear hat hk4
            go_wp2_with fail
            refine ⟨⟨k + 1, _, by omega, by go_num, ?_, HC.out, hbr.trans (hb3.trans hb4)⟩, by simp [intOf]; omega⟩
            have h4 := Hat4.out
            rw [bytes_app, bytes_app, bytes_one, bytes_one, ← Hadd.out]
            exact .inr h4
        | false =>
          have hcp : ¬ cp s[k] = true := by
            intro hs
            rw [(cls2_iff _).2 hs] at h2
            cases h2
          rw [if_neg hcp] at hC
          have hC2 : (C ++ [s[k]]) ++ snk ((k + 1 : Nat) == 0) (s.data.toList.drop (k + 1)) = l := by rw [hk1, ← hC]; simp
          have HC := Lib.hid hC2
          clear hC hC2 hk1 hdr hcp
          go_wp2_with fail
          refine (classOf_r s[k] _ (by first | exact .inl rfl | exact .inr rfl) _).mono ?_
          rintro _ w2 ⟨rfl, rfl⟩
          go_wp2_with fail
          refine (writeByte w.heap.size w.heap.size (Lib.byteCells C) _ _ HIr.out (by rw [bytes_len]; omega) hsz).mono ?_
          rintro _ w3 ⟨rfl, hat, hb3, hk3⟩
          have Hat := Lib.hid hat
          clear hat hk3
          go_wp2_with fail
          refine ⟨⟨k + 1, _, by omega, by go_num, ?_, HC.out, hbr.trans hb3⟩, by simp [intOf]; omega⟩
          have h4 := Hat.out
          rw [bytes_app, bytes_one]
          exact .inr h4
      · obtain rfl : k = s.size := by omega
        have hC2 : C = l := by
          rw [← hC, List.drop_of_length_le (Nat.le_of_eq hsl)]
          simp [snk]
        have HIr2 : Hid (Is w.heap.size w.heap.size (Lib.byteCells l) wr) := Lib.hid (by rw [← hC2]; exact HIr.out)
        clear HIr hC hC2
        go_wp2_with fail
        refine (Tryd.Builder_String_any w.heap.size w.heap.size l _ HIr2.out hsz).mono ?_
        rintro _ w2 ⟨rfl, hb2⟩
        go_wp2_with fail
        go_ret
        exact ⟨rfl, hbr.trans hb2⟩
end Go.Proofs.YtpgikodjfidkkaaDoor.IdpC
