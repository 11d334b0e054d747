/- Annotations among the arguments, opened: their cells, and their values to their depth. -/
import Derived.Test.YthjpchnogllliaaDoorNotK
import Derived.WalkKit
import Derived.Deep.SlicePairs
set_option linter.unusedSimpArgs false
set_option linter.unusedVariables false
set_option maxRecDepth 100000
namespace Go.Proofs.YthjpchnogllliaaDoor.NtO
open Go.ChangeShapes Go.WideShapes Go.RowKit Go.Deep Nums Byt ScaM ScaV Opn Val NotK

section
variable {H : Type} {enc : TypeId × Value → H} {w : World}
theorem cS : Tryd.prog.cellsOf 9 = 1 := by kernel_rfl
set_option maxRecDepth 100000 in
/-- The cells of one annotation that is read. -/
theorem note_of {spare : Nat → Bool} {held : Bool} (m : Nat) (cs : List Value) (x : DataW H × List MemPlace) (h : DataW.trod enc Tryd.prog w 0 spare held m 42 cs = some x) (hw : (x.1.weights Tryd.prog 42).all (· ≤ reachBytes) = true) :
    ∃ q : Mn, cs = fields q ∧ q.ok := by
  obtain ⟨xs, n', hn', rfl, hl', hxl, hg⟩ := DataW.trod_struct Tryd.underlying42 h
  match xs, hxl with
  | [x0, x1], _ =>
    have g0 : DataW.trod enc Tryd.prog w 0 spare held n' 9 ((cs.drop 0).take (Tryd.prog.cellsOf 9)) = some x0 := hg 0 _ rfl
    have g1 : DataW.trod enc Tryd.prog w 0 spare held n' 34 ((cs.drop 1).take (Tryd.prog.cellsOf 34)) = some x1 := hg 1 _ rfl
    rw [cS] at g0
    rw [c7] at g1
    have hl8 : cs.length = 8 := hl'.trans (by kernel_rfl)
    simp only [List.map_cons, List.map_nil, DataW.weights, Tryd.underlying42, DataW.weightsEach, List.all_append, Bool.and_eq_true, List.all_nil] at hw
    obtain ⟨v0, v1, _⟩ := hw
    obtain ⟨q, qs, rfl⟩ : ∃ q qs, cs = q :: qs := by
      cases cs with
      | nil => simp at hl8
      | cons q qs => exact ⟨q, qs, rfl⟩
    simp only [List.drop_zero, List.take_succ_cons, List.take_zero, List.drop_succ_cons] at g0 g1
    obtain ⟨s, rfl, hy0, w0⟩ := one_string Tryd.underlying9 g0
    obtain ⟨u, hu, hut⟩ := tree_of n' _ _ g1 v1
    rw [hy0] at v0
    have hs : s.size ≤ 140737488351232 := by
      have hh : s.data.toList.length ≤ reachBytes := of_decide_eq_true (List.all_eq_true.1 v0 s.data.toList.length (by simp [DataW.weights]))
      exact hh
    refine ⟨⟨s, u⟩, ?_, hs, hut.ok⟩
    show _ = .string s :: cellsV u
    rw [← hu, List.take_of_length_le (l := qs) (by simp at hl8; omega)]
theorem sizesN : Tryd.prog.bytesOf 42 = 144 ∧ Tryd.prog.cellsOf 42 = 8 := ⟨by kernel_rfl, by kernel_rfl⟩
/-- From the cells of each to a slice that is read. -/
theorem known_of {a : Option Addr} {l c : Nat} (h : Row w (· < w.heap.size) 8 a l c fun cs => ∃ q : Mn, cs = fields q ∧ q.ok) : ∃ ls : List Mn, ls.length = l ∧ KnN w (.slice a l c) ls ∧ ∀ m ∈ ls, m.ok := by
  cases a with
  | none =>
    obtain ⟨rfl, rfl⟩ := h.nil rfl
    exact ⟨[], rfl, known_nil w, by simp⟩
  | some ad =>
    obtain ⟨h0, h1, h2⟩ := h.at_ ad rfl
    have each : ∀ i, i < l → ∃ q : Mn, q.ok ∧ ∀ j u, (fields q)[j]? = some u → w.cell? (ad.add (i * 8 + j)) = some u := by
      intro i hi
      obtain ⟨cs, _, ⟨q, rfl, hq⟩, hg⟩ := h2 i hi
      exact ⟨q, hq, hg⟩
    haveI : Inhabited Mn := ⟨⟨⟨#[]⟩, ⟨0, 0, ⟨#[]⟩, none, 0, 0, none, 0, 0, none, 0, 0, none, 0, 0⟩⟩⟩
    obtain ⟨q, hq⟩ := choose_lt each
    have hll : ((List.range l).map q).length = l := by simp
    refine ⟨(List.range l).map q, hll, ⟨some ad, c, by rw [hll], by rw [hll]; exact h0, fun j x hx => ?_⟩, fun x hx => ?_⟩
    · obtain ⟨hj, hjx⟩ := List.getElem?_eq_some_iff.1 hx
      rw [hll] at hj
      rw [List.getElem_map, List.getElem_range] at hjx
      subst hjx
      have hc := (hq j hj).2
      have hsp := World.cell?_spot ((hq 0 (by omega)).2 0 _ rfl)
      obtain ⟨b, o, sp⟩ := ad
      have hsn : sp = none := by simpa [Addr.add] using hsp
      subst hsn
      have hc2 : ∀ k u, (fields (q j))[k]? = some u → w.cell? ⟨b, o + j * 8 + k, none⟩ = some u := by
        intro k u hk
        have := hc k u hk
        rw [add_plain] at this
        rw [show o + j * 8 + k = o + (j * 8 + k) by omega]
        exact this
      exact ⟨b, o, rfl, World.block_lt_of_cell? w _ (hc2 0 _ rfl), C8.of hc2⟩
    · obtain ⟨i, hi, rfl⟩ := List.mem_map.1 hx
      exact (hq i (List.mem_range.1 hi)).1
theorem open_notes {r : Reach} {b0 : Nat} {v : Value} {d : DataW H} {p : List MemPlace} (hv : Value.okWide Tryd.prog w r b0 22 v)
    (h : DataW.Trod enc Tryd.prog w 0 (fun _ => true) true 22 v d p) (hw : (d.weights Tryd.prog 22).all (· ≤ reachBytes) = true) :
    ∃ l : List Mn, KnN w v l ∧ l.length ≤ 9223372036854775807 ∧ ∀ m ∈ l, m.ok := by
  obtain ⟨a0, len0, cap0, rfl⟩ := okWide_slice Tryd.underlying22 hv
  obtain ⟨fuel, hf⟩ := h
  obtain ⟨a, l, cap, hc, hb, hr⟩ := row_of (size := 8) (bytes := 144) (P := fun cs => ∃ q : Mn, cs = fields q ∧ q.ok) Tryd.underlying22 sizesN.2 sizesN.1 (by decide) hf hw (fun m cs x _ h1 h2 => note_of m cs x h1 h2)
  rw [hc]
  obtain ⟨ls, hl, hk, ho⟩ := known_of hr
  exact ⟨ls, hk, by have h0 : reachBytes = 140737488351232 := rfl; omega, ho⟩
theorem open_note {r : Reach} {b0 : Nat} {v : Value} {d : DataW H} {p : List MemPlace} (hv : Value.okWide Tryd.prog w r b0 42 v)
    (h : DataW.Trod enc Tryd.prog w 0 (fun _ => true) true 42 v d p) (hw : (d.weights Tryd.prog 42).all (· ≤ reachBytes) = true) :
    ∃ m : Mn, v = nn m ∧ m.ok := by
  obtain ⟨cs, rfl, hsz⟩ := okWide_struct Tryd.underlying42 hv
  obtain ⟨l⟩ := cs
  obtain ⟨fuel, hf⟩ := h
  obtain ⟨m, hm, ho⟩ := note_of fuel _ _ hf hw
  refine ⟨m, ?_, ho⟩
  have hl : l = fields m := hm
  rw [hl]
  rfl
set_option maxRecDepth 100000 in
/-- .. with its value to its depth. -/
theorem note_ofT {spare : Nat → Bool} {held : Bool} (m : Nat) (cs : List Value) (x : DataW H × List MemPlace) (h : DataW.trod enc Tryd.prog w 0 spare held m 42 cs = some x) (hw : (x.1.weights Tryd.prog 42).all (· ≤ reachBytes) = true) :
    ∃ q : Mn, cs = fields q ∧ q.ok ∧ Tree w (· < w.heap.size) m q.v := by
  obtain ⟨xs, n', hn', rfl, hl', hxl, hg⟩ := DataW.trod_struct Tryd.underlying42 h
  match xs, hxl with
  | [x0, x1], _ =>
    have g0 : DataW.trod enc Tryd.prog w 0 spare held n' 9 ((cs.drop 0).take (Tryd.prog.cellsOf 9)) = some x0 := hg 0 _ rfl
    have g1 : DataW.trod enc Tryd.prog w 0 spare held n' 34 ((cs.drop 1).take (Tryd.prog.cellsOf 34)) = some x1 := hg 1 _ rfl
    rw [cS] at g0
    rw [c7] at g1
    have hl8 : cs.length = 8 := hl'.trans (by kernel_rfl)
    simp only [List.map_cons, List.map_nil, DataW.weights, Tryd.underlying42, DataW.weightsEach, List.all_append, Bool.and_eq_true, List.all_nil] at hw
    obtain ⟨v0, v1, _⟩ := hw
    obtain ⟨q, qs, rfl⟩ : ∃ q qs, cs = q :: qs := by
      cases cs with
      | nil => simp at hl8
      | cons q qs => exact ⟨q, qs, rfl⟩
    simp only [List.drop_zero, List.take_succ_cons, List.take_zero, List.drop_succ_cons] at g0 g1
    obtain ⟨s, rfl, hy0, w0⟩ := one_string Tryd.underlying9 g0
    obtain ⟨u, hu, hut⟩ := tree_of n' _ _ g1 v1
    rw [hy0] at v0
    have hs : s.size ≤ 140737488351232 := by
      have hh : s.data.toList.length ≤ reachBytes := of_decide_eq_true (List.all_eq_true.1 v0 s.data.toList.length (by simp [DataW.weights]))
      exact hh
    refine ⟨⟨s, u⟩, ?_, ⟨hs, hut.ok⟩, hut.ups (by omega)⟩
    show _ = .string s :: cellsV u
    rw [← hu, List.take_of_length_le (l := qs) (by simp at hl8; omega)]
/-- From the cells of each to a slice that is read. -/
theorem known_ofT {a : Option Addr} {l c n : Nat} (h : Row w (· < w.heap.size) 8 a l c fun cs => ∃ q : Mn, cs = fields q ∧ q.ok ∧ Tree w (· < w.heap.size) n q.v) : ∃ ls : List Mn, ls.length = l ∧ KnN w (.slice a l c) ls ∧ (∀ m ∈ ls, m.ok) ∧ ∀ m ∈ ls, Tree w (· < w.heap.size) n m.v := by
  cases a with
  | none =>
    obtain ⟨rfl, rfl⟩ := h.nil rfl
    exact ⟨[], rfl, known_nil w, by simp, by simp⟩
  | some ad =>
    obtain ⟨h0, h1, h2⟩ := h.at_ ad rfl
    have each : ∀ i, i < l → ∃ q : Mn, (q.ok ∧ Tree w (· < w.heap.size) n q.v) ∧ ∀ j u, (fields q)[j]? = some u → w.cell? (ad.add (i * 8 + j)) = some u := by
      intro i hi
      obtain ⟨cs, _, ⟨q, rfl, hq⟩, hg⟩ := h2 i hi
      exact ⟨q, hq, hg⟩
    haveI : Inhabited Mn := ⟨⟨⟨#[]⟩, ⟨0, 0, ⟨#[]⟩, none, 0, 0, none, 0, 0, none, 0, 0, none, 0, 0⟩⟩⟩
    obtain ⟨q, hq⟩ := choose_lt each
    have hll : ((List.range l).map q).length = l := by simp
    refine ⟨(List.range l).map q, hll, ⟨some ad, c, by rw [hll], by rw [hll]; exact h0, fun j x hx => ?_⟩, fun x hx => ?_, fun x hx => ?_⟩
    · obtain ⟨hj, hjx⟩ := List.getElem?_eq_some_iff.1 hx
      rw [hll] at hj
      rw [List.getElem_map, List.getElem_range] at hjx
      subst hjx
      have hc := (hq j hj).2
      have hsp := World.cell?_spot ((hq 0 (by omega)).2 0 _ rfl)
      obtain ⟨b, o, sp⟩ := ad
      have hsn : sp = none := by simpa [Addr.add] using hsp
      subst hsn
      have hc2 : ∀ k u, (fields (q j))[k]? = some u → w.cell? ⟨b, o + j * 8 + k, none⟩ = some u := by
        intro k u hk
        have := hc k u hk
        rw [add_plain] at this
        rw [show o + j * 8 + k = o + (j * 8 + k) by omega]
        exact this
      exact ⟨b, o, rfl, World.block_lt_of_cell? w _ (hc2 0 _ rfl), C8.of hc2⟩
    · obtain ⟨i, hi, rfl⟩ := List.mem_map.1 hx
      exact (hq i (List.mem_range.1 hi)).1.1
    · obtain ⟨i, hi, rfl⟩ := List.mem_map.1 hx
      exact (hq i (List.mem_range.1 hi)).1.2
theorem open_notesT {r : Reach} {b0 : Nat} {v : Value} {d : DataW H} {p : List MemPlace} (hv : Value.okWide Tryd.prog w r b0 22 v)
    (h : DataW.Trod enc Tryd.prog w 0 (fun _ => true) true 22 v d p) (hw : (d.weights Tryd.prog 22).all (· ≤ reachBytes) = true) :
    ∃ l : List Mn, KnN w v l ∧ l.length ≤ 9223372036854775807 ∧ (∀ m ∈ l, m.ok) ∧ ∃ n, ∀ m ∈ l, Tree w (· < w.heap.size) n m.v := by
  obtain ⟨a0, len0, cap0, rfl⟩ := okWide_slice Tryd.underlying22 hv
  obtain ⟨fuel, hf⟩ := h
  obtain ⟨a, l, cap, hc, hb, hr⟩ := row_of (size := 8) (bytes := 144) (P := fun cs => ∃ q : Mn, cs = fields q ∧ q.ok ∧ Tree w (· < w.heap.size) fuel q.v) Tryd.underlying22 sizesN.2 sizesN.1 (by decide) hf hw (fun m cs x hm h1 h2 => by
    obtain ⟨q, e, ho, ht⟩ := note_ofT m cs x h1 h2
    exact ⟨q, e, ho, ht.ups (by omega)⟩)
  rw [hc]
  obtain ⟨ls, hl, hk, ho, ht⟩ := known_ofT hr
  exact ⟨ls, hk, by have h0 : reachBytes = 140737488351232 := rfl; omega, ho, fuel, ht⟩
theorem open_noteT {r : Reach} {b0 : Nat} {v : Value} {d : DataW H} {p : List MemPlace} (hv : Value.okWide Tryd.prog w r b0 42 v)
    (h : DataW.Trod enc Tryd.prog w 0 (fun _ => true) true 42 v d p) (hw : (d.weights Tryd.prog 42).all (· ≤ reachBytes) = true) :
    ∃ m : Mn, v = nn m ∧ m.ok ∧ ∃ n, Tree w (· < w.heap.size) n m.v := by
  obtain ⟨cs, rfl, hsz⟩ := okWide_struct Tryd.underlying42 hv
  obtain ⟨l⟩ := cs
  obtain ⟨fuel, hf⟩ := h
  obtain ⟨m, hm, ho, ht⟩ := note_ofT fuel _ _ hf hw
  refine ⟨m, ?_, ho, fuel, ht⟩
  have hl : l = fields m := hm
  rw [hl]
  rfl
end
end Go.Proofs.YthjpchnogllliaaDoor.NtO
