import Derived.Test.YthjpchnogllliaaGreatDoorTkrG
import Derived.Deep.Slices
import Derived.Deep.Fields
import Derived.Lib.SmallJoins
import Derived.ChangeSame
import Derived.OpenShut
import Derived.JoinedCond
import Derived.Test.YthjpchnogllliaaGreatDoorNotK
/- A slice of tokens among the arguments, opened. -/
set_option linter.unusedSimpArgs false
set_option linter.unusedVariables false
namespace Go.Proofs.YthjpchnogllliaaGreatDoor.TkO
open Go.ChangeShapes Go.WideShapes Go.ChangeAt Go.RowKit Go.Deep
open TkrF

section
variable {H : Type} {enc : TypeId × Value → H} {P : Program} {w : World} {base : Nat} {spare : Nat → Bool} {held : Bool}
/-- The cells of a struct of one-cell fields, each with its reading. -/
theorem trod_flat {t : TypeId} {fs : Array Field} {fuel : Nat} {cs : List Value} {x : DataW H × List MemPlace} (hs : P.underlying t = some (.struct fs)) (hone : oneCellFields P fs = true) (hC : P.cellsOf t = fs.size)
    (h : DataW.trod enc P w base spare held fuel t cs = some x) :
    ∃ (ys : List (DataW H × List MemPlace)) (n : Nat), cs.length = fs.size ∧ ys.length = fs.size ∧ x = (.agg (ys.map (·.1)), ys.flatMap (·.2)) ∧
      ∀ (j : Nat) (f : Field) (c : Value), fs[j]? = some f → cs[j]? = some c → ∃ y, ys[j]? = some y ∧ DataW.trod enc P w base spare held n f.type [c] = some y := by
  obtain ⟨ys, n, _, hx, hl, hyl, hg⟩ := DataW.trod_struct hs h
  refine ⟨ys, n, by omega, hyl, hx, fun j f c hf hc => ?_⟩
  obtain ⟨o, k⟩ := hone_of hone j f hf
  have h1 := hg j f hf
  rw [o, k] at h1
  have hj : j < cs.length := (List.getElem?_eq_some_iff.1 hc).1
  have hjy : j < ys.length := by
    have := (Array.getElem?_eq_some_iff.1 hf).1
    omega
  have e : (cs.drop j).take 1 = [c] := by
    rw [List.drop_eq_getElem_cons hj]
    have := (List.getElem?_eq_some_iff.1 hc).2
    simp [this]
  rw [e] at h1
  exact ⟨ys[j], List.getElem?_eq_getElem hjy, h1.trans (List.getElem?_eq_getElem hjy)⟩
theorem one_int {t : TypeId} {k : IntKind} {n : Nat} {c : Value} {y : DataW H × List MemPlace} (ht : P.underlying t = some (.int k)) (h : DataW.trod enc P w base spare held n t [c] = some y) :
    ∃ a : Int, c = .int k a ∧ y = (.lit (.int k a), []) ∧ (Lit.int k a).wf = true := by
  obtain ⟨a, h1, h2, h3⟩ := DataW.trod_int ht h
  exact ⟨a, by simpa using h1, h2, h3⟩
theorem one_string {t : TypeId} {n : Nat} {c : Value} {y : DataW H × List MemPlace} (ht : P.underlying t = some .string) (h : DataW.trod enc P w base spare held n t [c] = some y) :
    ∃ s : ByteArray, c = .string s ∧ y = (.lit (.string s.data.toList), []) ∧ s.size ≤ maxLen := by
  obtain ⟨a, h1, h2, h3⟩ := DataW.trod_string ht h
  exact ⟨a, by simpa using h1, h2, h3⟩
end

instance : Inhabited Mt := ⟨⟨0, ⟨#[]⟩, 0, 0⟩⟩
set_option maxRecDepth 100000 in
theorem open_tokens {H : Type} {enc : TypeId × Value → H} {w : World} {base : Nat} {spare : Nat → Bool} {held : Bool} {r : Reach} {b0 : Nat} {v : Value} {d : DataW H} {p : List MemPlace}
    (hv : Value.okWide Tryz.prog w r b0 22 v) (h : DataW.Trod enc Tryz.prog w base spare held 22 v d p) :
    ∃ l : List Mt, KnT w v l ∧ (l.length ≤ 9223372036854775807 ∧ ∀ m ∈ l, m.rng) := by
  obtain ⟨a0, len0, cap0, rfl⟩ := okWide_slice Tryz.underlying22 hv
  obtain ⟨fuel, hf⟩ := h
  rcases open_slice Tryz.underlying22 hf with ⟨hc, _⟩ | ⟨a, len, cap, m, n, D, Pl, hc, hb, hl, hm, hmm, _, hx⟩
  · have hc' : Value.slice a0 len0 cap0 = .slice none 0 0 := by simpa [Value.cells] using hc
    rw [hc']
    exact ⟨[], ⟨none, 0, rfl, Nat.le_refl _, fun j x hx => by simp at hx⟩, by simp, by simp⟩
  · have hc' : Value.slice a0 len0 cap0 = .slice (some a) len cap := by simpa [Value.cells] using hc
    rw [hc']
    have hlm : len ≤ m := by rw [hmm]; split <;> omega
    have each : ∀ i, i < len → ∃ q : Mt, q.rng ∧ w.cell? ((a.add (i * 4)).add 0) = some (.int .i64 q.kd) ∧ w.cell? ((a.add (i * 4)).add 1) = some (.string q.t) ∧ w.cell? ((a.add (i * 4)).add 2) = some (.int .i64 q.nu) ∧ w.cell? ((a.add (i * 4)).add 3) = some (.int .i64 q.ln) := by
      intro i hi
      obtain ⟨cs', h1, h2⟩ := hx i (by omega)
      rw [show Tryz.prog.cellsOf 34 = 4 by kernel_rfl] at h1
      obtain ⟨_, hlen, hcell⟩ := World.cells?_some h1
      obtain ⟨ys, n', hl', hyl, _, hg⟩ := trod_flat Tryz.underlying34 (by kernel_rfl) (by kernel_rfl) h2
      match cs', ys, hl', hyl with
      | [c0, c1, c2, c3], [y0, y1, y2, y3], _, _ =>
        obtain ⟨_, _, t0⟩ := hg 0 _ c0 rfl rfl
        obtain ⟨_, _, t1⟩ := hg 1 _ c1 rfl rfl
        obtain ⟨_, _, t2⟩ := hg 2 _ c2 rfl rfl
        obtain ⟨_, _, t3⟩ := hg 3 _ c3 rfl rfl
        obtain ⟨a0, rfl, _, w0⟩ := one_int Tryz.underlying3 t0
        obtain ⟨d1, rfl, _, w1⟩ := one_string Tryz.underlying9 t1
        obtain ⟨a2, rfl, _, w2⟩ := one_int Tryz.underlying3 t2
        obtain ⟨a3, rfl, _, w3⟩ := one_int Tryz.underlying3 t3
        have e0 := hcell 0 (by omega)
        have e1 := hcell 1 (by omega)
        have e2 := hcell 2 (by omega)
        have e3 := hcell 3 (by omega)
        exact ⟨⟨a0, d1, a2, a3⟩, ⟨by unfold maxLen at w1; exact w1, Nums.wf_i64 w0, Nums.wf_i64 w2, Nums.wf_i64 w3⟩, by simpa using e0, by simpa using e1, by simpa using e2, by simpa using e3⟩
    obtain ⟨q, hq⟩ := choose_lt each
    have hll : ((List.range len).map q).length = len := by simp
    refine ⟨(List.range len).map q, ⟨some a, cap, by rw [hll], by rw [hll]; exact hl, fun j x hx => ?_⟩, by rw [hll]; unfold maxLen at hm; omega, fun x hx => ?_⟩
    · obtain ⟨hj, hjx⟩ := List.getElem?_eq_some_iff.1 hx
      rw [hll] at hj
      rw [List.getElem_map, List.getElem_range] at hjx
      subst hjx
      obtain ⟨_, c0, c1, c2, c3⟩ := hq j hj
      have hsp := World.cell?_spot (hq 0 (by omega)).2.1
      obtain ⟨b, o, sp⟩ := a
      have hsn : sp = none := by simpa [Addr.add] using hsp
      subst hsn
      rw [add_plain, add_plain] at c0 c1 c2 c3
      exact ⟨b, o, rfl, World.block_lt_of_cell? w _ c0, c0, c1, c2, c3⟩
    · obtain ⟨i, hi, rfl⟩ := List.mem_map.1 hx
      exact (hq i (List.mem_range.1 hi)).1
end Go.Proofs.YthjpchnogllliaaGreatDoor.TkO

/- Annotations and tokens among the arguments, opened. -/
set_option linter.unusedSimpArgs false
set_option linter.unusedVariables false
set_option maxRecDepth 100000
namespace Go.Proofs.YthjpchnogllliaaGreatDoor.NtO
open Go.ChangeShapes Go.WideShapes Go.RowKit Go.Deep Nums Byt ScaM ScaV Opn Val NotK TkrF

section
variable {H : Type} {enc : TypeId × Value → H} {w : World}
theorem cS : Tryz.prog.cellsOf 9 = 1 := by kernel_rfl
set_option maxRecDepth 100000 in
/-- The cells of one annotation that is read. -/
theorem note_of {spare : Nat → Bool} {held : Bool} (m : Nat) (cs : List Value) (x : DataW H × List MemPlace) (h : DataW.trod enc Tryz.prog w 0 spare held m 44 cs = some x) (hw : (x.1.weights Tryz.prog 44).all (· ≤ reachBytes) = true) :
    ∃ q : Mn, cs = fields q ∧ q.ok := by
  obtain ⟨xs, n', hn', rfl, hl', hxl, hg⟩ := DataW.trod_struct Tryz.underlying44 h
  match xs, hxl with
  | [x0, x1], _ =>
    have g0 : DataW.trod enc Tryz.prog w 0 spare held n' 9 ((cs.drop 0).take (Tryz.prog.cellsOf 9)) = some x0 := hg 0 _ rfl
    have g1 : DataW.trod enc Tryz.prog w 0 spare held n' 42 ((cs.drop 1).take (Tryz.prog.cellsOf 42)) = some x1 := hg 1 _ rfl
    rw [cS] at g0
    rw [c7] at g1
    have hl8 : cs.length = 8 := hl'.trans (by kernel_rfl)
    simp only [List.map_cons, List.map_nil, DataW.weights, Tryz.underlying44, DataW.weightsEach, List.all_append, Bool.and_eq_true, List.all_nil] at hw
    obtain ⟨v0, v1, _⟩ := hw
    obtain ⟨q, qs, rfl⟩ : ∃ q qs, cs = q :: qs := by
      cases cs with
      | nil => simp at hl8
      | cons q qs => exact ⟨q, qs, rfl⟩
    simp only [List.drop_zero, List.take_succ_cons, List.take_zero, List.drop_succ_cons] at g0 g1
    obtain ⟨s, rfl, hy0, w0⟩ := one_string Tryz.underlying9 g0
    obtain ⟨u, hu, hut⟩ := tree_of n' _ _ g1 v1
    rw [hy0] at v0
    have hs : s.size ≤ 140737488351232 := by
      have hh : s.data.toList.length ≤ reachBytes := of_decide_eq_true (List.all_eq_true.1 v0 s.data.toList.length (by simp [DataW.weights]))
      exact hh
    refine ⟨⟨s, u⟩, ?_, hs, hut.ok⟩
    show _ = .string s :: cellsV u
    rw [← hu, List.take_of_length_le (l := qs) (by simp at hl8; omega)]
theorem sizesN : Tryz.prog.bytesOf 44 = 144 ∧ Tryz.prog.cellsOf 44 = 8 := ⟨by kernel_rfl, by kernel_rfl⟩
/-- From the cells of each to a slice that is read. -/
theorem known_of {a : Option Addr} {l c : Nat} (h : Row w (· < w.heap.size) 8 a l c fun cs => ∃ q : Mn, cs = fields q ∧ q.ok) : ∃ ls : List Mn, ls.length = l ∧ KnN w (.slice a l c) ls ∧ ∀ m ∈ ls, m.ok := by
  cases a with
  | none =>
    obtain ⟨rfl, rfl⟩ := h.nil rfl
    exact ⟨[], rfl, known_nil w, by simp⟩
  | some ad =>
    obtain ⟨h0, h1, h2⟩ := h.at_ ad rfl
    have each : ∀ i, i < l → ∃ q : Mn, q.ok ∧ ∀ j u, (fields q)[j]? = some u → w.cell? (ad.add (i * 8 + j)) = some u := by
      intro i hi
      obtain ⟨cs, _, ⟨q, rfl, hq⟩, hg⟩ := h2 i hi
      exact ⟨q, hq, hg⟩
    haveI : Inhabited Mn := ⟨⟨⟨#[]⟩, ⟨0, 0, ⟨#[]⟩, none, 0, 0, none, 0, 0, none, 0, 0, none, 0, 0⟩⟩⟩
    obtain ⟨q, hq⟩ := choose_lt each
    have hll : ((List.range l).map q).length = l := by simp
    refine ⟨(List.range l).map q, hll, ⟨some ad, c, by rw [hll], by rw [hll]; exact h0, fun j x hx => ?_⟩, fun x hx => ?_⟩
    · obtain ⟨hj, hjx⟩ := List.getElem?_eq_some_iff.1 hx
      rw [hll] at hj
      rw [List.getElem_map, List.getElem_range] at hjx
      subst hjx
      have hc := (hq j hj).2
      have hsp := World.cell?_spot ((hq 0 (by omega)).2 0 _ rfl)
      obtain ⟨b, o, sp⟩ := ad
      have hsn : sp = none := by simpa [Addr.add] using hsp
      subst hsn
      have hc2 : ∀ k u, (fields (q j))[k]? = some u → w.cell? ⟨b, o + j * 8 + k, none⟩ = some u := by
        intro k u hk
        have := hc k u hk
        rw [add_plain] at this
        rw [show o + j * 8 + k = o + (j * 8 + k) by omega]
        exact this
      exact ⟨b, o, rfl, World.block_lt_of_cell? w _ (hc2 0 _ rfl), C8.of hc2⟩
    · obtain ⟨i, hi, rfl⟩ := List.mem_map.1 hx
      exact (hq i (List.mem_range.1 hi)).1
theorem open_notes {r : Reach} {b0 : Nat} {v : Value} {d : DataW H} {p : List MemPlace} (hv : Value.okWide Tryz.prog w r b0 24 v)
    (h : DataW.Trod enc Tryz.prog w 0 (fun _ => true) true 24 v d p) (hw : (d.weights Tryz.prog 24).all (· ≤ reachBytes) = true) :
    ∃ l : List Mn, KnN w v l ∧ l.length ≤ 9223372036854775807 ∧ ∀ m ∈ l, m.ok := by
  obtain ⟨a0, len0, cap0, rfl⟩ := okWide_slice Tryz.underlying24 hv
  obtain ⟨fuel, hf⟩ := h
  obtain ⟨a, l, cap, hc, hb, hr⟩ := row_of (size := 8) (bytes := 144) (P := fun cs => ∃ q : Mn, cs = fields q ∧ q.ok) Tryz.underlying24 sizesN.2 sizesN.1 (by decide) hf hw (fun m cs x _ h1 h2 => note_of m cs x h1 h2)
  rw [hc]
  obtain ⟨ls, hl, hk, ho⟩ := known_of hr
  exact ⟨ls, hk, by have h0 : reachBytes = 140737488351232 := rfl; omega, ho⟩
theorem open_note {r : Reach} {b0 : Nat} {v : Value} {d : DataW H} {p : List MemPlace} (hv : Value.okWide Tryz.prog w r b0 44 v)
    (h : DataW.Trod enc Tryz.prog w 0 (fun _ => true) true 44 v d p) (hw : (d.weights Tryz.prog 44).all (· ≤ reachBytes) = true) :
    ∃ m : Mn, v = nn m ∧ m.ok := by
  obtain ⟨cs, rfl, hsz⟩ := okWide_struct Tryz.underlying44 hv
  obtain ⟨l⟩ := cs
  obtain ⟨fuel, hf⟩ := h
  obtain ⟨m, hm, ho⟩ := note_of fuel _ _ hf hw
  refine ⟨m, ?_, ho⟩
  have hl : l = fields m := hm
  rw [hl]
  rfl
set_option maxRecDepth 100000 in
theorem token_of {spare : Nat → Bool} {held : Bool} (m : Nat) (cs : List Value) (x : DataW H × List MemPlace) (h : DataW.trod enc Tryz.prog w 0 spare held m 34 cs = some x) (hw : (x.1.weights Tryz.prog 34).all (· ≤ reachBytes) = true) :
    ∃ q : Mt, cs = OwnT.fields q ∧ q.ok := by
  obtain ⟨ys, n, hf, hl, hyl, hx, hg⟩ := trod_flat Tryz.underlying34 (by kernel_rfl) (by kernel_rfl) h
  match cs, ys, hl, hyl with
  | [c0, c1, c2, c3], [y0, y1, y2, y3], _, _ =>
    obtain ⟨_, e0, t0⟩ := hg 0 _ c0 rfl rfl
    obtain ⟨_, e1, t1⟩ := hg 1 _ c1 rfl rfl
    obtain ⟨_, e2, t2⟩ := hg 2 _ c2 rfl rfl
    obtain ⟨_, e3, t3⟩ := hg 3 _ c3 rfl rfl
    injection e0 with e0
    injection e1 with e1
    injection e2 with e2
    injection e3 with e3
    subst e0 e1 e2 e3
    subst hx
    obtain ⟨k, rfl, hy0, w0⟩ := one_int Tryz.underlying3 t0
    obtain ⟨s, rfl, hy1, w1⟩ := one_string Tryz.underlying9 t1
    obtain ⟨nu, rfl, hy2, w2⟩ := one_int Tryz.underlying3 t2
    obtain ⟨ln, rfl, hy3, w3⟩ := one_int Tryz.underlying3 t3
    simp only [List.map_cons, List.map_nil, DataW.weights, Tryz.underlying34, DataW.weightsEach, List.all_append, Bool.and_eq_true, List.all_nil, hy1, List.all_cons, decide_eq_true_eq] at hw
    obtain ⟨_, ⟨hs, _⟩, _⟩ := hw
    exact ⟨⟨k, s, nu, ln⟩, rfl, hs, Nums.wf_i64 w0, Nums.wf_i64 w2, Nums.wf_i64 w3⟩
theorem sizesT : Tryz.prog.bytesOf 34 = 40 ∧ Tryz.prog.cellsOf 34 = 4 := ⟨by kernel_rfl, by kernel_rfl⟩
theorem knownT_of {a : Option Addr} {l c : Nat} (h : Row w (· < w.heap.size) 4 a l c fun cs => ∃ q : Mt, cs = OwnT.fields q ∧ q.ok) : ∃ ls : List Mt, ls.length = l ∧ KnT w (.slice a l c) ls ∧ ∀ m ∈ ls, m.ok := by
  cases a with
  | none =>
    obtain ⟨rfl, rfl⟩ := h.nil rfl
    exact ⟨[], rfl, OwnT.known_nil w, by simp⟩
  | some ad =>
    obtain ⟨h0, h1, h2⟩ := h.at_ ad rfl
    have each : ∀ i, i < l → ∃ q : Mt, q.ok ∧ ∀ j u, (OwnT.fields q)[j]? = some u → w.cell? (ad.add (i * 4 + j)) = some u := by
      intro i hi
      obtain ⟨cs, _, ⟨q, rfl, hq⟩, hg⟩ := h2 i hi
      exact ⟨q, hq, hg⟩
    haveI : Inhabited Mt := ⟨⟨0, ⟨#[]⟩, 0, 0⟩⟩
    obtain ⟨q, hq⟩ := choose_lt each
    have hll : ((List.range l).map q).length = l := by simp
    refine ⟨(List.range l).map q, hll, ⟨some ad, c, by rw [hll], by rw [hll]; exact h0, fun j x hx => ?_⟩, fun x hx => ?_⟩
    · obtain ⟨hj, hjx⟩ := List.getElem?_eq_some_iff.1 hx
      rw [hll] at hj
      rw [List.getElem_map, List.getElem_range] at hjx
      subst hjx
      have hc := (hq j hj).2
      have hsp := World.cell?_spot ((hq 0 (by omega)).2 0 _ rfl)
      obtain ⟨b, o, sp⟩ := ad
      have hsn : sp = none := by simpa [Addr.add] using hsp
      subst hsn
      have hc2 : ∀ k u, (OwnT.fields (q j))[k]? = some u → w.cell? ⟨b, o + j * 4 + k, none⟩ = some u := by
        intro k u hk
        have := hc k u hk
        rw [add_plain] at this
        rw [show o + j * 4 + k = o + (j * 4 + k) by omega]
        exact this
      exact ⟨b, o, rfl, World.block_lt_of_cell? w _ (hc2 0 _ rfl), hc2 0 _ rfl, hc2 1 _ rfl, hc2 2 _ rfl, hc2 3 _ rfl⟩
    · obtain ⟨i, hi, rfl⟩ := List.mem_map.1 hx
      exact (hq i (List.mem_range.1 hi)).1
theorem open_toks {r : Reach} {b0 : Nat} {v : Value} {d : DataW H} {p : List MemPlace} (hv : Value.okWide Tryz.prog w r b0 22 v)
    (h : DataW.Trod enc Tryz.prog w 0 (fun _ => true) true 22 v d p) (hw : (d.weights Tryz.prog 22).all (· ≤ reachBytes) = true) :
    ∃ l : List Mt, KnT w v l ∧ l.length ≤ 9223372036854775807 ∧ ∀ m ∈ l, m.ok := by
  obtain ⟨a0, len0, cap0, rfl⟩ := okWide_slice Tryz.underlying22 hv
  obtain ⟨fuel, hf⟩ := h
  obtain ⟨a, l, cap, hc, hb, hr⟩ := row_of (size := 4) (bytes := 40) (P := fun cs => ∃ q : Mt, cs = OwnT.fields q ∧ q.ok) Tryz.underlying22 sizesT.2 sizesT.1 (by decide) hf hw (fun m cs x _ h1 h2 => token_of m cs x h1 h2)
  rw [hc]
  obtain ⟨ls, hl, hk, ho⟩ := knownT_of hr
  exact ⟨ls, hk, by have h0 : reachBytes = 140737488351232 := rfl; omega, ho⟩
end
end Go.Proofs.YthjpchnogllliaaGreatDoor.NtO
