import Derived.Test.YthjpchnogllliaaDoorOwnN
import Derived.Test.YthjpchnogllliaaDoorNorP
import Derived.Laws.IdiomCopy
import Derived.Laws.Append
import Derived.Lib.Overlaps
import Derived.Lib.AppendZerosOnto
import Derived.Shelf.Spec.SlicesInsert
import Derived.Laws.NewBlocks
import Derived.Test.YthjpchnogllliaaDoorNtpF
import Derived.Test.YthjpchnogllliaaDoorTld
import Derived.Deep.RegionHeld3
import Derived.Deep.SlicePairs
/- The library's copy at elements of several cells each; what a block holds, element by element, told of the call's own slices. -/
set_option linter.unusedSimpArgs false
set_option linter.unusedVariables false
namespace Go.Proofs.YthjpchnogllliaaDoor.CopN
open Go.RowKit Nums ScaM ScaV Val NotM NotK OwnN CloM CloA CloB

theorem run_copy_k {P : Program} (w : World) (dT sT ty elem : TypeId) (b o dLen dCap : Nat) (a : Addr) (sLen sCap size n : Nat) (cs : List Value)
    (hu : P.underlying dT = some (.slice elem)) (hs : (P.info? elem).map (·.size) = some size) (hmin : n = Nat.min sLen dLen) (hn : cs.length = n * size)
    (hsrc : ∀ j v, cs[j]? = some v → w.cell? (a.add j) = some v) (hc : ∀ j, j < cs.length → (w.cell? ⟨b, o + j, none⟩).isSome = true) (hf : ∀ j, j < cs.length → w.frozen? ⟨b, o + j, none⟩ = false) (h1 : ∀ v ∈ cs, v.oneCell' = true) :
    (Builtin.copy_ #[dT, sT] ty #[.slice (some ⟨b, o, none⟩) dLen dCap, .slice (some a) sLen sCap]).run P w = .ok (goInt n) (w.setCells b o cs) := by
  have hl := run_loadCells_list (P := P) w a cs hsrc
  have hst := run_storeCells_cells (P := P) b o cs 0 w (by simpa using hc) (by simpa using hf) h1
  cases hq : P.info? elem with
  | none => simp [hq] at hs
  | some i =>
    have hi : i.size = size := by simpa [hq] using hs
    rw [hn] at hl
    simp [Builtin.copy_, run_underlying hu, Builtin.lenOf, Builtin.firstCells, sizeOf, typeInfo, hq, hi, ← hmin, hl, hst]
/-- What a block holds: the annotations of a list. -/
def PI (l : List Mn) (j : Nat) (cs : List Value) : Prop := ∃ m, l[j]? = some m ∧ cs = fields m
theorem parts_flat (l : List Mn) : Parts 8 l.length (PI l) (l.flatMap fields) := by
  refine ⟨flat_len l, fun i hi => ?_⟩
  have hm : l[i]? = some l[i] := List.getElem?_eq_getElem hi
  exact ⟨fields l[i], rfl, ⟨l[i], hm, rfl⟩, fun j hj => flat_at l i j _ hm hj⟩
theorem blk_own {w : World} {base : Nat} {v : Value} {l : List Mn} (h : OwnN w base v l) (h0 : l ≠ []) :
    ∃ g cap, v = .slice (some ⟨g, 0, none⟩) l.length cap ∧ l.length ≤ cap ∧ base ≤ g ∧ Blk w g 8 l.length (PI l) := by
  obtain ⟨a', c', rfl, hc, _, hg⟩ := blk_of_own h (parts_flat l)
  obtain ⟨g, rfl, h1, h2⟩ := hg (fun e => h0 (List.length_eq_zero_iff.1 e))
  exact ⟨g, c', rfl, hc, h1, h2⟩
theorem setCells_size (b : Nat) : ∀ (vs : List Value) (o : Nat) (w : World), (w.setCells b o vs).heap.size = w.heap.size
  | [], _, _ => rfl
  | v :: r, o, w => by rw [World.setCells, setCells_size b r]; simp
theorem setCells_below {B : Nat} {a : World} {g : Nat} (hg : B ≤ g) : ∀ (vs : List Value) (o : Nat) (w : World), Below B a w → Below B a (w.setCells g o vs)
  | [], _, _, h => h
  | v :: vs, o, w, h => by rw [World.setCells]; exact setCells_below hg vs (o + 1) _ (h.setCell hg _)
theorem setCells_other (b g : Nat) (hne : g ≠ b) : ∀ (vs : List Value) (o : Nat) (w : World), (w.setCells b o vs).heap[g]? = w.heap[g]?
  | [], _, _ => rfl
  | v :: vs, o, w => by rw [World.setCells, setCells_other b g hne vs (o + 1)]; exact Below.heap_setCell _ _ _ _ hne
theorem isSome_set (b : Nat) (vs : List Value) (o : Nat) (w : World) (h : ∀ j, j < vs.length → (w.cell? ⟨b, o + j, none⟩).isSome = true) (k : Nat) (hk : (w.cell? ⟨b, k, none⟩).isSome = true) : ((w.setCells b o vs).cell? ⟨b, k, none⟩).isSome = true := by
  by_cases hin : o ≤ k ∧ k < o + vs.length
  · have := World.cell?_setCells_in b vs o w h (k - o) (by omega)
    rw [show o + (k - o) = k by omega] at this
    rw [this]; rfl
  · rw [World.cell?_setCells_out b vs o w ⟨b, k, none⟩ (fun _ _ => by show k < o ∨ o + vs.length ≤ k; omega)]
    exact hk
/-- A list with a new one at a place. -/
def insAt (i : Nat) (x : Mn) (l : List Mn) : List Mn := l.take i ++ x :: l.drop i
theorem insAt_len {i : Nat} {x : Mn} {l : List Mn} (h : i ≤ l.length) : (insAt i x l).length = l.length + 1 := by
  unfold insAt
  rw [List.length_append, List.length_take, List.length_cons, List.length_drop]
  omega
theorem insAt_lt {i j : Nat} {x : Mn} {l : List Mn} (h : i ≤ l.length) (hj : j < i) : (insAt i x l)[j]? = l[j]? := by
  unfold insAt
  rw [List.getElem?_append_left (by rw [List.length_take]; omega), List.getElem?_take_of_lt hj]
theorem insAt_eq {i : Nat} {x : Mn} {l : List Mn} (h : i ≤ l.length) : (insAt i x l)[i]? = some x := by
  unfold insAt
  rw [List.getElem?_append_right (by rw [List.length_take]; omega), List.length_take, Nat.min_eq_left h, Nat.sub_self]
  rfl
theorem insAt_gt {i j : Nat} {x : Mn} {l : List Mn} (h : i ≤ l.length) (hj : i ≤ j) : (insAt i x l)[j + 1]? = l[j]? := by
  unfold insAt
  rw [List.getElem?_append_right (by rw [List.length_take]; omega), List.length_take, Nat.min_eq_left h, show j + 1 - i = (j - i) + 1 by omega, List.getElem?_cons_succ, List.getElem?_drop]
  congr 1
  omega
theorem fields_at (l : List Mn) (k : Nat) (hk : k < l.length * 8) : ∃ m, l[k / 8]? = some m ∧ (l.flatMap fields)[k]? = (fields m)[k % 8]? := by
  have h1 : k / 8 < l.length := by omega
  refine ⟨l[k / 8], List.getElem?_eq_getElem h1, ?_⟩
  have := flat_at l (k / 8) (k % 8) _ (List.getElem?_eq_getElem h1) (by omega)
  rwa [show k / 8 * 8 + k % 8 = k by omega] at this
/-- A block whose cells are those of a list. -/
theorem blk_mk {w : World} {g : Nat} {l : List Mn} (hlt : g < w.heap.size) (hfz : ∀ o, w.frozen? ⟨g, o, none⟩ = false) (h : ∀ k u, (l.flatMap fields)[k]? = some u → w.cell? ⟨g, k, none⟩ = some u) : Blk w g 8 l.length (PI l) := by
  refine ⟨hlt, hfz, fun i hi => ?_⟩
  have hm : l[i]? = some l[i] := List.getElem?_eq_getElem hi
  refine ⟨fields l[i], rfl, ⟨l[i], hm, rfl⟩, fun j u hj => ?_⟩
  have hj8 : j < 8 := by have := (List.getElem?_eq_some_iff.1 hj).1; rwa [fields_len] at this
  exact h (i * 8 + j) u (by rw [flat_at l i j _ hm hj8]; exact hj)
/-- The cells of a list with a new one, by their places. -/
theorem insAt_cell {i : Nat} {x : Mn} {l : List Mn} (h : i ≤ l.length) {k : Nat} {u : Value} (hk : ((insAt i x l).flatMap fields)[k]? = some u) :
    (k < i * 8 ∧ (l.flatMap fields)[k]? = some u) ∨ (i * 8 ≤ k ∧ k < i * 8 + 8 ∧ (fields x)[k - i * 8]? = some u) ∨ (i * 8 + 8 ≤ k ∧ (l.flatMap fields)[k - 8]? = some u) := by
  have hlen : k < (l.length + 1) * 8 := by
    have := (List.getElem?_eq_some_iff.1 hk).1
    rw [flat_len, insAt_len h] at this
    exact this
  have h8 := flat_at (insAt i x l) (k / 8) (k % 8)
  rw [show k / 8 * 8 + k % 8 = k by omega] at h8
  rcases Nat.lt_trichotomy (k / 8) i with hlt | heq | hgt
  · left
    have hm : l[k / 8]? = some (l[k / 8]'(by omega)) := List.getElem?_eq_getElem (by omega)
    have e1 := h8 _ (by rw [insAt_lt h hlt]; exact hm) (by omega)
    have e2 := flat_at l (k / 8) (k % 8) _ hm (by omega)
    rw [show k / 8 * 8 + k % 8 = k by omega] at e2
    exact ⟨by omega, by rw [e2, ← e1]; exact hk⟩
  · right; left
    have e1 := h8 x (by rw [heq]; exact insAt_eq h) (by omega)
    refine ⟨by omega, by omega, ?_⟩
    rw [show k - i * 8 = k % 8 by omega, ← e1]
    exact hk
  · right; right
    obtain ⟨p, hp⟩ : ∃ p, k / 8 = p + 1 := ⟨k / 8 - 1, by omega⟩
    have hm : l[p]? = some (l[p]'(by omega)) := List.getElem?_eq_getElem (by omega)
    have e1 := h8 _ (by rw [hp, insAt_gt h (by omega)]; exact hm) (by omega)
    have e2 := flat_at l p (k % 8) _ hm (by omega)
    refine ⟨by omega, ?_⟩
    rw [show k - 8 = p * 8 + k % 8 by omega, e2, ← e1]
    exact hk
end Go.Proofs.YthjpchnogllliaaDoor.CopN

/- The library's Insert of one annotation into a slice of the call's own. -/
set_option linter.unusedSimpArgs false
set_option linter.unusedVariables false
namespace Go.Proofs.YthjpchnogllliaaDoor.NtpI
open Go.RowKit Nums ScaM ScaV Val NotM NotK OwnN CloM CloA CloB CopN

def Post (base : Nat) (l : List Mn) (x : Mn) (i : Nat) (w : World) (e : Ending) (w' : World) : Prop :=
  ∃ g cap, e = .returned (.slice (some ⟨g, 0, none⟩) (l.length + 1) cap) ∧ l.length + 1 ≤ cap ∧ base ≤ g ∧ Blk w' g 8 (l.length + 1) (PI (insAt i x l)) ∧ Below base w w'

set_option maxHeartbeats 4000000 in
set_option maxRecDepth 100000 in
theorem at_end (base : Nat) (v : Value) (l : List Mn) (x : Mn) (vb : Nat) (w : World) (hl : l.length ≤ 100000) (hown : OwnN w base v l) (hx : C8 w vb 0 x) (hbw : base ≤ w.heap.size) :
    Calls Tryd.prog 35 #[v, .int .i64 l.length, .slice (some ⟨vb, 0, none⟩) 1 1] w fun e w' => Post base l x l.length w e w' := by
  obtain ⟨i0, hi, hz0, hz1, hz2⟩ := info_parts infoN
  have A : Aside (∀ j u, (fields x)[j]? = some u → w.cell? ((⟨vb, 0, none⟩ : Addr).add j) = some u) := fun j u hj => by
    have := hx.get j u hj
    rw [Addr.add_lit]
    exact this
  have HO := Lib.hid hown
  have hshape : (v = .slice none 0 0 ∧ l.length = 0) ∨ ∃ g cap, v = .slice (some ⟨g, 0, none⟩) l.length cap ∧ l.length ≤ cap := by
    rcases hown.2 with ⟨rfl, hn⟩ | ⟨g, cap, cur, rfl, _, _, hnc, _⟩
    · exact .inl ⟨rfl, hn⟩
    · exact .inr ⟨g, cap, rfl, hnc⟩
  have fin : ∀ (v' : Value) (w1 : World), w1.ownsRow base 42 8 v' (l.length + 1) (l.flatMap fields ++ fields x) → w.grownBy w1 v.ownBlock → Post base l x l.length w (.returned v') w1 := by
    intro v' w1 ho hg
    have ho' : OwnN w1 base v' (l ++ [x]) := by
      unfold OwnN
      rw [List.length_append, List.flatMap_append]
      simpa using ho
    obtain ⟨g, cap, rfl, h1, h2, h3⟩ := blk_own ho' (by simp)
    rw [List.length_append] at h1 h3
    have he : insAt l.length x l = l ++ [x] := by
      unfold insAt
      rw [List.take_length, List.drop_length]
    refine ⟨g, cap, by rw [List.length_append]; rfl, h1, h2, by rw [he]; exact h3, (Below.refl _ w).grown hg hbw (fun k hk => (HO.out.lt k hk).1)⟩
  have HF := Lib.hid fin
  clear hx hown fin
  rcases hshape with ⟨rfl, hn⟩ | ⟨g, cap, rfl, hnc⟩
  · obtain rfl : l = [] := List.length_eq_zero_iff.1 hn
    go_enter Tryd.func35, Tryd.ntmps35
    go_wp2_with (at_builtin; refine wpList_append_own _ rfl _ _ 22 rfl base 42 i0 _ 8 144 Tryd.underlying22 hi hz0 hz1 hz2 rfl (by decide) _ _ _ rfl HO.out ⟨vb, 0, none⟩ 1 1 (fields x) rfl ?qc1 ?qc2 ?qc3 ?qc4 ?qc5 ?qc6 ?_)
    case qc1 => rfl
    case qc2 => exact fun j u hj => A.out j u hj
    case qc3 => exact fields_flat x
    case qc4 => unfold maxLen; omega
    case qc5 => omega
    case qc6 => exact hbw
    intro v' w1 ho hg hnil
    go_wp2
    go_ret
    exact HF.out _ _ ho hg
  · by_cases hcap : cap = l.length
    · go_enter Tryd.func35, Tryd.ntmps35
      go_wp2_with (at_builtin; refine wpList_append_own _ rfl _ _ 22 rfl base 42 i0 _ 8 144 Tryd.underlying22 hi hz0 hz1 hz2 rfl (by decide) _ _ _ rfl HO.out ⟨vb, 0, none⟩ 1 1 (fields x) rfl ?qc1 ?qc2 ?qc3 ?qc4 ?qc5 ?qc6 ?_)
      case qc1 => rfl
      case qc2 => exact fun j u hj => A.out j u hj
      case qc3 => exact fields_flat x
      case qc4 => unfold maxLen; omega
      case qc5 => omega
      case qc6 => exact hbw
      intro v' w1 ho hg hnil
      go_wp2
      go_ret
      exact HF.out _ _ ho hg
    · go_enter Tryd.func35, Tryd.ntmps35
      go_wp2_with (at_builtin; refine wpList_append_own _ rfl _ _ 22 rfl base 42 i0 _ 8 144 Tryd.underlying22 hi hz0 hz1 hz2 rfl (by decide) _ _ _ rfl HO.out ⟨vb, 0, none⟩ 1 1 (fields x) rfl ?qc1 ?qc2 ?qc3 ?qc4 ?qc5 ?qc6 ?_)
      case qc1 => rfl
      case qc2 => exact fun j u hj => A.out j u hj
      case qc3 => exact fields_flat x
      case qc4 => unfold maxLen; omega
      case qc5 => omega
      case qc6 => exact hbw
      intro v' w1 ho hg hnil
      go_wp2
      go_ret
      exact HF.out _ _ ho hg
end Go.Proofs.YthjpchnogllliaaDoor.NtpI

/- The library's Insert of one annotation inside a slice of the call's own. -/
set_option linter.unusedSimpArgs false
set_option linter.unusedVariables false
namespace Go.Proofs.YthjpchnogllliaaDoor.NtpJ
open Go.RowKit Nums ScaM ScaV Val NotM NotK OwnN CloM CloA CloB CopN NtpI

theorem size8 : (Tryd.prog.info? 42).map (·.size) = some 8 := by kernel_rfl
theorem sizeN (w : World) : (Go.sizeOf 42).run Tryd.prog w = .ok 8 w := by kernel_rfl
theorem flat_one (l : List Mn) : ∀ v ∈ l.flatMap fields, v.oneCell' = true := by
  intro v hv
  obtain ⟨m, _, hm⟩ := List.mem_flatMap.1 hv
  exact fields_flat m v hm
theorem shift_cells {w : World} {g i vb : Nat} {l : List Mn} {x : Mn} (hi : i ≤ l.length) (hsp : ∀ k, k < (l.length + 1) * 8 → (w.cell? ⟨g, k, none⟩).isSome = true)
    (hcs : ∀ k u, (l.flatMap fields)[k]? = some u → w.cell? ⟨g, k, none⟩ = some u) :
    ∀ k u, ((insAt i x l).flatMap fields)[k]? = some u → ((w.setCells g ((i + 1) * 8) ((l.flatMap fields).drop (i * 8))).setCells g (i * 8) (fields x)).cell? ⟨g, k, none⟩ = some u := by
  intro k u hk
  have hfl : (fields x).length = 8 := rfl
  have hdl : ((l.flatMap fields).drop (i * 8)).length = l.length * 8 - i * 8 := by rw [List.length_drop, flat_len]
  have hs1 : ∀ j, j < ((l.flatMap fields).drop (i * 8)).length → (w.cell? ⟨g, (i + 1) * 8 + j, none⟩).isSome = true := fun j hj => hsp _ (by rw [hdl] at hj; omega)
  have hs2 : ∀ j, j < (fields x).length → ((w.setCells g ((i + 1) * 8) ((l.flatMap fields).drop (i * 8))).cell? ⟨g, i * 8 + j, none⟩).isSome = true := fun j hj => isSome_set g _ _ _ hs1 _ (hsp _ (by rw [hfl] at hj; omega))
  rcases insAt_cell hi hk with ⟨h1, h2⟩ | ⟨h1, h2, h3⟩ | ⟨h1, h2⟩
  · rw [World.cell?_setCells_out g _ _ _ _ (fun _ _ => .inl h1), World.cell?_setCells_out g _ _ _ _ (fun _ _ => .inl (by show k < (i + 1) * 8; omega))]
    exact hcs k u h2
  · have h4 := World.cell?_setCells_in g (fields x) (i * 8) _ hs2 (k - i * 8) (by rw [hfl]; omega)
    rw [show i * 8 + (k - i * 8) = k by omega] at h4
    rw [h4]
    rw [← h3, List.getElem?_eq_getElem (by rw [hfl]; omega)]
  · rw [World.cell?_setCells_out g _ _ _ _ (fun _ _ => .inr (by rw [hfl]; exact h1))]
    have hlt : k - 8 - i * 8 < ((l.flatMap fields).drop (i * 8)).length := by
      have := (List.getElem?_eq_some_iff.1 h2).1
      rw [List.length_drop]
      omega
    have h4 := World.cell?_setCells_in g ((l.flatMap fields).drop (i * 8)) ((i + 1) * 8) _ hs1 (k - 8 - i * 8) hlt
    rw [show (i + 1) * 8 + (k - 8 - i * 8) = k by omega] at h4
    rw [h4, ← List.getElem?_eq_getElem hlt, List.getElem?_drop, show i * 8 + (k - 8 - i * 8) = k - 8 by omega]
    exact h2

set_option maxHeartbeats 4000000 in
set_option maxRecDepth 100000 in
theorem shift (base g cap : Nat) (l : List Mn) (x : Mn) (i vb : Nat) (w : World) (hi : i < l.length) (hl : l.length ≤ 100000) (hroom : l.length + 1 ≤ cap) (hcap : cap ≤ 9223372036854775807) (hg : base ≤ g) (hgw : g < w.heap.size)
    (hcs : ∀ k u, (l.flatMap fields)[k]? = some u → w.cell? ⟨g, k, none⟩ = some u) (hsp : ∀ k, k < cap * 8 → (w.cell? ⟨g, k, none⟩).isSome = true) (hfz : ∀ k, w.frozen? ⟨g, k, none⟩ = false) (hsh : w.shape? g = some (42, cap * 8))
    (hx : C8 w vb 0 x) (hne : vb ≠ g) (hshx : w.shape? vb = some (42, 8)) (hfx : ∀ k, w.frozen? ⟨vb, k, none⟩ = false) :
    Calls Tryd.prog 35 #[.slice (some ⟨g, 0, none⟩) l.length cap, .int .i64 i, .slice (some ⟨vb, 0, none⟩) 1 1] w fun e w' => Post base l x i w e w' := by
  have hw1 : IntKind.i64.wrap ((i : Int) + 1) = (i : Int) + 1 := by rw [IntKind.wrap_i64]; omega
  have hw1b : wrap64 ((i : Int) + 1) = (i : Int) + 1 := by unfold wrap64; omega
  have hw2 : wrap64 ((l.length : Int) + 1) = (l.length : Int) + 1 := by unfold wrap64; omega
  have hz2 : ((i : Int) == (l.length : Int)) = false := by rw [beq_eq_false_iff_ne]; omega
  have hz3 : decide ((cap : Int) < (l.length : Int) + 1) = false := decide_eq_false (by omega)
  have mixed : Tryd.prog.follows Departure.mixedOrders = true := by kernel_rfl
  have hin : i ≤ l.length := by omega
  have hb1 : (0 : Int) ≤ (i : Int) + 1 := by omega
  have hb2 : ¬ (cap = i + 1) := by omega
  have hb3 : (i : Int) ≤ (l.length : Int) + 1 := by omega
  have hb4 : ¬ (cap = i) := by omega
  have htn : ((i : Int) + 1).toNat = i + 1 := by omega
  have hov : ∀ lb cb, (callFunc 50 #[.slice (some ⟨vb, 0, none⟩) 1 1, .slice (some ⟨g, (i + 1) * 8, none⟩) lb cb]).run Tryd.prog w = .ok (.value (.bool false)) w := fun lb cb => by
    rw [run_callFunc_extern Tryd.func50 (by kernel_rfl) (by kernel_rfl) (by kernel_rfl) (e := Extern.SlicesOverlaps.overlaps #[22, 22] #[4]) (by kernel_rfl),
      Lib.run_overlaps_apart w 22 4 42 Tryd.underlying22 8 sizeN ⟨vb, 0, none⟩ ⟨g, (i + 1) * 8, none⟩ 1 1 lb cb hne _ _ _ _ hshx hsh (by omega) (hfx 0) (hfx 8)]
    rfl
  have hdl : ((l.flatMap fields).drop (i * 8)).length = (l.length - i) * 8 := by rw [List.length_drop, flat_len]; omega
  have hcp1 : ∀ ty dc sc, (Builtin.copy_ #[22, 22] ty #[.slice (some ⟨g, (i + 1) * 8, none⟩) (l.length - i) dc, .slice (some ⟨g, i * 8, none⟩) (l.length + 1 - i) sc]).run Tryd.prog w.drew = .ok (goInt ((l.length - i : Nat) : Int)) (w.drew.setCells g ((i + 1) * 8) ((l.flatMap fields).drop (i * 8))) := fun ty dc sc =>
    run_copy_k w.drew _ _ ty 42 g ((i + 1) * 8) (l.length - i) dc ⟨g, i * 8, none⟩ (l.length + 1 - i) sc 8 (l.length - i) ((l.flatMap fields).drop (i * 8)) Tryd.underlying22 size8 (by simp only [Nat.min_def]; split <;> omega) hdl
      (fun j v hj => by rw [Addr.add_lit]; exact hcs (i * 8 + j) v (by rwa [List.getElem?_drop] at hj))
      (fun j hj => hsp _ (by rw [hdl] at hj; omega)) (fun j hj => hfz _) (fun v hv => flat_one l v (List.mem_of_mem_drop hv))
  obtain ⟨W1, hW1⟩ : ∃ W1, W1 = w.drew.setCells g ((i + 1) * 8) ((l.flatMap fields).drop (i * 8)) := ⟨_, rfl⟩
  have hcp2 : ∀ (W : World), (∀ x, W.cell? x = W1.cell? x) → (∀ x, W.frozen? x = W1.frozen? x) → ∀ ty dc, (Builtin.copy_ #[22, 22] ty #[.slice (some ⟨g, i * 8, none⟩) (l.length + 1 - i) dc, .slice (some ⟨vb, 0, none⟩) 1 1]).run Tryd.prog W = .ok (goInt ((1 : Nat) : Int)) (W.setCells g (i * 8) (fields x)) := fun W hWc hWf ty dc =>
    run_copy_k W _ _ ty 42 g (i * 8) (l.length + 1 - i) dc ⟨vb, 0, none⟩ 1 1 8 1 (fields x) Tryd.underlying22 size8 (by simp only [Nat.min_def]; split <;> omega) rfl
      (fun j v hj => by
        rw [Addr.add_lit, hWc, hW1, World.cell?_setCells_out g _ _ _ _ (fun h _ => absurd h hne)]
        exact hx.get j v hj)
      (fun j hj => by rw [hWc, hW1]; exact isSome_set g _ _ w.drew (fun q hq => hsp ((i + 1) * 8 + q) (by rw [hdl] at hq; omega)) _ (hsp (i * 8 + j) (by have : (fields x).length = 8 := rfl; omega)))
      (fun j hj => by rw [hWf, hW1, World.frozen?_setCells]; exact hfz _) (fields_flat x)
  rw [← hW1] at hcp1
  have fin : Post base l x i w (.returned (.slice (some ⟨g, 0, none⟩) (l.length + 1) cap)) (W1.setCells g (i * 8) (fields x)) := by
    refine ⟨g, cap, rfl, hroom, hg, ?_, ?_⟩
    · have := blk_mk (w := W1.setCells g (i * 8) (fields x)) (g := g) (l := insAt i x l) (by rw [setCells_size, hW1, setCells_size]; exact hgw) (fun o => by rw [World.frozen?_setCells, hW1, World.frozen?_setCells]; exact hfz o)
        (by rw [hW1]; exact shift_cells (w := w.drew) (vb := vb) (Nat.le_of_lt hi) (fun k hk => hsp k (by omega)) hcs)
      rwa [insAt_len (Nat.le_of_lt hi)] at this
    · rw [hW1]
      exact setCells_below hg _ _ _ (setCells_below hg _ _ _ (Below.refl base w).drew)
  have HFin := Lib.hid fin
  have HW1 := Lib.hid hW1
  clear fin hW1 hcs hsp hfz hsh hx hshx hfx hdl
  go_enter Tryd.func35, Tryd.ntmps35
  go_wp2_with (simp only [hov])
  go_region_law_o (refine step_copy_runI rfl _ _ 22 22 rfl _ _ (by simp [Act.eval, Act.put]) (by simp [Act.eval, Act.put]) (hcp1 _ _ _) ?_)
  go_wp2_with (at_builtin; refine wpList_copy_runI _ rfl _ _ 22 22 rfl _ _ rfl rfl (hcp2 _ (fun _ => rfl) (fun _ => rfl) _ _) ?_)
  go_ret
  exact HFin.out
end Go.Proofs.YthjpchnogllliaaDoor.NtpJ

/- The library's Insert of one annotation inside a slice of the call's own that has no room; Insert anywhere. -/
set_option linter.unusedSimpArgs false
set_option linter.unusedVariables false
namespace Go.Proofs.YthjpchnogllliaaDoor.NtpL
open Go.RowKit Nums ScaM ScaV Val NotM NotK OwnN CloM CloA CloB CopN NtpI NtpJ

abbrev zN : Value := .agg #[.string ByteArray.empty, .int .i64 0, .int .u64 0, .string ByteArray.empty, .slice none 0 0, .slice none 0 0, .slice none 0 0, .slice none 0 0]
theorem wrap_small {z : Int} (h : 0 ≤ z) (h2 : z ≤ 200000) : wrap64 z = z := by unfold wrap64; omega
theorem wrap_small2 {z : Int} (h : 0 ≤ z) (h2 : z ≤ 200000) : IntKind.i64.wrap z = z := by rw [IntKind.wrap_i64]; omega
theorem zc_size (k : Nat) : (Builtin.zeroCells zN.cells k).size = k * 8 := by simp [Builtin.zeroCells, Value.cells]

section
variable (w : World) (o : Obj) (b q r : Nat) (vs us : List Value) (y : Addr)
theorem f1 : (((w.alloc o).drew.setCells b q vs).drew).cell? y = ((w.drew.alloc o).setCells b q vs).cell? y := rfl
theorem f2 : (((w.alloc o).drew.setCells b q vs).drew).frozen? y = ((w.drew.alloc o).setCells b q vs).frozen? y := rfl
theorem f3 : ((((w.alloc o).drew.setCells b q vs).drew).setCells b r us).heap = (((w.drew.alloc o).setCells b q vs).setCells b r us).heap := by
  rw [← Proofs.drew_setCells b us r ((w.alloc o).drew.setCells b q vs)]
  rfl
theorem f4 : ((((w.alloc o).drew.setCells b q vs).drew).setCells b r us).heap.size = w.heap.size + 1 := by
  rw [setCells_size]
  show ((w.alloc o).drew.setCells b q vs).heap.size = _
  rw [setCells_size]
  exact World.size_alloc w o
theorem f5 {B : Nat} (hb : B ≤ b) (hw : B ≤ w.heap.size) : Below B w ((((w.alloc o).drew.setCells b q vs).drew).setCells b r us) :=
  setCells_below hb us r _ (setCells_below hb vs q _ (((Below.refl B w).alloc hw o).drew)).drew
end
theorem grow_cells {w : World} {g i : Nat} {l : List Mn} {x : Mn} {W : Nat} (hi : i ≤ l.length) (hsp : ∀ k, k < (l.length + 1) * 8 → (w.cell? ⟨W, k, none⟩).isSome = true)
    (hcs : ∀ k u, k < i * 8 → (l.flatMap fields)[k]? = some u → w.cell? ⟨W, k, none⟩ = some u) :
    ∀ k u, ((insAt i x l).flatMap fields)[k]? = some u → ((w.setCells W (i * 8) (fields x)).setCells W ((i + 1) * 8) ((l.flatMap fields).drop (i * 8))).cell? ⟨W, k, none⟩ = some u := by
  intro k u hk
  have hfl : (fields x).length = 8 := rfl
  have hdl : ((l.flatMap fields).drop (i * 8)).length = l.length * 8 - i * 8 := by rw [List.length_drop, flat_len]
  have hs1 : ∀ j, j < (fields x).length → (w.cell? ⟨W, i * 8 + j, none⟩).isSome = true := fun j hj => hsp _ (by rw [hfl] at hj; omega)
  have hs2 : ∀ j, j < ((l.flatMap fields).drop (i * 8)).length → ((w.setCells W (i * 8) (fields x)).cell? ⟨W, (i + 1) * 8 + j, none⟩).isSome = true := fun j hj => isSome_set W _ _ _ hs1 _ (hsp _ (by rw [hdl] at hj; omega))
  rcases insAt_cell hi hk with ⟨h1, h2⟩ | ⟨h1, h2, h3⟩ | ⟨h1, h2⟩
  · rw [World.cell?_setCells_out W _ _ _ _ (fun _ _ => .inl (by show k < (i + 1) * 8; omega)), World.cell?_setCells_out W _ _ _ _ (fun _ _ => .inl h1)]
    exact hcs k u h1 h2
  · rw [World.cell?_setCells_out W _ _ _ _ (fun _ _ => .inl (by show k < (i + 1) * 8; omega))]
    have h4 := World.cell?_setCells_in W (fields x) (i * 8) _ hs1 (k - i * 8) (by rw [hfl]; omega)
    rw [show i * 8 + (k - i * 8) = k by omega] at h4
    rw [h4]
    rw [← h3, List.getElem?_eq_getElem (by rw [hfl]; omega)]
  · have hlt : k - 8 - i * 8 < ((l.flatMap fields).drop (i * 8)).length := by
      have := (List.getElem?_eq_some_iff.1 h2).1
      rw [List.length_drop]
      omega
    have h4 := World.cell?_setCells_in W ((l.flatMap fields).drop (i * 8)) ((i + 1) * 8) _ hs2 (k - 8 - i * 8) hlt
    rw [show (i + 1) * 8 + (k - 8 - i * 8) = k by omega] at h4
    rw [h4, ← List.getElem?_eq_getElem hlt, List.getElem?_drop, show i * 8 + (k - 8 - i * 8) = k - 8 by omega]
    exact h2

set_option maxHeartbeats 4000000 in
set_option maxRecDepth 100000 in
theorem grow (base g cap : Nat) (l : List Mn) (x : Mn) (i vb : Nat) (w : World) (hi : i < l.length) (hl : l.length ≤ 100000) (hroom : cap < l.length + 1) (hcap : l.length ≤ cap) (hg : base ≤ g) (hgw : g < w.heap.size)
    (hcs : ∀ k u, (l.flatMap fields)[k]? = some u → w.cell? ⟨g, k, none⟩ = some u)
    (hx : C8 w vb 0 x) (hvw : vb < w.heap.size) :
    Calls Tryd.prog 35 #[.slice (some ⟨g, 0, none⟩) l.length cap, .int .i64 i, .slice (some ⟨vb, 0, none⟩) 1 1] w fun e w' => Post base l x i w e w' := by
  have mixed : Tryd.prog.follows Departure.mixedOrders = true := by kernel_rfl
  obtain ⟨i0, hi0, hz0, hzs, hzb⟩ := info_parts infoN
  have hz2 : ((i : Int) == (l.length : Int)) = false := by rw [beq_eq_false_iff_ne]; omega
  have hz3 : decide ((cap : Int) < (l.length : Int) + 1) = true := decide_eq_true (by omega)
  have hkk : (l.length : Int) + 1 - (i : Int) = ((l.length + 1 - i : Nat) : Int) := by omega
  have hik : i + (l.length + 1 - i) = l.length + 1 := by omega
  have htl : ((l.flatMap fields).take (i * 8)).length = i * 8 := by rw [List.length_take, flat_len]; omega
  have hold : (Builtin.firstCells i0.size i (.slice (some ⟨g, 0, none⟩) i cap)).run Tryd.prog w.drew = .ok ((l.flatMap fields).take (i * 8)).toArray w.drew := by
    rw [hzs]
    exact run_firstCells_some w.drew 8 i ⟨g, 0, none⟩ i cap ((l.flatMap fields).take (i * 8)) htl (fun j v hj => by
      rw [Addr.add_lit, Nat.zero_add]
      rw [List.getElem?_take] at hj
      split at hj
      · exact hcs j v hj
      · cases hj)
  have hrz : ∀ ty, (Builtin.append_ #[22, 3] ty #[.slice (some ⟨g, 0, none⟩) i cap, .int .i64 ((l.length : Int) + 1 - (i : Int))]).run Tryd.prog w =
      .ok (.slice (some ⟨w.heap.size, 0, none⟩) (l.length + 1) (grownCap w (l.length + 1) cap 42)) (w.drew.alloc (.cells (((l.flatMap fields).take (i * 8)).toArray ++ Builtin.zeroCells zN.cells (l.length + 1 - i) ++ Builtin.zeroCells zN.cells (grownCap w (l.length + 1) cap 42 - (l.length + 1))) 42)) := fun ty => by
    have h := Lib.run_append_grow_zeros w 22 3 ty 42 i0 _ .i64 .i64 Tryd.underlying22 Tryd.underlying3 hi0 hz0 (some ⟨g, 0, none⟩) i cap ((l.flatMap fields).take (i * 8)) hold (l.length + 1 - i) (by omega) (by omega) (by omega) (by omega) (by rw [hzb]; omega) (by rw [hzb, hik]; exact growslice_fits hroom (by omega))
    rw [hik] at h
    rw [hkk]
    exact h
  obtain ⟨G, hG⟩ : ∃ G, G = grownCap w (l.length + 1) cap 42 := ⟨_, rfl⟩
  obtain ⟨ROW, hROW⟩ : ∃ ROW : Array Value, ROW = ((l.flatMap fields).take (i * 8)).toArray ++ Builtin.zeroCells zN.cells (l.length + 1 - i) ++ Builtin.zeroCells zN.cells (G - (l.length + 1)) := ⟨_, rfl⟩
  rw [← hG] at hrz
  rw [← hROW] at hrz
  have hRl : (l.length + 1) * 8 ≤ ROW.size := by
    rw [hROW, Array.size_append, Array.size_append, zc_size, zc_size, List.size_toArray, htl]
    omega
  have hRc : ∀ k u, k < i * 8 → (l.flatMap fields)[k]? = some u → ROW[k]? = some u := by
    intro k u hk hu
    rw [hROW, Array.getElem?_append_left (by rw [Array.size_append, List.size_toArray, htl]; omega), Array.getElem?_append_left (by rw [List.size_toArray, htl]; omega), List.getElem?_toArray, List.getElem?_take_of_lt hk]
    exact hu
  obtain ⟨W1, hW1⟩ : ∃ W1, W1 = w.drew.alloc (.cells ROW 42) := ⟨_, rfl⟩
  rw [← hW1] at hrz
  have hN : ∀ j, j < (l.length + 1) * 8 → (W1.cell? ⟨w.heap.size, j, none⟩).isSome = true := fun j hj => by
    rw [hW1, World.cell?_alloc_at (w := w.drew) ROW _ w.heap.size j rfl, Array.getElem?_eq_getElem (by omega)]; rfl
  have hNc : ∀ k u, k < i * 8 → (l.flatMap fields)[k]? = some u → W1.cell? ⟨w.heap.size, k, none⟩ = some u := fun k u hk hu => by
    rw [hW1, World.cell?_alloc_at (w := w.drew) ROW _ w.heap.size k rfl]; exact hRc k u hk hu
  have hNf : ∀ j, W1.frozen? ⟨w.heap.size, j, none⟩ = false := fun j => by rw [hW1]; exact World.frozen?_alloc_at (w := w.drew) ROW _ w.heap.size j rfl
  have hOb : ∀ j v, w.cell? ⟨g, j, none⟩ = some v → W1.cell? ⟨g, j, none⟩ = some v := fun j v h => by rw [hW1, World.cell?_alloc_past (w := w.drew) _ g j hgw]; exact h
  have hOv : ∀ j v, w.cell? ⟨vb, j, none⟩ = some v → W1.cell? ⟨vb, j, none⟩ = some v := fun j v h => by rw [hW1, World.cell?_alloc_past (w := w.drew) _ vb j hvw]; exact h
  have hdl : ((l.flatMap fields).drop (i * 8)).length = (l.length - i) * 8 := by rw [List.length_drop, flat_len]; omega
  have hfl : (fields x).length = 8 := rfl
  have hcpA : ∀ (W : World), (∀ x, W.cell? x = W1.cell? x) → (∀ x, W.frozen? x = W1.frozen? x) → ∀ ty dc, (Builtin.copy_ #[22, 22] ty #[.slice (some ⟨w.heap.size, i * 8, none⟩) (l.length + 1 - i) dc, .slice (some ⟨vb, 0, none⟩) 1 1]).run Tryd.prog W = .ok (goInt ((1 : Nat) : Int)) (W.setCells w.heap.size (i * 8) (fields x)) := fun W hWc hWf ty dc =>
    run_copy_k W _ _ ty 42 w.heap.size (i * 8) (l.length + 1 - i) dc ⟨vb, 0, none⟩ 1 1 8 1 (fields x) Tryd.underlying22 size8 (by simp only [Nat.min_def]; split <;> omega) rfl
      (fun j v hj => by rw [Addr.add_lit, hWc]; exact hOv _ v (hx.get j v hj))
      (fun j hj => by rw [hWc]; exact hN (i * 8 + j) (by omega)) (fun j hj => by rw [hWf]; exact hNf _) (fields_flat x)
  have hGn : l.length + 1 ≤ G := by rw [hG]; exact grownCap_ge w _ _ _
  have hG63 : G ≤ 9223372036854775807 := by
    have := grownCap_le_maxLen w (l.length + 1) cap 42 (by unfold maxLen; omega)
    rw [← hG] at this
    unfold maxLen at this
    omega
  have hGi : ¬ (G = i) := by omega
  have hGim : ¬ (G = i + 1) := by omega
  have hci : ¬ (cap = i) := by omega
  have hbN : g ≠ w.heap.size := by omega
  have hcpB : ∀ (W : World), (∀ y, W.cell? y = (W1.setCells w.heap.size (i * 8) (fields x)).cell? y) → (∀ y, W.frozen? y = (W1.setCells w.heap.size (i * 8) (fields x)).frozen? y) → ∀ ty dc sc, (Builtin.copy_ #[22, 22] ty #[.slice (some ⟨w.heap.size, (i + 1) * 8, none⟩) (l.length - i) dc, .slice (some ⟨g, i * 8, none⟩) (l.length - i) sc]).run Tryd.prog W = .ok (goInt ((l.length - i : Nat) : Int)) (W.setCells w.heap.size ((i + 1) * 8) ((l.flatMap fields).drop (i * 8))) := fun W hWc hWf ty dc sc =>
    run_copy_k W _ _ ty 42 w.heap.size ((i + 1) * 8) (l.length - i) dc ⟨g, i * 8, none⟩ (l.length - i) sc 8 (l.length - i) ((l.flatMap fields).drop (i * 8)) Tryd.underlying22 size8 (by simp only [Nat.min_def]; split <;> omega) hdl
      (fun j v hj => by
        rw [Addr.add_lit, hWc, World.cell?_setCells_out _ _ _ _ _ (fun h _ => absurd h hbN)]
        exact hOb _ v (hcs (i * 8 + j) v (by rwa [List.getElem?_drop] at hj)))
      (fun j hj => by rw [hWc]; exact isSome_set _ _ _ W1 (fun t ht => hN (i * 8 + t) (by omega)) _ (hN ((i + 1) * 8 + j) (by rw [hdl] at hj; omega)))
      (fun j hj => by rw [hWf, World.frozen?_setCells]; exact hNf _) (fun v hv => flat_one l v (List.mem_of_mem_drop hv))
  have fin : ∀ W : World, (∀ y : Nat, W.heap[y]? = ((W1.setCells w.heap.size (i * 8) (fields x)).setCells w.heap.size ((i + 1) * 8) ((l.flatMap fields).drop (i * 8))).heap[y]?) → W.heap.size = w.heap.size + 1 → Below base w W → Post base l x i w (.returned (.slice (some ⟨w.heap.size, 0, none⟩) (l.length + 1) G)) W := by
    intro W hW hsz hbl
    have hc : ∀ y : Addr, W.cell? y = ((W1.setCells w.heap.size (i * 8) (fields x)).setCells w.heap.size ((i + 1) * 8) ((l.flatMap fields).drop (i * 8))).cell? y := fun y => World.cell?_of_block (hW y.block)
    have hf : ∀ y : Addr, W.frozen? y = ((W1.setCells w.heap.size (i * 8) (fields x)).setCells w.heap.size ((i + 1) * 8) ((l.flatMap fields).drop (i * 8))).frozen? y := fun y => by
      unfold World.frozen?
      rw [hW]
    refine ⟨w.heap.size, G, rfl, hGn, by omega, ?_, hbl⟩
    have := blk_mk (w := W) (g := w.heap.size) (l := insAt i x l) (by omega) (fun o => by rw [hf, World.frozen?_setCells, World.frozen?_setCells]; exact hNf o)
      (fun k u hk => by rw [hc]; exact grow_cells (g := g) (Nat.le_of_lt hi) hN hNc k u hk)
    rwa [insAt_len (Nat.le_of_lt hi)] at this
  have hB1 : Below base w W1 := by rw [hW1]; exact ((Below.refl base w).drew).alloc (by show base ≤ w.drew.heap.size; have : w.drew.heap.size = w.heap.size := rfl; omega) _
  have hSz : W1.heap.size = w.heap.size + 1 := by rw [hW1]; simp
  subst hW1
  have hE1 : ∀ x, ((w.alloc (.cells ROW 42)).drew).cell? x = (w.drew.alloc (.cells ROW 42)).cell? x := fun x => rfl
  have hE2 : ∀ x, ((w.alloc (.cells ROW 42)).drew).frozen? x = (w.drew.alloc (.cells ROW 42)).frozen? x := fun x => rfl
  have hF1 : ∀ y, (((w.alloc (.cells ROW 42)).drew.setCells w.heap.size (i * 8) (fields x)).drew).cell? y = ((w.drew.alloc (.cells ROW 42)).setCells w.heap.size (i * 8) (fields x)).cell? y := fun y => f1 _ _ _ _ _ y
  have hF2 : ∀ y, (((w.alloc (.cells ROW 42)).drew.setCells w.heap.size (i * 8) (fields x)).drew).frozen? y = ((w.drew.alloc (.cells ROW 42)).setCells w.heap.size (i * 8) (fields x)).frozen? y := fun y => f2 _ _ _ _ _ y
  have hin : i ≤ l.length := by omega
  have hin2 : (i : Int) ≤ (l.length : Int) + 1 := by omega
  have hin3 : (i : Int) ≤ (cap : Int) := by omega
  have hb1 : (0 : Int) ≤ (i : Int) + 1 := by omega
  have htn : ((i : Int) + 1).toNat = i + 1 := by omega
  have hne : 1 ≤ w.heap.size := by omega
  have HFin := Lib.hid fin
  have HB1 := Lib.hid hB1
  have HSz := Lib.hid hSz
  have hp1 : (0 : Int) ≤ (l.length : Int) + 1 - (i : Int) := by omega
  have hp2 : (l.length : Int) + 1 - (i : Int) ≤ 200000 := by omega
  have hp3 : (i : Int) + 1 ≤ 200000 := by omega
  have hp4 : (0 : Int) ≤ (l.length : Int) + 1 := by omega
  have hp5 : (l.length : Int) + 1 ≤ 200000 := by omega
  have hp6 : base ≤ w.heap.size := by omega
  have hw1 := wrap_small2 hb1 hp3
  clear hp1 hp2 hp3 hp4 hp5
  clear hkk hik hold hROW hG hRl hRc htl hdl hfl fin hB1 hSz hcs hx hN hNc hNf hOb hOv
  have HA := Lib.hid (hcpA _ hE1 hE2)
  have HB := Lib.hid (hcpB _ hF1 hF2)
  clear hcpA hcpB hE1 hE2 hF1 hF2
  have HV := Lib.hid <| HFin.out (((w.alloc (.cells ROW 42)).drew.setCells w.heap.size (i * 8) (fields x)).drew.setCells w.heap.size ((i + 1) * 8) ((l.flatMap fields).drop (i * 8))) (fun y => by rw [f3]) (f4 _ _ _ _ _ _ _) (f5 _ _ _ _ _ _ _ hp6 hp6)
  clear HFin HB1 HSz
  go_enter Tryd.func35, Tryd.ntmps35
  go_wp2_with (at_builtin; refine Lib.wpList_append_run _ rfl _ _ _ _ rfl _ _ rfl rfl _ _ (hrz _) ?_)
  rw [HA.out]
  simp only [Result.andThen]
  rw [Oper.upon_value]
  go_wp2_with fail
  go_region_law_o (refine step_copy_runI rfl _ _ 22 22 rfl (.slice (some ⟨w.heap.size, (i + 1) * 8, none⟩) (l.length - i) (G - (i + 1))) (.slice (some ⟨g, i * 8, none⟩) (l.length - i) (cap - i)) (by simp [Act.eval, Act.put]) (by simp [Act.eval, Act.put]) (HB.out 3 (G - (i + 1)) (cap - i)) ?_)
  go_wp2
  go_ret
  exact HV.out
end Go.Proofs.YthjpchnogllliaaDoor.NtpL

/- The library's Insert anywhere in a slice of the call's own, and its Clone, at annotations; the places as plain lists. -/
set_option linter.unusedSimpArgs false
set_option linter.unusedVariables false
namespace Go.Proofs.YthjpchnogllliaaDoor.NtpN
open Go.RowKit Nums ScaM ScaV Val NotM NotK NtrB OwnN CloM CloA CloB CopN NtpC NtpI NtpJ NtpL

theorem repl_set (x : Mn) : ∀ (l : List Mn) (k j : Nat), ixK (key x) k l = ((k + j : Nat) : Int) → repl key x l = l.set j x
  | [], k, j, h => by
    simp only [ixK] at h
    omega
  | y :: r, k, j, h => by
    by_cases hy : y.nm.data.toList = key x
    · rw [ixK, if_pos hy] at h
      obtain rfl : j = 0 := by omega
      rw [repl, if_pos (show key y = key x from hy)]
      rfl
    · rw [ixK, if_neg hy] at h
      rw [repl, if_neg (show ¬ key y = key x from hy)]
      rcases ix_find (key x) r (k + 1) with ⟨h1, _⟩ | ⟨j', m, h1, _, _⟩
      · rw [h1] at h; omega
      · obtain rfl : j = j' + 1 := by rw [h1] at h; omega
        rw [List.set_cons_succ, repl_set x r (k + 1) j' (by rw [h1])]
theorem over_iff {x y : Mn} (h : key y ≠ key x) : nameOver x.nm y = less (key x) (key y) := by
  have e1 : (y.nm.toList == x.nm.toList) = false := str_eq y.nm x.nm (decide_eq_false h)
  unfold nameOver
  rw [e1]
  show (!(Op.bytesLess y.nm.toList x.nm.toList) && !false) = _
  rw [Bool.not_false, Bool.and_true]
  have e2 : Op.bytesLess y.nm.toList x.nm.toList = less (key y) (key x) := by rw [ByteArray.toList_eq, ByteArray.toList_eq]
  rw [e2]
  cases hl : less (key y) (key x) with
  | true => rw [less_asymm hl]; rfl
  | false => rw [less_tri hl h]; rfl
theorem ins_at (x : Mn) : ∀ (l : List Mn) (k : Nat), (∀ y ∈ l, key y ≠ key x) → (ixB (nameOver x.nm) k l = -1 ∧ ins key x l = l ++ [x]) ∨ ∃ j, ixB (nameOver x.nm) k l = ((k + j : Nat) : Int) ∧ j < l.length ∧ ins key x l = insAt j x l
  | [], k, _ => .inl ⟨rfl, rfl⟩
  | y :: r, k, h => by
    have hy := over_iff (h y (by simp))
    by_cases hl : less (key x) (key y) = true
    · right
      refine ⟨0, ?_, by simp, ?_⟩
      · rw [ixB, if_pos (by rw [hy]; exact hl)]; rfl
      · rw [ins, if_pos hl]; rfl
    · rcases ins_at x r (k + 1) (fun z hz => h z (by simp [hz])) with ⟨h1, h2⟩ | ⟨j, h1, h2, h3⟩
      · left
        refine ⟨?_, ?_⟩
        · rw [ixB, if_neg (by rw [hy]; exact hl)]; exact h1
        · rw [ins, if_neg hl, h2]; rfl
      · right
        refine ⟨j + 1, ?_, by simp; omega, ?_⟩
        · rw [ixB, if_neg (by rw [hy]; exact hl), h1]; congr 1; omega
        · rw [ins, if_neg hl, h3]; rfl
/-- Where it goes, and what comes of it. -/
theorem place_ins {x : Mn} {l : List Mn} (h : ∀ y ∈ l, key y ≠ key x) : ∃ p : Nat, plK x.nm l = (p : Int) ∧ p ≤ l.length ∧ ins key x l = insAt p x l := by
  unfold plK
  rcases ins_at x l 0 h with ⟨h1, h2⟩ | ⟨j, h1, h2, h3⟩
  · refine ⟨l.length, by rw [h1, if_pos (by omega)], Nat.le_refl _, ?_⟩
    rw [h2]
    unfold insAt
    rw [List.take_length, List.drop_length]
  · exact ⟨j, by rw [h1, if_neg (by omega)]; congr 1; omega, Nat.le_of_lt h2, h3⟩

/-- Insert. -/
theorem insert_p (base : Nat) (v : Value) (l : List Mn) (x : Mn) (i vb : Nat) (w : World) (hi : i ≤ l.length) (hl : l.length ≤ 100000) (hown : OwnN w base v l) (hbx : w.heap[vb]? = some (.cells (fields x).toArray 42 (0, 0))) (hvb : ∀ k, v.ownBlock = some k → vb ≠ k) (hbw : base ≤ w.heap.size) :
    Calls Tryd.prog 35 #[v, .int .i64 i, .slice (some ⟨vb, 0, none⟩) 1 1] w fun e w' => Post base l x i w e w' := by
  have hx : C8 w vb 0 x := C8.of fun q u hq => by rw [Nat.zero_add, Lib.cell_of_heap hbx, List.getElem?_toArray]; exact hq
  by_cases he : i = l.length
  · subst he
    exact at_end base v l x vb w hl hown hx hbw
  · have hlt : i < l.length := by omega
    rcases hown.2 with ⟨rfl, hn⟩ | ⟨g, cap, cur, rfl, hb, hg, hnc, hcm, hcs, htk⟩
    · omega
    · have hgw := (Array.getElem?_eq_some_iff.1 hg).1
      have hcc : ∀ k u, (l.flatMap fields)[k]? = some u → w.cell? ⟨g, k, none⟩ = some u := fun k u hu => by
        have hk := (List.getElem?_eq_some_iff.1 hu).1
        rw [flat_len] at hk
        rw [Lib.cell_of_heap hg, ← hu, ← htk, List.getElem?_take_of_lt hk]
        simp
      by_cases hroom : l.length + 1 ≤ cap
      · refine shift base g cap l x i vb w hlt hl hroom (by unfold maxLen at hcm; omega) hb hgw hcc (fun k hk => ?_) (fun k => Lib.frozen_of_heap hg k) ?_ hx (hvb g rfl) ?_ (fun k => Lib.frozen_of_heap hbx k)
        · rw [Lib.cell_of_heap hg, Array.getElem?_eq_getElem (by omega)]; rfl
        · unfold World.shape?; rw [hg, ← hcs]
        · unfold World.shape?; rw [hbx]; rfl
      · exact grow base g cap l x i vb w hlt hl (by omega) hnc hb hgw hcc hx (Array.getElem?_eq_some_iff.1 hbx).1

set_option maxHeartbeats 1000000 in
set_option maxRecDepth 100000 in
/-- Clone. -/
theorem clone_n (v : Value) (l : List Mn) (w : World) (hk : KnN w v l) (hl : l.length ≤ 100000) :
    Calls Tryd.prog 34 #[v] w fun e w' => ∃ v', e = .returned v' ∧ OwnN w' w.heap.size v' l ∧ Below w.heap.size w w' := by
  obtain ⟨i0, hi, hz0, hz1, hz2⟩ := info_parts infoN
  have qn : ∀ (w : World) (a : Option Addr) (n c n' c' : Nat), (binOp .eql 22 (.slice a n c) (.slice none n' c')).run Tryd.prog w = .ok (.bool a.isNone) w := fun w a n c n' c' => Lib.run_eql_slice_nil w _ _ a n c n' c' Tryd.underlying22
  obtain ⟨a, cap, rfl, hcap, hcells⟩ := hk
  cases a with
  | none =>
    obtain rfl : l = [] := by
      cases l with
      | nil => rfl
      | cons m r =>
        obtain ⟨_, _, h, _⟩ := hcells 0 m rfl
        cases h
    clear hcells
    go_enter Tryd.func34, Tryd.ntmps34
    go_wp2_with fail
    go_ret
    exact ⟨_, rfl, OwnN.nil _ _, Below.refl _ _⟩
  | some ad =>
    have A : Aside (∀ j u, (l.flatMap fields)[j]? = some u → w.cell? (ad.add j) = some u) := fun k u hu => by
      have hk := (List.getElem?_eq_some_iff.1 hu).1
      rw [flat_len] at hk
      obtain ⟨m, hm, hf⟩ := fields_at l k hk
      obtain ⟨b, o, ha, _, h8⟩ := hcells _ m hm
      injection ha with ha
      subst ha
      rw [hf] at hu
      have := h8.get (k % 8) u hu
      rw [Addr.add_lit]
      rw [show o + k = o + k / 8 * 8 + k % 8 by omega]
      exact this
    clear hcells
    go_enter Tryd.func34, Tryd.ntmps34
    go_wp2_with (at_builtin; refine wpList_append_own _ rfl _ _ 22 rfl w.heap.size 42 i0 _ 8 144 Tryd.underlying22 hi hz0 hz1 hz2 rfl (by decide) _ _ _ rfl (World.ownsRow_made w #[] 0 (Nat.le_refl _) (Nat.zero_le _) rfl) ad l.length cap (l.flatMap fields) rfl ?qc1 ?qc2 ?qc3 ?qc4 ?qc5 ?qc6 ?_)
    case qc1 => exact flat_len l
    case qc2 =>
      intro j u hj
      exact Lib.cell?_alloc_some _ (A.out j u hj)
    case qc3 => exact flat_one l
    case qc4 => unfold maxLen; omega
    case qc5 => omega
    case qc6 => simp
    intro v' w1 hown hgrow hnil
    go_wp2
    go_ret
    exact ⟨v', rfl, by unfold OwnN; simpa using hown, ((Below.refl _ w).alloc (Nat.le_refl _) _).grown hgrow (by simp) (by intro k hk; simp [Value.ownBlock] at hk; omega)⟩
end Go.Proofs.YthjpchnogllliaaDoor.NtpN

/- The program of stage 8: Set. -/
set_option linter.unusedSimpArgs false
set_option linter.unusedVariables false
namespace Go.Proofs.YthjpchnogllliaaDoor.NtpS
open Go.RowKit Go.Deep Nums ScaM ScaV ScaB Val NotM NotK NtrB OwnN CloM CloA CloB CopN NtpC NtpD NtpI NtpJ NtpL NtpN

/-- The elements while the loop copies their values. -/
def PS (w wr : World) (g n i : Nat) (M : List Mn) (j : Nat) (cs : List Value) : Prop := ∃ m0 u, M[j]? = some m0 ∧ cs = fields ⟨m0.nm, u⟩ ∧ sc u = sc m0.v ∧ (if j < i then New wr g n u else Old w n u)
theorem ps_start {w w1 : World} {g n L : Nat} {M : List Mn} (h : Blk w1 g 8 L (PI M)) (ht : ∀ m ∈ M, Tree w (· < w.heap.size) n m.v) : Blk w1 g 8 L (PS w w1 g n 0 M) :=
  h.below (Below.refl _ _) (fun j cs ⟨m, hm, hc⟩ => ⟨m, m.v, hm, hc, rfl, by rw [if_neg (by omega)]; exact ht m (List.mem_of_getElem? hm)⟩)
theorem ps_below {w wr w2 : World} {g n i L : Nat} {M : List Mn} (h : Blk wr g 8 L (PS w wr g n i M)) (hb : Below wr.heap.size wr w2) : Blk w2 g 8 L (PS w w2 g n i M) :=
  h.below hb (fun j cs ⟨m0, u, h1, h2, h3, h4⟩ => ⟨m0, u, h1, h2, h3, by
    by_cases hj : j < i
    · rw [if_pos hj] at h4 ⊢; exact h4.below hb
    · rw [if_neg hj] at h4 ⊢; exact h4⟩)
theorem ps_store {w w2 : World} {g n i L : Nat} {M : List Mn} (hi : i < L) (h : Blk w2 g 8 L (PS w w2 g n i M)) {m0 : Mn} (hm : M[i]? = some m0) {x' : SV} (hs : sc x' = sc m0.v) (hn : New w2 g n x') :
    Blk (CloB.setL w2 g (i * 8 + 1) (cellsV x')) g 8 L (PS w (CloB.setL w2 g (i * 8 + 1) (cellsV x')) g n (i + 1) M) := by
  refine h.setL hi (cellsV x') rfl (by decide) (fun j cs hj ⟨m1, u, h1, h2, h3, h4⟩ => ⟨m1, u, h1, h2, h3, ?_⟩) (fun cs ⟨m1, u, h1, h2, h3, h4⟩ => ⟨m1, x', h1, ?_, ?_, ?_⟩)
  · by_cases hlt : j < i
    · rw [if_pos hlt] at h4; rw [if_pos (by omega)]; exact h4.setL _ _
    · rw [if_neg hlt] at h4; rw [if_neg (by omega)]; exact h4
  · rw [h2]; rfl
  · rw [hm] at h1
    cases h1
    exact hs
  · rw [if_pos (by omega)]; exact hn.setL _ _
theorem ps_done {w wr : World} {g n L cap : Nat} {M : List Mn} (hL : M.length = L) (hcap : L ≤ cap) (h : Blk wr g 8 L (PS w wr g n L M)) (ho : ∀ m ∈ M, m.ok) :
    ∃ M' : List Mn, KnN wr (.slice (some ⟨g, 0, none⟩) L cap) M' ∧ M'.map Mn.nt = M.map Mn.nt ∧ Trs wr M' ∧ ∀ m ∈ M', m.ok := by
  have each : ∀ i, i < L → ∃ q : Mn, (∃ m0, M[i]? = some m0 ∧ q.nm = m0.nm ∧ sc q.v = sc m0.v ∧ New wr g n q.v) ∧ ∀ j u, (fields q)[j]? = some u → wr.cell? ⟨g, i * 8 + j, none⟩ = some u := by
    intro i hi
    obtain ⟨cs, _, ⟨m0, u, h1, rfl, h3, h4⟩, hc⟩ := h.at_ i hi
    rw [if_pos hi] at h4
    exact ⟨⟨m0.nm, u⟩, ⟨m0, h1, rfl, h3, h4⟩, hc⟩
  haveI : Inhabited Mn := ⟨⟨⟨#[]⟩, ⟨0, 0, ⟨#[]⟩, none, 0, 0, none, 0, 0, none, 0, 0, none, 0, 0⟩⟩⟩
  obtain ⟨q, hq⟩ := choose_lt each
  have hll : ((List.range L).map q).length = L := by simp
  have hat : ∀ j x, ((List.range L).map q)[j]? = some x → j < L ∧ x = q j := by
    intro j x hx
    obtain ⟨hj, hjx⟩ := List.getElem?_eq_some_iff.1 hx
    rw [hll] at hj
    rw [List.getElem_map, List.getElem_range] at hjx
    exact ⟨hj, hjx.symm⟩
  refine ⟨(List.range L).map q, ⟨_, cap, by rw [hll], by rw [hll]; exact hcap, fun j x hx => ?_⟩, ?_, ⟨n, fun m hm => ?_⟩, fun m hm => ?_⟩
  · obtain ⟨hj, rfl⟩ := hat j x hx
    exact ⟨g, 0, rfl, h.lt, C8.of (fun k u hk => by rw [Nat.zero_add]; exact (hq j hj).2 k u hk)⟩
  · apply List.ext_getElem?
    intro j
    rw [List.getElem?_map, List.getElem?_map, List.getElem?_map]
    rcases Nat.lt_or_ge j L with hj | hj
    · obtain ⟨⟨m0, h1, h2, h3, _⟩, _⟩ := hq j hj
      rw [List.getElem?_range hj, h1]
      show some (Mn.nt (q j)) = some m0.nt
      unfold Mn.nt
      rw [h2, h3]
    · rw [List.getElem?_eq_none (by simpa using hj : (List.range L).length ≤ j), List.getElem?_eq_none (by omega : M.length ≤ j)]
      rfl
  · obtain ⟨j, hj⟩ := List.getElem?_of_mem hm
    obtain ⟨hj2, rfl⟩ := hat j m hj
    obtain ⟨⟨m0, _, _, _, h4⟩, _⟩ := hq j hj2
    exact Tree.mono (fun b hb => hb.2) (fun _ _ => rfl) h4
  · obtain ⟨j, hj⟩ := List.getElem?_of_mem hm
    obtain ⟨hj2, rfl⟩ := hat j m hj
    obtain ⟨⟨m0, h1, h2, h3, h4⟩, _⟩ := hq j hj2
    exact ⟨by rw [h2]; exact (ho m0 (List.mem_of_getElem? h1)).1, h4.ok⟩
/-- One put in another's place. -/
theorem blk_put {w : World} {g L j : Nat} {l : List Mn} {x : Mn} (h : Blk w g 8 L (PI l)) (hj : j < L) (hL : l.length = L) : Blk (CloB.setL w g (j * 8 + 0) (fields x)) g 8 L (PI (l.set j x)) := by
  refine h.setL hj (fields x) rfl (by decide) (fun i cs hi ⟨m, h1, h2⟩ => ⟨m, ?_, h2⟩) (fun cs _ => ⟨x, ?_, ?_⟩)
  · rw [List.getElem?_set_ne (by omega)]; exact h1
  · rw [List.getElem?_set_self (by omega)]
  · rw [List.take_zero]; rfl
theorem set8z (w : World) (g o : Nat) (x : Mn) :
    (((((((w.setCell ⟨g, o, none⟩ (.string x.nm)).setCell ⟨g, o + 1, none⟩ (.int .i64 x.v.k)).setCell ⟨g, o + 2, none⟩ (.int .u64 x.v.b)).setCell ⟨g, o + 3, none⟩ (.string x.v.t)).setCell ⟨g, o + 4, none⟩ (.slice x.v.a1 x.v.l1 x.v.c1)).setCell ⟨g, o + 5, none⟩ (.slice x.v.a2 x.v.l2 x.v.c2)).setCell ⟨g, o + 6, none⟩ (.slice x.v.a3 x.v.l3 x.v.c3)).setCell ⟨g, o + 7, none⟩ (.slice x.v.a4 x.v.l4 x.v.c4) = CloB.setL w g (o + 0) (fields x) := rfl

theorem ins_call (base : Nat) (v1 : Value) (l : List Mn) (x : Mn) (p : Nat) (w3 : World) (hp : p ≤ l.length) (hl : l.length ≤ 100) (ho : OwnN w3 base v1 l) (hbw : base ≤ w3.heap.size) :
    Calls Tryd.prog 35 #[v1, .int .i64 p, .slice (some ⟨w3.heap.size, 0, none⟩) 1 1] (w3.alloc (.cells #[.string x.nm, .int .i64 x.v.k, .int .u64 x.v.b, .string x.v.t, .slice x.v.a1 x.v.l1 x.v.c1, .slice x.v.a2 x.v.l2 x.v.c2, .slice x.v.a3 x.v.l3 x.v.c3, .slice x.v.a4 x.v.l4 x.v.c4] 42)) fun e w' =>
      ∃ g cap, e = .returned (.slice (some ⟨g, 0, none⟩) (l.length + 1) cap) ∧ l.length + 1 ≤ cap ∧ base ≤ g ∧ Blk w' g 8 (l.length + 1) (PI (insAt p x l)) ∧ Below base w3 w' := by
  have ha : Below w3.heap.size w3 (w3.alloc (.cells #[.string x.nm, .int .i64 x.v.k, .int .u64 x.v.b, .string x.v.t, .slice x.v.a1 x.v.l1 x.v.c1, .slice x.v.a2 x.v.l2 x.v.c2, .slice x.v.a3 x.v.l3 x.v.c3, .slice x.v.a4 x.v.l4 x.v.c4] 42)) := (Below.refl _ _).alloc (Nat.le_refl _) _
  refine (insert_p base v1 l x p w3.heap.size _ hp (by omega) (ho.below ha) (heap_alloc_new w3 _) (fun k hk => by have := (ho.lt k hk).2; omega) (Nat.le_trans hbw ha.size)).mono ?_
  rintro e w' ⟨g, cap, rfl, h1, h2, h3, h4⟩
  exact ⟨g, cap, rfl, h1, h2, h3, (ha.mono hbw).trans h4⟩
theorem ins_call2 (base : Nat) (v1 : Value) (l : List Mn) (x : Mn) (p vb : Nat) (w3 : World) (hp : p ≤ l.length) (hl : l.length ≤ 100) (ho : OwnN w3 base v1 l) (hbx : w3.heap[vb]? = some (.cells #[.string x.nm, .int .i64 x.v.k, .int .u64 x.v.b, .string x.v.t, .slice x.v.a1 x.v.l1 x.v.c1, .slice x.v.a2 x.v.l2 x.v.c2, .slice x.v.a3 x.v.l3 x.v.c3, .slice x.v.a4 x.v.l4 x.v.c4] 42 (0, 0))) (hvb : ∀ k, v1.ownBlock = some k → vb ≠ k) (hbw : base ≤ w3.heap.size) :
    Calls Tryd.prog 35 #[v1, .int .i64 p, .slice (some ⟨vb, 0, none⟩) 1 1] w3 fun e w' =>
      ∃ g cap, e = .returned (.slice (some ⟨g, 0, none⟩) (l.length + 1) cap) ∧ l.length + 1 ≤ cap ∧ base ≤ g ∧ Blk w' g 8 (l.length + 1) (PI (insAt p x l)) ∧ Below base w3 w' := by
  refine (insert_p base v1 l x p vb w3 hp (by omega) ho hbx hvb hbw).mono ?_
  rintro e w' ⟨g, cap, rfl, h1, h2, h3, h4⟩
  exact ⟨g, cap, rfl, h1, h2, h3, h4⟩
set_option maxHeartbeats 4000000 in
set_option maxRecDepth 100000 in
theorem pset (v : Value) (l : List Mn) (x : Mn) (w : World) (hL : Tld.Ld w) (hk : KnN w v l) (hl : l.length ≤ 100) (hok : ∀ m ∈ l, m.ok) (hx : x.ok) (ht : Trs w l) (hxt : ∃ n, Tree w (· < w.heap.size) n x.v) :
    Calls Tryd.prog 20 #[v, nn x] w fun e w' => ∃ v' M', e = .returned v' ∧ KnN w' v' M' ∧ M'.map Mn.nt = (setG key x l).map Mn.nt ∧ (∀ m ∈ M', m.ok) ∧ Trs w' M' ∧ Below w.heap.size w w' := by
  obtain ⟨n, htM⟩ : ∃ n, ∀ m ∈ setG key x l, Tree w (· < w.heap.size) n m.v := by
    obtain ⟨n1, h1⟩ := ht
    obtain ⟨n2, h2⟩ := hxt
    refine ⟨n1 + n2, fun m hm => ?_⟩
    rcases mem_set hm with rfl | hm
    · exact h2.ups (by omega)
    · exact (h1 m hm).ups (by omega)
  have HtM := Lib.hid htM
  have HokM0 : Hid (∀ m ∈ setG key x l, m.ok) := Lib.hid (fun m hm => by
    rcases mem_set hm with rfl | hm
    · exact hx
    · exact hok m hm)
  have hb0 : Below w.heap.size w (w.alloc (.cells #[.string x.nm, .int .i64 x.v.k, .int .u64 x.v.b, .string x.v.t, .slice x.v.a1 x.v.l1 x.v.c1, .slice x.v.a2 x.v.l2 x.v.c2, .slice x.v.a3 x.v.l3 x.v.c3, .slice x.v.a4 x.v.l4 x.v.c4] 42)) := (Below.refl _ _).alloc (Nat.le_refl _) _
  have HB0 := Lib.hid hb0
  have HX := Lib.hid (box8 w x 42)
  have HK0 := Lib.hid (hk.below hb0)
  have HCl := Lib.hid (clone_n v l _ (hk.below hb0) (by omega))
  obtain ⟨a0, cap0, rfl, _, _⟩ := hk
  clear htM hb0 hok hx ht hxt hL
  unfold nn
  rcases ix_find (key x) l 0 with ⟨h1, h2⟩ | ⟨j, m, h1, h2, h3⟩
  · have hset : setG key x l = ins key x l := by unfold setG; rw [h2]
    obtain ⟨p, hp1, hp2, hp3⟩ := place_ins (find_none.1 h2)
    have HMG : Hid (insAt p x l = setG key x l) := Lib.hid (by rw [hset, hp3])
    have Hi := Lib.hid h1
    have Hp := Lib.hid hp1
    obtain ⟨M, hM⟩ : ∃ M, M = insAt p x l := ⟨_, rfl⟩
    rw [← hM] at HMG
    have HokM : Hid (∀ m ∈ M, m.ok) := Lib.hid (by rw [HMG.out]; exact HokM0.out)
    have HtM2 : Hid (∀ m ∈ M, Tree w (· < w.heap.size) n m.v) := Lib.hid (by rw [HMG.out]; exact HtM.out)
    have hML0 : M.length = l.length + 1 := by rw [hM, insAt_len hp2]
    have HM := Lib.hid hM
    clear h1 h2 hset hp1 hp3 HokM0 HtM hM
    go_enter Tryd.func20, Tryd.ntmps20
    go_wp2_with fail
    refine (HCl.out).mono ?_
    rintro _ w1 ⟨v1, rfl, ho1, hb1⟩
    have HO1 : Hid (OwnN w1 (w.heap.size + 1) v1 l) := Lib.hid (by rw [World.size_alloc] at ho1; exact ho1)
    have hX1 := HX.out.below hb1 (by simp)
    have HX1 := Lib.hid hX1
    have HK1 := Lib.hid (HK0.out.below hb1)
    have HB1 := Lib.hid (HB0.out.trans (hb1.mono HB0.out.size))
    have hw1 : w.heap.size + 1 ≤ w1.heap.size := by have := hb1.size; simpa using this
    obtain ⟨c0, c1, c2, c3, c4, c5, c6, c7⟩ := hX1
    clear ho1 hb1 HCl
    go_wp2_with fail
    refine (index_p _ l x.nm _ HK1.out (by omega)).mono ?_
    rintro _ w2 ⟨rfl, hb2⟩
    rw [show ixK x.nm.data.toList 0 l = -1 from Hi.out]
    have HO2 := Lib.hid (HO1.out.below hb2)
    have HX2 := HX1.out.below hb2 (by omega)
    have HK2 := Lib.hid (HK1.out.below hb2)
    have HB2 := Lib.hid (HB1.out.trans (hb2.mono HB1.out.size))
    have hw2 : w.heap.size + 1 ≤ w2.heap.size := by have := hb2.size; omega
    clear c0 c1 c2 c3 c4 c5 c6 c7 hb2
    obtain ⟨c0, c1, c2, c3, c4, c5, c6, c7⟩ := HX2
    simp only [Nat.zero_add] at c1 c2 c3 c4 c5 c6 c7
    go_wp2_with fail
    have hwlt : w.heap.size < w2.heap.size := by omega
    have hdr : w2.drew.heap.size = w2.heap.size := rfl
    have hbd : Below w2.heap.size w2 w2.drew := (Below.refl _ w2).drew
    have hW2 : Below w2.heap.size w2 (w2.alloc (.cells #[.string x.nm, .int .i64 x.v.k, .int .u64 x.v.b, .string x.v.t, .slice x.v.a1 x.v.l1 x.v.c1, .slice x.v.a2 x.v.l2 x.v.c2, .slice x.v.a3 x.v.l3 x.v.c3, .slice x.v.a4 x.v.l4 x.v.c4] 42)).drew := ((Below.refl _ w2).alloc (Nat.le_refl _) _).drew
    have HK2a := Lib.hid (HK2.out.below hW2)
    have HK2d := Lib.hid (HK2.out.below hbd)
    have hbx0 : ((w2.alloc (.cells #[.string x.nm, .int .i64 x.v.k, .int .u64 x.v.b, .string x.v.t, .slice x.v.a1 x.v.l1 x.v.c1, .slice x.v.a2 x.v.l2 x.v.c2, .slice x.v.a3 x.v.l3 x.v.c3, .slice x.v.a4 x.v.l4 x.v.c4] 42)).drew).heap[w2.heap.size]? = some (.cells #[.string x.nm, .int .i64 x.v.k, .int .u64 x.v.b, .string x.v.t, .slice x.v.a1 x.v.l1 x.v.c1, .slice x.v.a2 x.v.l2 x.v.c2, .slice x.v.a3 x.v.l3 x.v.c3, .slice x.v.a4 x.v.l4 x.v.c4] 42 (0, 0)) := heap_alloc_new w2 _
    have hszd : (w2.alloc (.cells #[.string x.nm, .int .i64 x.v.k, .int .u64 x.v.b, .string x.v.t, .slice x.v.a1 x.v.l1 x.v.c1, .slice x.v.a2 x.v.l2 x.v.c2, .slice x.v.a3 x.v.l3 x.v.c3, .slice x.v.a4 x.v.l4 x.v.c4] 42)).drew.heap.size = w2.heap.size + 1 := World.size_alloc w2 _
    have hs2lt : w2.heap.size < w2.heap.size + 1 := Nat.lt_succ_self _
    have hs2le : w2.heap.size ≤ w2.heap.size + 1 := Nat.le_succ _
    have hl9 : l.length ≤ 9223372036854775807 := by omega
    have hvb2 : ∀ k, v1.ownBlock = some k → w2.heap.size ≠ k := fun k hk => by have := (HO2.out.lt k hk).2; omega
    have HVB := Lib.hid hvb2
    have HBX := Lib.hid hbx0
    clear hvb2 hbx0
    have hsuc : w.heap.size ≤ w.heap.size + 1 := Nat.le_succ _
    have hslt : w.heap.size < w.heap.size + 1 := Nat.lt_succ_self _
    have hsz0 : ∀ o : Obj, (w.alloc o).heap.size = w.heap.size + 1 := fun o => World.size_alloc w o
    have S8 : Hid (C8 w2 w.heap.size 0 x) := Lib.hid ⟨c0, by rw [Nat.zero_add]; exact c1, by rw [Nat.zero_add]; exact c2, by rw [Nat.zero_add]; exact c3, by rw [Nat.zero_add]; exact c4, by rw [Nat.zero_add]; exact c5, by rw [Nat.zero_add]; exact c6, by rw [Nat.zero_add]; exact c7⟩
    go_region_held3 (fun w' => w'.cell? ⟨w.heap.size, 0, none⟩ = some (.string x.nm) ∧ w'.cell? ⟨w.heap.size, 1, none⟩ = some (.int .i64 x.v.k) ∧ w'.cell? ⟨w.heap.size, 2, none⟩ = some (.int .u64 x.v.b) ∧ w'.cell? ⟨w.heap.size, 3, none⟩ = some (.string x.v.t) ∧ w'.cell? ⟨w.heap.size, 4, none⟩ = some (.slice x.v.a1 x.v.l1 x.v.c1) ∧ w'.cell? ⟨w.heap.size, 5, none⟩ = some (.slice x.v.a2 x.v.l2 x.v.c2) ∧ w'.cell? ⟨w.heap.size, 6, none⟩ = some (.slice x.v.a3 x.v.l3 x.v.c3) ∧ w'.cell? ⟨w.heap.size, 7, none⟩ = some (.slice x.v.a4 x.v.l4 x.v.c4))
      (first | with_reducible exact ⟨c0, c1, c2, c3, c4, c5, c6, c7⟩ | exact ⟨c0, c1, c2, c3, c4, c5, c6, c7⟩ | exact ⟨Lib.cell?_alloc_some _ c0, Lib.cell?_alloc_some _ c1, Lib.cell?_alloc_some _ c2, Lib.cell?_alloc_some _ c3, Lib.cell?_alloc_some _ c4, Lib.cell?_alloc_some _ c5, Lib.cell?_alloc_some _ c6, Lib.cell?_alloc_some _ c7⟩)
      (first
        | (go_at_call 36; with_reducible refine (place_p _ l x.nm _ HK2d.out hl9).mono ?_; rintro _ w3 ⟨rfl, hb3⟩; rw [Hp.out]; rw [hdr] at hb3; replace hb3 := hbd.trans hb3; have HB3 := Lib.hid (HB2.out.trans (hb3.mono HB2.out.size)); have HO3 := Lib.hid (HO2.out.below hb3); have hw3 : w.heap.size + 1 ≤ w3.heap.size := Nat.le_trans hw2 hb3.size; replace c0 := (hb3.cell (p := ⟨w.heap.size, 0, none⟩) hwlt).trans c0; replace c1 := (hb3.cell (p := ⟨w.heap.size, 1, none⟩) hwlt).trans c1; replace c2 := (hb3.cell (p := ⟨w.heap.size, 2, none⟩) hwlt).trans c2; replace c3 := (hb3.cell (p := ⟨w.heap.size, 3, none⟩) hwlt).trans c3; replace c4 := (hb3.cell (p := ⟨w.heap.size, 4, none⟩) hwlt).trans c4; replace c5 := (hb3.cell (p := ⟨w.heap.size, 5, none⟩) hwlt).trans c5; replace c6 := (hb3.cell (p := ⟨w.heap.size, 6, none⟩) hwlt).trans c6; replace c7 := (hb3.cell (p := ⟨w.heap.size, 7, none⟩) hwlt).trans c7; clear hb3 HO2)
        | (go_at_call 36; with_reducible refine (place_p _ l x.nm _ HK2a.out hl9).mono ?_; rintro _ w3 ⟨rfl, hb3⟩; rw [Hp.out]; rw [hszd] at hb3; have hbx := (hb3.block w2.heap.size hs2lt).trans HBX.out; replace hb3 := hW2.trans (hb3.mono hs2le); have HB3 := Lib.hid (HB2.out.trans (hb3.mono HB2.out.size)); have HO3 := Lib.hid (HO2.out.below hb3); have hw3 : w.heap.size + 1 ≤ w3.heap.size := Nat.le_trans hw2 hb3.size; replace c0 := (hb3.cell (p := ⟨w.heap.size, 0, none⟩) hwlt).trans c0; replace c1 := (hb3.cell (p := ⟨w.heap.size, 1, none⟩) hwlt).trans c1; replace c2 := (hb3.cell (p := ⟨w.heap.size, 2, none⟩) hwlt).trans c2; replace c3 := (hb3.cell (p := ⟨w.heap.size, 3, none⟩) hwlt).trans c3; replace c4 := (hb3.cell (p := ⟨w.heap.size, 4, none⟩) hwlt).trans c4; replace c5 := (hb3.cell (p := ⟨w.heap.size, 5, none⟩) hwlt).trans c5; replace c6 := (hb3.cell (p := ⟨w.heap.size, 6, none⟩) hwlt).trans c6; replace c7 := (hb3.cell (p := ⟨w.heap.size, 7, none⟩) hwlt).trans c7; clear hb3)
        | (go_at_call 35; have hc := ins_call (w.heap.size + 1) _ l x p w3 hp2 hl HO3.out hw3; with_reducible refine hc.mono ?_; clear hc; rintro _ w4 ⟨g, cap, rfl, hcap, hgb0, hblk, hb4⟩; have HB4 := Lib.hid (HB3.out.trans (hb4.mono hsuc)); have HBlk := Lib.hid hblk; have hgb := Nat.le_of_succ_le hgb0; replace c0 := (hb4.cell (p := ⟨w.heap.size, 0, none⟩) hslt).trans c0; replace c1 := (hb4.cell (p := ⟨w.heap.size, 1, none⟩) hslt).trans c1; replace c2 := (hb4.cell (p := ⟨w.heap.size, 2, none⟩) hslt).trans c2; replace c3 := (hb4.cell (p := ⟨w.heap.size, 3, none⟩) hslt).trans c3; replace c4 := (hb4.cell (p := ⟨w.heap.size, 4, none⟩) hslt).trans c4; replace c5 := (hb4.cell (p := ⟨w.heap.size, 5, none⟩) hslt).trans c5; replace c6 := (hb4.cell (p := ⟨w.heap.size, 6, none⟩) hslt).trans c6; replace c7 := (hb4.cell (p := ⟨w.heap.size, 7, none⟩) hslt).trans c7; clear hb4 hblk hgb0)
        | (go_at_call 35; have hc := ins_call2 (w.heap.size + 1) _ l x p w2.heap.size w3 hp2 hl HO3.out hbx HVB.out hw3; with_reducible refine hc.mono ?_; clear hc; rintro _ w4 ⟨g, cap, rfl, hcap, hgb0, hblk, hb4⟩; have HB4 := Lib.hid (HB3.out.trans (hb4.mono hsuc)); have HBlk := Lib.hid hblk; have hgb := Nat.le_of_succ_le hgb0; replace c0 := (hb4.cell (p := ⟨w.heap.size, 0, none⟩) hslt).trans c0; replace c1 := (hb4.cell (p := ⟨w.heap.size, 1, none⟩) hslt).trans c1; replace c2 := (hb4.cell (p := ⟨w.heap.size, 2, none⟩) hslt).trans c2; replace c3 := (hb4.cell (p := ⟨w.heap.size, 3, none⟩) hslt).trans c3; replace c4 := (hb4.cell (p := ⟨w.heap.size, 4, none⟩) hslt).trans c4; replace c5 := (hb4.cell (p := ⟨w.heap.size, 5, none⟩) hslt).trans c5; replace c6 := (hb4.cell (p := ⟨w.heap.size, 6, none⟩) hslt).trans c6; replace c7 := (hb4.cell (p := ⟨w.heap.size, 7, none⟩) hslt).trans c7; clear hb4 hblk hgb0))
    all_goals
      have HBl : Hid (Blk w4 g 8 (l.length + 1) (PS w w4 g n 0 M)) := Lib.hid (ps_start (by rw [HM.out]; exact HBlk.out) HtM2.out)
      have HBs := HB4
      have hML := hML0
      clear c0 c1 c2 c3 c4 c5 c6 c7 S8 hwlt hw3 HB3 HO3 HB4
      go_wp2_with fail
      go_loopw [30, 7] (fun iv _ wr => ∃ i : Nat, i ≤ (l.length + 1) ∧ iv = .int .i64 i ∧ Hid (Below w.heap.size w wr) ∧ Hid (Blk wr g 8 (l.length + 1) (PS w wr g n i M))) (fun iv _ _ => (l.length + 1) - (intOf iv).toNat)
      case atStart => exact ⟨0, by omega, rfl, HBs, HBl⟩
      case round =>
        obtain ⟨i, hi, rfl, HB, HP⟩ := hrel
        clear HBs HBl
        by_cases hlt : i < (l.length + 1)
        · obtain ⟨cs, hcl, ⟨m0, u, hm0, rfl, hsu, hold⟩, hcells⟩ := HP.out.at_ i hlt
          rw [if_neg (by omega)] at hold
          have C := C8.of (m := ⟨m0.nm, u⟩) (w := wr) (b := g) (o := i * 8) (fun q z hz => hcells q z hz)
          have HC := Lib.hid C
          have HCl := Lib.hid (clone_p n u wr (Old.here hold HB.out))
          have Hm0 := Lib.hid hm0
          have Hsu := Lib.hid hsu
          have hglt : g < wr.heap.size := HP.out.lt
          obtain ⟨uk, ub, ut, ua1, ul1, uc1, ua2, ul2, uc2, ua3, ul3, uc3, ua4, ul4, uc4⟩ := u
          obtain ⟨c0, c1, c2, c3, c4, c5, c6, c7⟩ := C
          simp only at c0 c1 c2 c3 c4 c5 c6 c7
          clear hcells hold hm0 hsu hcl
          go_wp2_with fail
          refine (HCl.out).mono ?_
          rintro _ w2 ⟨x', rfl, hsx, htx, hb2⟩
          have C2 := HC.out.below hb2 hglt
          have HP2 := Lib.hid (ps_below HP.out hb2)
          have HB2 := Lib.hid (HB.out.trans (hb2.mono HB.out.size))
          have HN := Lib.hid (new_of hglt htx)
          have Hsx := Lib.hid hsx
          obtain ⟨xk, xb, xt, xa1, xl1, xc1, xa2, xl2, xc2, xa3, xl3, xc3, xa4, xl4, xc4⟩ := x'
          simp only [vv]
          clear c0 c1 c2 c3 c4 c5 c6 c7 hb2 htx hsx HCl HP HC
          obtain ⟨c0, c1, c2, c3, c4, c5, c6, c7⟩ := C2
          simp only at c0 c1 c2 c3 c4 c5 c6 c7
          have hfz := HP2.out.fz
          go_wp2_with fail
          clear c0 c1 c2 c3 c4 c5 c6 c7 hfz
          have HS := Lib.hid (ps_store hlt HP2.out Hm0.out (Hsx.out.trans Hsu.out) HN.out)
          have HBn := Lib.hid (setL_below (B := w.heap.size) (a := w) hgb (cellsV ⟨xk, xb, xt, xa1, xl1, xc1, xa2, xl2, xc2, xa3, xl3, xc3, xa4, xl4, xc4⟩) w2 (i * 8 + 1) HB2.out)
          rw [set8_eq]
          exact ⟨⟨i + 1, by omega, by go_num, HBn, HS⟩, by simp [intOf]; omega⟩
        · obtain rfl : i = (l.length + 1) := by omega
          obtain ⟨M', h1, h2, h3, h4⟩ := ps_done (cap := cap) hML hcap HP.out HokM.out
          have HM' := Lib.hid (show M'.map Mn.nt = (setG key x l).map Mn.nt by rw [h2, HMG.out])
          have H1 := Lib.hid h1
          have H3 := Lib.hid h3
          have H4 := Lib.hid h4
          clear h1 h2 h3 h4
          go_wp2_with fail
          go_ret
          exact ⟨_, M', rfl, H1.out, HM'.out, H4.out, H3.out, HB.out⟩
  · have hset : setG key x l = repl key x l := by unfold setG; rw [h3]
    have hjl := (List.getElem?_eq_some_iff.1 h2).1
    have HMG : Hid (l.set j x = setG key x l) := Lib.hid (by rw [hset, repl_set x l 0 j h1])
    rw [Nat.zero_add] at h1
    have Hi := Lib.hid h1
    obtain ⟨M, hM⟩ : ∃ M, M = l.set j x := ⟨_, rfl⟩
    rw [← hM] at HMG
    have HokM : Hid (∀ m ∈ M, m.ok) := Lib.hid (by rw [HMG.out]; exact HokM0.out)
    have HtM2 : Hid (∀ m ∈ M, Tree w (· < w.heap.size) n m.v) := Lib.hid (by rw [HMG.out]; exact HtM.out)
    have hML : M.length = l.length := by rw [hM, List.length_set]
    have HM := Lib.hid hM
    have hd0 : decide ((0 : Int) ≤ (j : Int)) = true := decide_eq_true (by omega)
    clear h1 h2 h3 hset HokM0 HtM hM
    go_enter Tryd.func20, Tryd.ntmps20
    go_wp2_with fail
    refine (HCl.out).mono ?_
    rintro _ w1 ⟨v1, rfl, ho1, hb1⟩
    have HO1 := Lib.hid ho1
    have hX1 := HX.out.below hb1 (by simp)
    have HX1 := Lib.hid hX1
    have HK1 := Lib.hid (HK0.out.below hb1)
    have HB1 := Lib.hid (HB0.out.trans (hb1.mono HB0.out.size))
    have hw1 : w.heap.size + 1 ≤ w1.heap.size := by have := hb1.size; simpa using this
    obtain ⟨c0, c1, c2, c3, c4, c5, c6, c7⟩ := hX1
    clear ho1 hb1 HCl
    go_wp2_with fail
    refine (index_p _ l x.nm _ HK1.out (by omega)).mono ?_
    rintro _ w2 ⟨rfl, hb2⟩
    rw [show ixK x.nm.data.toList 0 l = (j : Int) from Hi.out]
    have ho2 := HO1.out.below hb2
    have hne : l ≠ [] := fun e => by rw [e] at hjl; simp at hjl
    obtain ⟨g, cap, rfl, hcap, hgb0, hblk⟩ := blk_own ho2 hne
    have hgb : w.heap.size ≤ g := by simp at hgb0; omega
    have hkn := ho2.known
    have HX2 := HX1.out.below hb2 (by omega)
    have HB2 := Lib.hid (HB1.out.trans (hb2.mono HB1.out.size))
    have HBlk := Lib.hid hblk
    have hfz := hblk.fz
    obtain ⟨csj, _, ⟨mj, _, rfl⟩, hcj⟩ := hblk.at_ j hjl
    have CJ := C8.of (m := mj) (w := w2) (b := g) (o := j * 8) (fun q z hz => hcj q z hz)
    clear c0 c1 c2 c3 c4 c5 c6 c7 hb2 hblk hcj hkn ho2 hgb0 hne
    obtain ⟨c0, c1, c2, c3, c4, c5, c6, c7⟩ := HX2
    simp only [Nat.zero_add] at c1 c2 c3 c4 c5 c6 c7
    obtain ⟨d0, d1, d2, d3, d4, d5, d6, d7⟩ := CJ
    have hj2 : (j : Int) < (l.length : Int) := by omega
    go_upto_region 6 with fail
    rw [set8z]
    have HBl : Hid (Blk (CloB.setL w2 g (j * 8 + 0) (fields x)) g 8 l.length (PS w (CloB.setL w2 g (j * 8 + 0) (fields x)) g n 0 M)) := Lib.hid (ps_start (by rw [HM.out]; exact blk_put HBlk.out hjl rfl) HtM2.out)
    have HBs : Hid (Below w.heap.size w (CloB.setL w2 g (j * 8 + 0) (fields x))) := Lib.hid (setL_below hgb _ _ _ HB2.out)
    clear c0 c1 c2 c3 c4 c5 c6 c7 d0 d1 d2 d3 d4 d5 d6 d7 hfz
    generalize CloB.setL w2 g (j * 8 + 0) (fields x) = V at *
    go_wp2_with fail
    go_loopw [30, 7] (fun iv _ wr => ∃ i : Nat, i ≤ l.length ∧ iv = .int .i64 i ∧ Hid (Below w.heap.size w wr) ∧ Hid (Blk wr g 8 l.length (PS w wr g n i M))) (fun iv _ _ => l.length - (intOf iv).toNat)
    case atStart => exact ⟨0, by omega, rfl, HBs, HBl⟩
    case round =>
      obtain ⟨i, hi, rfl, HB, HP⟩ := hrel
      clear HBs HBl
      by_cases hlt : i < l.length
      · obtain ⟨cs, hcl, ⟨m0, u, hm0, rfl, hsu, hold⟩, hcells⟩ := HP.out.at_ i hlt
        rw [if_neg (by omega)] at hold
        have C := C8.of (m := ⟨m0.nm, u⟩) (w := wr) (b := g) (o := i * 8) (fun q z hz => hcells q z hz)
        have HC := Lib.hid C
        have HCl := Lib.hid (clone_p n u wr (Old.here hold HB.out))
        have Hm0 := Lib.hid hm0
        have Hsu := Lib.hid hsu
        have hglt : g < wr.heap.size := HP.out.lt
        obtain ⟨uk, ub, ut, ua1, ul1, uc1, ua2, ul2, uc2, ua3, ul3, uc3, ua4, ul4, uc4⟩ := u
        obtain ⟨c0, c1, c2, c3, c4, c5, c6, c7⟩ := C
        simp only at c0 c1 c2 c3 c4 c5 c6 c7
        clear hcells hold hm0 hsu hcl
        go_wp2_with fail
        refine (HCl.out).mono ?_
        rintro _ w2 ⟨x', rfl, hsx, htx, hb2⟩
        have C2 := HC.out.below hb2 hglt
        have HP2 := Lib.hid (ps_below HP.out hb2)
        have HB2 := Lib.hid (HB.out.trans (hb2.mono HB.out.size))
        have HN := Lib.hid (new_of hglt htx)
        have Hsx := Lib.hid hsx
        obtain ⟨xk, xb, xt, xa1, xl1, xc1, xa2, xl2, xc2, xa3, xl3, xc3, xa4, xl4, xc4⟩ := x'
        simp only [vv]
        clear c0 c1 c2 c3 c4 c5 c6 c7 hb2 htx hsx HCl HP HC
        obtain ⟨c0, c1, c2, c3, c4, c5, c6, c7⟩ := C2
        simp only at c0 c1 c2 c3 c4 c5 c6 c7
        have hfz := HP2.out.fz
        go_wp2_with fail
        clear c0 c1 c2 c3 c4 c5 c6 c7 hfz
        have HS := Lib.hid (ps_store hlt HP2.out Hm0.out (Hsx.out.trans Hsu.out) HN.out)
        have HBn := Lib.hid (setL_below (B := w.heap.size) (a := w) hgb (cellsV ⟨xk, xb, xt, xa1, xl1, xc1, xa2, xl2, xc2, xa3, xl3, xc3, xa4, xl4, xc4⟩) w2 (i * 8 + 1) HB2.out)
        rw [set8_eq]
        exact ⟨⟨i + 1, by omega, by go_num, HBn, HS⟩, by simp [intOf]; omega⟩
      · obtain rfl : i = l.length := by omega
        obtain ⟨M', h1, h2, h3, h4⟩ := ps_done (cap := cap) hML hcap HP.out HokM.out
        have HM' := Lib.hid (show M'.map Mn.nt = (setG key x l).map Mn.nt by rw [h2, HMG.out])
        have H1 := Lib.hid h1
        have H3 := Lib.hid h3
        have H4 := Lib.hid h4
        clear h1 h2 h3 h4
        go_wp2_with fail
        go_ret
        exact ⟨_, M', rfl, H1.out, HM'.out, H4.out, H3.out, HB.out⟩
end Go.Proofs.YthjpchnogllliaaDoor.NtpS
