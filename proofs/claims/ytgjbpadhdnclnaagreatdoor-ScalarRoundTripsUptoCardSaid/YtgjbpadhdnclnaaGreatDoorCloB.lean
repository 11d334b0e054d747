/- Blocks of elements while a loop replaces them. -/
import Derived.Test.YtgjbpadhdnclnaaGreatDoorCloA
set_option linter.unusedSimpArgs false
set_option linter.unusedVariables false
namespace Go.Proofs.YtgjbpadhdnclnaaGreatDoor.CloB
open Go.RowKit Nums Byt UtfM UtfS ScaM ScaV Opn Val Box CloM CloA

structure Blk (w : World) (g size l : Nat) (P : Nat → List Value → Prop) : Prop where
  lt : g < w.heap.size
  fz : ∀ o, w.frozen? ⟨g, o, none⟩ = false
  at_ : ∀ i, i < l → ∃ cs, cs.length = size ∧ P i cs ∧ ∀ j u, cs[j]? = some u → w.cell? ⟨g, i * size + j, none⟩ = some u
theorem Blk.belowB {w w1 : World} {g size l B : Nat} {P P' : Nat → List Value → Prop} (h : Blk w g size l P) (hg : g < B) (hb : Below B w w1) (hP : ∀ i cs, P i cs → P' i cs) : Blk w1 g size l P' := by
  refine ⟨Nat.lt_of_lt_of_le h.lt hb.size, fun o => (hb.frozen (p := ⟨g, o, none⟩) hg).trans (h.fz o), fun i hi => ?_⟩
  obtain ⟨cs, h1, h2, h3⟩ := h.at_ i hi
  exact ⟨cs, h1, hP i cs h2, fun j u hj => (hb.cell (p := ⟨g, i * size + j, none⟩) hg).trans (h3 j u hj)⟩
theorem Blk.below {w w1 : World} {g size l : Nat} {P P' : Nat → List Value → Prop} (h : Blk w g size l P) (hb : Below w.heap.size w w1) (hP : ∀ i cs, P i cs → P' i cs) : Blk w1 g size l P' := h.belowB h.lt hb hP
/-- A fresh slice as a block. -/
theorem blk_of_own {w : World} {base l size : Nat} {E : TypeId} {v' : Value} {news : List Value} {P : Nat → List Value → Prop} (h : w.ownsRow base E size v' l news) (hp : Parts size l P news) :
    ∃ a' c', v' = .slice a' l c' ∧ l ≤ c' ∧ (a' = none → l = 0 ∧ c' = 0) ∧ (l ≠ 0 → ∃ g, a' = some ⟨g, 0, none⟩ ∧ base ≤ g ∧ Blk w g size l P) := by
  rcases h.2 with ⟨rfl, hn⟩ | ⟨g, cap, cur, rfl, hb, hg, hnc, hcm, hcs, htk⟩
  · exact ⟨none, 0, by rw [hn], by omega, fun _ => ⟨hn, rfl⟩, fun h => absurd hn h⟩
  · refine ⟨some ⟨g, 0, none⟩, cap, rfl, hnc, (fun h => by cases h), fun hl => ⟨g, rfl, hb, ⟨(Array.getElem?_eq_some_iff.1 hg).1, fun o => ?_, fun i hi => ?_⟩⟩⟩
    · simp [World.frozen?, hg]
    · obtain ⟨cs, h1, h2, h3⟩ := hp.2 i hi
      refine ⟨cs, h1, h2, fun j u hj => ?_⟩
      have hjs : j < size := by rw [← h1]; exact (List.getElem?_eq_some_iff.1 hj).1
      have h4 := h3 j hjs
      rw [hj, ← htk] at h4
      have hlt : i * size + j < l * size := by
        have : (i + 1) * size ≤ l * size := Nat.mul_le_mul_right _ (by omega)
        rw [Nat.succ_mul] at this; omega
      rw [List.getElem?_take_of_lt hlt] at h4
      have h5 : cur[i * size + j]? = some u := by simpa using h4
      simp [World.cell?, hg, h5]

/-- Seven cells from an offset on, in a block that may be written. -/
structure C7 (w : World) (g o : Nat) (v0 v1 v2 v3 v4 v5 v6 : Value) : Prop where
  lt : g < w.heap.size
  fz : ∀ o, w.frozen? ⟨g, o, none⟩ = false
  c0 : w.cell? ⟨g, o, none⟩ = some v0
  c1 : w.cell? ⟨g, o + 1, none⟩ = some v1
  c2 : w.cell? ⟨g, o + 2, none⟩ = some v2
  c3 : w.cell? ⟨g, o + 3, none⟩ = some v3
  c4 : w.cell? ⟨g, o + 4, none⟩ = some v4
  c5 : w.cell? ⟨g, o + 5, none⟩ = some v5
  c6 : w.cell? ⟨g, o + 6, none⟩ = some v6
theorem C7.below {w w1 : World} {g o : Nat} {v0 v1 v2 v3 v4 v5 v6 : Value} (h : C7 w g o v0 v1 v2 v3 v4 v5 v6) (hb : Below w.heap.size w w1) : C7 w1 g o v0 v1 v2 v3 v4 v5 v6 := by
  have hc : ∀ o, w1.cell? ⟨g, o, none⟩ = w.cell? ⟨g, o, none⟩ := fun o => hb.cell (p := ⟨g, o, none⟩) h.lt
  exact ⟨Nat.lt_of_lt_of_le h.lt hb.size, fun o => (hb.frozen (p := ⟨g, o, none⟩) h.lt).trans (h.fz o), (hc _).trans h.c0, (hc _).trans h.c1, (hc _).trans h.c2, (hc _).trans h.c3, (hc _).trans h.c4, (hc _).trans h.c5, (hc _).trans h.c6⟩
theorem B7_set7_other {w : World} {k g : Nat} {v0 v1 v2 v3 v4 v5 v6 : Value} (h : B7 w k v0 v1 v2 v3 v4 v5 v6) (hk : k ≠ g) (o : Nat) (x0 x1 x2 x3 x4 x5 x6 : Value) :
    B7 (((((((w.setCell ⟨g, o, none⟩ x0).setCell ⟨g, o + 1, none⟩ x1).setCell ⟨g, o + 2, none⟩ x2).setCell ⟨g, o + 3, none⟩ x3).setCell ⟨g, o + 4, none⟩ x4).setCell ⟨g, o + 5, none⟩ x5).setCell ⟨g, o + 6, none⟩ x6) k v0 v1 v2 v3 v4 v5 v6 :=
  ((((((h.set_other hk _ _).set_other hk _ _).set_other hk _ _).set_other hk _ _).set_other hk _ _).set_other hk _ _).set_other hk _ _
/-- Stores, one after the other. -/
def setL (w : World) (g o : Nat) : List Value → World
  | [] => w
  | v :: vs => setL (w.setCell ⟨g, o, none⟩ v) g (o + 1) vs
theorem meas {i l : Nat} (h : i < l) : l - (intOf (.int .i64 ((i + 1 : Nat) : Int))).toNat < l - (intOf (.int .i64 (i : Int))).toNat := by
  simp [intOf]; omega
theorem set7_eq (w : World) (g o : Nat) (x0 x1 x2 x3 x4 x5 x6 : Value) :
    ((((((w.setCell ⟨g, o, none⟩ x0).setCell ⟨g, o + 1, none⟩ x1).setCell ⟨g, o + 2, none⟩ x2).setCell ⟨g, o + 3, none⟩ x3).setCell ⟨g, o + 4, none⟩ x4).setCell ⟨g, o + 5, none⟩ x5).setCell ⟨g, o + 6, none⟩ x6 = setL w g (o + 0) [x0, x1, x2, x3, x4, x5, x6] := rfl
theorem setL_size (g : Nat) : ∀ (vs : List Value) (w : World) (o : Nat), (setL w g o vs).heap.size = w.heap.size
  | [], _, _ => rfl
  | v :: vs, w, o => (setL_size g vs _ _).trans (by simp)
theorem setL_frozen (g : Nat) (a : Addr) : ∀ (vs : List Value) (w : World) (o : Nat), (setL w g o vs).frozen? a = w.frozen? a
  | [], _, _ => rfl
  | v :: vs, w, o => (setL_frozen g a vs _ _).trans (by rw [World.frozen?_setCell])
theorem setL_block (g b : Nat) (hb : b ≠ g) : ∀ (vs : List Value) (w : World) (o : Nat), (setL w g o vs).heap[b]? = w.heap[b]?
  | [], _, _ => rfl
  | v :: vs, w, o => (setL_block g b hb vs _ _).trans (Below.heap_setCell _ _ _ _ hb)
theorem setL_below {B : Nat} {a : World} {g : Nat} (hg : B ≤ g) : ∀ (vs : List Value) (w : World) (o : Nat), Below B a w → Below B a (setL w g o vs)
  | [], _, _, h => h
  | v :: vs, w, o, h => setL_below hg vs _ _ (h.setCell hg _)
theorem setL_out (g p : Nat) : ∀ (vs : List Value) (w : World) (o : Nat), (p < o ∨ o + vs.length ≤ p) → (setL w g o vs).cell? ⟨g, p, none⟩ = w.cell? ⟨g, p, none⟩
  | [], _, _, _ => rfl
  | v :: vs, w, o, h => by
    have hl : (v :: vs).length = vs.length + 1 := rfl
    refine (setL_out g p vs _ _ (by omega)).trans (World.cell?_setCell_other _ _ _ _ ?_)
    intro e
    injection e with _ e
    omega
theorem setL_in (g : Nat) : ∀ (vs : List Value) (w : World) (o : Nat), (∀ j, j < vs.length → ∃ x, w.cell? ⟨g, o + j, none⟩ = some x) → ∀ j u, vs[j]? = some u → (setL w g o vs).cell? ⟨g, o + j, none⟩ = some u
  | [], _, _, _, j, u, h => by simp at h
  | v :: vs, w, o, h, j, u, hj => by
    cases j with
    | zero =>
      simp only [List.getElem?_cons_zero, Option.some.injEq] at hj
      subst hj
      obtain ⟨x, hx⟩ := h 0 (by simp)
      refine (setL_out g (o + 0) vs _ _ (by omega)).trans ?_
      exact World.cell?_setCell_same _ _ _ hx
    | succ j =>
      have e : o + (j + 1) = o + 1 + j := by omega
      rw [e]
      refine setL_in g vs _ _ (fun q hq => ?_) j u (by simpa using hj)
      obtain ⟨x, hx⟩ := h (q + 1) (by simpa using hq)
      refine ⟨x, (World.cell?_setCell_other _ _ _ _ ?_).trans ?_⟩
      · intro e; injection e with _ e; omega
      · rw [← hx]; congr 2; omega
/-- One element replaced. -/
theorem Blk.setL {w : World} {g size l : Nat} {P P' : Nat → List Value → Prop} (h : Blk w g size l P) {i q : Nat} (hi : i < l) (vs : List Value) (hq : q + vs.length = size) (h0 : 0 < size) (hP : ∀ j cs, j ≠ i → P j cs → P' j cs)
    (hN : ∀ cs, P i cs → P' i (cs.take q ++ vs)) : Blk (CloB.setL w g (i * size + q) vs) g size l P' := by
  refine ⟨by rw [setL_size]; exact h.lt, fun o => by rw [setL_frozen]; exact h.fz o, fun j hj => ?_⟩
  obtain ⟨cs, h1, h2, h3⟩ := h.at_ j hj
  by_cases e : j = i
  · subst e
    refine ⟨cs.take q ++ vs, by rw [List.length_append, List.length_take]; omega, hN cs h2, fun p u hp => ?_⟩
    by_cases hlt : p < q
    · rw [setL_out _ _ _ _ _ (.inl (by omega))]
      rw [List.getElem?_append_left (by rw [List.length_take]; omega), List.getElem?_take_of_lt hlt] at hp
      exact h3 p u hp
    · rw [List.getElem?_append_right (by rw [List.length_take]; omega), List.length_take, Nat.min_eq_left (by omega)] at hp
      have := setL_in g vs w (j * size + q) (fun z hz => ?_) (p - q) u hp
      · have e2 : j * size + q + (p - q) = j * size + p := by omega
        rwa [e2] at this
      · have : q + z < cs.length := by omega
        exact ⟨cs[q + z], by have := h3 (q + z) _ (List.getElem?_eq_getElem this); rw [← this]; congr 2; omega⟩
  · refine ⟨cs, h1, hP j cs e h2, fun p u hp => ?_⟩
    have hps : p < size := by rw [← h1]; exact (List.getElem?_eq_some_iff.1 hp).1
    rw [setL_out]
    · exact h3 p u hp
    · rcases Nat.lt_or_gt_of_ne e with hlt | hgt
      · have : (j + 1) * size ≤ i * size := Nat.mul_le_mul_right _ (by omega)
        rw [Nat.succ_mul] at this
        exact .inl (by omega)
      · have : (i + 1) * size ≤ j * size := Nat.mul_le_mul_right _ (by omega)
        rw [Nat.succ_mul] at this
        exact .inr (by omega)

def New (wr : World) (g n : Nat) (u : SV) : Prop := Tree wr (fun b => g < b ∧ b < wr.heap.size) n u
def Old (w : World) (n : Nat) (u : SV) : Prop := Tree w (· < w.heap.size) n u
def shape1 (T : SV → Prop) (cs : List Value) : Prop := ∃ u, cs = cellsV u ∧ T u
def shape2 (T : SV → Prop) (cs : List Value) : Prop := ∃ u u', cs = cellsV u ++ cellsV u' ∧ T u ∧ T u'
def shape3 (T : SV → Prop) (cs : List Value) : Prop := ∃ (m : Int) (u : SV), cs = .int .i64 m :: cellsV u ∧ T u
theorem shape1.imp {T T' : SV → Prop} (h : ∀ u, T u → T' u) {cs : List Value} : shape1 T cs → shape1 T' cs := fun ⟨u, e, k⟩ => ⟨u, e, h _ k⟩
theorem shape2.imp {T T' : SV → Prop} (h : ∀ u, T u → T' u) {cs : List Value} : shape2 T cs → shape2 T' cs := fun ⟨u, u', e, k, k'⟩ => ⟨u, u', e, h _ k, h _ k'⟩
theorem shape3.imp {T T' : SV → Prop} (h : ∀ u, T u → T' u) {cs : List Value} : shape3 T cs → shape3 T' cs := fun ⟨m, u, e, k⟩ => ⟨m, u, e, h _ k⟩
/-- The elements of a slice while a loop replaces them. -/
def El (shape : (SV → Prop) → List Value → Prop) (size B : Nat) (w wr : World) (a : Option Addr) (l i n : Nat) : Prop :=
  l ≠ 0 → ∃ g, a = some ⟨g, 0, none⟩ ∧ B ≤ g ∧ Blk wr g size l (fun j => shape (if j < i then New wr g n else Old w n))
theorem New.below {w w' : World} {g n : Nat} {u : SV} (h : New w g n u) (hb : Below w.heap.size w w') : New w' g n u :=
  Tree.mono (fun b hb' => ⟨hb'.1, Nat.lt_of_lt_of_le hb'.2 hb.size⟩) (fun b hb' => hb.block b hb'.2) h
theorem Old.here {w w' : World} {n : Nat} {u : SV} (h : Old w n u) (hb : Below w.heap.size w w') : Tree w' (· < w'.heap.size) n u :=
  Tree.mono (fun b hb' => Nat.lt_of_lt_of_le hb' hb.size) (fun b hb' => hb.block b hb') h
theorem El_below {shape : (SV → Prop) → List Value → Prop} (imp : ∀ {T T' : SV → Prop}, (∀ u, T u → T' u) → ∀ {cs}, shape T cs → shape T' cs) {size i g l n : Nat} {w wr w' : World} (h : Blk wr g size l (fun j => shape (if j < i then New wr g n else Old w n))) (hb : Below wr.heap.size wr w') :
    Blk w' g size l (fun j => shape (if j < i then New w' g n else Old w n)) := by
  refine h.below hb (fun j cs hc => imp (fun u hu => ?_) hc)
  by_cases hj : j < i
  · rw [if_pos hj] at hu ⊢; exact hu.below hb
  · rw [if_neg hj] at hu ⊢; exact hu
theorem New.setL {w : World} {g n : Nat} {u : SV} (h : New w g n u) (o : Nat) (vs : List Value) : New (CloB.setL w g o vs) g n u :=
  Tree.mono (fun b hb => ⟨hb.1, by rw [setL_size]; exact hb.2⟩) (fun b hb => setL_block g b (by omega) vs w o) h
theorem El_step {shape : (SV → Prop) → List Value → Prop} (imp : ∀ {T T' : SV → Prop}, (∀ u, T u → T' u) → ∀ {cs}, shape T cs → shape T' cs) {size q i g l n : Nat} {w w2 : World} (hi : i < l) (h : Blk w2 g size l (fun j => shape (if j < i then New w2 g n else Old w n)))
    (vs : List Value) (hq : q + vs.length = size) (h0 : 0 < size) (hN : ∀ cs, shape (Old w n) cs → shape (New w2 g n) (cs.take q ++ vs)) :
    Blk (CloB.setL w2 g (i * size + q) vs) g size l (fun j => shape (if j < i + 1 then New (CloB.setL w2 g (i * size + q) vs) g n else Old w n)) := by
  refine h.setL hi vs hq h0 (fun j cs hj hc => imp (fun u hu => ?_) hc) (fun cs hc => ?_)
  · by_cases hlt : j < i
    · rw [if_pos hlt] at hu; rw [if_pos (by omega)]; exact hu.setL _ _
    · rw [if_neg hlt] at hu; rw [if_neg (by omega)]; exact hu
  · rw [if_neg (by omega)] at hc
    rw [if_pos (by omega)]
    exact imp (fun u hu => hu.setL _ _) (hN cs hc)
/-- What a call has made is new. -/
theorem new_of {wX w2 : World} {g n : Nat} {u : SV} (hg : g < wX.heap.size) (h : Tree w2 (fun b => wX.heap.size ≤ b ∧ b < w2.heap.size) n u) : New w2 g n u :=
  Tree.mono (fun b hb => ⟨by omega, hb.2⟩) (fun _ _ => rfl) h
/-- The state of the walk: the value's box, the result's box, what was there. -/
structure St (w wr : World) (k : Int) (b : Nat) (t : ByteArray) (s1 s2 s3 s4 : Value) : Prop where
  bv : B7 wr w.heap.size (.int .i64 k) (.int .u64 b) (.string t) s1 s2 s3 s4
  br : B7 wr (w.heap.size + 1) (.int .i64 0) (.int .u64 0) (.string ⟨#[]⟩) (.slice none 0 0) (.slice none 0 0) (.slice none 0 0) (.slice none 0 0)
  hb : Below w.heap.size w wr
theorem St.below {w wr wr' : World} {k : Int} {b : Nat} {t : ByteArray} {s1 s2 s3 s4 : Value} (h : St w wr k b t s1 s2 s3 s4) (hb : Below wr.heap.size wr wr') : St w wr' k b t s1 s2 s3 s4 :=
  ⟨h.bv.below hb, h.br.below hb, h.hb.trans (hb.mono h.hb.size)⟩
theorem St.setL {w wr : World} {k : Int} {b : Nat} {t : ByteArray} {s1 s2 s3 s4 : Value} (h : St w wr k b t s1 s2 s3 s4) {g : Nat} (hg : w.heap.size + 1 < g) (o : Nat) (vs : List Value) : St w (CloB.setL wr g o vs) k b t s1 s2 s3 s4 := by
  have hc : ∀ (q : Nat), q ≠ g → ∀ p, (CloB.setL wr g o vs).cell? ⟨q, p, none⟩ = wr.cell? ⟨q, p, none⟩ := fun q hq p => World.cell?_of_block (w := wr) (a := ⟨q, p, none⟩) (setL_block g q hq vs wr o)
  refine ⟨⟨by rw [setL_size]; exact h.bv.lt, (hc _ (by omega) _).trans h.bv.c0, (hc _ (by omega) _).trans h.bv.c1, (hc _ (by omega) _).trans h.bv.c2, (hc _ (by omega) _).trans h.bv.c3, (hc _ (by omega) _).trans h.bv.c4, (hc _ (by omega) _).trans h.bv.c5, (hc _ (by omega) _).trans h.bv.c6, fun o => by rw [setL_frozen]; exact h.bv.fz o⟩,
    ⟨by rw [setL_size]; exact h.br.lt, (hc _ (by omega) _).trans h.br.c0, (hc _ (by omega) _).trans h.br.c1, (hc _ (by omega) _).trans h.br.c2, (hc _ (by omega) _).trans h.br.c3, (hc _ (by omega) _).trans h.br.c4, (hc _ (by omega) _).trans h.br.c5, (hc _ (by omega) _).trans h.br.c6, fun o => by rw [setL_frozen]; exact h.br.fz o⟩,
    setL_below (by omega) vs wr o h.hb⟩
/-- A block that holds given cells. -/
structure BoxL (w : World) (k : Nat) (vs : List Value) : Prop where
  lt : k < w.heap.size
  at_ : ∀ j u, vs[j]? = some u → w.cell? ⟨k, j, none⟩ = some u
theorem boxL_new (w : World) (vs : List Value) (T : TypeId) : BoxL (w.alloc (.cells vs.toArray T)) w.heap.size vs := by
  refine ⟨by simp, fun j u hj => ?_⟩
  rw [World.cell?_alloc_at _ _ _ _ rfl]
  simpa using hj
theorem BoxL.below {w w1 : World} {k : Nat} {vs : List Value} (h : BoxL w k vs) (hb : Below w.heap.size w w1) : BoxL w1 k vs :=
  ⟨Nat.lt_of_lt_of_le h.lt hb.size, fun j u hj => (hb.cell (p := ⟨k, j, none⟩) h.lt).trans (h.at_ j u hj)⟩
theorem BoxL.drew {w : World} {k : Nat} {vs : List Value} (h : BoxL w k vs) : BoxL w.drew k vs := h.below (Below.refl _ _).drew
theorem BoxL.set_other {w : World} {k q : Nat} {vs : List Value} (h : BoxL w k vs) (hq : k ≠ q) (j : Nat) (x : Value) : BoxL (w.setCell ⟨q, j, none⟩ x) k vs :=
  ⟨by simpa using h.lt, fun i u hi => (World.cell?_setCell_other _ _ _ _ (by simp [hq])).trans (h.at_ i u hi)⟩
/-- Cells from an offset on, in a block that may be written. -/
structure CL (w : World) (g o : Nat) (vs : List Value) : Prop where
  lt : g < w.heap.size
  fz : ∀ o, w.frozen? ⟨g, o, none⟩ = false
  at_ : ∀ j u, vs[j]? = some u → w.cell? ⟨g, o + j, none⟩ = some u
theorem CL.below {w w1 : World} {g o : Nat} {vs : List Value} (h : CL w g o vs) (hb : Below w.heap.size w w1) : CL w1 g o vs :=
  ⟨Nat.lt_of_lt_of_le h.lt hb.size, fun o => (hb.frozen (p := ⟨g, o, none⟩) h.lt).trans (h.fz o), fun j u hj => (hb.cell (p := ⟨g, o + j, none⟩) h.lt).trans (h.at_ j u hj)⟩
theorem set8_eq (w : World) (g o : Nat) (x0 x1 x2 x3 x4 x5 x6 : Value) :
    ((((((w.setCell ⟨g, o + 1, none⟩ x0).setCell ⟨g, o + 2, none⟩ x1).setCell ⟨g, o + 3, none⟩ x2).setCell ⟨g, o + 4, none⟩ x3).setCell ⟨g, o + 5, none⟩ x4).setCell ⟨g, o + 6, none⟩ x5).setCell ⟨g, o + 7, none⟩ x6 = setL w g (o + 1) [x0, x1, x2, x3, x4, x5, x6] := rfl
theorem set14_eq (w : World) (g o : Nat) (x0 x1 x2 x3 x4 x5 x6 y0 y1 y2 y3 y4 y5 y6 : Value) :
    (((((((((((((w.setCell ⟨g, o, none⟩ x0).setCell ⟨g, o + 1, none⟩ x1).setCell ⟨g, o + 2, none⟩ x2).setCell ⟨g, o + 3, none⟩ x3).setCell ⟨g, o + 4, none⟩ x4).setCell ⟨g, o + 5, none⟩ x5).setCell ⟨g, o + 6, none⟩ x6).setCell ⟨g, o + 7, none⟩ y0).setCell ⟨g, o + 8, none⟩ y1).setCell ⟨g, o + 9, none⟩ y2).setCell ⟨g, o + 10, none⟩ y3).setCell ⟨g, o + 11, none⟩ y4).setCell ⟨g, o + 12, none⟩ y5).setCell ⟨g, o + 13, none⟩ y6 =
      setL w g (o + 0) [x0, x1, x2, x3, x4, x5, x6, y0, y1, y2, y3, y4, y5, y6] := rfl
/-- Where new things of a call lie. -/
def Nw (w m : World) : Nat → Prop := fun b => w.heap.size + 1 < b ∧ b < m.heap.size
/-- What is done stays. -/
structure Agr (w m wr : World) : Prop where
  size : m.heap.size ≤ wr.heap.size
  block : ∀ b, w.heap.size + 1 < b → b < m.heap.size → wr.heap[b]? = m.heap[b]?
theorem Agr.refl (w m : World) : Agr w m m := ⟨Nat.le_refl _, fun _ _ _ => rfl⟩
theorem Agr.below {w m wr wr' : World} (h : Agr w m wr) (hb : Below wr.heap.size wr wr') : Agr w m wr' :=
  ⟨Nat.le_trans h.size hb.size, fun b h1 h2 => (hb.block b (Nat.lt_of_lt_of_le h2 h.size)).trans (h.block b h1 h2)⟩
theorem Agr.setL {w m wr : World} (h : Agr w m wr) {g : Nat} (hg : m.heap.size ≤ g) (o : Nat) (vs : List Value) : Agr w m (CloB.setL wr g o vs) :=
  ⟨by rw [setL_size]; exact h.size, fun b h1 h2 => (setL_block g b (by omega) vs wr o).trans (h.block b h1 h2)⟩
theorem Agr.set {w m wr : World} (h : Agr w m wr) {q : Nat} (hq : q ≤ w.heap.size + 1) (j : Nat) (x : Value) : Agr w m (wr.setCell ⟨q, j, none⟩ x) :=
  ⟨by simpa using h.size, fun b h1 h2 => (Below.heap_setCell _ _ _ _ (by show b ≠ q; omega)).trans (h.block b h1 h2)⟩
def RowD (w m : World) (shape : (SV → Prop) → List Value → Prop) (size : Nat) (a : Option Addr) (l c n : Nat) : Prop := Row m (Nw w m) size a l c (shape (Tree m (Nw w m) n))
theorem RowD.agr {w m wr : World} {shape : (SV → Prop) → List Value → Prop} (imp : ∀ {T T' : SV → Prop}, (∀ u, T u → T' u) → ∀ {cs}, shape T cs → shape T' cs) {size : Nat} {a : Option Addr} {l c n : Nat} (h : RowD w m shape size a l c n) (k : Agr w m wr) : RowD w wr shape size a l c n :=
  Row.mono h (fun b hb => ⟨hb.1, Nat.lt_of_lt_of_le hb.2 k.size⟩) (fun b hb => k.block b hb.1 hb.2) (fun cs hc => imp (fun u hu => Tree.mono (fun b hb => ⟨hb.1, Nat.lt_of_lt_of_le hb.2 k.size⟩) (fun b hb => k.block b hb.1 hb.2) hu) hc)
theorem El_done {shape : (SV → Prop) → List Value → Prop} (imp : ∀ {T T' : SV → Prop}, (∀ u, T u → T' u) → ∀ {cs}, shape T cs → shape T' cs) {size B : Nat} {w wr : World} {a : Option Addr} {l c n : Nat} (hB : w.heap.size + 1 < B) (h : El shape size B w wr a l l n) (hlc : l ≤ c) (hn : a = none → l = 0 ∧ c = 0) :
    RowD w wr shape size a l c n := by
  refine ⟨hn, fun ad ha => ⟨hlc, fun hl => ?_, fun i hi => ?_⟩⟩
  · obtain ⟨g, hg, hge, hb⟩ := h hl
    rw [ha] at hg
    injection hg with hg
    subst hg
    exact ⟨show w.heap.size + 1 < g by omega, hb.lt⟩
  · obtain ⟨g, hg, hge, hb⟩ := h (by omega)
    rw [ha] at hg
    injection hg with hg
    subst hg
    obtain ⟨cs, h1, h2, h3⟩ := hb.at_ i hi
    rw [if_pos hi] at h2
    refine ⟨cs, h1, imp (fun u hu => Tree.mono (fun b hb' => ⟨by omega, hb'.2⟩) (fun _ _ => rfl) hu) h2, fun j u hj => ?_⟩
    have e : ((⟨g, 0, none⟩ : Addr).add (i * size + j)) = ⟨g, i * size + j, none⟩ := by
      unfold Addr.add
      split
      · rename_i h; rw [h]
      · simp
    rw [e]
    exact h3 j u hj
theorem RowD.out {w m : World} {shape : (SV → Prop) → List Value → Prop} (imp : ∀ {T T' : SV → Prop}, (∀ u, T u → T' u) → ∀ {cs}, shape T cs → shape T' cs) {size : Nat} {a : Option Addr} {l c n : Nat} (h : RowD w m shape size a l c n) :
    Row m (fun b => w.heap.size ≤ b ∧ b < m.heap.size) size a l c (shape (Tree m (fun b => w.heap.size ≤ b ∧ b < m.heap.size) n)) :=
  Row.mono h (fun b hb => ⟨by have := hb.1; omega, hb.2⟩) (fun _ _ => rfl) (fun cs hc => imp (fun u hu => Tree.mono (fun b hb => ⟨by have := hb.1; omega, hb.2⟩) (fun _ _ => rfl) hu) hc)
/-- All four lists done. -/
theorem tree_done {w wr w5 W : World} {n B : Nat} {v : SV} (ok : Okv v) (h1 : RowD w wr shape1 7 v.a1 v.l1 v.c1 n) (h2 : RowD w wr shape2 14 v.a2 v.l2 v.c2 n) (h3 : RowD w wr shape3 8 v.a3 v.l3 v.c3 n)
    (hB : w.heap.size + 1 < B) (h4 : El (fun _ => rawC) 4 B w w5 v.a4 v.l4 v.l4 n) (hlc : v.l4 ≤ v.c4) (hn : v.a4 = none → v.l4 = 0 ∧ v.c4 = 0) (k5 : Agr w wr w5) (k6 : Agr w w5 W) : Tree W (fun b => w.heap.size ≤ b ∧ b < W.heap.size) (n + 1) v :=
  ⟨ok, ((h1.agr shape1.imp k5).agr shape1.imp k6).out shape1.imp, ((h2.agr shape2.imp k5).agr shape2.imp k6).out shape2.imp, ((h3.agr shape3.imp k5).agr shape3.imp k6).out shape3.imp,
    ((El_done (shape := fun _ => rawC) (fun _ _ h => h) hB h4 hlc hn).agr (fun _ _ h => h) k6).out (shape := fun _ => rawC) (fun _ _ h => h)⟩
/-- The loop's beginning: nothing is replaced yet. -/
theorem El_start {shape : (SV → Prop) → List Value → Prop} {size B B' q j : Nat} {w w1 : World} {a : Option Addr} {l n : Nat} {x : Value} (h : l ≠ 0 → ∃ g, a = some ⟨g, 0, none⟩ ∧ B' ≤ g ∧ Blk w1 g size l (fun _ => shape (Old w n))) (hB : B ≤ B') (hq : q < B') :
    El shape size B w (w1.setCell ⟨q, j, none⟩ x) a l 0 n := by
  intro hl
  obtain ⟨g, hg, hge, hb⟩ := h hl
  refine ⟨g, hg, by omega, ⟨by simpa using hb.lt, fun o => by rw [World.frozen?_setCell]; exact hb.fz o, fun i hi => ?_⟩⟩
  obtain ⟨cs, h1, h2, h3⟩ := hb.at_ i hi
  refine ⟨cs, h1, by rw [if_neg (by omega)]; exact h2, fun p u hp => (World.cell?_setCell_other _ _ _ _ ?_).trans (h3 p u hp)⟩
  intro e; injection e with e _; omega
end Go.Proofs.YtgjbpadhdnclnaaGreatDoor.CloB
