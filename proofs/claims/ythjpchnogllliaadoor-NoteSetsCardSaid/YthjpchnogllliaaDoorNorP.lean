import Derived.Test.YthjpchnogllliaaDoorVal
import Derived.Test.YthjpchnogllliaaDoorBox
import Derived.Laws.AppendOwn
import Derived.Laws.OwnMore
import Derived.Shelf.Slices.Clone
import Derived.Test.YthjpchnogllliaaDoorScaC
import Derived.Deep.RegionHeld3
import Derived.LoopTactic
import Derived.Test.YthjpchnogllliaaDoorScpC
/- The cells of a slice as one list; slices of the call's own, element by element. -/
set_option linter.unusedSimpArgs false
set_option linter.unusedVariables false
namespace Go.Proofs.YthjpchnogllliaaDoor.CloM
open Go.RowKit Nums Byt UtfM UtfS ScaM ScaV Opn Val Box

/-- The cells of elements, one after the other, each element's as P says. -/
def Parts (size l : Nat) (P : Nat → List Value → Prop) (news : List Value) : Prop :=
  news.length = l * size ∧ ∀ i, i < l → ∃ cs, cs.length = size ∧ P i cs ∧ ∀ j, j < size → news[i * size + j]? = cs[j]?
theorem parts_of {w : World} {ad : Addr} {size : Nat} {P : List Value → Prop} : ∀ (l : Nat), (∀ i, i < l → ∃ cs, cs.length = size ∧ P cs ∧ ∀ j u, cs[j]? = some u → w.cell? (ad.add (i * size + j)) = some u) →
    ∃ news, Parts size l (fun _ => P) news ∧ ∀ j u, news[j]? = some u → w.cell? (ad.add j) = some u
  | 0, _ => ⟨[], ⟨by simp, fun i hi => by omega⟩, fun j u h => by simp at h⟩
  | l + 1, h => by
    obtain ⟨news, ⟨hl, hp⟩, hc⟩ := parts_of l (fun i hi => h i (by omega))
    obtain ⟨cs, h1, h2, h3⟩ := h l (by omega)
    refine ⟨news ++ cs, ⟨by rw [List.length_append, hl, h1, Nat.succ_mul], fun i hi => ?_⟩, fun j u hj => ?_⟩
    · by_cases he : i = l
      · subst he
        refine ⟨cs, h1, h2, fun j hj => ?_⟩
        rw [List.getElem?_append_right (by omega), hl]
        congr 1; omega
      · obtain ⟨cs', k1, k2, k3⟩ := hp i (by omega)
        refine ⟨cs', k1, k2, fun j hj => ?_⟩
        have : i * size + j < l * size := by
          have : (i + 1) * size ≤ l * size := Nat.mul_le_mul_right _ (by omega)
          rw [Nat.succ_mul] at this; omega
        rw [List.getElem?_append_left (by omega)]
        exact k3 j hj
    · by_cases hlt : j < l * size
      · rw [List.getElem?_append_left (by omega)] at hj
        exact hc j u hj
      · rw [List.getElem?_append_right (by omega), hl] at hj
        have := h3 (j - l * size) u hj
        have e : l * size + (j - l * size) = j := by omega
        rwa [e] at this
theorem Parts.one {size l : Nat} {P : Nat → List Value → Prop} {news : List Value} (h : Parts size l P news) (h0 : 0 < size) (hP : ∀ i cs, P i cs → ∀ u ∈ cs, u.oneCell' = true) : ∀ u ∈ news, u.oneCell' = true := by
  intro u hu
  obtain ⟨k, hk⟩ := List.getElem?_of_mem hu
  have hlt : k < l * size := by rw [← h.1]; exact (List.getElem?_eq_some_iff.1 hk).1
  have hi : k / size < l := (Nat.div_lt_iff_lt_mul h0).2 hlt
  obtain ⟨cs, h1, h2, h3⟩ := h.2 _ hi
  have e : k / size * size + k % size = k := Nat.div_add_mod' k size
  have h4 := h3 (k % size) (Nat.mod_lt _ h0)
  rw [e, hk] at h4
  exact hP _ cs h2 u (List.mem_of_getElem? h4.symm)
theorem oneV (u : SV) : ∀ x ∈ cellsV u, x.oneCell' = true := by
  intro x hx
  simp only [cellsV, List.mem_cons, List.not_mem_nil, or_false] at hx
  rcases hx with rfl | rfl | rfl | rfl | rfl | rfl | rfl <;> rfl
theorem oneR {cs : List Value} (h : rawC cs) : ∀ x ∈ cs, x.oneCell' = true := by
  obtain ⟨n, i, b, s, rfl⟩ := h
  intro x hx
  simp only [List.mem_cons, List.not_mem_nil, or_false] at hx
  rcases hx with rfl | rfl | rfl | rfl <;> rfl
end Go.Proofs.YthjpchnogllliaaDoor.CloM

/- The library's Clone at the four slices of a value. -/
set_option linter.unusedSimpArgs false
set_option linter.unusedVariables false
namespace Go.Proofs.YthjpchnogllliaaDoor.CloA
open Go.RowKit Nums Byt UtfM UtfS ScaM ScaV Opn Val Box CloM

theorem infoV : (Tryd.prog.info? 34).map (fun i => (i.zero, i.size, i.bytes)) = some (some (.agg #[.int .i64 0, .int .u64 0, .string ⟨#[]⟩, .slice none 0 0, .slice none 0 0, .slice none 0 0, .slice none 0 0]), 7, 128) := by kernel_rfl
set_option maxHeartbeats 1000000 in
set_option maxRecDepth 100000 in
theorem cloneV (a : Option Addr) (l c : Nat) (P : List Value → Prop) (w : World) (S : Nat → Prop) (hr : Row w S 7 a l c P) (hl : l * 128 ≤ 140737488351232) (hone : ∀ cs, P cs → ∀ u ∈ cs, u.oneCell' = true) :
    Calls Tryd.prog 86 #[.slice a l c] w fun e w' => ∃ v' news, e = .returned v' ∧ w'.ownsRow w.heap.size 34 7 v' l news ∧ Parts 7 l (fun _ => P) news ∧ Below w.heap.size w w' := by
  obtain ⟨i0, hi, hz0, hz1, hz2⟩ := info_parts infoV
  have qn : ∀ (w : World) (a : Option Addr) (n c n' c' : Nat), (binOp .eql 29 (.slice a n c) (.slice none n' c')).run Tryd.prog w = .ok (.bool a.isNone) w := fun w a n c n' c' => Lib.run_eql_slice_nil w _ _ a n c n' c' Tryd.underlying29
  cases a with
  | none =>
    obtain ⟨rfl, rfl⟩ := hr.nil rfl
    clear hr hl
    go_enter Tryd.func86, Tryd.ntmps86
    go_wp2_with fail
    go_ret
    exact ⟨_, [], rfl, World.ownsRow_nil _ _ _ _, ⟨by simp, fun i hi => by omega⟩, Below.refl _ _⟩
  | some ad =>
    obtain ⟨h0, _, h2⟩ := hr.at_ ad rfl
    obtain ⟨news, hp, hc⟩ := parts_of l h2
    have A : Aside (∀ j u, news[j]? = some u → w.cell? (ad.add j) = some u) := hc
    have HP := Lib.hid hp
    have HL := Lib.hid hl
    have HO := Lib.hid hone
    clear hc h0 h2 hr hp hl hone
    go_enter Tryd.func86, Tryd.ntmps86
    go_wp2_with (at_builtin; refine wpList_append_own _ rfl _ _ 29 rfl w.heap.size 34 i0 _ 7 128 Tryd.underlying29 hi hz0 hz1 hz2 rfl (by decide) _ _ _ rfl (World.ownsRow_made w #[] 0 (Nat.le_refl _) (Nat.zero_le _) rfl) ad l c news rfl ?qc1 ?qc2 ?qc3 ?qc4 ?qc5 ?qc6 ?_)
    case qc1 => exact HP.out.1
    case qc2 =>
      intro j u hj
      exact Lib.cell?_alloc_some _ (A.out j u hj)
    case qc3 => exact HP.out.one (by decide) (fun _ cs h => HO.out cs h)
    case qc4 => have := HL.out; unfold maxLen; omega
    case qc5 => have := HL.out; omega
    case qc6 => simp
    intro v' w1 hown hgrow hnil
    go_wp2
    go_ret
    exact ⟨v', news, rfl, by simpa using hown, HP.out, ((Below.refl _ w).alloc (Nat.le_refl _) _).grown hgrow (by simp) (by intro k hk; simp [Value.ownBlock] at hk; omega)⟩

theorem infoP : (Tryd.prog.info? 100).map (fun i => (i.zero, i.size, i.bytes)) = some (some (.agg #[.int .i64 0, .int .u64 0, .string ⟨#[]⟩, .slice none 0 0, .slice none 0 0, .slice none 0 0, .slice none 0 0, .int .i64 0, .int .u64 0, .string ⟨#[]⟩, .slice none 0 0, .slice none 0 0, .slice none 0 0, .slice none 0 0]), 14, 256) := by kernel_rfl
set_option maxHeartbeats 1000000 in
set_option maxRecDepth 100000 in
theorem cloneP (a : Option Addr) (l c : Nat) (P : List Value → Prop) (w : World) (S : Nat → Prop) (hr : Row w S 14 a l c P) (hl : l * 256 ≤ 140737488351232) (hone : ∀ cs, P cs → ∀ u ∈ cs, u.oneCell' = true) :
    Calls Tryd.prog 87 #[.slice a l c] w fun e w' => ∃ v' news, e = .returned v' ∧ w'.ownsRow w.heap.size 100 14 v' l news ∧ Parts 14 l (fun _ => P) news ∧ Below w.heap.size w w' := by
  obtain ⟨i0, hi, hz0, hz1, hz2⟩ := info_parts infoP
  have qn : ∀ (w : World) (a : Option Addr) (n c n' c' : Nat), (binOp .eql 30 (.slice a n c) (.slice none n' c')).run Tryd.prog w = .ok (.bool a.isNone) w := fun w a n c n' c' => Lib.run_eql_slice_nil w _ _ a n c n' c' Tryd.underlying30
  cases a with
  | none =>
    obtain ⟨rfl, rfl⟩ := hr.nil rfl
    clear hr hl
    go_enter Tryd.func87, Tryd.ntmps87
    go_wp2_with fail
    go_ret
    exact ⟨_, [], rfl, World.ownsRow_nil _ _ _ _, ⟨by simp, fun i hi => by omega⟩, Below.refl _ _⟩
  | some ad =>
    obtain ⟨h0, _, h2⟩ := hr.at_ ad rfl
    obtain ⟨news, hp, hc⟩ := parts_of l h2
    have A : Aside (∀ j u, news[j]? = some u → w.cell? (ad.add j) = some u) := hc
    have HP := Lib.hid hp
    have HL := Lib.hid hl
    have HO := Lib.hid hone
    clear hc h0 h2 hr hp hl hone
    go_enter Tryd.func87, Tryd.ntmps87
    go_wp2_with (at_builtin; refine wpList_append_own _ rfl _ _ 30 rfl w.heap.size 100 i0 _ 14 256 Tryd.underlying30 hi hz0 hz1 hz2 rfl (by decide) _ _ _ rfl (World.ownsRow_made w #[] 0 (Nat.le_refl _) (Nat.zero_le _) rfl) ad l c news rfl ?qc1 ?qc2 ?qc3 ?qc4 ?qc5 ?qc6 ?_)
    case qc1 => exact HP.out.1
    case qc2 =>
      intro j u hj
      exact Lib.cell?_alloc_some _ (A.out j u hj)
    case qc3 => exact HP.out.one (by decide) (fun _ cs h => HO.out cs h)
    case qc4 => have := HL.out; unfold maxLen; omega
    case qc5 => have := HL.out; omega
    case qc6 => simp
    intro v' w1 hown hgrow hnil
    go_wp2
    go_ret
    exact ⟨v', news, rfl, by simpa using hown, HP.out, ((Below.refl _ w).alloc (Nat.le_refl _) _).grown hgrow (by simp) (by intro k hk; simp [Value.ownBlock] at hk; omega)⟩

theorem infoS : (Tryd.prog.info? 103).map (fun i => (i.zero, i.size, i.bytes)) = some (some (.agg #[.int .i64 0, .int .i64 0, .int .u64 0, .string ⟨#[]⟩, .slice none 0 0, .slice none 0 0, .slice none 0 0, .slice none 0 0]), 8, 136) := by kernel_rfl
set_option maxHeartbeats 1000000 in
set_option maxRecDepth 100000 in
theorem cloneS (a : Option Addr) (l c : Nat) (P : List Value → Prop) (w : World) (S : Nat → Prop) (hr : Row w S 8 a l c P) (hl : l * 136 ≤ 140737488351232) (hone : ∀ cs, P cs → ∀ u ∈ cs, u.oneCell' = true) :
    Calls Tryd.prog 88 #[.slice a l c] w fun e w' => ∃ v' news, e = .returned v' ∧ w'.ownsRow w.heap.size 103 8 v' l news ∧ Parts 8 l (fun _ => P) news ∧ Below w.heap.size w w' := by
  obtain ⟨i0, hi, hz0, hz1, hz2⟩ := info_parts infoS
  have qn : ∀ (w : World) (a : Option Addr) (n c n' c' : Nat), (binOp .eql 31 (.slice a n c) (.slice none n' c')).run Tryd.prog w = .ok (.bool a.isNone) w := fun w a n c n' c' => Lib.run_eql_slice_nil w _ _ a n c n' c' Tryd.underlying31
  cases a with
  | none =>
    obtain ⟨rfl, rfl⟩ := hr.nil rfl
    clear hr hl
    go_enter Tryd.func88, Tryd.ntmps88
    go_wp2_with fail
    go_ret
    exact ⟨_, [], rfl, World.ownsRow_nil _ _ _ _, ⟨by simp, fun i hi => by omega⟩, Below.refl _ _⟩
  | some ad =>
    obtain ⟨h0, _, h2⟩ := hr.at_ ad rfl
    obtain ⟨news, hp, hc⟩ := parts_of l h2
    have A : Aside (∀ j u, news[j]? = some u → w.cell? (ad.add j) = some u) := hc
    have HP := Lib.hid hp
    have HL := Lib.hid hl
    have HO := Lib.hid hone
    clear hc h0 h2 hr hp hl hone
    go_enter Tryd.func88, Tryd.ntmps88
    go_wp2_with (at_builtin; refine wpList_append_own _ rfl _ _ 31 rfl w.heap.size 103 i0 _ 8 136 Tryd.underlying31 hi hz0 hz1 hz2 rfl (by decide) _ _ _ rfl (World.ownsRow_made w #[] 0 (Nat.le_refl _) (Nat.zero_le _) rfl) ad l c news rfl ?qc1 ?qc2 ?qc3 ?qc4 ?qc5 ?qc6 ?_)
    case qc1 => exact HP.out.1
    case qc2 =>
      intro j u hj
      exact Lib.cell?_alloc_some _ (A.out j u hj)
    case qc3 => exact HP.out.one (by decide) (fun _ cs h => HO.out cs h)
    case qc4 => have := HL.out; unfold maxLen; omega
    case qc5 => have := HL.out; omega
    case qc6 => simp
    intro v' w1 hown hgrow hnil
    go_wp2
    go_ret
    exact ⟨v', news, rfl, by simpa using hown, HP.out, ((Below.refl _ w).alloc (Nat.le_refl _) _).grown hgrow (by simp) (by intro k hk; simp [Value.ownBlock] at hk; omega)⟩

theorem infoR : (Tryd.prog.info? 106).map (fun i => (i.zero, i.size, i.bytes)) = some (some (.agg #[.int .i64 0, .int .i64 0, .int .u64 0, .string ⟨#[]⟩]), 4, 40) := by kernel_rfl
set_option maxHeartbeats 1000000 in
set_option maxRecDepth 100000 in
theorem cloneR (a : Option Addr) (l c : Nat) (P : List Value → Prop) (w : World) (S : Nat → Prop) (hr : Row w S 4 a l c P) (hl : l * 40 ≤ 140737488351232) (hone : ∀ cs, P cs → ∀ u ∈ cs, u.oneCell' = true) :
    Calls Tryd.prog 89 #[.slice a l c] w fun e w' => ∃ v' news, e = .returned v' ∧ w'.ownsRow w.heap.size 106 4 v' l news ∧ Parts 4 l (fun _ => P) news ∧ Below w.heap.size w w' := by
  obtain ⟨i0, hi, hz0, hz1, hz2⟩ := info_parts infoR
  have qn : ∀ (w : World) (a : Option Addr) (n c n' c' : Nat), (binOp .eql 32 (.slice a n c) (.slice none n' c')).run Tryd.prog w = .ok (.bool a.isNone) w := fun w a n c n' c' => Lib.run_eql_slice_nil w _ _ a n c n' c' Tryd.underlying32
  cases a with
  | none =>
    obtain ⟨rfl, rfl⟩ := hr.nil rfl
    clear hr hl
    go_enter Tryd.func89, Tryd.ntmps89
    go_wp2_with fail
    go_ret
    exact ⟨_, [], rfl, World.ownsRow_nil _ _ _ _, ⟨by simp, fun i hi => by omega⟩, Below.refl _ _⟩
  | some ad =>
    obtain ⟨h0, _, h2⟩ := hr.at_ ad rfl
    obtain ⟨news, hp, hc⟩ := parts_of l h2
    have A : Aside (∀ j u, news[j]? = some u → w.cell? (ad.add j) = some u) := hc
    have HP := Lib.hid hp
    have HL := Lib.hid hl
    have HO := Lib.hid hone
    clear hc h0 h2 hr hp hl hone
    go_enter Tryd.func89, Tryd.ntmps89
    go_wp2_with (at_builtin; refine wpList_append_own _ rfl _ _ 32 rfl w.heap.size 106 i0 _ 4 40 Tryd.underlying32 hi hz0 hz1 hz2 rfl (by decide) _ _ _ rfl (World.ownsRow_made w #[] 0 (Nat.le_refl _) (Nat.zero_le _) rfl) ad l c news rfl ?qc1 ?qc2 ?qc3 ?qc4 ?qc5 ?qc6 ?_)
    case qc1 => exact HP.out.1
    case qc2 =>
      intro j u hj
      exact Lib.cell?_alloc_some _ (A.out j u hj)
    case qc3 => exact HP.out.one (by decide) (fun _ cs h => HO.out cs h)
    case qc4 => have := HL.out; unfold maxLen; omega
    case qc5 => have := HL.out; omega
    case qc6 => simp
    intro v' w1 hown hgrow hnil
    go_wp2
    go_ret
    exact ⟨v', news, rfl, by simpa using hown, HP.out, ((Below.refl _ w).alloc (Nat.le_refl _) _).grown hgrow (by simp) (by intro k hk; simp [Value.ownBlock] at hk; omega)⟩
end Go.Proofs.YthjpchnogllliaaDoor.CloA

/- Blocks of elements while a loop replaces them. -/
set_option linter.unusedSimpArgs false
set_option linter.unusedVariables false
namespace Go.Proofs.YthjpchnogllliaaDoor.CloB
open Go.RowKit Nums Byt UtfM UtfS ScaM ScaV Opn Val Box CloM CloA

structure Blk (w : World) (g size l : Nat) (P : Nat → List Value → Prop) : Prop where
  lt : g < w.heap.size
  fz : ∀ o, w.frozen? ⟨g, o, none⟩ = false
  at_ : ∀ i, i < l → ∃ cs, cs.length = size ∧ P i cs ∧ ∀ j u, cs[j]? = some u → w.cell? ⟨g, i * size + j, none⟩ = some u
theorem Blk.belowB {w w1 : World} {g size l B : Nat} {P P' : Nat → List Value → Prop} (h : Blk w g size l P) (hg : g < B) (hb : Below B w w1) (hP : ∀ i cs, P i cs → P' i cs) : Blk w1 g size l P' := by
  refine ⟨Nat.lt_of_lt_of_le h.lt hb.size, fun o => (hb.frozen (p := ⟨g, o, none⟩) hg).trans (h.fz o), fun i hi => ?_⟩
  obtain ⟨cs, h1, h2, h3⟩ := h.at_ i hi
  exact ⟨cs, h1, hP i cs h2, fun j u hj => (hb.cell (p := ⟨g, i * size + j, none⟩) hg).trans (h3 j u hj)⟩
theorem Blk.below {w w1 : World} {g size l : Nat} {P P' : Nat → List Value → Prop} (h : Blk w g size l P) (hb : Below w.heap.size w w1) (hP : ∀ i cs, P i cs → P' i cs) : Blk w1 g size l P' := h.belowB h.lt hb hP
/-- A fresh slice as a block. -/
theorem blk_of_own {w : World} {base l size : Nat} {E : TypeId} {v' : Value} {news : List Value} {P : Nat → List Value → Prop} (h : w.ownsRow base E size v' l news) (hp : Parts size l P news) :
    ∃ a' c', v' = .slice a' l c' ∧ l ≤ c' ∧ (a' = none → l = 0 ∧ c' = 0) ∧ (l ≠ 0 → ∃ g, a' = some ⟨g, 0, none⟩ ∧ base ≤ g ∧ Blk w g size l P) := by
  rcases h.2 with ⟨rfl, hn⟩ | ⟨g, cap, cur, rfl, hb, hg, hnc, hcm, hcs, htk⟩
  · exact ⟨none, 0, by rw [hn], by omega, fun _ => ⟨hn, rfl⟩, fun h => absurd hn h⟩
  · refine ⟨some ⟨g, 0, none⟩, cap, rfl, hnc, (fun h => by cases h), fun hl => ⟨g, rfl, hb, ⟨(Array.getElem?_eq_some_iff.1 hg).1, fun o => ?_, fun i hi => ?_⟩⟩⟩
    · simp [World.frozen?, hg]
    · obtain ⟨cs, h1, h2, h3⟩ := hp.2 i hi
      refine ⟨cs, h1, h2, fun j u hj => ?_⟩
      have hjs : j < size := by rw [← h1]; exact (List.getElem?_eq_some_iff.1 hj).1
      have h4 := h3 j hjs
      rw [hj, ← htk] at h4
      have hlt : i * size + j < l * size := by
        have : (i + 1) * size ≤ l * size := Nat.mul_le_mul_right _ (by omega)
        rw [Nat.succ_mul] at this; omega
      rw [List.getElem?_take_of_lt hlt] at h4
      have h5 : cur[i * size + j]? = some u := by simpa using h4
      simp [World.cell?, hg, h5]

/-- Seven cells from an offset on, in a block that may be written. -/
structure C7 (w : World) (g o : Nat) (v0 v1 v2 v3 v4 v5 v6 : Value) : Prop where
  lt : g < w.heap.size
  fz : ∀ o, w.frozen? ⟨g, o, none⟩ = false
  c0 : w.cell? ⟨g, o, none⟩ = some v0
  c1 : w.cell? ⟨g, o + 1, none⟩ = some v1
  c2 : w.cell? ⟨g, o + 2, none⟩ = some v2
  c3 : w.cell? ⟨g, o + 3, none⟩ = some v3
  c4 : w.cell? ⟨g, o + 4, none⟩ = some v4
  c5 : w.cell? ⟨g, o + 5, none⟩ = some v5
  c6 : w.cell? ⟨g, o + 6, none⟩ = some v6
theorem C7.below {w w1 : World} {g o : Nat} {v0 v1 v2 v3 v4 v5 v6 : Value} (h : C7 w g o v0 v1 v2 v3 v4 v5 v6) (hb : Below w.heap.size w w1) : C7 w1 g o v0 v1 v2 v3 v4 v5 v6 := by
  have hc : ∀ o, w1.cell? ⟨g, o, none⟩ = w.cell? ⟨g, o, none⟩ := fun o => hb.cell (p := ⟨g, o, none⟩) h.lt
  exact ⟨Nat.lt_of_lt_of_le h.lt hb.size, fun o => (hb.frozen (p := ⟨g, o, none⟩) h.lt).trans (h.fz o), (hc _).trans h.c0, (hc _).trans h.c1, (hc _).trans h.c2, (hc _).trans h.c3, (hc _).trans h.c4, (hc _).trans h.c5, (hc _).trans h.c6⟩
theorem B7_set7_other {w : World} {k g : Nat} {v0 v1 v2 v3 v4 v5 v6 : Value} (h : B7 w k v0 v1 v2 v3 v4 v5 v6) (hk : k ≠ g) (o : Nat) (x0 x1 x2 x3 x4 x5 x6 : Value) :
    B7 (((((((w.setCell ⟨g, o, none⟩ x0).setCell ⟨g, o + 1, none⟩ x1).setCell ⟨g, o + 2, none⟩ x2).setCell ⟨g, o + 3, none⟩ x3).setCell ⟨g, o + 4, none⟩ x4).setCell ⟨g, o + 5, none⟩ x5).setCell ⟨g, o + 6, none⟩ x6) k v0 v1 v2 v3 v4 v5 v6 :=
  ((((((h.set_other hk _ _).set_other hk _ _).set_other hk _ _).set_other hk _ _).set_other hk _ _).set_other hk _ _).set_other hk _ _
/-- Stores, one after the other. -/
def setL (w : World) (g o : Nat) : List Value → World
  | [] => w
  | v :: vs => setL (w.setCell ⟨g, o, none⟩ v) g (o + 1) vs
theorem meas {i l : Nat} (h : i < l) : l - (intOf (.int .i64 ((i + 1 : Nat) : Int))).toNat < l - (intOf (.int .i64 (i : Int))).toNat := by
  simp [intOf]; omega
theorem set7_eq (w : World) (g o : Nat) (x0 x1 x2 x3 x4 x5 x6 : Value) :
    ((((((w.setCell ⟨g, o, none⟩ x0).setCell ⟨g, o + 1, none⟩ x1).setCell ⟨g, o + 2, none⟩ x2).setCell ⟨g, o + 3, none⟩ x3).setCell ⟨g, o + 4, none⟩ x4).setCell ⟨g, o + 5, none⟩ x5).setCell ⟨g, o + 6, none⟩ x6 = setL w g (o + 0) [x0, x1, x2, x3, x4, x5, x6] := rfl
theorem setL_size (g : Nat) : ∀ (vs : List Value) (w : World) (o : Nat), (setL w g o vs).heap.size = w.heap.size
  | [], _, _ => rfl
  | v :: vs, w, o => (setL_size g vs _ _).trans (by simp)
theorem setL_frozen (g : Nat) (a : Addr) : ∀ (vs : List Value) (w : World) (o : Nat), (setL w g o vs).frozen? a = w.frozen? a
  | [], _, _ => rfl
  | v :: vs, w, o => (setL_frozen g a vs _ _).trans (by rw [World.frozen?_setCell])
theorem setL_block (g b : Nat) (hb : b ≠ g) : ∀ (vs : List Value) (w : World) (o : Nat), (setL w g o vs).heap[b]? = w.heap[b]?
  | [], _, _ => rfl
  | v :: vs, w, o => (setL_block g b hb vs _ _).trans (Below.heap_setCell _ _ _ _ hb)
theorem setL_below {B : Nat} {a : World} {g : Nat} (hg : B ≤ g) : ∀ (vs : List Value) (w : World) (o : Nat), Below B a w → Below B a (setL w g o vs)
  | [], _, _, h => h
  | v :: vs, w, o, h => setL_below hg vs _ _ (h.setCell hg _)
theorem setL_out (g p : Nat) : ∀ (vs : List Value) (w : World) (o : Nat), (p < o ∨ o + vs.length ≤ p) → (setL w g o vs).cell? ⟨g, p, none⟩ = w.cell? ⟨g, p, none⟩
  | [], _, _, _ => rfl
  | v :: vs, w, o, h => by
    have hl : (v :: vs).length = vs.length + 1 := rfl
    refine (setL_out g p vs _ _ (by omega)).trans (World.cell?_setCell_other _ _ _ _ ?_)
    intro e
    injection e with _ e
    omega
theorem setL_in (g : Nat) : ∀ (vs : List Value) (w : World) (o : Nat), (∀ j, j < vs.length → ∃ x, w.cell? ⟨g, o + j, none⟩ = some x) → ∀ j u, vs[j]? = some u → (setL w g o vs).cell? ⟨g, o + j, none⟩ = some u
  | [], _, _, _, j, u, h => by simp at h
  | v :: vs, w, o, h, j, u, hj => by
    cases j with
    | zero =>
      simp only [List.getElem?_cons_zero, Option.some.injEq] at hj
      subst hj
      obtain ⟨x, hx⟩ := h 0 (by simp)
      refine (setL_out g (o + 0) vs _ _ (by omega)).trans ?_
      exact World.cell?_setCell_same _ _ _ hx
    | succ j =>
      have e : o + (j + 1) = o + 1 + j := by omega
      rw [e]
      refine setL_in g vs _ _ (fun q hq => ?_) j u (by simpa using hj)
      obtain ⟨x, hx⟩ := h (q + 1) (by simpa using hq)
      refine ⟨x, (World.cell?_setCell_other _ _ _ _ ?_).trans ?_⟩
      · intro e; injection e with _ e; omega
      · rw [← hx]; congr 2; omega
/-- One element replaced. -/
theorem Blk.setL {w : World} {g size l : Nat} {P P' : Nat → List Value → Prop} (h : Blk w g size l P) {i q : Nat} (hi : i < l) (vs : List Value) (hq : q + vs.length = size) (h0 : 0 < size) (hP : ∀ j cs, j ≠ i → P j cs → P' j cs)
    (hN : ∀ cs, P i cs → P' i (cs.take q ++ vs)) : Blk (CloB.setL w g (i * size + q) vs) g size l P' := by
  refine ⟨by rw [setL_size]; exact h.lt, fun o => by rw [setL_frozen]; exact h.fz o, fun j hj => ?_⟩
  obtain ⟨cs, h1, h2, h3⟩ := h.at_ j hj
  by_cases e : j = i
  · subst e
    refine ⟨cs.take q ++ vs, by rw [List.length_append, List.length_take]; omega, hN cs h2, fun p u hp => ?_⟩
    by_cases hlt : p < q
    · rw [setL_out _ _ _ _ _ (.inl (by omega))]
      rw [List.getElem?_append_left (by rw [List.length_take]; omega), List.getElem?_take_of_lt hlt] at hp
      exact h3 p u hp
    · rw [List.getElem?_append_right (by rw [List.length_take]; omega), List.length_take, Nat.min_eq_left (by omega)] at hp
      have := setL_in g vs w (j * size + q) (fun z hz => ?_) (p - q) u hp
      · have e2 : j * size + q + (p - q) = j * size + p := by omega
        rwa [e2] at this
      · have : q + z < cs.length := by omega
        exact ⟨cs[q + z], by have := h3 (q + z) _ (List.getElem?_eq_getElem this); rw [← this]; congr 2; omega⟩
  · refine ⟨cs, h1, hP j cs e h2, fun p u hp => ?_⟩
    have hps : p < size := by rw [← h1]; exact (List.getElem?_eq_some_iff.1 hp).1
    rw [setL_out]
    · exact h3 p u hp
    · rcases Nat.lt_or_gt_of_ne e with hlt | hgt
      · have : (j + 1) * size ≤ i * size := Nat.mul_le_mul_right _ (by omega)
        rw [Nat.succ_mul] at this
        exact .inl (by omega)
      · have : (i + 1) * size ≤ j * size := Nat.mul_le_mul_right _ (by omega)
        rw [Nat.succ_mul] at this
        exact .inr (by omega)

def New (wr : World) (g n : Nat) (u : SV) : Prop := Tree wr (fun b => g < b ∧ b < wr.heap.size) n u
def Old (w : World) (n : Nat) (u : SV) : Prop := Tree w (· < w.heap.size) n u
def shape1 (T : SV → Prop) (cs : List Value) : Prop := ∃ u, cs = cellsV u ∧ T u
def shape2 (T : SV → Prop) (cs : List Value) : Prop := ∃ u u', cs = cellsV u ++ cellsV u' ∧ T u ∧ T u'
def shape3 (T : SV → Prop) (cs : List Value) : Prop := ∃ (m : Int) (u : SV), cs = .int .i64 m :: cellsV u ∧ T u
theorem shape1.imp {T T' : SV → Prop} (h : ∀ u, T u → T' u) {cs : List Value} : shape1 T cs → shape1 T' cs := fun ⟨u, e, k⟩ => ⟨u, e, h _ k⟩
theorem shape2.imp {T T' : SV → Prop} (h : ∀ u, T u → T' u) {cs : List Value} : shape2 T cs → shape2 T' cs := fun ⟨u, u', e, k, k'⟩ => ⟨u, u', e, h _ k, h _ k'⟩
theorem shape3.imp {T T' : SV → Prop} (h : ∀ u, T u → T' u) {cs : List Value} : shape3 T cs → shape3 T' cs := fun ⟨m, u, e, k⟩ => ⟨m, u, e, h _ k⟩
/-- The elements of a slice while a loop replaces them. -/
def El (shape : (SV → Prop) → List Value → Prop) (size B : Nat) (w wr : World) (a : Option Addr) (l i n : Nat) : Prop :=
  l ≠ 0 → ∃ g, a = some ⟨g, 0, none⟩ ∧ B ≤ g ∧ Blk wr g size l (fun j => shape (if j < i then New wr g n else Old w n))
theorem New.below {w w' : World} {g n : Nat} {u : SV} (h : New w g n u) (hb : Below w.heap.size w w') : New w' g n u :=
  Tree.mono (fun b hb' => ⟨hb'.1, Nat.lt_of_lt_of_le hb'.2 hb.size⟩) (fun b hb' => hb.block b hb'.2) h
theorem Old.here {w w' : World} {n : Nat} {u : SV} (h : Old w n u) (hb : Below w.heap.size w w') : Tree w' (· < w'.heap.size) n u :=
  Tree.mono (fun b hb' => Nat.lt_of_lt_of_le hb' hb.size) (fun b hb' => hb.block b hb') h
theorem El_below {shape : (SV → Prop) → List Value → Prop} (imp : ∀ {T T' : SV → Prop}, (∀ u, T u → T' u) → ∀ {cs}, shape T cs → shape T' cs) {size i g l n : Nat} {w wr w' : World} (h : Blk wr g size l (fun j => shape (if j < i then New wr g n else Old w n))) (hb : Below wr.heap.size wr w') :
    Blk w' g size l (fun j => shape (if j < i then New w' g n else Old w n)) := by
  refine h.below hb (fun j cs hc => imp (fun u hu => ?_) hc)
  by_cases hj : j < i
  · rw [if_pos hj] at hu ⊢; exact hu.below hb
  · rw [if_neg hj] at hu ⊢; exact hu
theorem New.setL {w : World} {g n : Nat} {u : SV} (h : New w g n u) (o : Nat) (vs : List Value) : New (CloB.setL w g o vs) g n u :=
  Tree.mono (fun b hb => ⟨hb.1, by rw [setL_size]; exact hb.2⟩) (fun b hb => setL_block g b (by omega) vs w o) h
theorem El_step {shape : (SV → Prop) → List Value → Prop} (imp : ∀ {T T' : SV → Prop}, (∀ u, T u → T' u) → ∀ {cs}, shape T cs → shape T' cs) {size q i g l n : Nat} {w w2 : World} (hi : i < l) (h : Blk w2 g size l (fun j => shape (if j < i then New w2 g n else Old w n)))
    (vs : List Value) (hq : q + vs.length = size) (h0 : 0 < size) (hN : ∀ cs, shape (Old w n) cs → shape (New w2 g n) (cs.take q ++ vs)) :
    Blk (CloB.setL w2 g (i * size + q) vs) g size l (fun j => shape (if j < i + 1 then New (CloB.setL w2 g (i * size + q) vs) g n else Old w n)) := by
  refine h.setL hi vs hq h0 (fun j cs hj hc => imp (fun u hu => ?_) hc) (fun cs hc => ?_)
  · by_cases hlt : j < i
    · rw [if_pos hlt] at hu; rw [if_pos (by omega)]; exact hu.setL _ _
    · rw [if_neg hlt] at hu; rw [if_neg (by omega)]; exact hu
  · rw [if_neg (by omega)] at hc
    rw [if_pos (by omega)]
    exact imp (fun u hu => hu.setL _ _) (hN cs hc)
/-- What a call has made is new. -/
theorem new_of {wX w2 : World} {g n : Nat} {u : SV} (hg : g < wX.heap.size) (h : Tree w2 (fun b => wX.heap.size ≤ b ∧ b < w2.heap.size) n u) : New w2 g n u :=
  Tree.mono (fun b hb => ⟨by omega, hb.2⟩) (fun _ _ => rfl) h
/-- The state of the walk: the value's box, the result's box, what was there. -/
structure St (w wr : World) (k : Int) (b : Nat) (t : ByteArray) (s1 s2 s3 s4 : Value) : Prop where
  bv : B7 wr w.heap.size (.int .i64 k) (.int .u64 b) (.string t) s1 s2 s3 s4
  br : B7 wr (w.heap.size + 1) (.int .i64 0) (.int .u64 0) (.string ⟨#[]⟩) (.slice none 0 0) (.slice none 0 0) (.slice none 0 0) (.slice none 0 0)
  hb : Below w.heap.size w wr
theorem St.below {w wr wr' : World} {k : Int} {b : Nat} {t : ByteArray} {s1 s2 s3 s4 : Value} (h : St w wr k b t s1 s2 s3 s4) (hb : Below wr.heap.size wr wr') : St w wr' k b t s1 s2 s3 s4 :=
  ⟨h.bv.below hb, h.br.below hb, h.hb.trans (hb.mono h.hb.size)⟩
theorem St.setL {w wr : World} {k : Int} {b : Nat} {t : ByteArray} {s1 s2 s3 s4 : Value} (h : St w wr k b t s1 s2 s3 s4) {g : Nat} (hg : w.heap.size + 1 < g) (o : Nat) (vs : List Value) : St w (CloB.setL wr g o vs) k b t s1 s2 s3 s4 := by
  have hc : ∀ (q : Nat), q ≠ g → ∀ p, (CloB.setL wr g o vs).cell? ⟨q, p, none⟩ = wr.cell? ⟨q, p, none⟩ := fun q hq p => World.cell?_of_block (w := wr) (a := ⟨q, p, none⟩) (setL_block g q hq vs wr o)
  refine ⟨⟨by rw [setL_size]; exact h.bv.lt, (hc _ (by omega) _).trans h.bv.c0, (hc _ (by omega) _).trans h.bv.c1, (hc _ (by omega) _).trans h.bv.c2, (hc _ (by omega) _).trans h.bv.c3, (hc _ (by omega) _).trans h.bv.c4, (hc _ (by omega) _).trans h.bv.c5, (hc _ (by omega) _).trans h.bv.c6, fun o => by rw [setL_frozen]; exact h.bv.fz o⟩,
    ⟨by rw [setL_size]; exact h.br.lt, (hc _ (by omega) _).trans h.br.c0, (hc _ (by omega) _).trans h.br.c1, (hc _ (by omega) _).trans h.br.c2, (hc _ (by omega) _).trans h.br.c3, (hc _ (by omega) _).trans h.br.c4, (hc _ (by omega) _).trans h.br.c5, (hc _ (by omega) _).trans h.br.c6, fun o => by rw [setL_frozen]; exact h.br.fz o⟩,
    setL_below (by omega) vs wr o h.hb⟩
/-- A block that holds given cells. -/
structure BoxL (w : World) (k : Nat) (vs : List Value) : Prop where
  lt : k < w.heap.size
  at_ : ∀ j u, vs[j]? = some u → w.cell? ⟨k, j, none⟩ = some u
theorem boxL_new (w : World) (vs : List Value) (T : TypeId) : BoxL (w.alloc (.cells vs.toArray T)) w.heap.size vs := by
  refine ⟨by simp, fun j u hj => ?_⟩
  rw [World.cell?_alloc_at _ _ _ _ rfl]
  simpa using hj
theorem BoxL.below {w w1 : World} {k : Nat} {vs : List Value} (h : BoxL w k vs) (hb : Below w.heap.size w w1) : BoxL w1 k vs :=
  ⟨Nat.lt_of_lt_of_le h.lt hb.size, fun j u hj => (hb.cell (p := ⟨k, j, none⟩) h.lt).trans (h.at_ j u hj)⟩
theorem BoxL.drew {w : World} {k : Nat} {vs : List Value} (h : BoxL w k vs) : BoxL w.drew k vs := h.below (Below.refl _ _).drew
theorem BoxL.set_other {w : World} {k q : Nat} {vs : List Value} (h : BoxL w k vs) (hq : k ≠ q) (j : Nat) (x : Value) : BoxL (w.setCell ⟨q, j, none⟩ x) k vs :=
  ⟨by simpa using h.lt, fun i u hi => (World.cell?_setCell_other _ _ _ _ (by simp [hq])).trans (h.at_ i u hi)⟩
/-- Cells from an offset on, in a block that may be written. -/
structure CL (w : World) (g o : Nat) (vs : List Value) : Prop where
  lt : g < w.heap.size
  fz : ∀ o, w.frozen? ⟨g, o, none⟩ = false
  at_ : ∀ j u, vs[j]? = some u → w.cell? ⟨g, o + j, none⟩ = some u
theorem CL.below {w w1 : World} {g o : Nat} {vs : List Value} (h : CL w g o vs) (hb : Below w.heap.size w w1) : CL w1 g o vs :=
  ⟨Nat.lt_of_lt_of_le h.lt hb.size, fun o => (hb.frozen (p := ⟨g, o, none⟩) h.lt).trans (h.fz o), fun j u hj => (hb.cell (p := ⟨g, o + j, none⟩) h.lt).trans (h.at_ j u hj)⟩
theorem set8_eq (w : World) (g o : Nat) (x0 x1 x2 x3 x4 x5 x6 : Value) :
    ((((((w.setCell ⟨g, o + 1, none⟩ x0).setCell ⟨g, o + 2, none⟩ x1).setCell ⟨g, o + 3, none⟩ x2).setCell ⟨g, o + 4, none⟩ x3).setCell ⟨g, o + 5, none⟩ x4).setCell ⟨g, o + 6, none⟩ x5).setCell ⟨g, o + 7, none⟩ x6 = setL w g (o + 1) [x0, x1, x2, x3, x4, x5, x6] := rfl
theorem set14_eq (w : World) (g o : Nat) (x0 x1 x2 x3 x4 x5 x6 y0 y1 y2 y3 y4 y5 y6 : Value) :
    (((((((((((((w.setCell ⟨g, o, none⟩ x0).setCell ⟨g, o + 1, none⟩ x1).setCell ⟨g, o + 2, none⟩ x2).setCell ⟨g, o + 3, none⟩ x3).setCell ⟨g, o + 4, none⟩ x4).setCell ⟨g, o + 5, none⟩ x5).setCell ⟨g, o + 6, none⟩ x6).setCell ⟨g, o + 7, none⟩ y0).setCell ⟨g, o + 8, none⟩ y1).setCell ⟨g, o + 9, none⟩ y2).setCell ⟨g, o + 10, none⟩ y3).setCell ⟨g, o + 11, none⟩ y4).setCell ⟨g, o + 12, none⟩ y5).setCell ⟨g, o + 13, none⟩ y6 =
      setL w g (o + 0) [x0, x1, x2, x3, x4, x5, x6, y0, y1, y2, y3, y4, y5, y6] := rfl
/-- Where new things of a call lie. -/
def Nw (w m : World) : Nat → Prop := fun b => w.heap.size + 1 < b ∧ b < m.heap.size
/-- What is done stays. -/
structure Agr (w m wr : World) : Prop where
  size : m.heap.size ≤ wr.heap.size
  block : ∀ b, w.heap.size + 1 < b → b < m.heap.size → wr.heap[b]? = m.heap[b]?
theorem Agr.refl (w m : World) : Agr w m m := ⟨Nat.le_refl _, fun _ _ _ => rfl⟩
theorem Agr.below {w m wr wr' : World} (h : Agr w m wr) (hb : Below wr.heap.size wr wr') : Agr w m wr' :=
  ⟨Nat.le_trans h.size hb.size, fun b h1 h2 => (hb.block b (Nat.lt_of_lt_of_le h2 h.size)).trans (h.block b h1 h2)⟩
theorem Agr.setL {w m wr : World} (h : Agr w m wr) {g : Nat} (hg : m.heap.size ≤ g) (o : Nat) (vs : List Value) : Agr w m (CloB.setL wr g o vs) :=
  ⟨by rw [setL_size]; exact h.size, fun b h1 h2 => (setL_block g b (by omega) vs wr o).trans (h.block b h1 h2)⟩
theorem Agr.set {w m wr : World} (h : Agr w m wr) {q : Nat} (hq : q ≤ w.heap.size + 1) (j : Nat) (x : Value) : Agr w m (wr.setCell ⟨q, j, none⟩ x) :=
  ⟨by simpa using h.size, fun b h1 h2 => (Below.heap_setCell _ _ _ _ (by show b ≠ q; omega)).trans (h.block b h1 h2)⟩
def RowD (w m : World) (shape : (SV → Prop) → List Value → Prop) (size : Nat) (a : Option Addr) (l c n : Nat) : Prop := Row m (Nw w m) size a l c (shape (Tree m (Nw w m) n))
theorem RowD.agr {w m wr : World} {shape : (SV → Prop) → List Value → Prop} (imp : ∀ {T T' : SV → Prop}, (∀ u, T u → T' u) → ∀ {cs}, shape T cs → shape T' cs) {size : Nat} {a : Option Addr} {l c n : Nat} (h : RowD w m shape size a l c n) (k : Agr w m wr) : RowD w wr shape size a l c n :=
  Row.mono h (fun b hb => ⟨hb.1, Nat.lt_of_lt_of_le hb.2 k.size⟩) (fun b hb => k.block b hb.1 hb.2) (fun cs hc => imp (fun u hu => Tree.mono (fun b hb => ⟨hb.1, Nat.lt_of_lt_of_le hb.2 k.size⟩) (fun b hb => k.block b hb.1 hb.2) hu) hc)
theorem El_done {shape : (SV → Prop) → List Value → Prop} (imp : ∀ {T T' : SV → Prop}, (∀ u, T u → T' u) → ∀ {cs}, shape T cs → shape T' cs) {size B : Nat} {w wr : World} {a : Option Addr} {l c n : Nat} (hB : w.heap.size + 1 < B) (h : El shape size B w wr a l l n) (hlc : l ≤ c) (hn : a = none → l = 0 ∧ c = 0) :
    RowD w wr shape size a l c n := by
  refine ⟨hn, fun ad ha => ⟨hlc, fun hl => ?_, fun i hi => ?_⟩⟩
  · obtain ⟨g, hg, hge, hb⟩ := h hl
    rw [ha] at hg
    injection hg with hg
    subst hg
    exact ⟨show w.heap.size + 1 < g by omega, hb.lt⟩
  · obtain ⟨g, hg, hge, hb⟩ := h (by omega)
    rw [ha] at hg
    injection hg with hg
    subst hg
    obtain ⟨cs, h1, h2, h3⟩ := hb.at_ i hi
    rw [if_pos hi] at h2
    refine ⟨cs, h1, imp (fun u hu => Tree.mono (fun b hb' => ⟨by omega, hb'.2⟩) (fun _ _ => rfl) hu) h2, fun j u hj => ?_⟩
    have e : ((⟨g, 0, none⟩ : Addr).add (i * size + j)) = ⟨g, i * size + j, none⟩ := by
      unfold Addr.add
      split
      · rename_i h; rw [h]
      · simp
    rw [e]
    exact h3 j u hj
theorem RowD.out {w m : World} {shape : (SV → Prop) → List Value → Prop} (imp : ∀ {T T' : SV → Prop}, (∀ u, T u → T' u) → ∀ {cs}, shape T cs → shape T' cs) {size : Nat} {a : Option Addr} {l c n : Nat} (h : RowD w m shape size a l c n) :
    Row m (fun b => w.heap.size ≤ b ∧ b < m.heap.size) size a l c (shape (Tree m (fun b => w.heap.size ≤ b ∧ b < m.heap.size) n)) :=
  Row.mono h (fun b hb => ⟨by have := hb.1; omega, hb.2⟩) (fun _ _ => rfl) (fun cs hc => imp (fun u hu => Tree.mono (fun b hb => ⟨by have := hb.1; omega, hb.2⟩) (fun _ _ => rfl) hu) hc)
/-- All four lists done. -/
theorem tree_done {w wr w5 W : World} {n B : Nat} {v : SV} (ok : Okv v) (h1 : RowD w wr shape1 7 v.a1 v.l1 v.c1 n) (h2 : RowD w wr shape2 14 v.a2 v.l2 v.c2 n) (h3 : RowD w wr shape3 8 v.a3 v.l3 v.c3 n)
    (hB : w.heap.size + 1 < B) (h4 : El (fun _ => rawC) 4 B w w5 v.a4 v.l4 v.l4 n) (hlc : v.l4 ≤ v.c4) (hn : v.a4 = none → v.l4 = 0 ∧ v.c4 = 0) (k5 : Agr w wr w5) (k6 : Agr w w5 W) : Tree W (fun b => w.heap.size ≤ b ∧ b < W.heap.size) (n + 1) v :=
  ⟨ok, ((h1.agr shape1.imp k5).agr shape1.imp k6).out shape1.imp, ((h2.agr shape2.imp k5).agr shape2.imp k6).out shape2.imp, ((h3.agr shape3.imp k5).agr shape3.imp k6).out shape3.imp,
    ((El_done (shape := fun _ => rawC) (fun _ _ h => h) hB h4 hlc hn).agr (fun _ _ h => h) k6).out (shape := fun _ => rawC) (fun _ _ h => h)⟩
/-- The loop's beginning: nothing is replaced yet. -/
theorem El_start {shape : (SV → Prop) → List Value → Prop} {size B B' q j : Nat} {w w1 : World} {a : Option Addr} {l n : Nat} {x : Value} (h : l ≠ 0 → ∃ g, a = some ⟨g, 0, none⟩ ∧ B' ≤ g ∧ Blk w1 g size l (fun _ => shape (Old w n))) (hB : B ≤ B') (hq : q < B') :
    El shape size B w (w1.setCell ⟨q, j, none⟩ x) a l 0 n := by
  intro hl
  obtain ⟨g, hg, hge, hb⟩ := h hl
  refine ⟨g, hg, by omega, ⟨by simpa using hb.lt, fun o => by rw [World.frozen?_setCell]; exact hb.fz o, fun i hi => ?_⟩⟩
  obtain ⟨cs, h1, h2, h3⟩ := hb.at_ i hi
  refine ⟨cs, h1, by rw [if_neg (by omega)]; exact h2, fun p u hp => (World.cell?_setCell_other _ _ _ _ ?_).trans (h3 p u hp)⟩
  intro e; injection e with e _; omega
end Go.Proofs.YthjpchnogllliaaDoor.CloB

/- The program's clone of a value: a value of the same numbers, its parts in memory of the call's own, as deep. -/
set_option linter.unusedSimpArgs false
set_option linter.unusedVariables false
namespace Go.Proofs.YthjpchnogllliaaDoor.CloC
open Go.RowKit Nums Byt UtfM UtfS ScaM ScaV ScaA ScaB Opn Val Box CloM CloA CloB

def CloneHas (n : Nat) : Prop := ∀ (v : SV) (w : World), Tree w (· < w.heap.size) n v → Calls Tryd.prog 71 #[vv v] w fun e w' => ∃ v', e = .returned (vv v') ∧ v'.k = v.k ∧ v'.b = v.b ∧ v'.t = v.t ∧ v'.l1 = v.l1 ∧ v'.l2 = v.l2 ∧ v'.l3 = v.l3 ∧ v'.l4 = v.l4 ∧
  Tree w' (fun b => w.heap.size ≤ b ∧ b < w'.heap.size) n v' ∧ Below w.heap.size w w'
theorem c7 {w : World} {k : Nat} {v0 v1 v2 v3 v4 v5 v6 : Value} (h : BoxL w k [v0, v1, v2, v3, v4, v5, v6]) : w.cell? ⟨k, 0, none⟩ = some v0 ∧ w.cell? ⟨k, 1, none⟩ = some v1 ∧ w.cell? ⟨k, 2, none⟩ = some v2 ∧ w.cell? ⟨k, 3, none⟩ = some v3 ∧ w.cell? ⟨k, 4, none⟩ = some v4 ∧ w.cell? ⟨k, 5, none⟩ = some v5 ∧ w.cell? ⟨k, 6, none⟩ = some v6 :=
  ⟨h.at_ 0 _ rfl, h.at_ 1 _ rfl, h.at_ 2 _ rfl, h.at_ 3 _ rfl, h.at_ 4 _ rfl, h.at_ 5 _ rfl, h.at_ 6 _ rfl⟩
theorem c8 {w : World} {k : Nat} {v0 v1 v2 v3 v4 v5 v6 v7 : Value} (h : BoxL w k [v0, v1, v2, v3, v4, v5, v6, v7]) : w.cell? ⟨k, 0, none⟩ = some v0 ∧ w.cell? ⟨k, 1, none⟩ = some v1 ∧ w.cell? ⟨k, 2, none⟩ = some v2 ∧ w.cell? ⟨k, 3, none⟩ = some v3 ∧ w.cell? ⟨k, 4, none⟩ = some v4 ∧ w.cell? ⟨k, 5, none⟩ = some v5 ∧ w.cell? ⟨k, 6, none⟩ = some v6 ∧ w.cell? ⟨k, 7, none⟩ = some v7 :=
  ⟨h.at_ 0 _ rfl, h.at_ 1 _ rfl, h.at_ 2 _ rfl, h.at_ 3 _ rfl, h.at_ 4 _ rfl, h.at_ 5 _ rfl, h.at_ 6 _ rfl, h.at_ 7 _ rfl⟩
theorem c14 {w : World} {k : Nat} {v0 v1 v2 v3 v4 v5 v6 v7 v8 v9 v10 v11 v12 v13 : Value} (h : BoxL w k [v0, v1, v2, v3, v4, v5, v6, v7, v8, v9, v10, v11, v12, v13]) : w.cell? ⟨k, 0, none⟩ = some v0 ∧ w.cell? ⟨k, 1, none⟩ = some v1 ∧ w.cell? ⟨k, 2, none⟩ = some v2 ∧ w.cell? ⟨k, 3, none⟩ = some v3 ∧ w.cell? ⟨k, 4, none⟩ = some v4 ∧ w.cell? ⟨k, 5, none⟩ = some v5 ∧ w.cell? ⟨k, 6, none⟩ = some v6 ∧ w.cell? ⟨k, 7, none⟩ = some v7 ∧ w.cell? ⟨k, 8, none⟩ = some v8 ∧ w.cell? ⟨k, 9, none⟩ = some v9 ∧ w.cell? ⟨k, 10, none⟩ = some v10 ∧ w.cell? ⟨k, 11, none⟩ = some v11 ∧ w.cell? ⟨k, 12, none⟩ = some v12 ∧ w.cell? ⟨k, 13, none⟩ = some v13 :=
  ⟨h.at_ 0 _ rfl, h.at_ 1 _ rfl, h.at_ 2 _ rfl, h.at_ 3 _ rfl, h.at_ 4 _ rfl, h.at_ 5 _ rfl, h.at_ 6 _ rfl, h.at_ 7 _ rfl, h.at_ 8 _ rfl, h.at_ 9 _ rfl, h.at_ 10 _ rfl, h.at_ 11 _ rfl, h.at_ 12 _ rfl, h.at_ 13 _ rfl⟩
theorem shape4_imp {T T' : SV → Prop} (h : ∀ u, T u → T' u) {cs : List Value} : rawC cs → rawC cs := id
theorem one1 {T : SV → Prop} : ∀ cs, shape1 T cs → ∀ u ∈ cs, u.oneCell' = true := fun cs ⟨u, hu, _⟩ => by rw [hu]; exact oneV u
theorem one2 {T : SV → Prop} : ∀ cs, shape2 T cs → ∀ u ∈ cs, u.oneCell' = true := fun cs ⟨u, u', hu, _⟩ => by
  rw [hu]; intro x hx
  rcases List.mem_append.1 hx with h | h
  · exact oneV u x h
  · exact oneV u' x h
theorem one3 {T : SV → Prop} : ∀ cs, shape3 T cs → ∀ u ∈ cs, u.oneCell' = true := fun cs ⟨m, u, hu, _⟩ => by
  rw [hu]; intro x hx
  rcases List.mem_cons.1 hx with rfl | h
  · rfl
  · exact oneV u x h

set_option maxHeartbeats 40000000 in
set_option maxRecDepth 100000 in
theorem step (n : Nat) (ih : CloneHas n) : CloneHas (n + 1) := by
  intro v w hv
  obtain ⟨ok, R1, R2, R3, R4⟩ := hv
  have C1 := Lib.hid fun w' (hr : Row w' (· < w.heap.size) 7 v.a1 v.l1 v.c1 (shape1 (Old w n))) => cloneV v.a1 v.l1 v.c1 (shape1 (Old w n)) w' (· < w.heap.size) hr ok.l1 one1
  have H1 : Hid (Row w (· < w.heap.size) 7 v.a1 v.l1 v.c1 (shape1 (Old w n))) := Lib.hid R1
  have C2 := Lib.hid fun w' (hr : Row w' (· < w.heap.size) 14 v.a2 v.l2 v.c2 (shape2 (Old w n))) => cloneP v.a2 v.l2 v.c2 (shape2 (Old w n)) w' (· < w.heap.size) hr ok.l2 one2
  have H2 : Hid (Row w (· < w.heap.size) 14 v.a2 v.l2 v.c2 (shape2 (Old w n))) := Lib.hid R2
  have C3 := Lib.hid fun w' (hr : Row w' (· < w.heap.size) 8 v.a3 v.l3 v.c3 (shape3 (Old w n))) => cloneS v.a3 v.l3 v.c3 (shape3 (Old w n)) w' (· < w.heap.size) hr ok.l3 one3
  have H3 : Hid (Row w (· < w.heap.size) 8 v.a3 v.l3 v.c3 (shape3 (Old w n))) := Lib.hid R3
  have C4 := Lib.hid fun w' (hr : Row w' (· < w.heap.size) 4 v.a4 v.l4 v.c4 rawC) => cloneR v.a4 v.l4 v.c4 rawC w' (· < w.heap.size) hr ok.l4 (fun _ h => oneR h)
  have H4 := Lib.hid R4
  have IH := Lib.hid ih
  have OK := Lib.hid ok
  clear ih ok R1 R2 R3 R4
  obtain ⟨k, b, t, a1, l1, c1, a2, l2, c2, a3, l3, c3, a4, l4, c4⟩ := v
  simp only [vv] at *
  go_enter Tryd.func71, Tryd.ntmps71
  go_wp2_with fail
  obtain ⟨w0, hw0⟩ : ∃ w0, w0 = (w.alloc (.cells #[.int .i64 k, .int .u64 b, .string t, .slice a1 l1 c1, .slice a2 l2 c2, .slice a3 l3 c3, .slice a4 l4 c4] 34)).alloc (.cells #[.int .i64 0, .int .u64 0, .string ⟨#[]⟩, .slice none 0 0, .slice none 0 0, .slice none 0 0, .slice none 0 0] 34) := ⟨_, rfl⟩
  have ST : Hid (St w w0 k b t (.slice a1 l1 c1) (.slice a2 l2 c2) (.slice a3 l3 c3) (.slice a4 l4 c4)) := Lib.hid (by
    rw [hw0]
    exact ⟨(b7_new w _ _ _ _ _ _ _ _).alloc _, by have := b7_new (w.alloc (.cells #[.int .i64 k, .int .u64 b, .string t, .slice a1 l1 c1, .slice a2 l2 c2, .slice a3 l3 c3, .slice a4 l4 c4] 34)) (.int .i64 0) (.int .u64 0) (.string ⟨#[]⟩) (.slice none 0 0) (.slice none 0 0) (.slice none 0 0) (.slice none 0 0) 34; simpa using this, bt (below_box _ _) (below_box _ _)⟩)
  have AG : Hid (Agr w w0 w0) := Lib.hid (Agr.refl _ _)
  rw [← hw0]
  clear hw0
  refine (C1.out _ (H1.out.mono (fun _ h => h) (fun b hb => ST.out.hb.block b hb) (fun _ h => h))).mono ?_
  rintro _ ww1 ⟨vv1, nn1, rfl, ho, hp, hb⟩
  obtain ⟨a1', c1', rfl, hc, hn, hg⟩ := blk_of_own ho hp
  have HC1 := Lib.hid hc
  have HN1 := Lib.hid hn
  have HG1 := Lib.hid hg
  have HB1 : Hid (w.heap.size + 1 < w0.heap.size) := Lib.hid ST.out.br.lt
  have AG' := Lib.hid (AG.out.below hb)
  have AGB : Hid (w0.heap.size ≤ w0.heap.size) := Lib.hid (Nat.le_refl _)
  have HM1 : Hid (w0.heap.size ≤ w0.heap.size) := Lib.hid (Nat.le_refl _)
  replace ST := Lib.hid (ST.out.below hb)
  clear ho hp hb hc hn hg AGB
  have ⟨_, p0, p1, p2, p3, p4, p5, p6, pf⟩ := ST.out.bv
  go_wp2_with fail
  clear p0 p1 p2 p3 p4 p5 p6 pf
  go_loopw [16] (fun x wr => ∃ i : Nat, i ≤ l1 ∧ x = .int .i64 i ∧ Hid (St w wr k b t (.slice a1' l1 c1') (.slice a2 l2 c2) (.slice a3 l3 c3) (.slice a4 l4 c4)) ∧ Hid (El shape1 7 w0.heap.size w wr a1' l1 i n) ∧ Hid (Agr w w0 wr)) (fun x _ => l1 - (intOf x).toNat)
  case atStart => exact ⟨0, Nat.zero_le _, rfl, Lib.hid ⟨ST.out.bv.set3 _, ST.out.br.set_other (by omega) _ _, ST.out.hb.setCell (Nat.le_refl _) _⟩, Lib.hid (El_start HG1.out (Nat.le_refl _) (by have := HB1.out; omega)), Lib.hid (AG'.out.set (by omega) _ _)⟩
  case round =>
    obtain ⟨i, hi, rfl, ST', EL, AG''⟩ := hrel
    clear ST AG AG'
    by_cases hlt : i < l1
    · obtain ⟨g, rfl, hgk, BL⟩ := EL.out (by omega)
      obtain ⟨cs, hcs, ⟨u, rfl, hu⟩, hce⟩ := BL.at_ i hlt
      rw [if_neg (by omega)] at hu
      have HUu := Lib.hid hu
      have HBL := Lib.hid BL
      have HE := Lib.hid hce
      clear BL hcs hce hu
      obtain ⟨uk, ub, ut, ua1, ul1, uc1, ua2, ul2, uc2, ua3, ul3, uc3, ua4, ul4, uc4⟩ := u
      have E : CL wr g (i * 7) [.int .i64 uk, .int .u64 ub, .string ut, .slice ua1 ul1 uc1, .slice ua2 ul2 uc2, .slice ua3 ul3 uc3, .slice ua4 ul4 uc4] := ⟨HBL.out.lt, HBL.out.fz, fun j u hj => HE.out j u hj⟩
      have e0 := E.at_ 0 _ rfl
      have e1 := E.at_ 1 _ rfl
      have e2 := E.at_ 2 _ rfl
      have e3 := E.at_ 3 _ rfl
      have e4 := E.at_ 4 _ rfl
      have e5 := E.at_ 5 _ rfl
      have e6 := E.at_ 6 _ rfl
      simp only [Nat.add_zero] at e0
      have hlc := HC1.out
      have hbX : Below wr.heap.size wr (wr.alloc (.cells #[.int .i64 uk, .int .u64 ub, .string ut, .slice ua1 ul1 uc1, .slice ua2 ul2 uc2, .slice ua3 ul3 uc3, .slice ua4 ul4 uc4] 34)).drew := (below_box _ _).drew
      have STX := ST'.out.below hbX
      have EX := E.below hbX
      have BX := (boxL_new wr [.int .i64 uk, .int .u64 ub, .string ut, .slice ua1 ul1 uc1, .slice ua2 ul2 uc2, .slice ua3 ul3 uc3, .slice ua4 ul4 uc4] 34).drew
      have BLX := Lib.hid (El_below shape1.imp HBL.out hbX)
      have AGX := AG''.out.below hbX
      have hll : l1 * 128 ≤ 140737488351232 := OK.out.l1
      have hw : wrap64 ((i : Int) + 1) = ((i + 1 : Nat) : Int) := by unfold wrap64; omega
      clear hll
      have hbase := HB1.out
      have hne1 : w.heap.size ≠ g := by omega
      have hne2 : wr.heap.size ≠ g := by have := HBL.out.lt; omega
      have hgl := Nat.lt_of_lt_of_le HBL.out.lt hbX.size
      go_wp2_with fail
      clear hbase e0 e1 e2 e3 e4 e5 e6
      go_region_held3 (fun w' => w'.cell? ⟨w.heap.size, 3, none⟩ = some (.slice (some ⟨g, 0, none⟩) l1 c1') ∧ (w'.cell? ⟨wr.heap.size, 0, none⟩ = some (.int .i64 uk) ∧ w'.cell? ⟨wr.heap.size, 1, none⟩ = some (.int .u64 ub) ∧ w'.cell? ⟨wr.heap.size, 2, none⟩ = some (.string ut) ∧ w'.cell? ⟨wr.heap.size, 3, none⟩ = some (.slice ua1 ul1 uc1) ∧ w'.cell? ⟨wr.heap.size, 4, none⟩ = some (.slice ua2 ul2 uc2) ∧ w'.cell? ⟨wr.heap.size, 5, none⟩ = some (.slice ua3 ul3 uc3) ∧ w'.cell? ⟨wr.heap.size, 6, none⟩ = some (.slice ua4 ul4 uc4))) (first | with_reducible exact ⟨STX.bv.c3, c7 BX⟩ | with_reducible exact ⟨(((((((STX.bv.set_other hne1 _ _).set_other hne1 _ _).set_other hne1 _ _).set_other hne1 _ _).set_other hne1 _ _).set_other hne1 _ _).set_other hne1 _ _).c3, c7 (((((((BX.set_other hne2 _ _).set_other hne2 _ _).set_other hne2 _ _).set_other hne2 _ _).set_other hne2 _ _).set_other hne2 _ _).set_other hne2 _ _)⟩)
        (first
          | (go_at_call 71; refine (IH.out ⟨uk, ub, ut, ua1, ul1, uc1, ua2, ul2, uc2, ua3, ul3, uc3, ua4, ul4, uc4⟩ _ (HUu.out.here STX.hb)).mono ?_; rintro _ w2 ⟨x, rfl, _, _, _, _, _, _, _, htr, hb2⟩; have Tx := new_of (g := g) hgl htr; have hgl := Nat.lt_of_lt_of_le hgl hb2.size; have STX := STX.below hb2; have BX := BX.below hb2; have EX := EX.below hb2; have AGX := AGX.below hb2; have BLX := Lib.hid (El_below shape1.imp BLX.out hb2); clear htr hb2; have F := EX.fz; have f0 := EX.at_ 0 _ rfl; have f1 := EX.at_ 1 _ rfl; have f2 := EX.at_ 2 _ rfl; have f3 := EX.at_ 3 _ rfl; have f4 := EX.at_ 4 _ rfl; have f5 := EX.at_ 5 _ rfl; have f6 := EX.at_ 6 _ rfl; simp only [Nat.add_zero] at f0; obtain ⟨xk, xb, xt, xa1, xl1, xc1, xa2, xl2, xc2, xa3, xl3, xc3, xa4, xl4, xc4⟩ := x; simp only [vv]))
      all_goals
        have HS := Lib.hid STX
        have HBL2 := BLX
        have HGK := Lib.hid hgk
        have HAG := Lib.hid AGX
        have HTx := Lib.hid Tx
        clear STX BX EX hbX BLX HBL ST' EL HE E F AGX AG'' hgk hgl hlc Tx f0 f1 f2 f3 f4 f5 f6
        go_wp2_with fail
        rw [set7_eq, hw]
        refine ⟨⟨i + 1, hlt, rfl, Lib.hid (HS.out.setL (Nat.lt_of_lt_of_le HB1.out HGK.out) (i * 7 + 0) [.int .i64 xk, .int .u64 xb, .string xt, .slice xa1 xl1 xc1, .slice xa2 xl2 xc2, .slice xa3 xl3 xc3, .slice xa4 xl4 xc4]), Lib.hid (fun _ => ⟨g, rfl, HGK.out, El_step shape1.imp hlt HBL2.out [.int .i64 xk, .int .u64 xb, .string xt, .slice xa1 xl1 xc1, .slice xa2 xl2 xc2, .slice xa3 xl3 xc3, .slice xa4 xl4 xc4] rfl (by decide) (fun cs _ => ⟨⟨xk, xb, xt, xa1, xl1, xc1, xa2, xl2, xc2, xa3, xl3, xc3, xa4, xl4, xc4⟩, rfl, HTx.out⟩)⟩), Lib.hid (HAG.out.setL HGK.out (i * 7 + 0) [.int .i64 xk, .int .u64 xb, .string xt, .slice xa1 xl1 xc1, .slice xa2 xl2 xc2, .slice xa3 xl3 xc3, .slice xa4 xl4 xc4])⟩, meas hlt⟩
    · obtain rfl : l1 = i := by omega
      have RD1 := Lib.hid (El_done shape1.imp HB1.out EL.out HC1.out HN1.out)
      have ST := ST'
      have AG : Hid (Agr w wr wr) := Lib.hid (Agr.refl _ _)
      clear EL AG'' ST' hlt hi HC1 HG1 HB1 HM1
      obtain ⟨wr1, hwr⟩ : ∃ z, z = wr := ⟨_, rfl⟩
      subst hwr
      have ⟨_, p0, p1, p2, p3, p4, p5, p6, pf⟩ := ST.out.bv
      go_wp2_with fail
      clear p0 p1 p2 p3 p4 p5 p6 pf
      refine (C2.out _ (H2.out.mono (fun _ h => h) (fun b hb => ST.out.hb.block b hb) (fun _ h => h))).mono ?_
      rintro _ ww2 ⟨vv2, nn2, rfl, ho, hp, hb⟩
      obtain ⟨a2', c2', rfl, hc, hn, hg⟩ := blk_of_own ho hp
      have HC2 := Lib.hid hc
      have HN2 := Lib.hid hn
      have HG2 := Lib.hid hg
      have HB2 : Hid (w.heap.size + 1 < wr1.heap.size) := Lib.hid ST.out.br.lt
      have AG' := Lib.hid (AG.out.below hb)
      have AGB : Hid (wr1.heap.size ≤ wr1.heap.size) := Lib.hid (Nat.le_refl _)
      have HM2 : Hid (wr1.heap.size ≤ wr1.heap.size) := Lib.hid (Nat.le_refl _)
      replace ST := Lib.hid (ST.out.below hb)
      clear ho hp hb hc hn hg AGB
      have ⟨_, p0, p1, p2, p3, p4, p5, p6, pf⟩ := ST.out.bv
      go_wp2_with fail
      clear p0 p1 p2 p3 p4 p5 p6 pf
      go_loopw [35] (fun x wr => ∃ i : Nat, i ≤ l2 ∧ x = .int .i64 i ∧ Hid (St w wr k b t (.slice a1' l1 c1') (.slice a2' l2 c2') (.slice a3 l3 c3) (.slice a4 l4 c4)) ∧ Hid (El shape2 14 wr1.heap.size w wr a2' l2 i n) ∧ Hid (Agr w wr1 wr)) (fun x _ => l2 - (intOf x).toNat)
      case atStart => exact ⟨0, Nat.zero_le _, rfl, Lib.hid ⟨ST.out.bv.set4 _, ST.out.br.set_other (by omega) _ _, ST.out.hb.setCell (Nat.le_refl _) _⟩, Lib.hid (El_start HG2.out (Nat.le_refl _) (by have := HB2.out; omega)), Lib.hid (AG'.out.set (by omega) _ _)⟩
      case round =>
        obtain ⟨i, hi, rfl, ST', EL, AG''⟩ := hrel
        clear ST AG AG'
        by_cases hlt : i < l2
        · obtain ⟨g, rfl, hgk, BL⟩ := EL.out (by omega)
          obtain ⟨cs, hcs, hsh, hce⟩ := BL.at_ i hlt
          rw [if_neg (by omega)] at hsh
          obtain ⟨u, y, rfl, hu, hy⟩ := hsh
          have HUu := Lib.hid hu
          have HUy := Lib.hid hy
          have HBL := Lib.hid BL
          have HE := Lib.hid hce
          clear BL hcs hce hu hy
          obtain ⟨uk, ub, ut, ua1, ul1, uc1, ua2, ul2, uc2, ua3, ul3, uc3, ua4, ul4, uc4⟩ := u
          obtain ⟨yk, yb, yt, ya1, yl1, yc1, ya2, yl2, yc2, ya3, yl3, yc3, ya4, yl4, yc4⟩ := y
          have E : CL wr g (i * 14) [.int .i64 uk, .int .u64 ub, .string ut, .slice ua1 ul1 uc1, .slice ua2 ul2 uc2, .slice ua3 ul3 uc3, .slice ua4 ul4 uc4, .int .i64 yk, .int .u64 yb, .string yt, .slice ya1 yl1 yc1, .slice ya2 yl2 yc2, .slice ya3 yl3 yc3, .slice ya4 yl4 yc4] := ⟨HBL.out.lt, HBL.out.fz, fun j u hj => HE.out j u hj⟩
          have e0 := E.at_ 0 _ rfl
          have e1 := E.at_ 1 _ rfl
          have e2 := E.at_ 2 _ rfl
          have e3 := E.at_ 3 _ rfl
          have e4 := E.at_ 4 _ rfl
          have e5 := E.at_ 5 _ rfl
          have e6 := E.at_ 6 _ rfl
          have e7 := E.at_ 7 _ rfl
          have e8 := E.at_ 8 _ rfl
          have e9 := E.at_ 9 _ rfl
          have e10 := E.at_ 10 _ rfl
          have e11 := E.at_ 11 _ rfl
          have e12 := E.at_ 12 _ rfl
          have e13 := E.at_ 13 _ rfl
          simp only [Nat.add_zero] at e0
          have hlc := HC2.out
          have hbX : Below wr.heap.size wr (wr.alloc (.cells #[.int .i64 uk, .int .u64 ub, .string ut, .slice ua1 ul1 uc1, .slice ua2 ul2 uc2, .slice ua3 ul3 uc3, .slice ua4 ul4 uc4, .int .i64 yk, .int .u64 yb, .string yt, .slice ya1 yl1 yc1, .slice ya2 yl2 yc2, .slice ya3 yl3 yc3, .slice ya4 yl4 yc4] 100)).drew := (below_box _ _).drew
          have STX := ST'.out.below hbX
          have EX := E.below hbX
          have BX := (boxL_new wr [.int .i64 uk, .int .u64 ub, .string ut, .slice ua1 ul1 uc1, .slice ua2 ul2 uc2, .slice ua3 ul3 uc3, .slice ua4 ul4 uc4, .int .i64 yk, .int .u64 yb, .string yt, .slice ya1 yl1 yc1, .slice ya2 yl2 yc2, .slice ya3 yl3 yc3, .slice ya4 yl4 yc4] 100).drew
          have BLX := Lib.hid (El_below shape2.imp HBL.out hbX)
          have AGX := AG''.out.below hbX
          have hll : l2 * 256 ≤ 140737488351232 := OK.out.l2
          have hw : wrap64 ((i : Int) + 1) = ((i + 1 : Nat) : Int) := by unfold wrap64; omega
          clear hll
          have hbase := HB2.out
          have hne1 : w.heap.size ≠ g := by omega
          have hne2 : wr.heap.size ≠ g := by have := HBL.out.lt; omega
          have hgl := Nat.lt_of_lt_of_le HBL.out.lt hbX.size
          go_wp2_with fail
          clear hbase e0 e1 e2 e3 e4 e5 e6 e7 e8 e9 e10 e11 e12 e13
          go_region_held3 (fun w' => w'.cell? ⟨w.heap.size, 4, none⟩ = some (.slice (some ⟨g, 0, none⟩) l2 c2') ∧ (w'.cell? ⟨wr.heap.size, 0, none⟩ = some (.int .i64 uk) ∧ w'.cell? ⟨wr.heap.size, 1, none⟩ = some (.int .u64 ub) ∧ w'.cell? ⟨wr.heap.size, 2, none⟩ = some (.string ut) ∧ w'.cell? ⟨wr.heap.size, 3, none⟩ = some (.slice ua1 ul1 uc1) ∧ w'.cell? ⟨wr.heap.size, 4, none⟩ = some (.slice ua2 ul2 uc2) ∧ w'.cell? ⟨wr.heap.size, 5, none⟩ = some (.slice ua3 ul3 uc3) ∧ w'.cell? ⟨wr.heap.size, 6, none⟩ = some (.slice ua4 ul4 uc4) ∧ w'.cell? ⟨wr.heap.size, 7, none⟩ = some (.int .i64 yk) ∧ w'.cell? ⟨wr.heap.size, 8, none⟩ = some (.int .u64 yb) ∧ w'.cell? ⟨wr.heap.size, 9, none⟩ = some (.string yt) ∧ w'.cell? ⟨wr.heap.size, 10, none⟩ = some (.slice ya1 yl1 yc1) ∧ w'.cell? ⟨wr.heap.size, 11, none⟩ = some (.slice ya2 yl2 yc2) ∧ w'.cell? ⟨wr.heap.size, 12, none⟩ = some (.slice ya3 yl3 yc3) ∧ w'.cell? ⟨wr.heap.size, 13, none⟩ = some (.slice ya4 yl4 yc4))) (first | with_reducible exact ⟨STX.bv.c4, c14 BX⟩ | with_reducible exact ⟨((((((((((((((STX.bv.set_other hne1 _ _).set_other hne1 _ _).set_other hne1 _ _).set_other hne1 _ _).set_other hne1 _ _).set_other hne1 _ _).set_other hne1 _ _).set_other hne1 _ _).set_other hne1 _ _).set_other hne1 _ _).set_other hne1 _ _).set_other hne1 _ _).set_other hne1 _ _).set_other hne1 _ _).c4, c14 ((((((((((((((BX.set_other hne2 _ _).set_other hne2 _ _).set_other hne2 _ _).set_other hne2 _ _).set_other hne2 _ _).set_other hne2 _ _).set_other hne2 _ _).set_other hne2 _ _).set_other hne2 _ _).set_other hne2 _ _).set_other hne2 _ _).set_other hne2 _ _).set_other hne2 _ _).set_other hne2 _ _)⟩)
            (first
              | (go_at_call_of 71 (Value.agg #[.int .i64 uk, .int .u64 ub, .string ut, .slice ua1 ul1 uc1, .slice ua2 ul2 uc2, .slice ua3 ul3 uc3, .slice ua4 ul4 uc4]); refine (IH.out ⟨uk, ub, ut, ua1, ul1, uc1, ua2, ul2, uc2, ua3, ul3, uc3, ua4, ul4, uc4⟩ _ (HUu.out.here STX.hb)).mono ?_; rintro _ w2 ⟨x, rfl, _, _, _, _, _, _, _, htr, hb2⟩; (try have Tz := Tz.below hb2); have Tx := new_of (g := g) hgl htr; have hgl := Nat.lt_of_lt_of_le hgl hb2.size; have STX := STX.below hb2; have BX := BX.below hb2; have EX := EX.below hb2; have AGX := AGX.below hb2; have BLX := Lib.hid (El_below shape2.imp BLX.out hb2); clear htr hb2; have F := EX.fz; have f0 := EX.at_ 0 _ rfl; have f1 := EX.at_ 1 _ rfl; have f2 := EX.at_ 2 _ rfl; have f3 := EX.at_ 3 _ rfl; have f4 := EX.at_ 4 _ rfl; have f5 := EX.at_ 5 _ rfl; have f6 := EX.at_ 6 _ rfl; have f7 := EX.at_ 7 _ rfl; have f8 := EX.at_ 8 _ rfl; have f9 := EX.at_ 9 _ rfl; have f10 := EX.at_ 10 _ rfl; have f11 := EX.at_ 11 _ rfl; have f12 := EX.at_ 12 _ rfl; have f13 := EX.at_ 13 _ rfl; simp only [Nat.add_zero] at f0; obtain ⟨xk, xb, xt, xa1, xl1, xc1, xa2, xl2, xc2, xa3, xl3, xc3, xa4, xl4, xc4⟩ := x; simp only [vv])
              | (go_at_call_of 71 (Value.agg #[.int .i64 yk, .int .u64 yb, .string yt, .slice ya1 yl1 yc1, .slice ya2 yl2 yc2, .slice ya3 yl3 yc3, .slice ya4 yl4 yc4]); refine (IH.out ⟨yk, yb, yt, ya1, yl1, yc1, ya2, yl2, yc2, ya3, yl3, yc3, ya4, yl4, yc4⟩ _ (HUy.out.here STX.hb)).mono ?_; rintro _ w2 ⟨z, rfl, _, _, _, _, _, _, _, htr, hb2⟩; (try have Tx := Tx.below hb2); have Tz := new_of (g := g) hgl htr; have hgl := Nat.lt_of_lt_of_le hgl hb2.size; have STX := STX.below hb2; have BX := BX.below hb2; have EX := EX.below hb2; have AGX := AGX.below hb2; have BLX := Lib.hid (El_below shape2.imp BLX.out hb2); clear htr hb2; have F := EX.fz; have f0 := EX.at_ 0 _ rfl; have f1 := EX.at_ 1 _ rfl; have f2 := EX.at_ 2 _ rfl; have f3 := EX.at_ 3 _ rfl; have f4 := EX.at_ 4 _ rfl; have f5 := EX.at_ 5 _ rfl; have f6 := EX.at_ 6 _ rfl; have f7 := EX.at_ 7 _ rfl; have f8 := EX.at_ 8 _ rfl; have f9 := EX.at_ 9 _ rfl; have f10 := EX.at_ 10 _ rfl; have f11 := EX.at_ 11 _ rfl; have f12 := EX.at_ 12 _ rfl; have f13 := EX.at_ 13 _ rfl; simp only [Nat.add_zero] at f0; obtain ⟨zk, zb, zt, za1, zl1, zc1, za2, zl2, zc2, za3, zl3, zc3, za4, zl4, zc4⟩ := z; simp only [vv]))
          all_goals
            have HS := Lib.hid STX
            have HBL2 := BLX
            have HGK := Lib.hid hgk
            have HAG := Lib.hid AGX
            have HTx := Lib.hid Tx
            have HTz := Lib.hid Tz
            clear STX BX EX hbX BLX HBL ST' EL HE E F AGX AG'' hgk hgl hlc Tx Tz f0 f1 f2 f3 f4 f5 f6 f7 f8 f9 f10 f11 f12 f13
            go_wp2_with fail
            rw [set14_eq, hw]
            refine ⟨⟨i + 1, hlt, rfl, Lib.hid (HS.out.setL (Nat.lt_of_lt_of_le HB2.out HGK.out) (i * 14 + 0) [.int .i64 xk, .int .u64 xb, .string xt, .slice xa1 xl1 xc1, .slice xa2 xl2 xc2, .slice xa3 xl3 xc3, .slice xa4 xl4 xc4, .int .i64 zk, .int .u64 zb, .string zt, .slice za1 zl1 zc1, .slice za2 zl2 zc2, .slice za3 zl3 zc3, .slice za4 zl4 zc4]), Lib.hid (fun _ => ⟨g, rfl, HGK.out, El_step shape2.imp hlt HBL2.out [.int .i64 xk, .int .u64 xb, .string xt, .slice xa1 xl1 xc1, .slice xa2 xl2 xc2, .slice xa3 xl3 xc3, .slice xa4 xl4 xc4, .int .i64 zk, .int .u64 zb, .string zt, .slice za1 zl1 zc1, .slice za2 zl2 zc2, .slice za3 zl3 zc3, .slice za4 zl4 zc4] rfl (by decide) (fun cs _ => ⟨⟨xk, xb, xt, xa1, xl1, xc1, xa2, xl2, xc2, xa3, xl3, xc3, xa4, xl4, xc4⟩, ⟨zk, zb, zt, za1, zl1, zc1, za2, zl2, zc2, za3, zl3, zc3, za4, zl4, zc4⟩, rfl, HTx.out, HTz.out⟩)⟩), Lib.hid (HAG.out.setL HGK.out (i * 14 + 0) [.int .i64 xk, .int .u64 xb, .string xt, .slice xa1 xl1 xc1, .slice xa2 xl2 xc2, .slice xa3 xl3 xc3, .slice xa4 xl4 xc4, .int .i64 zk, .int .u64 zb, .string zt, .slice za1 zl1 zc1, .slice za2 zl2 zc2, .slice za3 zl3 zc3, .slice za4 zl4 zc4])⟩, meas hlt⟩
        · obtain rfl : l2 = i := by omega
          have RD2 := Lib.hid (El_done shape2.imp HB2.out EL.out HC2.out HN2.out)
          replace RD1 := Lib.hid (RD1.out.agr shape1.imp AG''.out)
          have ST := ST'
          have AG : Hid (Agr w wr wr) := Lib.hid (Agr.refl _ _)
          clear EL AG'' ST' hlt hi HC2 HG2 HB2 HM2
          obtain ⟨wr2, hwr⟩ : ∃ z, z = wr := ⟨_, rfl⟩
          subst hwr
          have ⟨_, p0, p1, p2, p3, p4, p5, p6, pf⟩ := ST.out.bv
          go_wp2_with fail
          clear p0 p1 p2 p3 p4 p5 p6 pf
          refine (C3.out _ (H3.out.mono (fun _ h => h) (fun b hb => ST.out.hb.block b hb) (fun _ h => h))).mono ?_
          rintro _ ww3 ⟨vv3, nn3, rfl, ho, hp, hb⟩
          obtain ⟨a3', c3', rfl, hc, hn, hg⟩ := blk_of_own ho hp
          have HC3 := Lib.hid hc
          have HN3 := Lib.hid hn
          have HG3 := Lib.hid hg
          have HB3 : Hid (w.heap.size + 1 < wr2.heap.size) := Lib.hid ST.out.br.lt
          have AG' := Lib.hid (AG.out.below hb)
          have AGB : Hid (wr2.heap.size ≤ wr2.heap.size) := Lib.hid (Nat.le_refl _)
          have HM3 : Hid (wr2.heap.size ≤ wr2.heap.size) := Lib.hid (Nat.le_refl _)
          replace ST := Lib.hid (ST.out.below hb)
          clear ho hp hb hc hn hg AGB
          have ⟨_, p0, p1, p2, p3, p4, p5, p6, pf⟩ := ST.out.bv
          go_wp2_with fail
          clear p0 p1 p2 p3 p4 p5 p6 pf
          go_loopw [59] (fun x wr => ∃ i : Nat, i ≤ l3 ∧ x = .int .i64 i ∧ Hid (St w wr k b t (.slice a1' l1 c1') (.slice a2' l2 c2') (.slice a3' l3 c3') (.slice a4 l4 c4)) ∧ Hid (El shape3 8 wr2.heap.size w wr a3' l3 i n) ∧ Hid (Agr w wr2 wr)) (fun x _ => l3 - (intOf x).toNat)
          case atStart => exact ⟨0, Nat.zero_le _, rfl, Lib.hid ⟨ST.out.bv.set5 _, ST.out.br.set_other (by omega) _ _, ST.out.hb.setCell (Nat.le_refl _) _⟩, Lib.hid (El_start HG3.out (Nat.le_refl _) (by have := HB3.out; omega)), Lib.hid (AG'.out.set (by omega) _ _)⟩
          case round =>
            obtain ⟨i, hi, rfl, ST', EL, AG''⟩ := hrel
            clear ST AG AG'
            by_cases hlt : i < l3
            · obtain ⟨g, rfl, hgk, BL⟩ := EL.out (by omega)
              obtain ⟨cs, hcs, hsh, hce⟩ := BL.at_ i hlt
              rw [if_neg (by omega)] at hsh
              obtain ⟨mm, u, rfl, hu⟩ := hsh
              have HUu := Lib.hid hu
              have HBL := Lib.hid BL
              have HE := Lib.hid hce
              clear BL hcs hce hu
              obtain ⟨uk, ub, ut, ua1, ul1, uc1, ua2, ul2, uc2, ua3, ul3, uc3, ua4, ul4, uc4⟩ := u
              have E : CL wr g (i * 8) [.int .i64 mm, .int .i64 uk, .int .u64 ub, .string ut, .slice ua1 ul1 uc1, .slice ua2 ul2 uc2, .slice ua3 ul3 uc3, .slice ua4 ul4 uc4] := ⟨HBL.out.lt, HBL.out.fz, fun j u hj => HE.out j u hj⟩
              have e0 := E.at_ 0 _ rfl
              have e1 := E.at_ 1 _ rfl
              have e2 := E.at_ 2 _ rfl
              have e3 := E.at_ 3 _ rfl
              have e4 := E.at_ 4 _ rfl
              have e5 := E.at_ 5 _ rfl
              have e6 := E.at_ 6 _ rfl
              have e7 := E.at_ 7 _ rfl
              simp only [Nat.add_zero] at e0
              have hlc := HC3.out
              have hbX : Below wr.heap.size wr (wr.alloc (.cells #[.int .i64 mm, .int .i64 uk, .int .u64 ub, .string ut, .slice ua1 ul1 uc1, .slice ua2 ul2 uc2, .slice ua3 ul3 uc3, .slice ua4 ul4 uc4] 103)).drew := (below_box _ _).drew
              have STX := ST'.out.below hbX
              have EX := E.below hbX
              have BX := (boxL_new wr [.int .i64 mm, .int .i64 uk, .int .u64 ub, .string ut, .slice ua1 ul1 uc1, .slice ua2 ul2 uc2, .slice ua3 ul3 uc3, .slice ua4 ul4 uc4] 103).drew
              have BLX := Lib.hid (El_below shape3.imp HBL.out hbX)
              have AGX := AG''.out.below hbX
              have hll : l3 * 136 ≤ 140737488351232 := OK.out.l3
              have hw : wrap64 ((i : Int) + 1) = ((i + 1 : Nat) : Int) := by unfold wrap64; omega
              clear hll
              have hbase := HB3.out
              have hne1 : w.heap.size ≠ g := by omega
              have hne2 : wr.heap.size ≠ g := by have := HBL.out.lt; omega
              have hgl := Nat.lt_of_lt_of_le HBL.out.lt hbX.size
              go_wp2_with fail
              clear hbase e0 e1 e2 e3 e4 e5 e6 e7
              go_region_held3 (fun w' => w'.cell? ⟨w.heap.size, 5, none⟩ = some (.slice (some ⟨g, 0, none⟩) l3 c3') ∧ (w'.cell? ⟨wr.heap.size, 0, none⟩ = some (.int .i64 mm) ∧ w'.cell? ⟨wr.heap.size, 1, none⟩ = some (.int .i64 uk) ∧ w'.cell? ⟨wr.heap.size, 2, none⟩ = some (.int .u64 ub) ∧ w'.cell? ⟨wr.heap.size, 3, none⟩ = some (.string ut) ∧ w'.cell? ⟨wr.heap.size, 4, none⟩ = some (.slice ua1 ul1 uc1) ∧ w'.cell? ⟨wr.heap.size, 5, none⟩ = some (.slice ua2 ul2 uc2) ∧ w'.cell? ⟨wr.heap.size, 6, none⟩ = some (.slice ua3 ul3 uc3) ∧ w'.cell? ⟨wr.heap.size, 7, none⟩ = some (.slice ua4 ul4 uc4))) (first | with_reducible exact ⟨STX.bv.c5, c8 BX⟩ | with_reducible exact ⟨(((((((STX.bv.set_other hne1 _ _).set_other hne1 _ _).set_other hne1 _ _).set_other hne1 _ _).set_other hne1 _ _).set_other hne1 _ _).set_other hne1 _ _).c5, c8 (((((((BX.set_other hne2 _ _).set_other hne2 _ _).set_other hne2 _ _).set_other hne2 _ _).set_other hne2 _ _).set_other hne2 _ _).set_other hne2 _ _)⟩)
                (first
                  | (go_at_call 71; refine (IH.out ⟨uk, ub, ut, ua1, ul1, uc1, ua2, ul2, uc2, ua3, ul3, uc3, ua4, ul4, uc4⟩ _ (HUu.out.here STX.hb)).mono ?_; rintro _ w2 ⟨x, rfl, _, _, _, _, _, _, _, htr, hb2⟩; have Tx := new_of (g := g) hgl htr; have hgl := Nat.lt_of_lt_of_le hgl hb2.size; have STX := STX.below hb2; have BX := BX.below hb2; have EX := EX.below hb2; have AGX := AGX.below hb2; have BLX := Lib.hid (El_below shape3.imp BLX.out hb2); clear htr hb2; have F := EX.fz; have f0 := EX.at_ 0 _ rfl; have f1 := EX.at_ 1 _ rfl; have f2 := EX.at_ 2 _ rfl; have f3 := EX.at_ 3 _ rfl; have f4 := EX.at_ 4 _ rfl; have f5 := EX.at_ 5 _ rfl; have f6 := EX.at_ 6 _ rfl; have f7 := EX.at_ 7 _ rfl; simp only [Nat.add_zero] at f0; obtain ⟨xk, xb, xt, xa1, xl1, xc1, xa2, xl2, xc2, xa3, xl3, xc3, xa4, xl4, xc4⟩ := x; simp only [vv]))
              all_goals
                have HS := Lib.hid STX
                have HBL2 := BLX
                have HGK := Lib.hid hgk
                have HAG := Lib.hid AGX
                have HTx := Lib.hid Tx
                clear STX BX EX hbX BLX HBL ST' EL HE E F AGX AG'' hgk hgl hlc Tx f0 f1 f2 f3 f4 f5 f6 f7
                go_wp2_with fail
                rw [set8_eq, hw]
                refine ⟨⟨i + 1, hlt, rfl, Lib.hid (HS.out.setL (Nat.lt_of_lt_of_le HB3.out HGK.out) (i * 8 + 1) [.int .i64 xk, .int .u64 xb, .string xt, .slice xa1 xl1 xc1, .slice xa2 xl2 xc2, .slice xa3 xl3 xc3, .slice xa4 xl4 xc4]), Lib.hid (fun _ => ⟨g, rfl, HGK.out, El_step shape3.imp hlt HBL2.out [.int .i64 xk, .int .u64 xb, .string xt, .slice xa1 xl1 xc1, .slice xa2 xl2 xc2, .slice xa3 xl3 xc3, .slice xa4 xl4 xc4] rfl (by decide) (fun cs ⟨m0, u0, e0, _⟩ => by rw [e0]; exact ⟨m0, ⟨xk, xb, xt, xa1, xl1, xc1, xa2, xl2, xc2, xa3, xl3, xc3, xa4, xl4, xc4⟩, rfl, HTx.out⟩)⟩), Lib.hid (HAG.out.setL HGK.out (i * 8 + 1) [.int .i64 xk, .int .u64 xb, .string xt, .slice xa1 xl1 xc1, .slice xa2 xl2 xc2, .slice xa3 xl3 xc3, .slice xa4 xl4 xc4])⟩, meas hlt⟩
            · obtain rfl : l3 = i := by omega
              have RD3 := Lib.hid (El_done shape3.imp HB3.out EL.out HC3.out HN3.out)
              replace RD1 := Lib.hid (RD1.out.agr shape1.imp AG''.out)
              replace RD2 := Lib.hid (RD2.out.agr shape2.imp AG''.out)
              have ST := ST'
              have AG : Hid (Agr w wr wr) := Lib.hid (Agr.refl _ _)
              clear EL AG'' ST' hlt hi HC3 HG3 HB3 HM3
              obtain ⟨wr3, hwr⟩ : ∃ z, z = wr := ⟨_, rfl⟩
              subst hwr
              have ⟨_, p0, p1, p2, p3, p4, p5, p6, pf⟩ := ST.out.bv
              go_wp2_with fail
              clear p0 p1 p2 p3 p4 p5 p6 pf
              refine (C4.out _ (H4.out.mono (fun _ h => h) (fun b hb => ST.out.hb.block b hb) (fun _ h => h))).mono ?_
              rintro _ w5 ⟨v4, n4, rfl, ho, hp, hb⟩
              obtain ⟨a4', c4', rfl, hc, hn, hg⟩ := blk_of_own ho hp
              have HG := Lib.hid hg
              have HC := Lib.hid hc
              have HN := Lib.hid hn
              have HB : Hid (w.heap.size + 1 < wr3.heap.size) := Lib.hid ST.out.br.lt
              have AG' := Lib.hid (AG.out.below hb)
              replace ST := Lib.hid (ST.out.below hb)
              clear ho hp hb hg hc hn AG
              have ⟨_, p0, p1, p2, p3, p4, p5, p6, pf⟩ := ST.out.bv
              have ⟨_, q0, q1, q2, q3, q4, q5, q6, qf⟩ := ST.out.br
              go_wp2_with fail
              exact bodyPost_ret (v := .agg #[.int .i64 k, .int .u64 b, .string t, .slice a1' l1 c1', .slice a2' l2 c2', .slice a3' l3 c3', .slice a4' l4 c4']) (by simp [results, Tryd.results71, go_sem, q0, q1, q2, q3, q4, q5, q6]) rfl
                ⟨⟨k, b, t, a1', l1, c1', a2', l2, c2', a3', l3, c3', a4', l4, c4'⟩, rfl, rfl, rfl, rfl, rfl, rfl, rfl, rfl, tree_done ⟨OK.out.k, OK.out.b, OK.out.t, OK.out.l1, OK.out.l2, OK.out.l3, OK.out.l4⟩ RD1.out RD2.out RD3.out HB.out (show El (fun _ => rawC) 4 _ w w5 a4' l4 l4 n from HG.out) HC.out HN.out AG'.out (((((((((Agr.refl w w5).set (by omega) _ _).set (by omega) _ _).set (by omega) _ _).set (by omega) _ _).set (by omega) _ _).set (by omega) _ _).set (by omega) _ _).set (by omega) _ _), ((((((((ST.out.hb.setCell (by simp) _).setCell (by simp) _).setCell (by simp) _).setCell (by simp) _).setCell (by simp) _).setCell (by simp) _).setCell (by simp) _).setCell (by simp) _)⟩

theorem clone_any : ∀ n, CloneHas n
  | 0 => fun _ _ h => h.elim
  | n + 1 => step n (clone_any n)
end Go.Proofs.YthjpchnogllliaaDoor.CloC

/- The program's Norm: a copy, and the one form of NaN. -/
set_option linter.unusedSimpArgs false
set_option linter.unusedVariables false
namespace Go.Proofs.YthjpchnogllliaaDoor.NorP
open Go.RowKit Nums Byt UtfM UtfS ScaM ScaV ScaA ScaB ScaC ScpM ScpA Opn Val Box CloM CloA CloB CloC

theorem Tree_bits {w : World} {S : Nat → Prop} : ∀ {n : Nat} {v : SV} (b : Nat), b ≤ 18446744073709551615 → Tree w S n v → Tree w S n { v with b := b }
  | 0, _, _, _, h => h.elim
  | n + 1, v, b, hb, ⟨h0, h1, h2, h3, h4⟩ => ⟨⟨h0.k, hb, h0.t, h0.l1, h0.l2, h0.l3, h0.l4⟩, h1, h2, h3, h4⟩
theorem tree_fin {w w0 w1 W : World} {n : Nat} {v : SV} (h0 : w.heap.size + 1 < w0.heap.size) (h : Tree w1 (fun b => w0.heap.size ≤ b ∧ b < w1.heap.size) n v) (k : Agr w w1 W) : Tree W (fun b => w.heap.size ≤ b ∧ b < W.heap.size) n v :=
  Tree.mono (fun b hb => ⟨by have := hb.1; omega, Nat.lt_of_lt_of_le hb.2 k.size⟩) (fun b hb => k.block b (by have := hb.1; omega) hb.2) h
theorem nan_i : (nanN : Int) = 9221120237041090560 := rfl

set_option maxHeartbeats 4000000 in
set_option maxRecDepth 100000 in
theorem norm_p (n : Nat) (v : SV) (w : World) (hv : Tree w (· < w.heap.size) n v) : Calls Tryd.prog 49 #[vv v] w fun e w' => ∃ v', e = .returned (vv v') ∧ sc v' = normV (sc v) ∧ Tree w' (fun b => w.heap.size ≤ b ∧ b < w'.heap.size) n v' ∧ Below w.heap.size w w' := by
  have ok := hv.ok
  have HC := Lib.hid fun w => class_p v.b ok.b w
  have HV := Lib.hid hv
  clear ok hv
  obtain ⟨k, b, t, a1, l1, c1, a2, l2, c2, a3, l3, c3, a4, l4, c4⟩ := v
  simp only [vv] at *
  go_enter Tryd.func49, Tryd.ntmps49
  go_wp2_with fail
  obtain ⟨w0, hw0⟩ : ∃ w0, w0 = (w.alloc (.cells #[.int .i64 k, .int .u64 b, .string t, .slice a1 l1 c1, .slice a2 l2 c2, .slice a3 l3 c3, .slice a4 l4 c4] 34)).alloc (.cells #[.int .i64 0, .int .u64 0, .string ⟨#[]⟩, .slice none 0 0, .slice none 0 0, .slice none 0 0, .slice none 0 0] 34) := ⟨_, rfl⟩
  have ST : Hid (St w w0 k b t (.slice a1 l1 c1) (.slice a2 l2 c2) (.slice a3 l3 c3) (.slice a4 l4 c4)) := Lib.hid (by
    rw [hw0]
    exact ⟨(b7_new w _ _ _ _ _ _ _ _).alloc _, by have := b7_new (w.alloc (.cells #[.int .i64 k, .int .u64 b, .string t, .slice a1 l1 c1, .slice a2 l2 c2, .slice a3 l3 c3, .slice a4 l4 c4] 34)) (.int .i64 0) (.int .u64 0) (.string ⟨#[]⟩) (.slice none 0 0) (.slice none 0 0) (.slice none 0 0) (.slice none 0 0) 34; simpa using this, bt (below_box _ _) (below_box _ _)⟩)
  rw [← hw0]
  clear hw0
  refine (clone_any n ⟨k, b, t, a1, l1, c1, a2, l2, c2, a3, l3, c3, a4, l4, c4⟩ w0 (Old.here (w := w) HV.out ST.out.hb)).mono ?_
  rintro _ w1 ⟨v', rfl, h1, h2, h3, h4, h5, h6, h7, htr, hb⟩
  obtain ⟨xk, xb, xt, xa1, xl1, xc1, xa2, xl2, xc2, xa3, xl3, xc3, xa4, xl4, xc4⟩ := v'
  simp only at h1 h2 h3 h4 h5 h6 h7
  subst h1 h2 h3 h4 h5 h6 h7
  simp only [vv]
  have HS0 := Lib.hid ST.out.br.lt
  replace ST := Lib.hid (ST.out.below hb)
  have HT := Lib.hid htr
  clear htr hb HV
  have ⟨_, p0, p1, p2, p3, p4, p5, p6, pf⟩ := ST.out.bv
  have ⟨_, q0, q1, q2, q3, q4, q5, q6, qf⟩ := ST.out.br
  cases e6 : (xk == 6) with
  | false =>
    have hnv : sc ⟨xk, xb, xt, xa1, xl1, xc1, xa2, xl2, xc2, xa3, xl3, xc3, xa4, xl4, xc4⟩ = normV (sc ⟨xk, xb, xt, a1, xl1, c1, a2, xl2, c2, a3, xl3, c3, a4, xl4, c4⟩) := by
      unfold normV
      rw [if_neg]
      · rfl
      · intro h; have := h.1; simp only [sc] at this; rw [this] at e6; cases e6
    have HN := Lib.hid hnv
    clear hnv
    go_wp2_with fail
    exact bodyPost_ret (v := .agg #[.int .i64 xk, .int .u64 xb, .string xt, .slice xa1 xl1 xc1, .slice xa2 xl2 xc2, .slice xa3 xl3 xc3, .slice xa4 xl4 xc4]) (by simp [results, Tryd.results49, go_sem, q0, q1, q2, q3, q4, q5, q6]) rfl ⟨⟨xk, xb, xt, xa1, xl1, xc1, xa2, xl2, xc2, xa3, xl3, xc3, xa4, xl4, xc4⟩, rfl, HN.out, tree_fin HS0.out HT.out (((((((((((((((Agr.refl w w1).set (by omega) _ _).set (by omega) _ _).set (by omega) _ _).set (by omega) _ _).set (by omega) _ _).set (by omega) _ _).set (by omega) _ _).set (by omega) _ _).set (by omega) _ _).set (by omega) _ _).set (by omega) _ _).set (by omega) _ _).set (by omega) _ _).set (by omega) _ _), ((((((((((((((ST.out.hb.setCell (by simp) _).setCell (by simp) _).setCell (by simp) _).setCell (by simp) _).setCell (by simp) _).setCell (by simp) _).setCell (by simp) _).setCell (by simp) _).setCell (by simp) _).setCell (by simp) _).setCell (by simp) _).setCell (by simp) _).setCell (by simp) _).setCell (by simp) _)⟩
  | true =>
    cases ec : (clsN xb == 0) with
    | false =>
      have hnv : sc ⟨xk, xb, xt, xa1, xl1, xc1, xa2, xl2, xc2, xa3, xl3, xc3, xa4, xl4, xc4⟩ = normV (sc ⟨xk, xb, xt, a1, xl1, c1, a2, xl2, c2, a3, xl3, c3, a4, xl4, c4⟩) := by
        unfold normV
        rw [if_neg]
        · rfl
        · intro h; have := h.2; simp only [sc] at this; rw [this] at ec; cases ec
      have HN := Lib.hid hnv
      clear hnv
      go_wp2_with (go_at_call 72; refine (HC.out _).mono ?_; rintro _ _ ⟨rfl, rfl⟩)
      exact bodyPost_ret (v := .agg #[.int .i64 xk, .int .u64 xb, .string xt, .slice xa1 xl1 xc1, .slice xa2 xl2 xc2, .slice xa3 xl3 xc3, .slice xa4 xl4 xc4]) (by simp [results, Tryd.results49, go_sem, q0, q1, q2, q3, q4, q5, q6]) rfl ⟨⟨xk, xb, xt, xa1, xl1, xc1, xa2, xl2, xc2, xa3, xl3, xc3, xa4, xl4, xc4⟩, rfl, HN.out, tree_fin HS0.out HT.out (((((((((((((((Agr.refl w w1).set (by omega) _ _).set (by omega) _ _).set (by omega) _ _).set (by omega) _ _).set (by omega) _ _).set (by omega) _ _).set (by omega) _ _).set (by omega) _ _).set (by omega) _ _).set (by omega) _ _).set (by omega) _ _).set (by omega) _ _).set (by omega) _ _).set (by omega) _ _), ((((((((((((((ST.out.hb.setCell (by simp) _).setCell (by simp) _).setCell (by simp) _).setCell (by simp) _).setCell (by simp) _).setCell (by simp) _).setCell (by simp) _).setCell (by simp) _).setCell (by simp) _).setCell (by simp) _).setCell (by simp) _).setCell (by simp) _).setCell (by simp) _).setCell (by simp) _)⟩
    | true =>
      have hnv : sc ⟨xk, nanN, xt, xa1, xl1, xc1, xa2, xl2, xc2, xa3, xl3, xc3, xa4, xl4, xc4⟩ = normV (sc ⟨xk, xb, xt, a1, xl1, c1, a2, xl2, c2, a3, xl3, c3, a4, xl4, c4⟩) := by
        unfold normV
        rw [if_pos]
        · rfl
        · exact ⟨eq_of_beq e6, eq_of_beq ec⟩
      have HN := Lib.hid hnv
      have HT2 := Lib.hid (Tree_bits nanN (by unfold nanN; omega) HT.out)
      clear hnv
      go_upto_region 4 with (go_at_call 72; refine (HC.out _).mono ?_; rintro _ _ ⟨rfl, rfl⟩)
      rw [← nan_i]
      have BV := ((((((((ST.out.bv.set0 (.int .i64 xk)).set1 (.int .u64 xb)).set2 (.string xt)).set3 (.slice xa1 xl1 xc1)).set4 (.slice xa2 xl2 xc2)).set5 (.slice xa3 xl3 xc3)).set6 (.slice xa4 xl4 xc4)).set1 (.int .u64 nanN))
      have BR := ((((((((ST.out.br.set_other (q := w.heap.size) (by omega) 0 (.int .i64 xk)).set_other (q := w.heap.size) (by omega) 1 (.int .u64 xb)).set_other (q := w.heap.size) (by omega) 2 (.string xt)).set_other (q := w.heap.size) (by omega) 3 (.slice xa1 xl1 xc1)).set_other (q := w.heap.size) (by omega) 4 (.slice xa2 xl2 xc2)).set_other (q := w.heap.size) (by omega) 5 (.slice xa3 xl3 xc3)).set_other (q := w.heap.size) (by omega) 6 (.slice xa4 xl4 xc4)).set_other (q := w.heap.size) (by omega) 1 (.int .u64 nanN))
      have HW : Below w.heap.size w ((((((((w1.setCell ⟨w.heap.size, 0, none⟩ (.int .i64 xk)).setCell ⟨w.heap.size, 1, none⟩ (.int .u64 xb)).setCell ⟨w.heap.size, 2, none⟩ (.string xt)).setCell ⟨w.heap.size, 3, none⟩ (.slice xa1 xl1 xc1)).setCell ⟨w.heap.size, 4, none⟩ (.slice xa2 xl2 xc2)).setCell ⟨w.heap.size, 5, none⟩ (.slice xa3 xl3 xc3)).setCell ⟨w.heap.size, 6, none⟩ (.slice xa4 xl4 xc4)).setCell ⟨w.heap.size, 1, none⟩ (.int .u64 nanN)) := ((((((((ST.out.hb.setCell (Nat.le_refl _) (.int .i64 xk)).setCell (Nat.le_refl _) (.int .u64 xb)).setCell (Nat.le_refl _) (.string xt)).setCell (Nat.le_refl _) (.slice xa1 xl1 xc1)).setCell (Nat.le_refl _) (.slice xa2 xl2 xc2)).setCell (Nat.le_refl _) (.slice xa3 xl3 xc3)).setCell (Nat.le_refl _) (.slice xa4 xl4 xc4)).setCell (Nat.le_refl _) (.int .u64 nanN))
      have AW : Agr w w1 ((((((((w1.setCell ⟨w.heap.size, 0, none⟩ (.int .i64 xk)).setCell ⟨w.heap.size, 1, none⟩ (.int .u64 xb)).setCell ⟨w.heap.size, 2, none⟩ (.string xt)).setCell ⟨w.heap.size, 3, none⟩ (.slice xa1 xl1 xc1)).setCell ⟨w.heap.size, 4, none⟩ (.slice xa2 xl2 xc2)).setCell ⟨w.heap.size, 5, none⟩ (.slice xa3 xl3 xc3)).setCell ⟨w.heap.size, 6, none⟩ (.slice xa4 xl4 xc4)).setCell ⟨w.heap.size, 1, none⟩ (.int .u64 nanN)) := (((((((((Agr.refl w w1).set (q := w.heap.size) (by omega) 0 (.int .i64 xk)).set (q := w.heap.size) (by omega) 1 (.int .u64 xb)).set (q := w.heap.size) (by omega) 2 (.string xt)).set (q := w.heap.size) (by omega) 3 (.slice xa1 xl1 xc1)).set (q := w.heap.size) (by omega) 4 (.slice xa2 xl2 xc2)).set (q := w.heap.size) (by omega) 5 (.slice xa3 xl3 xc3)).set (q := w.heap.size) (by omega) 6 (.slice xa4 xl4 xc4)).set (q := w.heap.size) (by omega) 1 (.int .u64 nanN))
      clear p0 p1 p2 p3 p4 p5 p6 pf q0 q1 q2 q3 q4 q5 q6 qf
      generalize ((((((((w1.setCell ⟨w.heap.size, 0, none⟩ (.int .i64 xk)).setCell ⟨w.heap.size, 1, none⟩ (.int .u64 xb)).setCell ⟨w.heap.size, 2, none⟩ (.string xt)).setCell ⟨w.heap.size, 3, none⟩ (.slice xa1 xl1 xc1)).setCell ⟨w.heap.size, 4, none⟩ (.slice xa2 xl2 xc2)).setCell ⟨w.heap.size, 5, none⟩ (.slice xa3 xl3 xc3)).setCell ⟨w.heap.size, 6, none⟩ (.slice xa4 xl4 xc4)).setCell ⟨w.heap.size, 1, none⟩ (.int .u64 nanN)) = W at *
      obtain ⟨_, p0, p1, p2, p3, p4, p5, p6, pf⟩ := BV
      obtain ⟨_, q0, q1, q2, q3, q4, q5, q6, qf⟩ := BR
      go_wp2_with fail
      exact bodyPost_ret (v := .agg #[.int .i64 xk, .int .u64 nanN, .string xt, .slice xa1 xl1 xc1, .slice xa2 xl2 xc2, .slice xa3 xl3 xc3, .slice xa4 xl4 xc4]) (by simp [results, Tryd.results49, go_sem, q0, q1, q2, q3, q4, q5, q6]) rfl ⟨⟨xk, nanN, xt, xa1, xl1, xc1, xa2, xl2, xc2, xa3, xl3, xc3, xa4, xl4, xc4⟩, rfl, HN.out, tree_fin HS0.out HT2.out (((((((AW.set (by omega) _ _).set (by omega) _ _).set (by omega) _ _).set (by omega) _ _).set (by omega) _ _).set (by omega) _ _).set (by omega) _ _), (((((((HW.setCell (by simp) _).setCell (by simp) _).setCell (by simp) _).setCell (by simp) _).setCell (by simp) _).setCell (by simp) _).setCell (by simp) _)⟩
end Go.Proofs.YthjpchnogllliaaDoor.NorP
