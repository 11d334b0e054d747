/- The library's Clone at the four slices of a value. -/
import Derived.Test.YtgjbpadhdnclnaaGreatDoorCloM
import Derived.Shelf.Slices.Clone
set_option linter.unusedSimpArgs false
set_option linter.unusedVariables false
namespace Go.Proofs.YtgjbpadhdnclnaaGreatDoor.CloA
open Go.RowKit Nums Byt UtfM UtfS ScaM ScaV Opn Val Box CloM

theorem infoV : (Tryz.prog.info? 28).map (fun i => (i.zero, i.size, i.bytes)) = some (some (.agg #[.int .i64 0, .int .u64 0, .string ⟨#[]⟩, .slice none 0 0, .slice none 0 0, .slice none 0 0, .slice none 0 0]), 7, 128) := by kernel_rfl
set_option maxHeartbeats 1000000 in
set_option maxRecDepth 100000 in
theorem cloneV (a : Option Addr) (l c : Nat) (P : List Value → Prop) (w : World) (S : Nat → Prop) (hr : Row w S 7 a l c P) (hl : l * 128 ≤ 140737488351232) (hone : ∀ cs, P cs → ∀ u ∈ cs, u.oneCell' = true) :
    Calls Tryz.prog 72 #[.slice a l c] w fun e w' => ∃ v' news, e = .returned v' ∧ w'.ownsRow w.heap.size 28 7 v' l news ∧ Parts 7 l (fun _ => P) news ∧ Below w.heap.size w w' := by
  obtain ⟨i0, hi, hz0, hz1, hz2⟩ := info_parts infoV
  have qn : ∀ (w : World) (a : Option Addr) (n c n' c' : Nat), (binOp .eql 23 (.slice a n c) (.slice none n' c')).run Tryz.prog w = .ok (.bool a.isNone) w := fun w a n c n' c' => Lib.run_eql_slice_nil w _ _ a n c n' c' Tryz.underlying23
  cases a with
  | none =>
    obtain ⟨rfl, rfl⟩ := hr.nil rfl
    clear hr hl
    go_enter Tryz.func72, Tryz.ntmps72
    go_wp2_with fail
    go_ret
    exact ⟨_, [], rfl, World.ownsRow_nil _ _ _ _, ⟨by simp, fun i hi => by omega⟩, Below.refl _ _⟩
  | some ad =>
    obtain ⟨h0, _, h2⟩ := hr.at_ ad rfl
    obtain ⟨news, hp, hc⟩ := parts_of l h2
    have A : Aside (∀ j u, news[j]? = some u → w.cell? (ad.add j) = some u) := hc
    have HP := Lib.hid hp
    have HL := Lib.hid hl
    have HO := Lib.hid hone
    clear hc h0 h2 hr hp hl hone
    go_enter Tryz.func72, Tryz.ntmps72
    go_wp2_with (at_builtin; refine wpList_append_own _ rfl _ _ 23 rfl w.heap.size 28 i0 _ 7 128 Tryz.underlying23 hi hz0 hz1 hz2 rfl (by decide) _ _ _ rfl (World.ownsRow_made w #[] 0 (Nat.le_refl _) (Nat.zero_le _) rfl) ad l c news rfl ?qc1 ?qc2 ?qc3 ?qc4 ?qc5 ?qc6 ?_)
    case qc1 => exact HP.out.1
    case qc2 =>
      intro j u hj
      exact Lib.cell?_alloc_some _ (A.out j u hj)
    case qc3 => exact HP.out.one (by decide) (fun _ cs h => HO.out cs h)
    case qc4 => have := HL.out; unfold maxLen; omega
    case qc5 => have := HL.out; omega
    case qc6 => simp
    intro v' w1 hown hgrow hnil
    go_wp2
    go_ret
    exact ⟨v', news, rfl, by simpa using hown, HP.out, ((Below.refl _ w).alloc (Nat.le_refl _) _).grown hgrow (by simp) (by intro k hk; simp [Value.ownBlock] at hk; omega)⟩

theorem infoP : (Tryz.prog.info? 83).map (fun i => (i.zero, i.size, i.bytes)) = some (some (.agg #[.int .i64 0, .int .u64 0, .string ⟨#[]⟩, .slice none 0 0, .slice none 0 0, .slice none 0 0, .slice none 0 0, .int .i64 0, .int .u64 0, .string ⟨#[]⟩, .slice none 0 0, .slice none 0 0, .slice none 0 0, .slice none 0 0]), 14, 256) := by kernel_rfl
set_option maxHeartbeats 1000000 in
set_option maxRecDepth 100000 in
theorem cloneP (a : Option Addr) (l c : Nat) (P : List Value → Prop) (w : World) (S : Nat → Prop) (hr : Row w S 14 a l c P) (hl : l * 256 ≤ 140737488351232) (hone : ∀ cs, P cs → ∀ u ∈ cs, u.oneCell' = true) :
    Calls Tryz.prog 73 #[.slice a l c] w fun e w' => ∃ v' news, e = .returned v' ∧ w'.ownsRow w.heap.size 83 14 v' l news ∧ Parts 14 l (fun _ => P) news ∧ Below w.heap.size w w' := by
  obtain ⟨i0, hi, hz0, hz1, hz2⟩ := info_parts infoP
  have qn : ∀ (w : World) (a : Option Addr) (n c n' c' : Nat), (binOp .eql 24 (.slice a n c) (.slice none n' c')).run Tryz.prog w = .ok (.bool a.isNone) w := fun w a n c n' c' => Lib.run_eql_slice_nil w _ _ a n c n' c' Tryz.underlying24
  cases a with
  | none =>
    obtain ⟨rfl, rfl⟩ := hr.nil rfl
    clear hr hl
    go_enter Tryz.func73, Tryz.ntmps73
    go_wp2_with fail
    go_ret
    exact ⟨_, [], rfl, World.ownsRow_nil _ _ _ _, ⟨by simp, fun i hi => by omega⟩, Below.refl _ _⟩
  | some ad =>
    obtain ⟨h0, _, h2⟩ := hr.at_ ad rfl
    obtain ⟨news, hp, hc⟩ := parts_of l h2
    have A : Aside (∀ j u, news[j]? = some u → w.cell? (ad.add j) = some u) := hc
    have HP := Lib.hid hp
    have HL := Lib.hid hl
    have HO := Lib.hid hone
    clear hc h0 h2 hr hp hl hone
    go_enter Tryz.func73, Tryz.ntmps73
    go_wp2_with (at_builtin; refine wpList_append_own _ rfl _ _ 24 rfl w.heap.size 83 i0 _ 14 256 Tryz.underlying24 hi hz0 hz1 hz2 rfl (by decide) _ _ _ rfl (World.ownsRow_made w #[] 0 (Nat.le_refl _) (Nat.zero_le _) rfl) ad l c news rfl ?qc1 ?qc2 ?qc3 ?qc4 ?qc5 ?qc6 ?_)
    case qc1 => exact HP.out.1
    case qc2 =>
      intro j u hj
      exact Lib.cell?_alloc_some _ (A.out j u hj)
    case qc3 => exact HP.out.one (by decide) (fun _ cs h => HO.out cs h)
    case qc4 => have := HL.out; unfold maxLen; omega
    case qc5 => have := HL.out; omega
    case qc6 => simp
    intro v' w1 hown hgrow hnil
    go_wp2
    go_ret
    exact ⟨v', news, rfl, by simpa using hown, HP.out, ((Below.refl _ w).alloc (Nat.le_refl _) _).grown hgrow (by simp) (by intro k hk; simp [Value.ownBlock] at hk; omega)⟩

theorem infoS : (Tryz.prog.info? 86).map (fun i => (i.zero, i.size, i.bytes)) = some (some (.agg #[.int .i64 0, .int .i64 0, .int .u64 0, .string ⟨#[]⟩, .slice none 0 0, .slice none 0 0, .slice none 0 0, .slice none 0 0]), 8, 136) := by kernel_rfl
set_option maxHeartbeats 1000000 in
set_option maxRecDepth 100000 in
theorem cloneS (a : Option Addr) (l c : Nat) (P : List Value → Prop) (w : World) (S : Nat → Prop) (hr : Row w S 8 a l c P) (hl : l * 136 ≤ 140737488351232) (hone : ∀ cs, P cs → ∀ u ∈ cs, u.oneCell' = true) :
    Calls Tryz.prog 74 #[.slice a l c] w fun e w' => ∃ v' news, e = .returned v' ∧ w'.ownsRow w.heap.size 86 8 v' l news ∧ Parts 8 l (fun _ => P) news ∧ Below w.heap.size w w' := by
  obtain ⟨i0, hi, hz0, hz1, hz2⟩ := info_parts infoS
  have qn : ∀ (w : World) (a : Option Addr) (n c n' c' : Nat), (binOp .eql 25 (.slice a n c) (.slice none n' c')).run Tryz.prog w = .ok (.bool a.isNone) w := fun w a n c n' c' => Lib.run_eql_slice_nil w _ _ a n c n' c' Tryz.underlying25
  cases a with
  | none =>
    obtain ⟨rfl, rfl⟩ := hr.nil rfl
    clear hr hl
    go_enter Tryz.func74, Tryz.ntmps74
    go_wp2_with fail
    go_ret
    exact ⟨_, [], rfl, World.ownsRow_nil _ _ _ _, ⟨by simp, fun i hi => by omega⟩, Below.refl _ _⟩
  | some ad =>
    obtain ⟨h0, _, h2⟩ := hr.at_ ad rfl
    obtain ⟨news, hp, hc⟩ := parts_of l h2
    have A : Aside (∀ j u, news[j]? = some u → w.cell? (ad.add j) = some u) := hc
    have HP := Lib.hid hp
    have HL := Lib.hid hl
    have HO := Lib.hid hone
    clear hc h0 h2 hr hp hl hone
    go_enter Tryz.func74, Tryz.ntmps74
    go_wp2_with (at_builtin; refine wpList_append_own _ rfl _ _ 25 rfl w.heap.size 86 i0 _ 8 136 Tryz.underlying25 hi hz0 hz1 hz2 rfl (by decide) _ _ _ rfl (World.ownsRow_made w #[] 0 (Nat.le_refl _) (Nat.zero_le _) rfl) ad l c news rfl ?qc1 ?qc2 ?qc3 ?qc4 ?qc5 ?qc6 ?_)
    case qc1 => exact HP.out.1
    case qc2 =>
      intro j u hj
      exact Lib.cell?_alloc_some _ (A.out j u hj)
    case qc3 => exact HP.out.one (by decide) (fun _ cs h => HO.out cs h)
    case qc4 => have := HL.out; unfold maxLen; omega
    case qc5 => have := HL.out; omega
    case qc6 => simp
    intro v' w1 hown hgrow hnil
    go_wp2
    go_ret
    exact ⟨v', news, rfl, by simpa using hown, HP.out, ((Below.refl _ w).alloc (Nat.le_refl _) _).grown hgrow (by simp) (by intro k hk; simp [Value.ownBlock] at hk; omega)⟩

theorem infoR : (Tryz.prog.info? 89).map (fun i => (i.zero, i.size, i.bytes)) = some (some (.agg #[.int .i64 0, .int .i64 0, .int .u64 0, .string ⟨#[]⟩]), 4, 40) := by kernel_rfl
set_option maxHeartbeats 1000000 in
set_option maxRecDepth 100000 in
theorem cloneR (a : Option Addr) (l c : Nat) (P : List Value → Prop) (w : World) (S : Nat → Prop) (hr : Row w S 4 a l c P) (hl : l * 40 ≤ 140737488351232) (hone : ∀ cs, P cs → ∀ u ∈ cs, u.oneCell' = true) :
    Calls Tryz.prog 75 #[.slice a l c] w fun e w' => ∃ v' news, e = .returned v' ∧ w'.ownsRow w.heap.size 89 4 v' l news ∧ Parts 4 l (fun _ => P) news ∧ Below w.heap.size w w' := by
  obtain ⟨i0, hi, hz0, hz1, hz2⟩ := info_parts infoR
  have qn : ∀ (w : World) (a : Option Addr) (n c n' c' : Nat), (binOp .eql 26 (.slice a n c) (.slice none n' c')).run Tryz.prog w = .ok (.bool a.isNone) w := fun w a n c n' c' => Lib.run_eql_slice_nil w _ _ a n c n' c' Tryz.underlying26
  cases a with
  | none =>
    obtain ⟨rfl, rfl⟩ := hr.nil rfl
    clear hr hl
    go_enter Tryz.func75, Tryz.ntmps75
    go_wp2_with fail
    go_ret
    exact ⟨_, [], rfl, World.ownsRow_nil _ _ _ _, ⟨by simp, fun i hi => by omega⟩, Below.refl _ _⟩
  | some ad =>
    obtain ⟨h0, _, h2⟩ := hr.at_ ad rfl
    obtain ⟨news, hp, hc⟩ := parts_of l h2
    have A : Aside (∀ j u, news[j]? = some u → w.cell? (ad.add j) = some u) := hc
    have HP := Lib.hid hp
    have HL := Lib.hid hl
    have HO := Lib.hid hone
    clear hc h0 h2 hr hp hl hone
    go_enter Tryz.func75, Tryz.ntmps75
    go_wp2_with (at_builtin; refine wpList_append_own _ rfl _ _ 26 rfl w.heap.size 89 i0 _ 4 40 Tryz.underlying26 hi hz0 hz1 hz2 rfl (by decide) _ _ _ rfl (World.ownsRow_made w #[] 0 (Nat.le_refl _) (Nat.zero_le _) rfl) ad l c news rfl ?qc1 ?qc2 ?qc3 ?qc4 ?qc5 ?qc6 ?_)
    case qc1 => exact HP.out.1
    case qc2 =>
      intro j u hj
      exact Lib.cell?_alloc_some _ (A.out j u hj)
    case qc3 => exact HP.out.one (by decide) (fun _ cs h => HO.out cs h)
    case qc4 => have := HL.out; unfold maxLen; omega
    case qc5 => have := HL.out; omega
    case qc6 => simp
    intro v' w1 hown hgrow hnil
    go_wp2
    go_ret
    exact ⟨v', news, rfl, by simpa using hown, HP.out, ((Below.refl _ w).alloc (Nat.le_refl _) _).grown hgrow (by simp) (by intro k hk; simp [Value.ownBlock] at hk; omega)⟩
end Go.Proofs.YtgjbpadhdnclnaaGreatDoor.CloA
